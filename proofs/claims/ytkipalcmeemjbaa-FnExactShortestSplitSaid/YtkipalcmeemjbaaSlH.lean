
/-
  THE GREATEST AND THE LEAST LENGTH OF A GAME, both ways.
-/
import Derived.Test.YtkipalcmeemjbaaSlK
import Derived.Test.YtkipalcmeemjbaaSlB
namespace Go.Proofs.Ytkipalcmeemjbaa
open Go.RowKit Go.Deep
set_option linter.unusedVariables false

/-- A rule and one heap that are asked. -/
def hask (r h M : Int) : Bool := srule r && decide (1 ≤ h ∧ h ≤ M)
theorem hask_no1 {r h M : Int} (hr : srule r = false) : hask r h M = false := by unfold hask; rw [hr]; rfl
theorem hask_no2 {r h M : Int} (hh : ¬ (1 ≤ h ∧ h ≤ M)) : hask r h M = false := by unfold hask; rw [decide_eq_false hh, Bool.and_false]
theorem hask_yes {r h M : Int} (hr : srule r = true) (hh : 1 ≤ h ∧ h ≤ M) : hask r h M = true := by unfold hask; rw [hr, decide_eq_true hh]; rfl
theorem hask_of {r h M : Int} (h' : hask r h M = true) : srule r = true ∧ 1 ≤ h ∧ h ≤ M := by unfold hask at h'; simp at h'; exact ⟨h'.1, h'.2⟩

/-- The model's slHeap. -/
theorem slHeap_any (r h M : Int) (w : World) :
    Calls Try.prog 12 #[.int .i64 r, .int .i64 h, .int .i64 M] w fun e w' => e = .returned (.bool (hask r h M)) ∧ w = w' := by
  have HR := hide (fun W => slRule_any r W)
  have HI := hide (fun W => l1In_any h 1 M W)
  cases hr : srule r
  · have HE := hide (hask_no1 (h := h) (M := M) hr)
    rw [hr] at HR
    go_enter Try.func12, Try.ntmps12
    go_wp2_with fail
    refine (HR.out _).mono ?_; rintro e w' ⟨rfl, rfl⟩
    go_wp2_with fail
    go_ret
    exact ⟨by rw [HE.out]; rfl, rfl⟩
  · obtain ⟨b, hb⟩ : ∃ b, b = decide (1 ≤ h ∧ h ≤ M) := ⟨_, rfl⟩
    have HE := hide (show hask r h M = b from by unfold hask; rw [hr, ← hb]; rfl)
    rw [hr] at HR
    rw [← hb] at HI
    clear hb
    go_enter Try.func12, Try.ntmps12
    go_wp2_with fail
    refine (HR.out _).mono ?_; rintro e w' ⟨rfl, rfl⟩
    go_wp2_with fail
    refine (HI.out _).mono ?_; rintro e w' ⟨rfl, rfl⟩
    go_wp2_with fail
    go_ret
    exact ⟨by rw [HE.out]; rfl, rfl⟩

def lenN (L : Bool) (r h : Int) : Int := if hask r h 60 then (lens L r h.toNat).getD h.toNat 0 else 0
theorem lenN_no {L : Bool} {r h : Int} (h' : hask r h 60 = false) : lenN L r h = 0 := by unfold lenN; rw [h']; rfl
theorem lenN_yes {L : Bool} {r : Int} {m : Nat} (h' : hask r (m : Int) 60 = true) : lenN L r (m : Int) = (lens L r m).getD m 0 := by unfold lenN; rw [h', if_pos rfl, Int.toNat_natCast]

set_option maxHeartbeats 1000000 in
theorem chosen_any (L : Bool) (r h : Int) (w : World) :
    Calls Try.prog 14 #[.int .i64 r, .int .i64 h, fnV L] w fun e w' => e = .returned (.tuple #[.int .i64 (lenN L r h), .bool (hask r h 60)]) ∧ Below w.heap.size w w' := by
  have HR := hide (fun W => isSplitRule_any r W)
  have HI := hide (fun W => isSplitHeap_any h W)
  have hfn : ∃ F, fnV L = .func F #[] #[] := by unfold fnV; cases L <;> exact ⟨_, rfl⟩
  cases hr : srule r
  · have ha := hask_no1 (h := h) (M := 60) hr
    rw [lenN_no ha, ha]
    rw [hr] at HR
    obtain ⟨F, hF⟩ := hfn
    rw [hF]
    clear hr ha hF
    go_enter Try.func14, Try.ntmps14
    go_wp2_with fail
    refine (HR.out _).mono ?_; rintro e w' ⟨rfl, rfl⟩
    go_wp2_with fail
    go_ret2
    exact ⟨rfl, (Below.refl _ _).alloc (Nat.le_refl _) _⟩
  · by_cases hh : 1 ≤ h ∧ h ≤ 60
    · have ha := hask_yes (M := 60) hr hh
      rw [hr] at HR
      rw [show sheap h = true from decide_eq_true hh] at HI
      obtain ⟨m, rfl⟩ := Int.eq_ofNat_of_zero_le (show 0 ≤ h by omega)
      have HT := hide (fun bx W (hX : One W bx 29 (fnV L)) => toldL_any L bx r m (by omega) (by omega) hr W hX)
      have HL := hide (lens_length L r m)
      rw [lenN_yes ha, ha]
      clear ha hr
      generalize lens L r m = t at *
      obtain ⟨v, hv⟩ : ∃ v, v = t.getD m 0 := ⟨_, rfl⟩
      rw [← hv]
      have HVv := hide hv
      have hm : (m : Int) < ((m + 1 : Nat) : Int) := by omega
      obtain ⟨F, hF⟩ := hfn
      rw [hF] at HT ⊢
      clear hF hv
      have hX := One.made w 29 (.func F #[] #[])
      have hb0 : Below w.heap.size w (w.alloc (.cells #[.func F #[] #[]] 29)) := (Below.refl _ _).alloc (Nat.le_refl _) _
      go_enter Try.func14, Try.ntmps14
      go_wp2_with fail
      generalize (w.alloc (.cells #[.func F #[] #[]] 29)) = W1 at *
      refine (HR.out _).mono ?_; rintro e w' ⟨rfl, rfl⟩
      go_wp2_with fail
      refine (HI.out _).mono ?_; rintro e w' ⟨rfl, rfl⟩
      go_wp2_with fail
      refine (HT.out _ _ hX).mono ?_; rintro e w2 ⟨A2, c2, rfl, h1, h2, hown, hb2⟩
      have hx := hown.ints
      rw [HL.out] at hx ⊢
      obtain ⟨ad, rfl, _, hcell⟩ := hx.at_ (k := m) (by omega)
      rw [← HVv.out] at hcell
      clear hown
      go_wp2_with fail
      go_ret2
      exact ⟨rfl, below_next hb0 hb2⟩
    · have ha := hask_no2 (r := r) (M := 60) hh
      rw [lenN_no ha, ha]
      rw [hr] at HR
      rw [show sheap h = false from decide_eq_false hh] at HI
      obtain ⟨F, hF⟩ := hfn
      rw [hF]
      clear hr ha hF
      go_enter Try.func14, Try.ntmps14
      go_wp2_with fail
      refine (HR.out _).mono ?_; rintro e w' ⟨rfl, rfl⟩
      go_wp2_with fail
      refine (HI.out _).mono ?_; rintro e w' ⟨rfl, rfl⟩
      go_wp2_with fail
      go_ret2
      exact ⟨rfl, (Below.refl _ _).alloc (Nat.le_refl _) _⟩

theorem specLongestSplit_any (r h : Int) (w : World) :
    Calls Try.prog 6 #[.int .i64 r, .int .i64 h] w fun e w' => e = .returned (.tuple #[.int .i64 (lenN true r h), .bool (hask r h 60)]) ∧ Below w.heap.size w w' := by
  have HH := hide (fun W => slHeap_any r h 60 W)
  cases ha : hask r h 60
  · rw [lenN_no ha]
    rw [ha] at HH
    clear ha
    go_enter Try.func6, Try.ntmps6
    go_wp2_with fail
    refine (HH.out _).mono ?_; rintro e w' ⟨rfl, rfl⟩
    go_wp2_with fail
    go_ret2
    exact ⟨rfl, Below.refl _ _⟩
  · have hh := hask_of ha
    rw [ha] at HH
    obtain ⟨m, rfl⟩ := Int.eq_ofNat_of_zero_le (show 0 ≤ h by omega)
    have HV := hide (fun W => slLong_any true r m (by omega) hh.1 W)
    have HL := hide (lens_length true r m)
    rw [lenN_yes ha]
    clear ha hh
    generalize lens true r m = t at *
    obtain ⟨v, hv⟩ : ∃ v, v = t.getD m 0 := ⟨_, rfl⟩
    rw [← hv]
    have HVv := hide hv
    have hm : (m : Int) < ((m + 1 : Nat) : Int) := by omega
    clear hv
    go_enter Try.func6, Try.ntmps6
    go_wp2_with fail
    refine (HH.out _).mono ?_; rintro e w' ⟨rfl, rfl⟩
    go_wp2_with fail
    refine (HV.out _).mono ?_; rintro e w1 ⟨A1, c1, rfl, h1, h2, hown, hb⟩
    have hx := hown.ints
    rw [HL.out] at hx ⊢
    obtain ⟨ad, rfl, _, hcell⟩ := hx.at_ (k := m) (by omega)
    rw [← HVv.out] at hcell
    clear hown
    go_wp2_with fail
    go_ret2
    exact ⟨rfl, hb⟩
theorem LongestSplit_any (r h : Int) (w : World) :
    Calls Try.prog 7 #[.int .i64 r, .int .i64 h] w fun e w' => e = .returned (.tuple #[.int .i64 (lenN true r h), .bool (hask r h 60)]) ∧ Below w.heap.size w w' := by
  have HC := hide (fun W => chosen_any true r h W)
  rw [show fnV true = .func (.func 15) #[] #[] from rfl] at HC
  generalize lenN true r h = v at *
  generalize hask r h 60 = o at *
  go_enter Try.func7, Try.ntmps7
  go_wp2_with fail
  refine (HC.out _).mono ?_; rintro e w1 ⟨rfl, hb⟩
  go_wp2_with fail
  go_ret2
  exact ⟨rfl, hb⟩

theorem specShortestSplit_any (r h : Int) (w : World) :
    Calls Try.prog 8 #[.int .i64 r, .int .i64 h] w fun e w' => e = .returned (.tuple #[.int .i64 (lenN false r h), .bool (hask r h 60)]) ∧ Below w.heap.size w w' := by
  have HH := hide (fun W => slHeap_any r h 60 W)
  cases ha : hask r h 60
  · rw [lenN_no ha]
    rw [ha] at HH
    clear ha
    go_enter Try.func8, Try.ntmps8
    go_wp2_with fail
    refine (HH.out _).mono ?_; rintro e w' ⟨rfl, rfl⟩
    go_wp2_with fail
    go_ret2
    exact ⟨rfl, Below.refl _ _⟩
  · have hh := hask_of ha
    rw [ha] at HH
    obtain ⟨m, rfl⟩ := Int.eq_ofNat_of_zero_le (show 0 ≤ h by omega)
    have HV := hide (fun W => slLong_any false r m (by omega) hh.1 W)
    have HL := hide (lens_length false r m)
    rw [lenN_yes ha]
    clear ha hh
    generalize lens false r m = t at *
    obtain ⟨v, hv⟩ : ∃ v, v = t.getD m 0 := ⟨_, rfl⟩
    rw [← hv]
    have HVv := hide hv
    have hm : (m : Int) < ((m + 1 : Nat) : Int) := by omega
    clear hv
    go_enter Try.func8, Try.ntmps8
    go_wp2_with fail
    refine (HH.out _).mono ?_; rintro e w' ⟨rfl, rfl⟩
    go_wp2_with fail
    refine (HV.out _).mono ?_; rintro e w1 ⟨A1, c1, rfl, h1, h2, hown, hb⟩
    have hx := hown.ints
    rw [HL.out] at hx ⊢
    obtain ⟨ad, rfl, _, hcell⟩ := hx.at_ (k := m) (by omega)
    rw [← HVv.out] at hcell
    clear hown
    go_wp2_with fail
    go_ret2
    exact ⟨rfl, hb⟩
theorem ShortestSplit_any (r h : Int) (w : World) :
    Calls Try.prog 9 #[.int .i64 r, .int .i64 h] w fun e w' => e = .returned (.tuple #[.int .i64 (lenN false r h), .bool (hask r h 60)]) ∧ Below w.heap.size w w' := by
  have HC := hide (fun W => chosen_any false r h W)
  rw [show fnV false = .func (.func 16) #[] #[] from rfl] at HC
  generalize lenN false r h = v at *
  generalize hask r h 60 = o at *
  go_enter Try.func9, Try.ntmps9
  go_wp2_with fail
  refine (HC.out _).mono ?_; rintro e w1 ⟨rfl, hb⟩
  go_wp2_with fail
  go_ret2
  exact ⟨rfl, hb⟩
end Go.Proofs.Ytkipalcmeemjbaa
