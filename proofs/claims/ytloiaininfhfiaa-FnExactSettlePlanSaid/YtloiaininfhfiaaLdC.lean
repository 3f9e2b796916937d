
/-
  LOADS, ENDS, IDLE TIMES AND BOUNDS, BOTH WAYS: LoadsOf, EndOfPlan, IdleOfPlan, EndBound.
-/
import Derived.Test.YtloiaininfhfiaaLdB
import Derived.Test.YtloiaininfhfiaaSpread
import Derived.Test.YtloiaininfhfiaaSums
namespace Go.Proofs.Ytloiaininfhfiaa
open Go.RowKit Go.Deep

theorem up_two (a b : Int) (l : List Int) : up (max a b) l = max a (up b l) := by
  induction l generalizing b with
  | nil => rfl
  | cons x xs ih =>
    show up (max (max a b) x) xs = max a (up (max b x) xs)
    rw [show max (max a b) x = max a (max b x) by omega]
    exact ih _
theorem up_first (b : Int) {l : List Int} (h : 0 < l.length) : up b l = max b (up (l.getD 0 0) l) := by
  cases l with
  | nil => simp at h
  | cons x xs =>
    show up (max b x) xs = max b (up (max x x) xs)
    rw [up_two, show max x x = x by omega]
theorem up_low {l : List Int} (h : 0 < l.length) {lo hi : Int} (hw : within lo hi l = true) (hl : 0 ≤ lo) : up (l.getD 0 0) l = up 0 l := by
  rw [up_first 0 h]
  have h0 := within_get hw 0 h
  have := up_bd hw (l.getD 0 0) (by rw [getD_at h]; exact h0)
  omega

/-- The end of a plan; 0 where there is none. -/
def endZ (zs ps : List Int) (m : Nat) : Int := up 0 (loadsA zs ps m)
def endN (zs : List Int) (m : Int) (ps : List Int) : Int := if jboth zs m ps then endZ zs ps m.toNat else 0
theorem endN_yes {zs ps : List Int} {m : Int} (h : jboth zs m ps = true) : endN zs m ps = endZ zs ps m.toNat := by simp [endN, h]
theorem endN_no {zs ps : List Int} {m : Int} (h : jboth zs m ps = false) : endN zs m ps = 0 := by simp [endN, h]
theorem endZ_bd {zs ps : List Int} {m : Int} (h : jboth zs m ps = true) (k : Nat) : 0 ≤ endZ zs ps k ∧ endZ zs ps k ≤ 9000 := up_bd (loadsA_bd h k) 0 (by omega)
/-- How long machines have nothing to do. -/
def idleN (zs : List Int) (m : Int) (ps : List Int) : Int := if jboth zs m ps then m * endZ zs ps m.toNat - tot zs else 0
theorem idleN_yes {zs ps : List Int} {m : Int} (h : jboth zs m ps = true) : idleN zs m ps = m * endZ zs ps m.toNat - tot zs := by simp [idleN, h]
theorem idleN_no {zs ps : List Int} {m : Int} (h : jboth zs m ps = false) : idleN zs m ps = 0 := by simp [idleN, h]
/-- The bound. -/
def boundN (zs : List Int) (m : Int) : Int := if jask zs m then up ((tot zs + m - 1) / m) zs else 0
theorem boundN_yes {zs : List Int} {m : Int} (h : jask zs m = true) : boundN zs m = up ((tot zs + m - 1) / m) zs := by simp [boundN, h]
theorem boundN_no {zs : List Int} {m : Int} (h : jask zs m = false) : boundN zs m = 0 := by simp [boundN, h]

/-- The program's LoadsOf. -/
theorem LoadsOf_any (A : Option Addr) (n c : Nat) (zs : List Int) (m : Int) (A' : Option Addr) (n' c' : Nat) (ps : List Int) (w : World) (hr : Ints w w.heap.size A n zs) (hs : Ints w w.heap.size A' n' ps)
    (hn : n ≤ 17592186044416) (hn' : n' ≤ 17592186044416) :
    Calls Try.prog 30 #[.slice A n c, .int .i64 m, .slice A' n' c'] w (MadeR (loadsR zs m ps) (jboth zs m ps) w) := by
  cases hg : jboth zs m ps
  · have H1 := hide (loadsR_no hg)
    go_enter Try.func30, Try.ntmps30
    go_wp2_with fail
    refine (IsLoadPlan_any _ _ _ _ _ _ _ _ _ _ _ _ hr hs hn hn').mono ?_; rintro e w' ⟨rfl, rfl⟩; rw [hg]
    go_wp2_with fail
    go_ret2
    rw [H1.out]
    exact madeR_none (Below.refl _ _)
  · have H1 := hide (loadsR_yes hg)
    have hg' := hg
    obtain ⟨hm1, hm2⟩ := jboth_m hg
    obtain ⟨M, rfl⟩ := Int.eq_ofNat_of_zero_le (show 0 ≤ m by omega)
    have HC := hide (loadsOf_any A n c w.heap.size zs M A' n' c' w.heap.size ps w hr hs (Nat.le_refl _) (Nat.le_refl _) hg')
    clear hg'
    go_enter Try.func30, Try.ntmps30
    go_wp2_with fail
    refine (IsLoadPlan_any _ _ _ _ _ _ _ _ _ _ _ _ hr hs hn hn').mono ?_; rintro e w' ⟨rfl, rfl⟩; rw [hg]
    go_wp2_with fail
    refine HC.out.mono ?_
    rintro e w1 ⟨g, c1, rfl, _, _, hc1, hc2, hown, hb1⟩
    go_wp2_with fail
    go_ret2
    rw [H1.out]
    exact ⟨some ⟨g, 0, none⟩, c1, rfl, hc1, hc2, hown, hb1⟩

/-- The model's ldEnd. -/
theorem ldEnd_any (A : Option Addr) (n c B : Nat) (zs : List Int) (m : Nat) (A' : Option Addr) (n' c' B' : Nat) (ps : List Int) (w : World) (hr : Ints w B A n zs) (hs : Ints w B' A' n' ps)
    (hB : B ≤ w.heap.size) (hB' : B' ≤ w.heap.size) (hb : jboth zs m ps = true) :
    Calls Try.prog 29 #[.slice A n c, .int .i64 (m : Int), .slice A' n' c'] w fun e w' => e = .returned (.int .i64 (endZ zs ps m)) ∧ Below w.heap.size w w' := by
  have HC := hide (ldLoads_any A n c B zs m A' n' c' B' ps w hr hs hB hB' hb)
  have HE := hide (show endZ zs ps m = up 0 (loadsA zs ps m) from rfl)
  have HN := hide (loadsA_length zs ps m)
  have hm := jboth_m hb
  generalize loadsA zs ps m = fs at *
  clear hb
  go_enter Try.func29, Try.ntmps29
  go_wp2_with fail
  refine HC.out.mono ?_
  rintro e w1 ⟨g, c1, rfl, hg1, hg2, hc1, hc2, hown, hb1⟩
  have hI := hown.ints
  have hfl : fs.length ≤ 4 := by have := HN.out; omega
  clear hown hc1 hc2
  go_wp2_with fail
  go_loop [7, 15] (fun s i => ∃ k : Nat, k ≤ fs.length ∧ i = .int .i64 k ∧ s = .int .i64 (up 0 (fs.take k)))
    (fun _ i => fs.length - (intOf i).toNat)
  case atStart => exact ⟨0, Nat.zero_le _, rfl, rfl⟩
  case round =>
    obtain ⟨k, hk, rfl, rfl⟩ := hrel
    by_cases hlt : k < fs.length
    · have Hs := hide (up_take_succ 0 fs k hlt)
      obtain ⟨ad, had, _, hcell⟩ := hI.at_ hlt
      obtain rfl : (⟨g, 0, none⟩ : Addr) = ad := by injection had
      clear had
      rw [getD_at hlt, add_head] at hcell
      go_wp2_with fail
      refine (l1Most_any _ _ _).mono ?_; rintro e w' ⟨rfl, rfl⟩
      go_wp2_with fail
      go_round
      case rel => exact ⟨k + 1, by omega, by go_num, by rw [Hs.out]⟩
      case measure => simp [intOf]; omega
    · rw [List.take_of_length_le (by omega)]
      go_wp2_with fail
      go_ret
      exact ⟨by rw [HE.out]; rfl, hb1⟩

/-- The program's EndOfPlan. -/
theorem EndOfPlan_any (A : Option Addr) (n c : Nat) (zs : List Int) (m : Int) (A' : Option Addr) (n' c' : Nat) (ps : List Int) (w : World) (hr : Ints w w.heap.size A n zs) (hs : Ints w w.heap.size A' n' ps)
    (hn : n ≤ 17592186044416) (hn' : n' ≤ 17592186044416) :
    Calls Try.prog 18 #[.slice A n c, .int .i64 m, .slice A' n' c'] w fun e w' => e = .returned (.tuple #[.int .i64 (endN zs m ps), .bool (jboth zs m ps)]) ∧ Below w.heap.size w w' := by
  have HC := hide (LoadsOf_any A n c zs m A' n' c' ps w hr hs hn hn')
  cases hg : jboth zs m ps
  · have H1 := hide (endN_no hg)
    rw [hg] at HC
    go_enter Try.func18, Try.ntmps18
    go_wp2_with fail
    refine HC.out.mono ?_; rintro e w1 ⟨A1, c1, rfl, _, _, _, hb1⟩
    go_wp2_with fail
    go_ret2
    exact ⟨by rw [H1.out]; rfl, hb1⟩
  · have H1 := hide (endN_yes hg)
    rw [hg] at HC
    have hL := loadsA_length zs ps m.toNat
    have hm := jboth_m hg
    have HU := hide (up_low (l := loadsA zs ps m.toNat) (by omega) (loadsA_bd hg _) (by omega))
    have HE := hide (show endZ zs ps m.toNat = up 0 (loadsA zs ps m.toNat) from rfl)
    rw [loadsR_yes hg] at HC
    generalize loadsA zs ps m.toNat = fs at *
    have hf0 : 0 < fs.length := by omega
    have hf1 : fs.length ≤ 17592186044416 := by omega
    have HM := hide (fun A1 c1 w1 (h : Ints w1 w1.heap.size A1 fs.length fs) => Max_any A1 fs.length c1 w1.heap.size fs w1 h hf1 hf0)
    generalize up (fs.getD 0 0) fs = x at *
    clear hL
    go_enter Try.func18, Try.ntmps18
    go_wp2_with fail
    refine HC.out.mono ?_; rintro e w1 ⟨A1, c1, rfl, _, _, hown, hb1⟩
    go_wp2_with fail
    refine (HM.out _ _ _ hown.ints).mono ?_; rintro e w' ⟨rfl, rfl⟩
    go_wp2_with fail
    go_ret2
    exact ⟨by rw [H1.out, HE.out, ← HU.out]; rfl, hb1⟩

theorem bound_fits {zs : List Int} {m : Int} (h : jask zs m = true) : 0 ≤ (tot zs + m - 1) / m ∧ (tot zs + m - 1) / m ≤ 9003 := by
  obtain ⟨h1, h2, h3⟩ := jask_of h
  have ht := jgood_tot h1
  exact ⟨Int.ediv_nonneg (by omega) (by omega), Int.le_trans (Int.ediv_le_self _ (by omega)) (by omega)⟩

theorem IsLoadPlan_b (A : Option Addr) (n c : Nat) (zs : List Int) (m : Int) (A' : Option Addr) (n' c' : Nat) (ps : List Int) (w : World) (hr : Ints w w.heap.size A n zs) (hs : Ints w w.heap.size A' n' ps)
    (hn : n ≤ 17592186044416) (hn' : n' ≤ 17592186044416) :
    Calls Try.prog 25 #[.slice A n c, .int .i64 m, .slice A' n' c'] w fun e w' => e = .returned (.tuple #[.bool (jboth zs m ps), .bool (jask zs m)]) ∧ Below w.heap.size w w' :=
  to_below (IsLoadPlan_any A n c _ zs m A' n' c' _ ps w hr hs hn hn')
theorem AreJobs_b (A : Option Addr) (n c : Nat) (zs : List Int) (w : World) (hr : Ints w w.heap.size A n zs) (hn : n ≤ 17592186044416) :
    Calls Try.prog 38 #[.slice A n c] w fun e w' => e = .returned (.bool (jgood zs)) ∧ Below w.heap.size w w' := to_below (AreJobs_any A n c _ zs w hr hn)
end Go.Proofs.Ytloiaininfhfiaa
