
/-
  BEST PLANS, THE MODEL's WAY: ldBest, LeastEnd, FirstBestPlan, CountBestPlans.
-/
import Derived.Test.YtfikkgnpednjfaaLk
import Derived.Test.YtfikkgnpednjfaaMark
namespace Go.Proofs.Ytfikkgnpednjfaa
open Go.RowKit Go.Deep
set_option linter.unusedVariables false

theorem look_plen (zs : List Int) (M : Nat) : ∀ (d : Nat) (p l : List Int) (S : Bst), p.length + d = zs.length → S.p.length ≤ zs.length → (lookF zs M d p l S).p.length ≤ zs.length
  | 0, p, l, S, hp, hs => by
    show (upd S p (up 0 l)).p.length ≤ _
    unfold upd
    split
    · show p.length ≤ _; omega
    · split <;> exact hs
  | d + 1, p, l, S, hp, hs => by
    have key : ∀ j, (lookP zs M d p l S j).p.length ≤ zs.length := by
      intro j
      induction j with
      | zero => exact hs
      | succ j ih =>
        rw [lookP_succ]
        exact look_plen zs M d _ _ _ (by rw [List.length_append]; simp; omega) ih
    rw [lookP_all]; exact key M
/-- The best plans. -/
def bestR (zs : List Int) (M : Nat) : Bst := lookF zs M zs.length [] (List.replicate M 0) ⟨tot zs + 1, [], 0⟩
theorem bestR_plen (zs : List Int) (M : Nat) : (bestR zs M).p.length ≤ zs.length := look_plen zs M zs.length [] _ _ (by simp) (by simp)
def leN (zs : List Int) (m : Int) : Int := if jask zs m then (bestR zs m.toNat).e else 0
def fbR (zs : List Int) (m : Int) : List Int := if jask zs m then (bestR zs m.toNat).p else []
def cbN (zs : List Int) (m : Int) : Int := if jask zs m then ((bestR zs m.toNat).c : Int) else 0
theorem best_yes {zs : List Int} {m : Int} (h : jask zs m = true) : leN zs m = (bestR zs m.toNat).e ∧ fbR zs m = (bestR zs m.toNat).p ∧ cbN zs m = ((bestR zs m.toNat).c : Int) := by simp [leN, fbR, cbN, h]
theorem best_no {zs : List Int} {m : Int} (h : jask zs m = false) : leN zs m = 0 ∧ fbR zs m = [] ∧ cbN zs m = 0 := by simp [leN, fbR, cbN, h]
theorem fbR_short (zs : List Int) (m : Int) (h : zs.length ≤ 1048576) : (fbR zs m).length ≤ 1048576 := by
  unfold fbR; split
  · have := bestR_plen zs m.toNat; omega
  · simp
/-- A list that is read. -/
def Seen (w : World) (A : Option Addr) (zs : List Int) : Prop := Ints w w.heap.size A zs.length zs
theorem Seen.ints {w : World} {A : Option Addr} {zs : List Int} (h : Seen w A zs) : Ints w w.heap.size A zs.length zs := h
def MadeS (zs : List Int) (b : Bool) (w : World) (e : Ending) (w' : World) : Prop :=
  ∃ A c, e = .returned (.tuple #[.slice A zs.length c, .bool b]) ∧ zs.length ≤ c ∧ c ≤ maxLen ∧ Seen w' A zs ∧ Below w.heap.size w w'

set_option maxRecDepth 100000 in
set_option maxHeartbeats 1000000 in
/-- The model's ldBest. -/
theorem ldBest_any (A : Option Addr) (n c : Nat) (zs : List Int) (M : Nat) (w : World) (hr : Ints w w.heap.size A n zs) (hj : jgood zs = true) (hM1 : 1 ≤ M) (hM4 : M ≤ 4) :
    Calls Try.prog 17 #[.slice A n c, .int .i64 (M : Int)] w fun e w' =>
      ∃ A' c', e = .returned (.tuple #[.slice A' (bestR zs M).p.length c', .int .i64 (bestR zs M).e, .int .i64 ((bestR zs M).c : Int)]) ∧ (bestR zs M).p.length ≤ c' ∧ c' ≤ maxLen ∧ Seen w' A' (bestR zs M).p ∧ Below w.heap.size w w' := by
  obtain rfl := hr.len
  obtain ⟨hl1, hl9, hwz⟩ := jgood_of hj
  have ht := jgood_tot hj
  have hz : within 0 1000 zs = true := within_wide hwz (by omega) (by omega)
  have HS := hide (hpSum_any A zs.length c w.heap.size zs w hr (by omega) (jgood_small hj))
  have hmk := run_make_row' (P := Try.prog) 22 3 (.int .i64 0) 8 Try.underlying22 infoInt rfl .i64 .i64 M (by omega) (by omega)
  -- what lies where
  have o1 := One.made w 3 (.int .i64 (tot zs + 1))
  have b1 : Below w.heap.size w (w.alloc (.cells #[.int .i64 (tot zs + 1)] 3)) := (Below.refl _ _).alloc (Nat.le_refl _) _
  have z1 : (w.alloc (.cells #[.int .i64 (tot zs + 1)] 3)).heap.size = w.heap.size + 1 := by simp
  generalize hW1 : w.alloc (.cells #[.int .i64 (tot zs + 1)] 3) = W1 at *
  have o2 := One.made W1 3 (.int .i64 0)
  have b2 := b1.alloc (by omega) (.cells #[.int .i64 0] 3)
  have o1 := o1.new (.cells #[.int .i64 0] 3)
  have z2 : (W1.alloc (.cells #[.int .i64 0] 3)).heap.size = w.heap.size + 1 + 1 := by simp [z1]
  generalize hW2 : W1.alloc (.cells #[.int .i64 0] 3) = W2 at *
  have o3 := One.made W2 22 (.slice none 0 0)
  have b3 := b2.alloc (by omega) (.cells #[.slice none 0 0] 22)
  have o1 := o1.new (.cells #[.slice none 0 0] 22)
  have o2 := o2.new (.cells #[.slice none 0 0] 22)
  have z3 : (W2.alloc (.cells #[.slice none 0 0] 22)).heap.size = w.heap.size + 1 + 1 + 1 := by simp [z2]
  generalize hW3 : W2.alloc (.cells #[.slice none 0 0] 22) = W3 at *
  have r4 := Row.zeros W3 M 3
  have b4 := b3.alloc (by omega) (.cells (madeCells #[.int .i64 0] M) 3)
  have o1 := o1.new (.cells (madeCells #[.int .i64 0] M) 3)
  have o2 := o2.new (.cells (madeCells #[.int .i64 0] M) 3)
  have o3 := o3.new (.cells (madeCells #[.int .i64 0] M) 3)
  rw [z1] at o2
  rw [z2] at o3
  rw [z3] at r4
  generalize hW4 : W3.alloc (.cells (madeCells #[.int .i64 0] M) 3) = W4 at *
  have hLI := r4.ints r4.lt
  rw [List.length_replicate] at hLI
  have hrn : Away w.heap.size (w.heap.size + 1 + 1) (w.heap.size + 1) A := by
    intro ad e
    obtain ⟨ad', e', hlt, _⟩ := hr.at_ (show 0 < zs.length by omega)
    rw [e] at e'
    injection e' with e'
    subst e'
    omega
  have hbest : Best W4 w.heap.size (w.heap.size + 1 + 1) (w.heap.size + 1) ⟨tot zs + 1, [], 0⟩ := ⟨o1, o2, none, 0, o3, Ints.none_, away_none _ _ _, Nat.le_refl _, Nat.zero_le _⟩
  have hpw : 4 ^ zs.length ≤ 4 ^ 9 := Nat.pow_le_pow_right (by omega) hl9
  have HK := hide (ldLook_any A zs.length c w.heap.size w.heap.size (w.heap.size + 1 + 1) (w.heap.size + 1) zs M hz ht.2 hl9 hM1 hM4 (Nat.le_refl _) (by omega) (by omega) (by omega) (by omega) (by omega) hrn
    zs.length [] (List.replicate M 0) ⟨tot zs + 1, [], 0⟩ none (some ⟨w.heap.size + 1 + 1 + 1, 0, none⟩) 0 M W4 (At.start zs M) hbest (hr.next b4) Ints.none_ hLI (away_none _ _ _) (away_new ⟨by omega, by omega, by omega⟩) (fun _ => ⟨rfl, rfl⟩) (Nat.le_refl _) (Nat.zero_le _) (.inl ⟨rfl, rfl⟩) (by simpa using Nat.le_trans hpw (by decide)))
  have HR := hide (show lookF zs M zs.length [] (List.replicate M 0) ⟨tot zs + 1, [], 0⟩ = bestR zs M from rfl)
  rw [HR.out] at HK
  have HB4 := hide b4
  have HZ1 := hide z1
  have HZ2 := hide z2
  have HZ3 := hide z3
  clear o1 o2 o3 b1 b2 b3 b4 z1 z2 z3 r4 hLI hbest hpw hrn hr HR
  subst hW1 hW2 hW3 hW4
  generalize bestR zs M = R at *
  generalize tot zs = t at *
  rw [show ([] : List Int).length = 0 from rfl] at HK
  clear hj hwz hz
  go_enter Try.func17, Try.ntmps17
  go_wp2_with fail
  refine HS.out.mono ?_; rintro e w' ⟨rfl, rfl⟩
  go_wp2_with fail
  refine HK.out.mono ?_
  rintro e w5 ⟨rfl, hb5, hk5⟩
  obtain ⟨Ab, cb, hob, hib, hab, hc1, hc2⟩ := hb5.ob
  have d1 := hb5.oe.cell
  have d2 := hb5.oc.cell
  have d3 := hob.cell
  have HIB := hide hib
  have HBF := hide (HB4.out.trans hk5.bl)
  clear hb5 hk5 hob hib hab
  go_wp2_with fail
  go_quiet (fail)
  go_wp2_with fail
  go_ret3
  exact ⟨Ab, cb, rfl, hc1, hc2, HIB.out, below_drewN HBF.out _⟩

/-- The model's LeastEnd. -/
theorem specLeastEnd_any (A : Option Addr) (n c : Nat) (zs : List Int) (m : Int) (w : World) (hr : Ints w w.heap.size A n zs) (hn : n ≤ 17592186044416) :
    Calls Try.prog 6 #[.slice A n c, .int .i64 m] w fun e w' => e = .returned (.tuple #[.int .i64 (leN zs m), .bool (jask zs m)]) ∧ Below w.heap.size w w' := by
  cases hg : jask zs m
  · have H1 := hide (best_no hg)
    go_enter Try.func6, Try.ntmps6
    go_wp2_with fail
    refine (ldAsked_any _ _ _ _ _ _ _ hr hn).mono ?_; rintro e w' ⟨rfl, rfl⟩; rw [hg]
    go_wp2_with fail
    go_ret2
    exact ⟨by rw [H1.out.1]; rfl, Below.refl _ _⟩
  · obtain ⟨hj, hm1, hm2⟩ := jask_of hg
    obtain ⟨M, rfl⟩ := Int.eq_ofNat_of_zero_le (show 0 ≤ m by omega)
    have H1 := hide (best_yes hg)
    rw [show ((M : Int).toNat) = M from rfl] at H1
    have HK := hide (ldBest_any A n c zs M w hr hj (by omega) (by omega))
    go_enter Try.func6, Try.ntmps6
    go_wp2_with fail
    refine (ldAsked_any _ _ _ _ _ _ _ hr hn).mono ?_; rintro e w' ⟨rfl, rfl⟩; rw [hg]
    go_wp2_with fail
    refine HK.out.mono ?_
    rintro e w1 ⟨A1, c1, rfl, h1, h2, h3, hb⟩
    go_wp2_with fail
    go_ret2
    exact ⟨by rw [H1.out.1]; rfl, hb⟩

/-- The model's CountBestPlans. -/
theorem specCountBestPlans_any (A : Option Addr) (n c : Nat) (zs : List Int) (m : Int) (w : World) (hr : Ints w w.heap.size A n zs) (hn : n ≤ 17592186044416) :
    Calls Try.prog 14 #[.slice A n c, .int .i64 m] w fun e w' => e = .returned (.tuple #[.int .i64 (cbN zs m), .bool (jask zs m)]) ∧ Below w.heap.size w w' := by
  cases hg : jask zs m
  · have H1 := hide (best_no hg)
    go_enter Try.func14, Try.ntmps14
    go_wp2_with fail
    refine (ldAsked_any _ _ _ _ _ _ _ hr hn).mono ?_; rintro e w' ⟨rfl, rfl⟩; rw [hg]
    go_wp2_with fail
    go_ret2
    exact ⟨by rw [H1.out.2.2]; rfl, Below.refl _ _⟩
  · obtain ⟨hj, hm1, hm2⟩ := jask_of hg
    obtain ⟨M, rfl⟩ := Int.eq_ofNat_of_zero_le (show 0 ≤ m by omega)
    have H1 := hide (best_yes hg)
    rw [show ((M : Int).toNat) = M from rfl] at H1
    have HK := hide (ldBest_any A n c zs M w hr hj (by omega) (by omega))
    go_enter Try.func14, Try.ntmps14
    go_wp2_with fail
    refine (ldAsked_any _ _ _ _ _ _ _ hr hn).mono ?_; rintro e w' ⟨rfl, rfl⟩; rw [hg]
    go_wp2_with fail
    refine HK.out.mono ?_
    rintro e w1 ⟨A1, c1, rfl, h1, h2, h3, hb⟩
    go_wp2_with fail
    go_ret2
    exact ⟨by rw [H1.out.2.2]; rfl, hb⟩

/-- The model's FirstBestPlan. -/
theorem specFirstBestPlan_any (A : Option Addr) (n c : Nat) (zs : List Int) (m : Int) (w : World) (hr : Ints w w.heap.size A n zs) (hn : n ≤ 17592186044416) :
    Calls Try.prog 10 #[.slice A n c, .int .i64 m] w (MadeS (fbR zs m) (jask zs m) w) := by
  cases hg : jask zs m
  · have H1 := hide (best_no hg)
    go_enter Try.func10, Try.ntmps10
    go_wp2_with fail
    refine (ldAsked_any _ _ _ _ _ _ _ hr hn).mono ?_; rintro e w' ⟨rfl, rfl⟩; rw [hg]
    go_wp2_with fail
    go_ret2
    rw [H1.out.2.1]
    exact ⟨none, 0, rfl, Nat.le_refl _, Nat.zero_le _, Ints.none_, Below.refl _ _⟩
  · obtain ⟨hj, hm1, hm2⟩ := jask_of hg
    obtain ⟨M, rfl⟩ := Int.eq_ofNat_of_zero_le (show 0 ≤ m by omega)
    have H1 := hide (best_yes hg)
    rw [show ((M : Int).toNat) = M from rfl] at H1
    have HK := hide (ldBest_any A n c zs M w hr hj (by omega) (by omega))
    go_enter Try.func10, Try.ntmps10
    go_wp2_with fail
    refine (ldAsked_any _ _ _ _ _ _ _ hr hn).mono ?_; rintro e w' ⟨rfl, rfl⟩; rw [hg]
    go_wp2_with fail
    refine HK.out.mono ?_
    rintro e w1 ⟨A1, c1, rfl, h1, h2, h3, hb⟩
    go_wp2_with fail
    go_ret2
    rw [H1.out.2.1]
    exact ⟨A1, c1, rfl, h1, h2, h3, hb⟩
end Go.Proofs.Ytfikkgnpednjfaa
