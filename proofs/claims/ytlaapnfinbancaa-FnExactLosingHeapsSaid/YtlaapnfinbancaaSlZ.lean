
/-
  VALUES, BOTH WAYS: ValueOfHeaps, DoesFirstWin, ValueOfSplit, LosingHeaps.
-/
import Derived.Test.YtlaapnfinbancaaSlY
namespace Go.Proofs.Ytlaapnfinbancaa
open Go.RowKit Go.Deep
set_option linter.unusedVariables false

theorem xfold_one (t : List Int) (h : Int) : xfold t [h] = xr 0 (t.getD h.toNat 0) := rfl
theorem xfold_single {r : Int} {m M : Nat} (h : m ≤ M) (h6 : m ≤ 60) : xfold (vals r M) [(m : Int)] = (vals r m).getD m 0 := by
  have hb := vals_bd r m m h6
  rw [xfold_one, Int.toNat_natCast, vals_get (Nat.le_refl m) h]
  generalize (vals r m).getD m 0 = v at *
  have := xr_zero ⟨v.toNat, by omega⟩
  simpa [show ((v.toNat : Nat) : Int) = v from by omega, Int.max_eq_left hb.1] using this
theorem vN_no {r : Int} {zs : List Int} (h : sask r zs = false) : vN r zs = 0 := by unfold vN; rw [h]; rfl
theorem vN_yes {r : Int} {zs : List Int} (h : sask r zs = true) : vN r zs = xfold (vals r 60) zs := by unfold vN; rw [h]; rfl

theorem specValueOfHeaps_any (r : Int) (A : Option Addr) (n c : Nat) (zs : List Int) (w : World) (hr : Ints w w.heap.size A n zs) (hn : n ≤ 17592186044416) :
    Calls Try.prog 9 #[.int .i64 r, .slice A n c] w fun e w' => e = .returned (.tuple #[.int .i64 (vN r zs), .bool (sask r zs)]) ∧ Below w.heap.size w w' := by
  obtain rfl := hr.len
  have HG := hide (slAsked_any r A zs.length c _ zs w hr hn)
  cases ha : sask r zs
  · rw [vN_no ha]
    rw [ha] at HG
    clear ha
    go_enter Try.func9, Try.ntmps9
    go_wp2_with fail
    refine HG.out.mono ?_; rintro e w' ⟨rfl, rfl⟩
    go_wp2_with fail
    go_ret2
    exact ⟨rfl, Below.refl _ _⟩
  · rw [vN_yes ha]
    rw [ha] at HG
    have hg := sgood_of (sask_of ha).2
    have HV := hide (slValue_any r A zs.length c _ zs w hr (Nat.le_refl _) (by omega) (sask_of ha).1 hg.2.2)
    generalize xfold (vals r 60) zs = v at *
    clear ha hg
    go_enter Try.func9, Try.ntmps9
    go_wp2_with fail
    refine HG.out.mono ?_; rintro e w' ⟨rfl, rfl⟩
    go_wp2_with fail
    refine HV.out.mono ?_; rintro e w1 ⟨rfl, hb⟩
    go_wp2_with fail
    go_ret2
    exact ⟨rfl, hb⟩

theorem specDoesFirstWin_any (r : Int) (A : Option Addr) (n c : Nat) (zs : List Int) (w : World) (hr : Ints w w.heap.size A n zs) (hn : n ≤ 17592186044416) :
    Calls Try.prog 13 #[.int .i64 r, .slice A n c] w fun e w' => e = .returned (.tuple #[.bool (vN r zs != 0), .bool (sask r zs)]) ∧ Below w.heap.size w w' := by
  obtain rfl := hr.len
  have HG := hide (slAsked_any r A zs.length c _ zs w hr hn)
  cases ha : sask r zs
  · rw [vN_no ha]
    rw [ha] at HG
    clear ha
    go_enter Try.func13, Try.ntmps13
    go_wp2_with fail
    refine HG.out.mono ?_; rintro e w' ⟨rfl, rfl⟩
    go_wp2_with fail
    go_ret2
    exact ⟨rfl, Below.refl _ _⟩
  · rw [vN_yes ha]
    rw [ha] at HG
    have hg := sgood_of (sask_of ha).2
    have HV := hide (slValue_any r A zs.length c _ zs w hr (Nat.le_refl _) (by omega) (sask_of ha).1 hg.2.2)
    generalize xfold (vals r 60) zs = v at *
    clear ha hg
    obtain ⟨b, hb⟩ : ∃ b, b = (v != 0) := ⟨_, rfl⟩
    rw [← hb]
    have HB := hide hb
    clear hb
    go_enter Try.func13, Try.ntmps13
    go_wp2_with fail
    refine HG.out.mono ?_; rintro e w' ⟨rfl, rfl⟩
    go_wp2_with fail
    refine HV.out.mono ?_; rintro e w1 ⟨rfl, hb⟩
    go_wp2_with fail
    go_ret2
    exact ⟨by rw [HB.out]; rfl, hb⟩

theorem specValueOfSplit_any (r h : Int) (w : World) :
    Calls Try.prog 7 #[.int .i64 r, .int .i64 h] w fun e w' => e = .returned (.tuple #[.int .i64 (vN r [h]), .bool (sask r [h])]) ∧ Below w.heap.size w w' := by
  have HR := hide (fun W => slRule_any r W)
  have HI := hide (fun W => l1In_any h 1 60 W)
  have hsa : sask r [h] = (srule r && decide (1 ≤ h ∧ h ≤ 60)) := by simp [sask, sgood, within]
  cases hrl : srule r
  · have ha : sask r [h] = false := by rw [hsa, hrl]; rfl
    rw [vN_no ha, ha]
    rw [hrl] at HR
    clear hsa ha hrl
    go_enter Try.func7, Try.ntmps7
    go_wp2_with fail
    refine (HR.out _).mono ?_; rintro e w' ⟨rfl, rfl⟩
    go_wp2_with fail
    go_ret2
    exact ⟨rfl, Below.refl _ _⟩
  · by_cases hh : 1 ≤ h ∧ h ≤ 60
    · have ha : sask r [h] = true := by rw [hsa, hrl, decide_eq_true hh]; rfl
      rw [hrl] at HR
      rw [decide_eq_true hh] at HI
      obtain ⟨m, rfl⟩ := Int.eq_ofNat_of_zero_le (show 0 ≤ h by omega)
      have HV := hide (fun W => slValues_any r m (by omega) hrl W)
      have HL := hide (vals_length r m)
      have HE := hide (show (vals r m).getD m 0 = vN r [(m : Int)] from ((vN_yes ha).trans (xfold_single (M := 60) (r := r) (by omega) (by omega))).symm)
      rw [← HE.out, ha]
      clear hsa ha hrl
      generalize vals r m = t at *
      have hm : (m : Int) < ((m + 1 : Nat) : Int) := by omega
      obtain ⟨v, hv⟩ : ∃ v, v = t.getD m 0 := ⟨_, rfl⟩
      rw [← hv]
      have HVv := hide hv
      clear hv HE
      go_enter Try.func7, Try.ntmps7
      go_wp2_with fail
      refine (HR.out _).mono ?_; rintro e w' ⟨rfl, rfl⟩
      go_wp2_with fail
      refine (HI.out _).mono ?_; rintro e w' ⟨rfl, rfl⟩
      go_wp2_with fail
      refine (HV.out _).mono ?_; rintro e w1 ⟨A1, c1, rfl, h1, h2, hown, hb⟩
      have hx := hown.ints
      rw [HL.out] at hx ⊢
      obtain ⟨ad, rfl, _, hcell⟩ := hx.at_ (k := m) (by omega)
      clear hown
      rw [← HVv.out] at hcell
      go_wp2_with fail
      go_ret2
      exact ⟨rfl, hb⟩
    · have ha : sask r [h] = false := by rw [hsa, decide_eq_false hh, Bool.and_false]
      rw [vN_no ha, ha]
      rw [hrl] at HR
      rw [decide_eq_false hh] at HI
      clear hsa ha hrl
      go_enter Try.func7, Try.ntmps7
      go_wp2_with fail
      refine (HR.out _).mono ?_; rintro e w' ⟨rfl, rfl⟩
      go_wp2_with fail
      refine (HI.out _).mono ?_; rintro e w' ⟨rfl, rfl⟩
      go_wp2_with fail
      go_ret2
      exact ⟨rfl, Below.refl _ _⟩

theorem ValueOfHeaps_B (r : Int) (A : Option Addr) (n c B : Nat) (zs : List Int) (w : World) (hr : Ints w B A n zs) (hB : B ≤ w.heap.size) (hn : n ≤ 17592186044416) :
    Calls Try.prog 11 #[.int .i64 r, .slice A n c] w fun e w' => e = .returned (.tuple #[.int .i64 (vN r zs), .bool (sask r zs)]) ∧ Below w.heap.size w w' := by
  obtain rfl := hr.len
  have HG := hide (splitGameOf_any r A zs.length c B zs w hr hB hn)
  cases ha : sask r zs
  · rw [vN_no ha]
    rw [ha] at HG
    unfold gameV at HG
    clear ha
    go_enter Try.func11, Try.ntmps11
    go_wp2_with fail
    refine HG.out.mono ?_; rintro e w1 ⟨rfl, hb1⟩
    go_wp2_with fail
    go_ret2
    exact ⟨rfl, hb1.alloc hb1.size _⟩
  · rw [ha] at HG
    unfold gameV at HG
    have hg := sgood_of (sask_of ha).2
    have hmx := mx_in (by omega) hg.2.2
    have HE := hide (show xfold (vals r (mx zs).toNat) zs = vN r zs from by
      rw [vN_yes ha]
      exact xfold_same (by omega) (by have := within_mx hg.2.2; rwa [show (((mx zs).toNat : Nat) : Int) = mx zs from by omega]))
    have HVs := hide (fun W (h : Ints W B A zs.length zs) (hB : B ≤ W.heap.size) => values_any r A zs.length c B zs W h hB (by omega) (by omega) (sask_of ha).1 hg.2.2)
    have HBy := hide (fun Av cv W (h : Ints W B A zs.length zs) (hB : B ≤ W.heap.size) (ht : Ints W W.heap.size Av ((mx zs).toNat + 1) (vals r (mx zs).toNat)) =>
      valueBy_any r A zs.length c B zs Av (mx zs).toNat cv W.heap.size (vals r (mx zs).toNat) W h hB (by omega) ht (Nat.le_refl _) (by omega) (by have := within_mx hg.2.2; rwa [show (((mx zs).toNat : Nat) : Int) = mx zs from by omega]))
    have HL := hide (vals_length r (mx zs).toNat)
    rw [← HE.out]
    clear ha hg hmx HE
    generalize vals r (mx zs).toNat = t at *
    generalize (mx zs).toNat = M at *
    generalize xfold t zs = v at *
    go_enter Try.func11, Try.ntmps11
    go_wp2_with fail
    refine HG.out.mono ?_; rintro e w1 ⟨rfl, hb1⟩
    go_wp2_with fail
    have s1 := hb1.size
    have hr1 := (hr.below hb1 hB).alloc (by omega) (.cells #[.int .i64 r, .slice A zs.length c] 40)
    have hb := hb1.alloc hb1.size (.cells #[.int .i64 r, .slice A zs.length c] 40)
    have hBz : B ≤ (w1.alloc (.cells #[.int .i64 r, .slice A zs.length c] 40)).heap.size := by simp; omega
    have X0 : Bx (w1.alloc (.cells #[.int .i64 r, .slice A zs.length c] 40)) w1.heap.size 40 (.int .i64 r) (.slice A zs.length c) := Bx.new _ _ _ _
    generalize (w1.alloc (.cells #[.int .i64 r, .slice A zs.length c] 40)) = W1 at *
    generalize w1.heap.size = bx at *
    have HK := hide (fun W' (h : Below W1.heap.size W1 W') => And.intro h (And.intro (X0.next h).c0 (X0.next h).c1))
    have HV1 := hide (fun W (h : Below W1.heap.size W1 W) => HVs.out W (hr1.below h hBz) (by have := h.size; omega))
    have c0 := X0.c0
    have c1 := X0.c1
    go_region_held3 (fun W => Below W1.heap.size W1 W ∧ W.cell? ⟨bx, 0, none⟩ = some (.int .i64 r) ∧ W.cell? ⟨bx, 1, none⟩ = some (.slice A zs.length c))
      (first | exact HK.out _ (Below.refl _ _).drew | exact HK.out _ (below_next (And.left (by assumption)) hb3) | exact HK.out _ (below_next (And.left (by assumption)) hb2) | go_keep)
      (first
      | (go_at_call 26; (with_reducible refine (HV1.out _ (And.left (by assumption))).mono ?_); rintro e w2 ⟨A2, c2, rfl, h1, h2, hown, hb2⟩; have hb2' : Below W1.heap.size W1 w2 := (Below.refl _ W1).drew.trans hb2; have hr2 := hr1.below hb2' hBz; have hB2 : B ≤ w2.heap.size := Nat.le_trans hBz hb2'.size; have hx2 := hown.ints; rw [HL.out] at hx2; rw [HL.out])
      | (go_at_call 25; (with_reducible refine (HBy.out _ _ _ hr2 hB2 hx2).mono ?_); rintro e w3 ⟨rfl, hb3⟩))
    go_wp2_with fail
    go_ret2
    exact ⟨rfl, hb.trans ((below_next ((Below.refl _ W1).drew.trans hb2) hb3).mono (by have := hb.size; omega))⟩

theorem ValueOfHeaps_any (r : Int) (A : Option Addr) (n c : Nat) (zs : List Int) (w : World) (hr : Ints w w.heap.size A n zs) (hn : n ≤ 17592186044416) :
    Calls Try.prog 11 #[.int .i64 r, .slice A n c] w fun e w' => e = .returned (.tuple #[.int .i64 (vN r zs), .bool (sask r zs)]) ∧ Below w.heap.size w w' := ValueOfHeaps_B r A n c _ zs w hr (Nat.le_refl _) hn

theorem DoesFirstWin_any (r : Int) (A : Option Addr) (n c : Nat) (zs : List Int) (w : World) (hr : Ints w w.heap.size A n zs) (hn : n ≤ 17592186044416) :
    Calls Try.prog 14 #[.int .i64 r, .slice A n c] w fun e w' => e = .returned (.tuple #[.bool (vN r zs != 0), .bool (sask r zs)]) ∧ Below w.heap.size w w' := by
  have H := hide (ValueOfHeaps_any r A n c zs w hr hn)
  generalize vN r zs = v at *
  generalize sask r zs = o at *
  obtain ⟨b, hb⟩ : ∃ b, b = (v != 0) := ⟨_, rfl⟩
  rw [← hb]
  have HB := hide hb
  clear hb
  go_enter Try.func14, Try.ntmps14
  go_wp2_with fail
  refine H.out.mono ?_; rintro e w1 ⟨rfl, hb⟩
  go_wp2_with fail
  go_ret2
  exact ⟨by rw [HB.out]; rfl, hb⟩

theorem ValueOfSplit_any (r h : Int) (w : World) :
    Calls Try.prog 8 #[.int .i64 r, .int .i64 h] w fun e w' => e = .returned (.tuple #[.int .i64 (vN r [h]), .bool (sask r [h])]) ∧ Below w.heap.size w w' := by
  have H := hide (fun W (hr : Ints W (w.heap.size + 1) (some ⟨w.heap.size, 0, none⟩) 1 [h]) (hB : w.heap.size + 1 ≤ W.heap.size) => ValueOfHeaps_B r (some ⟨w.heap.size, 0, none⟩) 1 1 (w.heap.size + 1) [h] W hr hB (by omega))
  generalize vN r [h] = v at *
  generalize sask r [h] = o at *
  have ho := ints_one w h 3
  go_enter Try.func8, Try.ntmps8
  go_wp2_with fail
  refine (H.out _ ho (by simp)).mono ?_; rintro e w1 ⟨rfl, hb⟩
  go_wp2_with fail
  go_ret2
  exact ⟨rfl, below_next ((Below.refl _ _).alloc (Nat.le_refl _) _) hb⟩

/-- The heaps, less than p, with the value 0. -/
def losB (t : List Int) (p : Nat) : List Int := ((List.range p).filter fun h => decide (0 < h ∧ t.getD h 0 = 0)).map fun h : Nat => (h : Int)
theorem losB_yes {t : List Int} {p : Nat} (h : 0 < p ∧ t.getD p 0 = 0) : losB t (p + 1) = losB t p ++ [(p : Int)] := by
  unfold losB
  rw [List.range_succ, List.filter_append, List.map_append, List.filter_cons, decide_eq_true h]
  simp
theorem losB_no {t : List Int} {p : Nat} (h : ¬ (0 < p ∧ t.getD p 0 = 0)) : losB t (p + 1) = losB t p := by
  unfold losB
  rw [List.range_succ, List.filter_append, List.map_append, List.filter_cons, decide_eq_false h]
  simp
theorem losB_len (t : List Int) (p : Nat) : (losB t p).length ≤ p := by
  unfold losB; rw [List.length_map]; exact Nat.le_trans (List.length_filter_le _ _) (by simp)
def lask (r m : Int) : Bool := srule r && decide (1 ≤ m ∧ m ≤ 60)
noncomputable def losR (r m : Int) : List Int := if lask r m then losB (vals r m.toNat) (m.toNat + 1) else []
theorem losR_short (r m : Int) : (losR r m).length ≤ 1048576 := by
  unfold losR
  split
  · rename_i h
    have : 1 ≤ m ∧ m ≤ 60 := by unfold lask at h; simp at h; exact h.2
    have := losB_len (vals r m.toNat) (m.toNat + 1)
    omega
  · simp
end Go.Proofs.Ytlaapnfinbancaa
