
/-
  SUMS OF ENDS, PLAINLY: machine by machine, and along one order of all jobs. No program is named here.
-/
import Derived.Test.YtbefffknedimhaaOrdP
namespace Go.Proofs.Ytbefffknedimhaa

/-- The time of a job told by its number. -/
def vat (zs : List Int) (j : Int) : Int := zs.getD j.toNat 0
/-- Longer ones first. -/
def Down (zs : List Int) (a b : Int) : Prop := vat zs b ≤ vat zs a

theorem ordK_lt (zs os : List Int) (x : Int) : ∀ (k0 j : Nat), ordK zs os x k0 ≤ j → j < k0 → vat zs (os.getD j 0) < x
  | 0, j, _, h => by omega
  | k0 + 1, j, h1, h2 => by
    by_cases hc : zs.getD (os.getD k0 0).toNat 0 < x
    · rw [ordK_yes hc] at h1
      rcases Nat.lt_or_ge j k0 with h3 | h3
      · exact ordK_lt zs os x k0 j h1 h3
      · obtain rfl : j = k0 := by omega
        exact hc
    · rw [ordK_no hc] at h1; omega
theorem ordK_ge (zs os : List Int) (x : Int) : ∀ (k0 p : Nat), ordK zs os x k0 = p + 1 → x ≤ vat zs (os.getD p 0)
  | 0, p, h => by simp [ordK] at h
  | k0 + 1, p, h => by
    by_cases hc : zs.getD (os.getD k0 0).toNat 0 < x
    · rw [ordK_yes hc] at h; exact ordK_ge zs os x k0 p h
    · rw [ordK_no hc] at h
      obtain rfl : k0 = p := by omega
      exact Int.not_lt.1 hc
theorem insAt_perm (os : List Int) (k : Nat) (i : Int) : (insAt os k i).Perm (os ++ [i]) := by
  have h1 : (insAt os k i).Perm (os.take k ++ (os.drop k ++ [i])) := by
    unfold insAt
    rw [List.append_assoc]
    exact List.Perm.append_left _ List.perm_append_comm
  rw [← List.append_assoc, List.take_append_drop] at h1
  exact h1
theorem ordS_perm (b : Bool) (zs : List Int) : ∀ i, (ordS b zs i).Perm (rng i)
  | 0 => List.Perm.refl _
  | i + 1 => by
    rw [ordS, rng_succ]
    exact (insAt_perm _ _ _).trans ((ordS_perm b zs i).append_right _)
theorem ordS_down (zs : List Int) : ∀ i, i ≤ zs.length → (ordS true zs i).Pairwise (Down zs)
  | 0, _ => List.Pairwise.nil
  | i + 1, hi => by
    have ih := ordS_down zs i (by omega)
    have hx : vat zs (i : Int) = zs.getD i 0 := by simp [vat]
    rw [ordS]
    have hle := ordPos_le true zs (ordS true zs i) (zs.getD i 0)
    have hk : ordPos true zs (ordS true zs i) (zs.getD i 0) = ordK zs (ordS true zs i) (zs.getD i 0) (ordS true zs i).length := rfl
    have hlt := ordK_lt zs (ordS true zs i) (zs.getD i 0) (ordS true zs i).length
    have hge := ordK_ge zs (ordS true zs i) (zs.getD i 0) (ordS true zs i).length
    rw [← hk] at hlt hge
    generalize ordPos true zs (ordS true zs i) (zs.getD i 0) = k at *
    generalize ordS true zs i = os at *
    have hp : (os.take k ++ os.drop k).Pairwise (Down zs) := by rw [List.take_append_drop]; exact ih
    rw [List.pairwise_append] at hp
    obtain ⟨p1, p2, p3⟩ := hp
    have hT : ∀ a ∈ os.take k, Down zs a (i : Int) := by
      intro a ha
      unfold Down
      rw [hx]
      cases k with
      | zero => simp at ha
      | succ p =>
        have hge' := hge p rfl
        obtain ⟨j, hj, rfl⟩ := List.getElem_of_mem ha
        rw [List.length_take] at hj
        rw [List.getElem_take]
        have hpl : p < os.length := by omega
        rw [getD_at hpl] at hge'
        rcases Nat.lt_or_ge j p with h | h
        · have := List.pairwise_iff_getElem.1 ih j p (by omega) hpl h
          unfold Down at this
          omega
        · obtain rfl : j = p := by omega
          exact hge'
    have hD : ∀ b ∈ os.drop k, Down zs (i : Int) b := by
      intro b hb
      unfold Down
      rw [hx]
      obtain ⟨j, hj, rfl⟩ := List.getElem_of_mem hb
      rw [List.length_drop] at hj
      rw [List.getElem_drop]
      have := hlt (k + j) (by omega) (by omega)
      rw [getD_at (by omega)] at this
      omega
    unfold insAt
    rw [List.pairwise_append]
    refine ⟨?_, p2, ?_⟩
    · rw [List.pairwise_append]
      exact ⟨p1, List.pairwise_singleton _ _, fun a ha b hb => by rw [List.mem_singleton] at hb; subst hb; exact hT a ha⟩
    · intro a ha b hb
      rw [List.mem_append] at ha
      rcases ha with ha | ha
      · exact p3 a ha b hb
      · rw [List.mem_singleton] at ha; subst ha; exact hD b hb

/-- Each one taken as often as its place tells. -/
def wS : Nat → List Int → Int
  | _, [] => 0
  | k, x :: xs => ((k : Int) + 1) * x + wS (k + 1) xs
theorem wS_snoc (x : Int) : ∀ (k : Nat) (l : List Int), wS k (l ++ [x]) = wS k l + ((k : Int) + l.length + 1) * x
  | k, [] => by simp [wS]
  | k, y :: l => by
    have := wS_snoc x (k + 1) l
    simp only [List.cons_append, wS, this, List.length_cons, Int.natCast_add, Int.natCast_one]
    rw [show (k : Int) + 1 + l.length + 1 = k + ((l.length : Int) + 1) + 1 by omega]
    omega
/-- The values in order. -/
def valsD (l : List Int) : List Int := (ordA true l).map (vat l)
theorem rng_map (l : List Int) : (rng l.length).map (vat l) = l := by
  apply List.ext_getElem
  · simp [rng_length]
  · intro i h1 h2
    rw [List.getElem_map, rng_get h2]
    simp [vat, h2]
theorem valsD_perm (l : List Int) : (valsD l).Perm l := by
  have := (ordS_perm true l l.length).map (vat l)
  rw [rng_map] at this
  exact this
theorem valsD_down (l : List Int) : (valsD l).Pairwise (fun a b => b ≤ a) := by
  unfold valsD
  rw [List.pairwise_map]
  exact ordS_down l l.length (Nat.le_refl _)

/-- The jobs of a machine, as they come. -/
def ownL (zs ps : List Int) (m : Int) : List Int := ((rng zs.length).filter fun j => decide (vat ps j = m)).map (vat zs)
/-- The least sum of ends on one machine. -/
def ldS (l : List Int) : Int := wS 0 (valsD l)
theorem ldS_own (zs ps : List Int) (m : Int) : ldS (ownL zs ps m) = wS 0 (((ordA true zs).filter fun j => decide (vat ps j = m)).map (vat zs)) := by
  unfold ldS
  congr 1
  refine List.Perm.eq_of_pairwise (le := fun a b : Int => b ≤ a) (fun a b _ _ h1 h2 => Int.le_antisymm h2 h1) (valsD_down _) ?_ ?_
  · rw [List.pairwise_map]
    exact (ordS_down zs zs.length (Nat.le_refl _)).filter _
  · exact (valsD_perm _).trans (((ordS_perm true zs zs.length).filter _).symm.map _)
/-- How many of these are on a machine. -/
def cntM (ps os : List Int) (m : Int) : Nat := (os.filter fun j => decide (vat ps j = m)).length
/-- The sum along an order. -/
def soeS (zs ps os : List Int) : Nat → Int
  | 0 => 0
  | k + 1 => soeS zs ps os k + (cntM ps (os.take (k + 1)) (vat ps (os.getD k 0)) : Int) * vat zs (os.getD k 0)
/-- The sum of machines. -/
def soeM (zs ps os : List Int) : Nat → Int
  | 0 => 0
  | m + 1 => soeM zs ps os m + wS 0 ((os.filter fun j => decide (vat ps j = (m : Int))).map (vat zs))
theorem soeM_nil (zs ps : List Int) : ∀ M, soeM zs ps [] M = 0
  | 0 => rfl
  | M + 1 => by simp [soeM, soeM_nil zs ps M, wS]
theorem soeM_snoc (zs ps os : List Int) (j : Int) : ∀ M, soeM zs ps (os ++ [j]) M = soeM zs ps os M + if 0 ≤ vat ps j ∧ vat ps j < (M : Int) then ((cntM ps os (vat ps j) : Int) + 1) * vat zs j else 0
  | 0 => by
    rw [if_neg (by omega)]; rfl
  | M + 1 => by
    rw [soeM, soeM, soeM_snoc zs ps os j M, List.filter_append, List.map_append]
    by_cases hm : vat ps j = (M : Int)
    · rw [if_neg (by omega), if_pos (by omega)]
      have : [j].filter (fun j => decide (vat ps j = (M : Int))) = [j] := by simp [hm]
      rw [this, List.map_singleton, wS_snoc, hm]
      unfold cntM
      rw [List.length_map]
      rw [show ((0 : Nat) : Int) + ((List.filter (fun j => decide (vat ps j = (M : Int))) os).length : Int) + 1 = ((List.filter (fun j => decide (vat ps j = (M : Int))) os).length : Int) + 1 by omega]
      omega
    · have : [j].filter (fun j => decide (vat ps j = (M : Int))) = [] := by simp [hm]
      rw [this, List.map_nil, List.append_nil]
      by_cases hr : 0 ≤ vat ps j ∧ vat ps j < (M : Int)
      · rw [if_pos hr, if_pos (by omega)]; omega
      · rw [if_neg hr, if_neg (by omega)]; omega
theorem soe_eq (zs ps os : List Int) (M : Nat) (h : ∀ k, k < os.length → 0 ≤ vat ps (os.getD k 0) ∧ vat ps (os.getD k 0) < (M : Int)) : ∀ k, k ≤ os.length → soeS zs ps os k = soeM zs ps (os.take k) M
  | 0, _ => by rw [List.take_zero, soeM_nil]; rfl
  | k + 1, hk => by
    have hlt : k < os.length := by omega
    have e := List.take_succ_eq_append_getElem hlt
    rw [soeS, soe_eq zs ps os M h k (by omega), e, getD_at hlt]
    have hr := h k hlt
    rw [getD_at hlt] at hr
    rw [soeM_snoc, if_pos hr]
    congr 2
    unfold cntM
    rw [List.filter_append, List.length_append]
    simp

theorem vat_get {zs : List Int} {j : Nat} (h : j < zs.length) : vat zs (j : Int) = zs[j] := by simp [vat, h]
theorem vat_getD (zs : List Int) (j : Nat) : vat zs (j : Int) = zs.getD j 0 := by simp [vat]
/-- The jobs of a machine among the first q. -/
def ownK (zs ps : List Int) (m : Int) (q : Nat) : List Int := ((rng q).filter fun j => decide (vat ps j = m)).map (vat zs)
theorem ownK_yes {zs ps : List Int} {m : Int} {q : Nat} (h : vat ps (q : Int) = m) : ownK zs ps m (q + 1) = ownK zs ps m q ++ [vat zs (q : Int)] := by
  unfold ownK; rw [rng_succ, List.filter_append, List.map_append]; simp [h]
theorem ownK_no {zs ps : List Int} {m : Int} {q : Nat} (h : ¬ vat ps (q : Int) = m) : ownK zs ps m (q + 1) = ownK zs ps m q := by
  unfold ownK; rw [rng_succ, List.filter_append, List.map_append]; simp [h]
theorem ownK_len (zs ps : List Int) (m : Int) : ∀ q, (ownK zs ps m q).length ≤ q
  | 0 => by simp [ownK, rng]
  | q + 1 => by
    have := ownK_len zs ps m q
    by_cases h : vat ps (q : Int) = m
    · rw [ownK_yes h]; simp; omega
    · rw [ownK_no h]; omega
theorem ownK_in {zs ps : List Int} (m : Int) (hz : within 1 1000 zs = true) : ∀ q, q ≤ zs.length → within 1 1000 (ownK zs ps m q) = true
  | 0, _ => by simp [ownK, rng, within]
  | q + 1, hq => by
    have ih := ownK_in (ps := ps) m hz q (by omega)
    by_cases h : vat ps (q : Int) = m
    · rw [ownK_yes h]
      have := within_get hz q (by omega)
      rw [vat_get (by omega)]
      unfold within at *
      rw [List.all_append, ih]
      simp [this]
    · rw [ownK_no h]; exact ih
theorem wS_bd : ∀ (l : List Int) (k : Nat), within 1 1000 l = true → k + l.length ≤ 9 → 0 ≤ wS k l ∧ wS k l ≤ 9000 * l.length
  | [], k, _, _ => by simp [wS]
  | x :: xs, k, hw, hl => by
    have h0 := within_get hw 0 (by simp)
    have h1 : within 1 1000 xs = true := by unfold within at hw ⊢; simp at hw ⊢; exact hw.2
    have ih := wS_bd xs (k + 1) h1 (by simp at hl; omega)
    simp at h0 hl
    have hb : 0 ≤ ((k : Int) + 1) * x ∧ ((k : Int) + 1) * x ≤ 9000 := ⟨Int.mul_nonneg (by omega) (by omega), by
      have := Int.mul_le_mul (show (k : Int) + 1 ≤ 9 by omega) h0.2 (by omega) (by omega); omega⟩
    simp only [wS, List.length_cons, Int.natCast_add, Int.natCast_one]
    omega
theorem perm_within {lo hi : Int} {a b : List Int} (h : a.Perm b) (hb : within lo hi b = true) : within lo hi a = true := by
  unfold within at *
  rw [List.all_eq_true] at hb ⊢
  exact fun x hx => hb x (h.subset hx)
theorem valsD_in {l : List Int} (h : within 1 1000 l = true) : within 1 1000 (valsD l) = true := perm_within (valsD_perm l) h
theorem valsD_length (l : List Int) : (valsD l).length = l.length := (valsD_perm l).length_eq
theorem valsD_at (l : List Int) {k jb : Nat} (hk : k < l.length) (h : (ordA true l).getD k 0 = (jb : Int)) : (valsD l)[k]'(by rw [valsD_length]; exact hk) = l.getD jb 0 := by
  unfold valsD
  rw [List.getElem_map, ← getD_at (by rw [ordA_length]; exact hk), h, vat_getD]
/-- The sum of the first k. -/
def wP (l : List Int) (k : Nat) : Int := wS 0 ((valsD l).take k)
theorem wP_succ (l : List Int) {k jb : Nat} (hk : k < l.length) (h : (ordA true l).getD k 0 = (jb : Int)) : wP l (k + 1) = wP l k + l.getD jb 0 * ((k : Int) + 1) := by
  unfold wP
  have hk2 : k < (valsD l).length := by rw [valsD_length]; exact hk
  rw [List.take_succ_eq_append_getElem hk2, wS_snoc, valsD_at l hk h, List.length_take]
  rw [show min k (valsD l).length = k by omega, Int.mul_comm]
  rw [show ((0 : Nat) : Int) + (k : Int) + 1 = (k : Int) + 1 by omega]
theorem wP_all (l : List Int) : wP l l.length = ldS l := by
  unfold wP ldS
  rw [List.take_of_length_le (by rw [valsD_length]; exact Nat.le_refl _)]
theorem wP_bd {l : List Int} (hw : within 1 1000 l = true) (h9 : l.length ≤ 9) (k : Nat) : 0 ≤ wP l k ∧ wP l k ≤ 81000 := by
  have h1 : within 1 1000 ((valsD l).take k) = true := within_take (valsD_in hw) k
  have h2 : ((valsD l).take k).length ≤ 9 := by rw [List.length_take, valsD_length]; omega
  have := wS_bd ((valsD l).take k) 0 h1 (by omega)
  unfold wP
  omega
theorem ldS_bd {l : List Int} (hw : within 1 1000 l = true) (h9 : l.length ≤ 9) : 0 ≤ ldS l ∧ ldS l ≤ 81000 := by
  rw [← wP_all]; exact wP_bd hw h9 _
/-- What SumOfEnds tells. -/
def soeN (zs : List Int) (m : Int) (ps : List Int) : Int := if jboth zs m ps then soeM zs ps (ordA true zs) m.toNat else 0
theorem soeN_yes {zs ps : List Int} {m : Int} (h : jboth zs m ps = true) : soeN zs m ps = soeM zs ps (ordA true zs) m.toNat := by simp [soeN, h]
theorem soeN_no {zs ps : List Int} {m : Int} (h : jboth zs m ps = false) : soeN zs m ps = 0 := by simp [soeN, h]
theorem ownK_all (zs ps : List Int) (m : Int) : ownK zs ps m zs.length = ownL zs ps m := rfl
theorem soeM_step (zs ps : List Int) (M : Nat) : soeM zs ps (ordA true zs) (M + 1) = soeM zs ps (ordA true zs) M + ldS (ownL zs ps (M : Int)) := by
  rw [soeM, ldS_own]
theorem soeM_bd {zs : List Int} (ps : List Int) (hw : within 1 1000 zs = true) (h9 : zs.length ≤ 9) : ∀ M : Nat, 0 ≤ soeM zs ps (ordA true zs) M ∧ soeM zs ps (ordA true zs) M ≤ 81000 * M
  | 0 => by simp [soeM]
  | M + 1 => by
    have ih := soeM_bd ps hw h9 M
    have := ldS_bd (ownK_in (ps := ps) (M : Int) hw zs.length (Nat.le_refl _)) (by have := ownK_len zs ps (M : Int) zs.length; omega)
    rw [soeM_step, ← ownK_all]
    omega
/-- How many jobs each machine has. -/
def partL (ps os : List Int) (M : Nat) : List Int := (List.range M).map fun (j : Nat) => (cntM ps os (j : Int) : Int)
theorem partL_length (ps os : List Int) (M : Nat) : (partL ps os M).length = M := by simp [partL]
theorem partL_get (ps os : List Int) {M j : Nat} (h : j < M) : (partL ps os M)[j]'(by rw [partL_length]; exact h) = (cntM ps os (j : Int) : Int) := by simp [partL]
theorem cntM_le (ps os : List Int) (m : Int) : cntM ps os m ≤ os.length := List.length_filter_le _ _
theorem cntM_snoc (ps os : List Int) (o m : Int) : cntM ps (os ++ [o]) m = cntM ps os m + if vat ps o = m then 1 else 0 := by
  unfold cntM
  rw [List.filter_append, List.length_append]
  by_cases h : vat ps o = m <;> simp [h]
theorem partL_nil (ps : List Int) (M : Nat) : partL ps [] M = List.replicate M 0 := by
  apply List.ext_getElem
  · simp [partL]
  · intro i h1 h2
    simp [partL, cntM]
theorem partL_snoc (ps os : List Int) (o : Int) {M mm : Nat} (h : vat ps o = (mm : Int)) (hm : mm < M) : partL ps (os ++ [o]) M = (partL ps os M).set mm ((cntM ps os (mm : Int) : Int) + 1) := by
  apply List.ext_getElem
  · simp [partL]
  · intro i h1 h2
    rw [partL_length] at h1
    rw [partL_get _ _ h1, cntM_snoc, h, List.getElem_set]
    by_cases e : mm = i
    · subst e; simp
    · rw [if_neg (by omega), if_neg e, partL_get _ _ h1]; simp
theorem soeS_bd {zs : List Int} (ps os : List Int) (hw : within 1 1000 zs = true) (h9 : os.length ≤ 9) : ∀ k : Nat, k ≤ os.length → 0 ≤ soeS zs ps os k ∧ soeS zs ps os k ≤ 9000 * k
  | 0, _ => by simp [soeS]
  | k + 1, hk => by
    have ih := soeS_bd ps os hw h9 k (by omega)
    have hc := cntM_le ps (os.take (k + 1)) (vat ps (os.getD k 0))
    rw [List.length_take] at hc
    have hv : 0 ≤ vat zs (os.getD k 0) ∧ vat zs (os.getD k 0) ≤ 1000 := by
      unfold vat
      by_cases h : (os.getD k 0).toNat < zs.length
      · rw [getD_at h]; have := within_get hw _ h; omega
      · rw [List.getD, List.getElem?_eq_none (by omega)]; simp
    have hb : 0 ≤ (cntM ps (os.take (k + 1)) (vat ps (os.getD k 0)) : Int) * vat zs (os.getD k 0) ∧ (cntM ps (os.take (k + 1)) (vat ps (os.getD k 0)) : Int) * vat zs (os.getD k 0) ≤ 9000 :=
      ⟨Int.mul_nonneg (by omega) hv.1, by
        have := Int.mul_le_mul (show (cntM ps (os.take (k + 1)) (vat ps (os.getD k 0)) : Int) ≤ 9 by omega) hv.2 hv.1 (by omega); omega⟩
    rw [soeS]
    omega
end Go.Proofs.Ytbefffknedimhaa
