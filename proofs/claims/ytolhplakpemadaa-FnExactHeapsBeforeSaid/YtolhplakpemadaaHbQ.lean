
/-
  A DOUBLING TAKEN BACK: what is told of its row. No program is named here.
-/
import Derived.Test.YtolhplakpemadaaHbR
namespace Go.Proofs.Ytolhplakpemadaa

theorem all12_nat : ∀ d ∈ all12, d.x0 = (d.x0.toNat : Int) ∧ d.x1 = (d.x1.toNat : Int) ∧ d.x0.toNat < 4 ∧ d.x1.toNat < 4 ∧ d.x0.toNat ≠ d.x1.toNat := by decide
/-- Can the doubling be made where it is taken back? -/
def backOk (zs : List Int) (f t : Nat) : Bool := decide (0 < halfOf zs t ∧ halfOf zs t ≤ pd zs f + halfOf zs t)
theorem back_of {zs : List Int} (hs : small zs) {f t : Nat} (h : backOk zs f t = true) : f < zs.length ∧ t < zs.length ∧ 0 < zs.getD t 0 / 2 := by
  obtain ⟨h1, h2⟩ := of_decide_eq_true h
  have ht : t < zs.length := by
    apply Classical.byContradiction; intro hn
    unfold halfOf at h1; rw [if_neg hn] at h1; omega
  have hf : f < zs.length := by
    apply Classical.byContradiction; intro hn
    rw [pd_ge (by omega)] at h2; omega
  unfold halfOf at h1; rw [if_pos ht] at h1
  exact ⟨hf, ht, h1⟩
theorem backOk_no {zs : List Int} (hs : small zs) {f t : Nat} (h : backOk zs f t = false) : okE zs f t = false := by
  apply Bool.eq_false_iff.2
  intro hok
  obtain ⟨hf, ht, hne, hz, hm⟩ := okE_of hok
  have hb := of_decide_eq_false h
  have h1 := (small_get hs t ht).1
  have h2 := (small_get hs f hf).1
  rw [← getD_get ht] at h1
  apply hb
  unfold halfOf
  rw [if_pos ht, pd_lt hf]
  omega
theorem half4_earl {zs : List Int} (hn : zs.length ≤ 4) {f t : Nat} (hf : f < zs.length) (ht : t < zs.length) (hft : f ≠ t) (k : Nat) (hk : k < 4) : pd (half4 zs f t) k = pd (earl zs f t) k := by
  rw [half4_pd zs f t k hk]
  by_cases hkl : k < zs.length
  · rw [pd_lt (zs := earl zs f t) (by rw [earl_length]; exact hkl), ← getD_get (by rw [earl_length]; exact hkl), earl_getD hf ht]
    unfold halfOf
    rw [if_pos ht, pd_lt hf, pd_lt hkl, ← getD_get hf, ← getD_get hkl]
  · have e : pd (earl zs f t) k = -1 := pd_ge (by rw [earl_length]; omega)
    rw [e, if_neg (by omega), if_neg (by omega), pd_ge (by omega)]
theorem earl_small {zs : List Int} (hs : small zs) {f t : Nat} (hf : f < zs.length) (ht : t < zs.length) (hft : f ≠ t) : small (earl zs f t) := by
  have h1 := small_get hs t ht
  have h2 := small_get hs f hf
  refine ⟨fun x hx => ?_, ?_⟩
  · obtain ⟨k, hk, rfl⟩ := List.getElem_of_mem hx
    rw [earl_length] at hk
    rw [← getD_get (by rw [earl_length]; exact hk), earl_getD hf ht]
    have h3 := (small_get hs k hk).1
    rw [getD_get ht, getD_get hf, getD_get hk]
    split
    · omega
    · split <;> omega
  · unfold earl
    rw [sum_set _ _ (by rw [List.length_set]; exact ht), sum_set _ _ hf]
    have e : (zs.set f (zs.getD f 0 + zs.getD t 0 / 2))[t]'(by rw [List.length_set]; exact ht) = zs[t] := by rw [List.getElem_set_ne hft]
    rw [e, getD_get hf, getD_get ht]
    have := hs.2
    omega
theorem earl_made {zs : List Int} {f t : Nat} (hf : f < zs.length) (ht : t < zs.length) (hft : f ≠ t) (k : Nat) : (dmade f t (earl zs f t)).getD k 0 = if k = t then 2 * (zs.getD t 0 / 2) else zs.getD k 0 := by
  have hl := earl_length zs f t
  have key : ∀ m, (earl zs f t).getD m 0 = if m = t then zs.getD t 0 / 2 else if m = f then zs.getD f 0 + zs.getD t 0 / 2 else zs.getD m 0 := earl_getD hf ht
  unfold dmade
  by_cases h1 : k = t
  · subst h1
    rw [if_pos rfl]
    simp only [List.getD]
    rw [List.getElem?_set_self (by rw [List.length_set, hl]; exact ht)]
    have := key k
    rw [if_pos rfl] at this
    simp only [List.getD] at this
    simp [this]
  · rw [if_neg h1]
    simp only [List.getD]
    rw [List.getElem?_set_ne (Ne.symm h1)]
    by_cases h2 : k = f
    · subst h2
      rw [List.getElem?_set_self (by rw [hl]; exact hf)]
      have a := key k
      have b := key t
      rw [if_neg hft, if_pos rfl] at a
      rw [if_pos rfl] at b
      simp only [List.getD] at a b
      simp [a, b]
    · rw [List.getElem?_set_ne (Ne.symm h2)]
      have a := key k
      rw [if_neg h1, if_neg h2] at a
      simp only [List.getD] at a
      simp [a]
/-- The row behind it is the old one just where the heap is even. -/
theorem row_again {zs : List Int} (hs : small zs) (hn : zs.length ≤ 4) {f t : Nat} (hft : f ≠ t) (h : backOk zs f t = true) :
    ([pd (dmade f t (earl zs f t)) 0, pd (dmade f t (earl zs f t)) 1, pd (dmade f t (earl zs f t)) 2, pd (dmade f t (earl zs f t)) 3] == [pd zs 0, pd zs 1, pd zs 2, pd zs 3]) = okE zs f t := by
  obtain ⟨hf, ht, h0⟩ := back_of hs h
  have hl : (dmade f t (earl zs f t)).length = zs.length := by rw [dmade_length, earl_length]
  have hp : ∀ k, k < 4 → pd (dmade f t (earl zs f t)) k = if k = t then 2 * (zs.getD t 0 / 2) else pd zs k := fun k hk => by
    by_cases hkl : k < zs.length
    · rw [pd_lt (by rw [hl]; exact hkl), ← getD_get (by rw [hl]; exact hkl), earl_made hf ht hft, pd_lt hkl, ← getD_get hkl]
    · rw [pd_ge (by rw [hl]; omega), if_neg (by omega), pd_ge (by omega)]
  have hok : okE zs f t = decide (zs.getD t 0 % 2 = 0) := by
    unfold okE
    by_cases he : zs.getD t 0 % 2 = 0
    · rw [decide_eq_true he]; exact decide_eq_true ⟨hf, ht, hft, by omega, he⟩
    · rw [decide_eq_false he]; exact decide_eq_false fun h => he h.2.2.2.2
  rw [hok]
  by_cases he : zs.getD t 0 % 2 = 0
  · rw [decide_eq_true he, beq_iff_eq]
    have e2 : ∀ k, k < 4 → pd (dmade f t (earl zs f t)) k = pd zs k := fun k hk => by
      rw [hp k hk]
      split
      · rename_i e; subst e; rw [pd_lt ht, ← getD_get ht]; omega
      · rfl
    rw [e2 0 (by omega), e2 1 (by omega), e2 2 (by omega), e2 3 (by omega)]
  · rw [decide_eq_false he, beq_eq_false_iff_ne]
    intro e
    have ht4 : t < 4 := by omega
    have h1 : pd (dmade f t (earl zs f t)) t = pd zs t := by
      simp only [List.cons.injEq, and_true] at e
      obtain ⟨e0, e1, e2, e3⟩ := e
      match t, ht4 with
      | 0, _ => exact e0
      | 1, _ => exact e1
      | 2, _ => exact e2
      | 3, _ => exact e3
    rw [hp t ht4, if_pos rfl, pd_lt ht, ← getD_get ht] at h1
    omega
theorem hbP_step (zs : List Int) (k : Nat) (hk : k < all12.length) : hbP zs (all12.take (k + 1)) = hbP zs (all12.take k) ++ if okE zs all12[k].x0.toNat all12[k].x1.toNat then [earl zs all12[k].x0.toNat all12[k].x1.toNat] else [] := by
  unfold hbP
  rw [List.take_succ_eq_append_getElem hk, List.filterMap_append]
  congr 1
  simp only [List.filterMap_cons, List.filterMap_nil]
  split <;> rename_i h <;> split at h <;> simp_all
end Go.Proofs.Ytolhplakpemadaa
