import Derived.Test.YtcbcgapnoompbaaMg03
import Derived.Test.YtcbcgapnoompbaaMg42
import Derived.Test.YtcbcgapnoompbaaMg43

/-
  FnRingsBefore: plain facts on the rings before one. No program is named here.
-/
namespace Go.Proofs.Ytcbcgapnoompbaa

theorem befR_yes {zs : List Int} (h : rsmall zs = true) : befR zs = befM zs zs.length (2 ^ zs.length) := by unfold befR; rw [if_pos h]
theorem bef_good {zs : List Int} (h : rsmall zs = true) : rgood zs = true ∧ (befR zs).length ≤ 1024 := by
  have hg := (rsmall_of h).1
  obtain ⟨⟨h2, h10⟩, hx⟩ := rgood_iff.1 hg
  refine ⟨hg, ?_⟩
  rw [befR_yes h]
  refine Nat.le_trans (befM_count zs (fun k => ?_) zs.length (by omega) _) ?_
  · by_cases hk : k < zs.length
    · rw [show zs.getD k 0 = zs[k] from by simp [List.getD, hk]]; exact (hx _ (List.getElem_mem hk)).1
    · rw [show zs.getD k 0 = 0 from by simp [List.getD, List.getElem?_eq_none (Nat.le_of_not_lt hk)]]; exact Int.le_refl _
  · exact Nat.le_trans (Nat.pow_le_pow_right (by omega) h10) (by decide)
theorem least_mn (x : List Int) : x.foldl min (x.getD 0 0) = mn x := by
  unfold mn; cases x <;> rfl
/-- Row k of the rings before. -/
theorem bef_row {zs : List Int} (h : rsmall zs = true) {k : Nat} (hk : k < (befR zs).length) {x : List Int} (hx : (befR zs).getD k [] = x) :
    rgood x = true ∧ rstepR x = zs ∧ x.length = zs.length ∧ x.foldl min (x.getD 0 0) = 0 ∧ 2 ≤ x.length ∧ x.length ≤ 10 := by
  have hm : x ∈ befR zs := by
    rw [← hx, show (befR zs).getD k [] = (befR zs)[k] from by simp [List.getD, hk]]; exact List.getElem_mem hk
  obtain ⟨h1, h2, h3, h4, _⟩ := before_of h hm
  obtain ⟨h5, h6, _⟩ := rgood_of h4
  exact ⟨h4, by rw [rstepR_yes h4]; exact h1, h2, by rw [least_mn]; exact h3, h5, h6⟩
theorem bef_even {zs : List Int} (h : rsmall zs = true) (h0 : 0 < (befR zs).length) : tot zs % 2 = 0 := (before_of h (List.getElem_mem h0)).2.2.2.2
theorem bef_less {zs : List Int} (h : rsmall zs = true) {k : Nat} (hk : k + 1 < (befR zs).length) : lexLt ((befR zs).getD k []) ((befR zs).getD (k + 1) []) = true := by
  have ho := befM_order zs zs.length (2 ^ zs.length)
  rw [← befR_yes h] at ho
  have := List.pairwise_iff_getElem.1 ho k (k + 1) (by omega) hk (by omega)
  rwa [show (befR zs).getD k [] = (befR zs)[k] from by simp [List.getD, show k < (befR zs).length by omega], show (befR zs).getD (k + 1) [] = (befR zs)[k + 1] from by simp [List.getD, hk]]
theorem lexLt_end {x y : List Int} {j : Nat} (hx : x.length ≤ j) (hy : y.length ≤ j) : lexLt (x.drop j) (y.drop j) = false := by
  rw [List.drop_of_length_le hx, List.drop_of_length_le hy]; rfl
theorem tot_bdR : ∀ l : List Int, (∀ x ∈ l, 0 ≤ x ∧ x ≤ 1000) → 0 ≤ tot l ∧ tot l ≤ 1000 * (l.length : Int)
  | [], _ => by simp [tot]
  | x :: l, h => by
    have h1 := h x (by simp)
    have h2 := tot_bdR l (fun y hy => h y (by simp [hy]))
    have e : tot (x :: l) = x + tot l := rfl
    rw [e, List.length_cons]
    omega
theorem tot_good {zs : List Int} (hg : rgood zs = true) : 0 ≤ tot zs ∧ tot zs ≤ 10000 ∧ within (-1000000000) 1000000000 zs = true := by
  obtain ⟨⟨h2, h10⟩, hx⟩ := rgood_iff.1 hg
  have := tot_bdR zs hx
  exact ⟨this.1, by omega, within_mem.2 fun x h => by have := hx x h; omega⟩
end Go.Proofs.Ytcbcgapnoompbaa
