
/-
  THE HEAPS LESS THEIR SHARE: their sum is 0, their bounds, plainly.
-/
import Derived.Test.YtieikogjjhjcdaaShare
import Derived.Test.YtieikogjjhjcdaaShareC
namespace Go.Proofs.Ytieikogjjhjcdaa

theorem sum_exc (s : Int) : ∀ (ys : List Int), (exc s ys).sum = tot ys - s * ys.length
  | [] => by simp [exc, tot]
  | y :: ys => by
    have ih := sum_exc s ys
    unfold exc at ih ⊢
    rw [List.map_cons, List.sum_cons, ih]
    simp only [tot, List.length_cons]
    rw [Int.natCast_add, Int.mul_add]
    simp
    omega
theorem over_exc {zs : List Int} (h : eqOk zs = true) : over zs = exc (shareEq zs) zs := by rw [shareEq_yes h]; rfl
theorem over_sum {zs : List Int} (h : eqOk zs = true) : (over zs).sum = 0 := by
  rw [over_exc h, sum_exc, shareEq_yes h]
  have hm := eqOk_yes (eqOk_good h)
  rw [h] at hm
  have hm : tot zs % zs.length = 0 := by simpa using hm.symm
  have := Int.mul_ediv_add_emod (tot zs) zs.length
  rw [Int.mul_comm] at this
  omega
theorem shareEq_bd {zs : List Int} (h : eqOk zs = true) : 0 ≤ shareEq zs ∧ shareEq zs ≤ 1000 := by
  have hg := eqOk_good h
  rw [shareEq_yes h]
  obtain ⟨h1, h2, h3⟩ := good_of hg
  have ht := tot_bd _ _ _ h3
  have hz := good_tot hg
  refine ⟨Int.ediv_nonneg hz.1 (by omega), ?_⟩
  have hp : (0 : Int) < zs.length := by omega
  exact Int.le_of_lt_add_one (Int.ediv_lt_of_lt_mul hp (by omega))
theorem over_bd1000 {zs : List Int} (h : eqOk zs = true) : bd (over zs) := by
  intro k hk
  have hk' : k < zs.length := by rw [over_length] at hk; exact hk
  have hg := good_get (eqOk_good h) k hk'
  have hs := shareEq_bd h
  rw [shareEq_yes h] at hs
  rw [over_get zs k hk']
  omega
end Go.Proofs.Ytieikogjjhjcdaa
