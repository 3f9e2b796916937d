
/-
  SIZES, WHAT IS OVER, FLOWS, BOTH WAYS: l1Most, l1Abs, sizeOf, hpSize, sumOfSizes, hpOver, hpFlows, LineFlows.
-/
import Derived.Test.YtmhnihdgggblmaaSums
import Derived.Test.YtmhnihdgggblmaaPlainC
import Derived.Test.YtmhnihdgggblmaaOwn
import Derived.Test.YtmhnihdgggblmaaLaws0
import Derived.WalkLawsBesides
namespace Go.Proofs.Ytmhnihdgggblmaa
open Go.RowKit Go.Deep

/-- The model's l1Most. -/
theorem l1Most_any (a b : Int) (w : World) :
    Calls Try.prog 58 #[.int .i64 a, .int .i64 b] w fun e w' => e = .returned (.int .i64 (max a b)) ∧ w = w' := by
  by_cases h : b < a
  all_goals
    go_enter Try.func58, Try.ntmps58
    go_wp2
    go_ret
    exact ⟨ret_int (by omega), rfl⟩

/-- WHAT A CALL LEAVES THAT MAKES A LIST OF ITS OWN: the value of a slice whose numbers are zs, in new memory; nothing that was there has turned. -/
def Made (zs : List Int) (w : World) (e : Ending) (w' : World) : Prop :=
  ∃ A c, e = .returned (.slice A zs.length c) ∧ zs.length ≤ c ∧ c ≤ maxLen ∧ Own w' w.heap.size 3 (.slice A zs.length c) zs ∧ Below w.heap.size w w'

/-- The model's hpOver. -/
theorem hpOver_any (A : Option Addr) (n c B : Nat) (zs : List Int) (w : World) (hr : Ints w B A n zs) (hB : B ≤ w.heap.size) (hg : good zs = true) :
    Calls Try.prog 57 #[.slice A n c] w (Made (over zs) w) := by
  obtain rfl := hr.len
  have hgl := good_of hg
  have hle := hgl.2.1
  have hle1 := hgl.1
  have ht := good_tot hg
  have hsb := share_bd hg
  have HG := hide hg
  clear hgl
  go_enter Try.func57, Try.ntmps57
  go_wp2_with fail
  refine (hpSum_any _ _ _ _ _ _ hr (by omega) (good_small HG.out)).mono ?_; rintro e w' ⟨rfl, rfl⟩
  go_wp2_with fail
  go_loopw [4, 14] (fun v i wr => ∃ k : Nat, k ≤ zs.length ∧ i = .int .i64 k ∧ Own wr w.heap.size 3 v ((over zs).take k) ∧ Below w.heap.size w wr)
    (fun _ i _ => zs.length - (intOf i).toNat)
  case atStart => exact ⟨0, Nat.zero_le _, rfl, Own.nil _ _ _, Below.refl _ _⟩
  case round =>
    obtain ⟨k, hk, rfl, hown, hb⟩ := hrel
    by_cases hlt : k < zs.length
    · have Hs := hide (over_take_succ zs k hlt)
      have hk2 := good_get HG.out k hlt
      obtain ⟨ad, rfl, hab, hcell⟩ := (hr.below hb hB).at_ hlt
      rw [show zs.getD k 0 = zs[k] from by simp [List.getD, List.getElem?_eq_getElem hlt]] at hcell
      have hsz := hb.size
      have hll : ((over zs).take k).length < 1000000 := by rw [List.length_take, over_length]; omega
      go_wp2_with (at_builtin; refine wpList_app_int rfl _ _ 38 3 rfl Try.underlying38 infoInt w.heap.size _ _ rfl hown _ _ rfl hsz hll ?_; intro v' w' hown' hb')
      go_roundw
      case rel => exact ⟨k + 1, by omega, by go_num, by rw [Hs.out]; exact hown', hb.trans hb'⟩
      case measure => simp [intOf]; omega
    · go_wp2_with fail
      go_ret
      rw [List.take_of_length_le (by rw [over_length]; omega)] at hown
      obtain ⟨A', c', rfl, h1, h2⟩ := hown.shape
      exact ⟨A', c', rfl, h1, h2, hown, hb⟩

/-- THE SAME BESIDE A BOOL. -/
def MadeR (zs : List Int) (b : Bool) (w : World) (e : Ending) (w' : World) : Prop :=
  ∃ A c, e = .returned (.tuple #[.slice A zs.length c, .bool b]) ∧ zs.length ≤ c ∧ c ≤ maxLen ∧ Own w' w.heap.size 3 (.slice A zs.length c) zs ∧ Below w.heap.size w w'
theorem madeR_none {w w' : World} (h : Below w.heap.size w w') : MadeR [] false w (.returned (.tuple #[.slice none 0 0, .bool false])) w' :=
  ⟨none, 0, rfl, Nat.le_refl _, Nat.zero_le _, Own.nil _ _ _, h⟩
theorem madeR_below {zs : List Int} {b : Bool} {w w1 w2 : World} {e : Ending} (h : Below w.heap.size w w1) (h2 : MadeR zs b w1 e w2) : MadeR zs b w e w2 := by
  obtain ⟨A, c, he, h3, h4, hown, hb⟩ := h2
  exact ⟨A, c, he, h3, h4, hown.less h.size, below_next h hb⟩

end Go.Proofs.Ytmhnihdgggblmaa
