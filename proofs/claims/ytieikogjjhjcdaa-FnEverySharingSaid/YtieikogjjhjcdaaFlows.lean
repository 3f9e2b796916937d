
/-
  SIZES, WHAT IS OVER, FLOWS, BOTH WAYS: l1Most, l1Abs, sizeOf, hpSize, sumOfSizes, hpOver, hpFlows, LineFlows.
-/
import Derived.Test.YtieikogjjhjcdaaSums
import Derived.Test.YtieikogjjhjcdaaPlainC
import Derived.Test.YtieikogjjhjcdaaOwn
import Derived.Test.YtieikogjjhjcdaaLaws0
import Derived.WalkLawsBesides
namespace Go.Proofs.Ytieikogjjhjcdaa
open Go.RowKit Go.Deep

/-- The program's sizeOf. -/
theorem sizeOf_any (a : Int) (h1 : -1000000000000000 ≤ a) (h2 : a ≤ 1000000000000000) (w : World) :
    Calls Try.prog 31 #[.int .i64 a] w fun e w' => e = .returned (.int .i64 (size1 a)) ∧ w = w' := by
  go_enter Try.func31, Try.ntmps31
  go_wp2_with fail
  all_goals
    go_ret
    exact ⟨ret_int (by unfold size1; split <;> omega), rfl⟩

/-- The program's sumOfSizes. -/
theorem sumOfSizes_any (A : Option Addr) (n c B : Nat) (zs : List Int) (w : World) (hr : Ints w B A n zs) (hn : n ≤ 1000000) (hb : within (-1000000000) 1000000000 zs = true) :
    Calls Try.prog 24 #[.slice A n c] w fun e w' => e = .returned (.int .i64 (sizes zs)) ∧ w = w' := by
  obtain rfl := hr.len
  go_enter Try.func24, Try.ntmps24
  go_wp2
  go_loop [3, 8] (fun s i => ∃ k : Nat, k ≤ zs.length ∧ i = .int .i64 k ∧ s = .int .i64 (sizes (zs.take k)))
    (fun _ i => zs.length - (intOf i).toNat)
  case atStart => exact ⟨0, Nat.zero_le _, rfl, rfl⟩
  case round =>
    obtain ⟨k, hk, rfl, rfl⟩ := hrel
    have hs := sizes_small hb (by omega) k
    by_cases hlt : k < zs.length
    · have Hs := hide (sizes_take_succ zs k hlt)
      have hk2 := within_get hb k hlt
      have hk3 := size1_bd hk2
      obtain ⟨ad, rfl, hab, hcell⟩ := hr.at_ hlt
      rw [show zs.getD k 0 = zs[k] from by simp [List.getD, List.getElem?_eq_getElem hlt]] at hcell
      go_wp2_with fail
      refine (sizeOf_any _ (by omega) (by omega) _).mono ?_; rintro e w' ⟨rfl, rfl⟩
      go_wp2_with fail
      go_round
      case rel => exact ⟨k + 1, by omega, by go_num, by rw [Hs.out]⟩
      case measure => simp [intOf]; omega
    · go_wp2
      go_ret
      exact ⟨ret_int (by rw [List.take_of_length_le (by omega)]), rfl⟩

/-- WHAT A CALL LEAVES THAT MAKES A LIST OF ITS OWN: the value of a slice whose numbers are zs, in new memory; nothing that was there has turned. -/
def Made (zs : List Int) (w : World) (e : Ending) (w' : World) : Prop :=
  ∃ A c, e = .returned (.slice A zs.length c) ∧ zs.length ≤ c ∧ c ≤ maxLen ∧ Own w' w.heap.size 3 (.slice A zs.length c) zs ∧ Below w.heap.size w w'

/-- The model's hpOver. -/
theorem hpOver_any (A : Option Addr) (n c B : Nat) (zs : List Int) (w : World) (hr : Ints w B A n zs) (hB : B ≤ w.heap.size) (hg : good zs = true) :
    Calls Try.prog 15 #[.slice A n c] w (Made (over zs) w) := by
  obtain rfl := hr.len
  have hgl := good_of hg
  have hle := hgl.2.1
  have hle1 := hgl.1
  have ht := good_tot hg
  have hsb := share_bd hg
  have HG := hide hg
  clear hgl
  go_enter Try.func15, Try.ntmps15
  go_wp2_with fail
  refine (hpSum_any _ _ _ _ _ _ hr (by omega) (good_small HG.out)).mono ?_; rintro e w' ⟨rfl, rfl⟩
  go_wp2_with fail
  go_loopw [4, 14] (fun v i wr => ∃ k : Nat, k ≤ zs.length ∧ i = .int .i64 k ∧ Own wr w.heap.size 3 v ((over zs).take k) ∧ Below w.heap.size w wr)
    (fun _ i _ => zs.length - (intOf i).toNat)
  case atStart => exact ⟨0, Nat.zero_le _, rfl, Own.nil _ _ _, Below.refl _ _⟩
  case round =>
    obtain ⟨k, hk, rfl, hown, hb⟩ := hrel
    by_cases hlt : k < zs.length
    · have Hs := hide (over_take_succ zs k hlt)
      have hk2 := good_get HG.out k hlt
      obtain ⟨ad, rfl, hab, hcell⟩ := (hr.below hb hB).at_ hlt
      rw [show zs.getD k 0 = zs[k] from by simp [List.getD, List.getElem?_eq_getElem hlt]] at hcell
      have hsz := hb.size
      have hll : ((over zs).take k).length < 1000000 := by rw [List.length_take, over_length]; omega
      go_wp2_with (at_builtin; refine wpList_app_int rfl _ _ 22 3 rfl Try.underlying22 infoInt w.heap.size _ _ rfl hown _ _ rfl hsz hll ?_; intro v' w' hown' hb')
      go_roundw
      case rel => exact ⟨k + 1, by omega, by go_num, by rw [Hs.out]; exact hown', hb.trans hb'⟩
      case measure => simp [intOf]; omega
    · go_wp2_with fail
      go_ret
      rw [List.take_of_length_le (by rw [over_length]; omega)] at hown
      obtain ⟨A', c', rfl, h1, h2⟩ := hown.shape
      exact ⟨A', c', rfl, h1, h2, hown, hb⟩

/-- THE SAME BESIDE A BOOL. -/
def MadeR (zs : List Int) (b : Bool) (w : World) (e : Ending) (w' : World) : Prop :=
  ∃ A c, e = .returned (.tuple #[.slice A zs.length c, .bool b]) ∧ zs.length ≤ c ∧ c ≤ maxLen ∧ Own w' w.heap.size 3 (.slice A zs.length c) zs ∧ Below w.heap.size w w'
theorem madeR_none {w w' : World} (h : Below w.heap.size w w') : MadeR [] false w (.returned (.tuple #[.slice none 0 0, .bool false])) w' :=
  ⟨none, 0, rfl, Nat.le_refl _, Nat.zero_le _, Own.nil _ _ _, h⟩
theorem madeR_below {zs : List Int} {b : Bool} {w w1 w2 : World} {e : Ending} (h : Below w.heap.size w w1) (h2 : MadeR zs b w1 e w2) : MadeR zs b w e w2 := by
  obtain ⟨A, c, he, h3, h4, hown, hb⟩ := h2
  exact ⟨A, c, he, h3, h4, hown.less h.size, below_next h hb⟩

/-- The program's LineFlows. -/
theorem LineFlows_any (A : Option Addr) (n c B : Nat) (zs : List Int) (w : World) (hr : Ints w B A n zs) (hB : B ≤ w.heap.size) (hn : n ≤ 17592186044416) :
    Calls Try.prog 9 #[.slice A n c] w (MadeR (flowsR zs) (eqOk zs) w) := by
  obtain rfl := hr.len
  cases hq : eqOk zs
  · rw [flowsR_no hq]
    have hqb : eqOk zs = false := hq
    go_enter Try.func9, Try.ntmps9
    go_wp2_with fail
    refine (to_below_drew (shareOfEach_any _ _ _ _ _ _ hr hn)).mono ?_; rintro e w' ⟨rfl, hb⟩; rw [hqb]
    go_wp2_with fail
    go_ret2
    exact madeR_none hb
  · rw [flowsR_yes hq]
    have hqb : eqOk zs = true := hq
    have hg := eqOk_good hqb
    have hle := (good_of hg).2.1
    have hle1 := (good_of hg).1
    have hsb := share_bd hg
    have HG := hide hg
    have HS := hide (shareEq_yes hqb)
    have HO := hide (over_length zs)
    have HF := hide (flows_length zs)
    clear hg
    have hmk := run_make_row' (P := Try.prog) 22 3 (.int .i64 0) 8 Try.underlying22 infoInt rfl .i64 .i64 (zs.length - 1) (by omega) (by omega)
    have hn1 : (zs.length : Int) - 1 = ((zs.length - 1 : Nat) : Int) := by omega
    go_enter Try.func9, Try.ntmps9
    go_wp2_with fail
    refine (to_below_drew (shareOfEach_any _ _ _ _ _ _ hr hn)).mono ?_; rintro e w1 ⟨rfl, hb1⟩; rw [hqb, HS.out]
    have hr1 := hr.below hb1 hB
    have hsz1 := hb1.size
    go_wp2_with fail
    go_loopw [7, 22] (fun s i wr => ∃ k : Nat, k ≤ zs.length - 1 ∧ i = .int .i64 k ∧ s = .int .i64 (tot ((over zs).take k)) ∧
        wr.rowIs w1.heap.size 3 (zs.length - 1) (fun j => if j < k then .int .i64 ((flows zs).getD j 0) else .int .i64 0) ∧ Below w1.heap.size w1 wr ∧ w1.heap.size < wr.heap.size)
      (fun _ i _ => (zs.length - 1) - (intOf i).toNat)
    case atStart => exact ⟨0, Nat.zero_le _, rfl, rfl, (World.rowIs_made w1 _ _ _).congr (fun i _ => by simp), (Below.refl _ _).alloc (Nat.le_refl _) _, by simp⟩
    case round =>
      obtain ⟨k, hk, rfl, rfl, hrow, hb, hs⟩ := hrel
      by_cases hlt : k < zs.length - 1
      · have Ht := hide (over_tot_succ zs k (by omega))
        have hk2 := over_tot_bd HG.out k
        have hk3 := over_tot_bd HG.out (k + 1)
        have hk4 := good_get HG.out k (by omega)
        rw [Ht.out] at hk3
        have Hf := hide (flows_get zs k hlt)
        obtain ⟨ad, rfl, hab, hcell⟩ := (hr1.below hb (by omega)).at_ (show k < zs.length by omega)
        rw [show zs.getD k 0 = zs[k] from by simp [List.getD, List.getElem?_eq_getElem (show k < zs.length by omega)]] at hcell
        have hold := hrow.cell hlt
        have hfz := hrow.frozen k
        go_wp2_with fail
        go_roundw
        case rel =>
          refine ⟨k + 1, by omega, by go_num, by rw [Ht.out], (hrow.set k _).congr (fun i hi => ?_), hb.setCell (Nat.le_refl _) _, by simpa using hs⟩
          by_cases e : i = k
          · subst e
            rw [if_pos rfl, if_pos (by omega)]
            simp only [List.getD, List.getElem?_eq_getElem (show i < (flows zs).length by rw [HF.out]; omega), Option.getD_some]
            rw [Hf.out, Ht.out]
          · simp [e, show (i < k + 1) ↔ i < k from by omega]
        case measure => simp [intOf]; omega
      · go_wp2_with fail
        go_ret2
        have hrow' : Row wr w1.heap.size 3 (flows zs) := by
          unfold Row; rw [HF.out]; exact hrow.congr (fun i hi => by rw [if_pos (by omega)])
        have ho := Own.of_row (base := w.heap.size) hrow' hsz1 (by rw [HF.out]; unfold maxLen; omega)
        refine ⟨some ⟨w1.heap.size, 0, none⟩, (flows zs).length, by rw [HF.out]; rfl, Nat.le_refl _, by rw [HF.out]; unfold maxLen; omega, ho, below_next hb1 hb⟩
end Go.Proofs.Ytieikogjjhjcdaa
