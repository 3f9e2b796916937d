import Derived.Test.YtediapekgbekeaaMg09
import Derived.Test.YtediapekgbekeaaMg11
import Derived.Test.YtediapekgbekeaaMg06
import Derived.Test.YtediapekgbekeaaMg03
import Derived.WalkLawsBesides
import Derived.Test.YtediapekgbekeaaMg01
import Derived.WalkSpells

/-
  SIZES, WHAT IS OVER, FLOWS, BOTH WAYS: l1Most, l1Abs, sizeOf, hpSize, sumOfSizes, hpOver, hpFlows, LineFlows.
-/
namespace Go.Proofs.Ytediapekgbekeaa
open Go.RowKit Go.Deep

/-- The model's l1Most. -/
theorem l1Most_any (a b : Int) (w : World) :
    Calls Try.prog 41 #[.int .i64 a, .int .i64 b] w fun e w' => e = .returned (.int .i64 (max a b)) ∧ w = w' := by
  by_cases h : b < a
  all_goals
    go_enter Try.func41, Try.ntmps41
    go_wp2
    go_ret
    exact ⟨ret_int (by omega), rfl⟩

/-- The model's l1Abs. -/
theorem l1Abs_any (a : Int) (h1 : -1000000000000000 ≤ a) (h2 : a ≤ 1000000000000000) (w : World) :
    Calls Try.prog 51 #[.int .i64 a] w fun e w' => e = .returned (.int .i64 (size1 a)) ∧ w = w' := by
  have H := hide (show max a (-a) = size1 a from by unfold size1; split <;> omega)
  go_enter Try.func51, Try.ntmps51
  go_wp2_with fail
  refine (l1Most_any _ _ _).mono ?_; rintro e w' ⟨rfl, rfl⟩; rw [H.out]
  go_wp2_with fail
  go_ret
  exact ⟨rfl, rfl⟩

/-- The program's sizeOf. -/
theorem sizeOf_any (a : Int) (h1 : -1000000000000000 ≤ a) (h2 : a ≤ 1000000000000000) (w : World) :
    Calls Try.prog 50 #[.int .i64 a] w fun e w' => e = .returned (.int .i64 (size1 a)) ∧ w = w' := by
  go_enter Try.func50, Try.ntmps50
  go_wp2_with fail
  all_goals
    go_ret
    exact ⟨ret_int (by unfold size1; split <;> omega), rfl⟩

/-- The model's hpSize. -/
theorem hpSize_any (A : Option Addr) (n c B : Nat) (zs : List Int) (w : World) (hr : Ints w B A n zs) (hn : n ≤ 1000000) (hb : within (-1000000000) 1000000000 zs = true) :
    Calls Try.prog 45 #[.slice A n c] w fun e w' => e = .returned (.int .i64 (sizes zs)) ∧ w = w' := by
  obtain rfl := hr.len
  go_enter Try.func45, Try.ntmps45
  go_wp2
  go_loop [3, 8] (fun s i => ∃ k : Nat, k ≤ zs.length ∧ i = .int .i64 k ∧ s = .int .i64 (sizes (zs.take k)))
    (fun _ i => zs.length - (intOf i).toNat)
  case atStart => exact ⟨0, Nat.zero_le _, rfl, rfl⟩
  case round =>
    obtain ⟨k, hk, rfl, rfl⟩ := hrel
    have hs := sizes_small hb (by omega) k
    by_cases hlt : k < zs.length
    · have Hs := hide (sizes_take_succ zs k hlt)
      have hk2 := within_get hb k hlt
      have hk3 := size1_bd hk2
      obtain ⟨ad, rfl, hab, hcell⟩ := hr.at_ hlt
      rw [show zs.getD k 0 = zs[k] from by simp [List.getD, List.getElem?_eq_getElem hlt]] at hcell
      go_wp2_with fail
      refine (l1Abs_any _ (by omega) (by omega) _).mono ?_; rintro e w' ⟨rfl, rfl⟩
      go_wp2_with fail
      go_round
      case rel => exact ⟨k + 1, by omega, by go_num, by rw [Hs.out]⟩
      case measure => simp [intOf]; omega
    · go_wp2
      go_ret
      exact ⟨ret_int (by rw [List.take_of_length_le (by omega)]), rfl⟩

/-- The program's sumOfSizes. -/
theorem sumOfSizes_any (A : Option Addr) (n c B : Nat) (zs : List Int) (w : World) (hr : Ints w B A n zs) (hn : n ≤ 1000000) (hb : within (-1000000000) 1000000000 zs = true) :
    Calls Try.prog 44 #[.slice A n c] w fun e w' => e = .returned (.int .i64 (sizes zs)) ∧ w = w' := by
  obtain rfl := hr.len
  go_enter Try.func44, Try.ntmps44
  go_wp2
  go_loop [3, 8] (fun s i => ∃ k : Nat, k ≤ zs.length ∧ i = .int .i64 k ∧ s = .int .i64 (sizes (zs.take k)))
    (fun _ i => zs.length - (intOf i).toNat)
  case atStart => exact ⟨0, Nat.zero_le _, rfl, rfl⟩
  case round =>
    obtain ⟨k, hk, rfl, rfl⟩ := hrel
    have hs := sizes_small hb (by omega) k
    by_cases hlt : k < zs.length
    · have Hs := hide (sizes_take_succ zs k hlt)
      have hk2 := within_get hb k hlt
      have hk3 := size1_bd hk2
      obtain ⟨ad, rfl, hab, hcell⟩ := hr.at_ hlt
      rw [show zs.getD k 0 = zs[k] from by simp [List.getD, List.getElem?_eq_getElem hlt]] at hcell
      go_wp2_with fail
      refine (sizeOf_any _ (by omega) (by omega) _).mono ?_; rintro e w' ⟨rfl, rfl⟩
      go_wp2_with fail
      go_round
      case rel => exact ⟨k + 1, by omega, by go_num, by rw [Hs.out]⟩
      case measure => simp [intOf]; omega
    · go_wp2
      go_ret
      exact ⟨ret_int (by rw [List.take_of_length_le (by omega)]), rfl⟩

/-- WHAT A CALL LEAVES THAT MAKES A LIST OF ITS OWN: the value of a slice whose numbers are zs, in new memory; nothing that was there has turned. -/
def Made (zs : List Int) (w : World) (e : Ending) (w' : World) : Prop :=
  ∃ A c, e = .returned (.slice A zs.length c) ∧ zs.length ≤ c ∧ c ≤ maxLen ∧ Own w' w.heap.size 3 (.slice A zs.length c) zs ∧ Below w.heap.size w w'

/-- The model's hpOver. -/
theorem hpOver_any (A : Option Addr) (n c B : Nat) (zs : List Int) (w : World) (hr : Ints w B A n zs) (hB : B ≤ w.heap.size) (hg : good zs = true) :
    Calls Try.prog 38 #[.slice A n c] w (Made (over zs) w) := by
  obtain rfl := hr.len
  have hgl := good_of hg
  have hle := hgl.2.1
  have hle1 := hgl.1
  have ht := good_tot hg
  have hsb := share_bd hg
  have HG := hide hg
  clear hgl
  go_enter Try.func38, Try.ntmps38
  go_wp2_with fail
  refine (hpSum_any _ _ _ _ _ _ hr (by omega) (good_small HG.out)).mono ?_; rintro e w' ⟨rfl, rfl⟩
  go_wp2_with fail
  go_loopw [4, 14] (fun v i wr => ∃ k : Nat, k ≤ zs.length ∧ i = .int .i64 k ∧ Own wr w.heap.size 3 v ((over zs).take k) ∧ Below w.heap.size w wr)
    (fun _ i _ => zs.length - (intOf i).toNat)
  case atStart => exact ⟨0, Nat.zero_le _, rfl, Own.nil _ _ _, Below.refl _ _⟩
  case round =>
    obtain ⟨k, hk, rfl, hown, hb⟩ := hrel
    by_cases hlt : k < zs.length
    · have Hs := hide (over_take_succ zs k hlt)
      have hk2 := good_get HG.out k hlt
      obtain ⟨ad, rfl, hab, hcell⟩ := (hr.below hb hB).at_ hlt
      rw [show zs.getD k 0 = zs[k] from by simp [List.getD, List.getElem?_eq_getElem hlt]] at hcell
      have hsz := hb.size
      have hll : ((over zs).take k).length < 1000000 := by rw [List.length_take, over_length]; omega
      go_wp2_with (at_builtin; refine wpList_app_int rfl _ _ 24 3 rfl Try.underlying24 infoInt w.heap.size _ _ rfl hown _ _ rfl hsz hll ?_; intro v' w' hown' hb')
      go_roundw
      case rel => exact ⟨k + 1, by omega, by go_num, by rw [Hs.out]; exact hown', hb.trans hb'⟩
      case measure => simp [intOf]; omega
    · go_wp2_with fail
      go_ret
      rw [List.take_of_length_le (by rw [over_length]; omega)] at hown
      obtain ⟨A', c', rfl, h1, h2⟩ := hown.shape
      exact ⟨A', c', rfl, h1, h2, hown, hb⟩

/-- The model's hpFlows. -/
theorem hpFlows_any (A : Option Addr) (n c B : Nat) (zs : List Int) (w : World) (hr : Ints w B A n zs) (hB : B ≤ w.heap.size) (hg : good zs = true) :
    Calls Try.prog 46 #[.slice A n c] w (Made (flows zs) w) := by
  obtain rfl := hr.len
  have hle := (good_of hg).2.1
  have hle1 := (good_of hg).1
  have HG := hide hg
  have HO := hide (over_length zs)
  go_enter Try.func46, Try.ntmps46
  go_wp2_with fail
  refine (hpOver_any _ _ _ _ _ _ hr hB hg).mono ?_
  clear hg
  rintro e w1 ⟨A', c', rfl, hc1, hc2, hown1, hb1⟩
  obtain ⟨g, rfl, hg1, hg2⟩ := hown1.head (by rw [HO.out]; omega)
  have hx := hown1.ints
  rw [HO.out] at hx hc1 hown1 ⊢
  have hsz1 := hb1.size
  have hn1 : (zs.length : Int) - 1 = ((zs.length - 1 : Nat) : Int) := by omega
  go_wp2_with fail
  go_loopw [3, 4, 16] (fun v s i wr => ∃ k : Nat, k ≤ zs.length - 1 ∧ i = .int .i64 k ∧ s = .int .i64 (tot ((over zs).take k)) ∧ Own wr w1.heap.size 3 v ((flows zs).take k) ∧ Below w1.heap.size w1 wr)
    (fun _ _ i _ => (zs.length - 1) - (intOf i).toNat)
  case atStart => exact ⟨0, Nat.zero_le _, rfl, rfl, Own.nil _ _ _, Below.refl _ _⟩
  case round =>
    obtain ⟨k, hk, rfl, rfl, hown, hb⟩ := hrel
    by_cases hlt : k < zs.length - 1
    · have Hs := hide (flows_take_succ zs k hlt)
      have Ht := hide (over_tot_succ zs k (by omega))
      have hk2 := over_tot_bd HG.out k
      have hk3 := over_tot_bd HG.out (k + 1)
      rw [Ht.out] at hk3
      obtain ⟨ad, had, hab, hcell⟩ := (hx.below hb (Nat.le_refl _)).at_ (show k < zs.length by omega)
      obtain rfl : ad = ⟨g, 0, none⟩ := by injection had with h; exact h.symm
      clear had
      rw [add_head, show (over zs).getD k 0 = zs[k] - tot zs / zs.length from by simp [List.getD, List.getElem?_eq_getElem (show k < (over zs).length by rw [HO.out]; omega), over_get zs k (by omega)]] at hcell
      have hsz := hb.size
      have hll : ((flows zs).take k).length < 1000000 := by rw [List.length_take, flows_length]; omega
      go_wp2_with (at_builtin; refine wpList_app_int rfl _ _ 24 3 rfl Try.underlying24 infoInt w1.heap.size _ _ rfl hown _ _ rfl hsz hll ?_; intro v' w' hown' hb')
      go_roundw
      case rel => exact ⟨k + 1, by omega, by go_num, by rw [Ht.out], by rw [Hs.out, Ht.out]; exact hown', hb.trans hb'⟩
      case measure => simp [intOf]; omega
    · go_wp2_with fail
      go_ret
      rw [List.take_of_length_le (by rw [flows_length]; omega)] at hown
      obtain ⟨A', c', rfl, h1, h2⟩ := hown.shape
      exact ⟨A', c', rfl, h1, h2, hown.less hsz1, below_next hb1 hb⟩

/-- THE SAME BESIDE A BOOL. -/
def MadeR (zs : List Int) (b : Bool) (w : World) (e : Ending) (w' : World) : Prop :=
  ∃ A c, e = .returned (.tuple #[.slice A zs.length c, .bool b]) ∧ zs.length ≤ c ∧ c ≤ maxLen ∧ Own w' w.heap.size 3 (.slice A zs.length c) zs ∧ Below w.heap.size w w'
theorem madeR_none {w w' : World} (h : Below w.heap.size w w') : MadeR [] false w (.returned (.tuple #[.slice none 0 0, .bool false])) w' :=
  ⟨none, 0, rfl, Nat.le_refl _, Nat.zero_le _, Own.nil _ _ _, h⟩
theorem madeR_below {zs : List Int} {b : Bool} {w w1 w2 : World} {e : Ending} (h : Below w.heap.size w w1) (h2 : MadeR zs b w1 e w2) : MadeR zs b w e w2 := by
  obtain ⟨A, c, he, h3, h4, hown, hb⟩ := h2
  exact ⟨A, c, he, h3, h4, hown.less h.size, below_next h hb⟩

/-- The model's LineFlows. -/
theorem specLineFlows_any (A : Option Addr) (n c B : Nat) (zs : List Int) (w : World) (hr : Ints w B A n zs) (hB : B ≤ w.heap.size) (hn : n ≤ 17592186044416) :
    Calls Try.prog 15 #[.slice A n c] w (MadeR (flowsR zs) (eqOk zs) w) := by
  obtain rfl := hr.len
  cases hq : eqOk zs
  · rw [flowsR_no hq]
    have hqb : eqOk zs = false := hq
    go_enter Try.func15, Try.ntmps15
    go_wp2_with fail
    refine (hpEqual_any _ _ _ _ _ _ hr hn).mono ?_; rintro e w' ⟨rfl, rfl⟩; rw [hqb]
    go_wp2_with fail
    go_ret2
    exact madeR_none (Below.refl _ _)
  · rw [flowsR_yes hq]
    have hqb : eqOk zs = true := hq
    go_enter Try.func15, Try.ntmps15
    go_wp2_with fail
    refine (hpEqual_any _ _ _ _ _ _ hr hn).mono ?_; rintro e w' ⟨rfl, rfl⟩; rw [hqb]
    go_wp2_with fail
    refine (hpFlows_any _ _ _ _ _ _ hr hB (eqOk_good hqb)).mono ?_
    rintro e w1 ⟨A', c', rfl, h1, h2, hown, hb⟩
    go_wp2_with fail
    go_ret2
    exact ⟨A', c', rfl, h1, h2, hown, hb⟩

/-- The program's LineFlows. -/
theorem LineFlows_any (A : Option Addr) (n c B : Nat) (zs : List Int) (w : World) (hr : Ints w B A n zs) (hB : B ≤ w.heap.size) (hn : n ≤ 17592186044416) :
    Calls Try.prog 14 #[.slice A n c] w (MadeR (flowsR zs) (eqOk zs) w) := by
  obtain rfl := hr.len
  cases hq : eqOk zs
  · rw [flowsR_no hq]
    have hqb : eqOk zs = false := hq
    go_enter Try.func14, Try.ntmps14
    go_wp2_with fail
    refine (to_below_drew (shareOfEach_any _ _ _ _ _ _ hr hn)).mono ?_; rintro e w' ⟨rfl, hb⟩; rw [hqb]
    go_wp2_with fail
    go_ret2
    exact madeR_none hb
  · rw [flowsR_yes hq]
    have hqb : eqOk zs = true := hq
    have hg := eqOk_good hqb
    have hle := (good_of hg).2.1
    have hle1 := (good_of hg).1
    have hsb := share_bd hg
    have HG := hide hg
    have HS := hide (shareEq_yes hqb)
    have HO := hide (over_length zs)
    have HF := hide (flows_length zs)
    clear hg
    have hmk := run_make_row' (P := Try.prog) 24 3 (.int .i64 0) 8 Try.underlying24 infoInt rfl .i64 .i64 (zs.length - 1) (by omega) (by omega)
    have hn1 : (zs.length : Int) - 1 = ((zs.length - 1 : Nat) : Int) := by omega
    go_enter Try.func14, Try.ntmps14
    go_wp2_with fail
    refine (to_below_drew (shareOfEach_any _ _ _ _ _ _ hr hn)).mono ?_; rintro e w1 ⟨rfl, hb1⟩; rw [hqb, HS.out]
    have hr1 := hr.below hb1 hB
    have hsz1 := hb1.size
    go_wp2_with fail
    go_loopw [7, 22] (fun s i wr => ∃ k : Nat, k ≤ zs.length - 1 ∧ i = .int .i64 k ∧ s = .int .i64 (tot ((over zs).take k)) ∧
        wr.rowIs w1.heap.size 3 (zs.length - 1) (fun j => if j < k then .int .i64 ((flows zs).getD j 0) else .int .i64 0) ∧ Below w1.heap.size w1 wr ∧ w1.heap.size < wr.heap.size)
      (fun _ i _ => (zs.length - 1) - (intOf i).toNat)
    case atStart => exact ⟨0, Nat.zero_le _, rfl, rfl, (World.rowIs_made w1 _ _ _).congr (fun i _ => by simp), (Below.refl _ _).alloc (Nat.le_refl _) _, by simp⟩
    case round =>
      obtain ⟨k, hk, rfl, rfl, hrow, hb, hs⟩ := hrel
      by_cases hlt : k < zs.length - 1
      · have Ht := hide (over_tot_succ zs k (by omega))
        have hk2 := over_tot_bd HG.out k
        have hk3 := over_tot_bd HG.out (k + 1)
        have hk4 := good_get HG.out k (by omega)
        rw [Ht.out] at hk3
        have Hf := hide (flows_get zs k hlt)
        obtain ⟨ad, rfl, hab, hcell⟩ := (hr1.below hb (by omega)).at_ (show k < zs.length by omega)
        rw [show zs.getD k 0 = zs[k] from by simp [List.getD, List.getElem?_eq_getElem (show k < zs.length by omega)]] at hcell
        have hold := hrow.cell hlt
        have hfz := hrow.frozen k
        go_wp2_with fail
        go_roundw
        case rel =>
          refine ⟨k + 1, by omega, by go_num, by rw [Ht.out], (hrow.set k _).congr (fun i hi => ?_), hb.setCell (Nat.le_refl _) _, by simpa using hs⟩
          by_cases e : i = k
          · subst e
            rw [if_pos rfl, if_pos (by omega)]
            simp only [List.getD, List.getElem?_eq_getElem (show i < (flows zs).length by rw [HF.out]; omega), Option.getD_some]
            rw [Hf.out, Ht.out]
          · simp [e, show (i < k + 1) ↔ i < k from by omega]
        case measure => simp [intOf]; omega
      · go_wp2_with fail
        go_ret2
        have hrow' : Row wr w1.heap.size 3 (flows zs) := by
          unfold Row; rw [HF.out]; exact hrow.congr (fun i hi => by rw [if_pos (by omega)])
        have ho := Own.of_row (base := w.heap.size) hrow' hsz1 (by rw [HF.out]; unfold maxLen; omega)
        refine ⟨some ⟨w1.heap.size, 0, none⟩, (flows zs).length, by rw [HF.out]; rfl, Nat.le_refl _, by rw [HF.out]; unfold maxLen; omega, ho, below_next hb1 hb⟩
end Go.Proofs.Ytediapekgbekeaa

/-
  COPIES OF A LIST BY append([]int{}, l...): the model's l1Own, slices.Clone. And 'append(l, 0)' onto a list of the call's own, a constant laid.
-/
namespace Go.Proofs.Ytediapekgbekeaa
open Go.RowKit Go.Deep

section
variable {P : Program}
/-- 'append([]int{}, l...)', l not empty. -/
theorem wpList_app_list {wr : World} {ops : Array Oper} {rest : List Oper} {o : Oper} {a : Act} {Q : Exit → Act → World → Prop} (hgd : o.guard = none) (s x : Operand) (t e : TypeId)
    (ho : o.op = .call { callee := .builtin .append, args := #[s, x], argTypes := #[t, t] }) (ht : P.underlying t = some (.slice e))
    (hinfo : (P.info? e).map (fun i => (i.zero, i.size, i.bytes)) = some (some (.int .i64 0), 1, 8))
    (hs : a.eval s = .slice (some ⟨wr.heap.size, 0, none⟩) 0 0) (ad : Addr) (m c B : Nat) (zs : List Int) (hx : a.eval x = .slice (some ad) m c) (hr : Ints wr B (some ad) m zs) (hB : B ≤ wr.heap.size)
    (hlen : m < 10000000)
    (h : ∀ v' w', Own w' wr.heap.size e v' zs → Below wr.heap.size wr w' → wpList P ops Q rest (a.put o.dst v') w') :
    wpList P ops Q (o :: rest) a (wr.alloc (.cells #[] e)) := by
  obtain rfl := hr.len
  obtain ⟨i0, hi, hz0, hz1, hz2⟩ := info_parts hinfo
  have hown : (wr.alloc (.cells #[] e)).ownsRow wr.heap.size e 1 (.slice (some ⟨wr.heap.size, 0, none⟩) 0 0) 0 [] :=
    World.ownsRow_lit wr #[] 0 (Nat.le_refl _) (Nat.zero_le _) (by simp)
  refine wpList_append_own _ hgd s x t ho wr.heap.size e i0 (.int .i64 0) 1 8 ht hi hz0 hz1 hz2 rfl (by decide) _ 0 [] hs hown
    ad zs.length c (zs.map (Value.int .i64)) hx (by simp) ?_ ?_ (by unfold maxLen; omega) (by omega) (by simp) ?_
  · intro j u hj
    rw [List.getElem?_map] at hj
    have hlt : j < zs.length := by
      rcases Nat.lt_or_ge j zs.length with h1 | h1
      · exact h1
      · rw [List.getElem?_eq_none h1] at hj; cases hj
    rw [List.getElem?_eq_getElem hlt] at hj
    simp at hj
    subst hj
    obtain ⟨ad', had, _, hc⟩ := (hr.alloc hB (.cells #[] e)).at_ hlt
    obtain rfl : ad' = ad := by injection had with h; exact h.symm
    rw [hc]
    simp [List.getD, List.getElem?_eq_getElem hlt]
  · intro u hu
    rw [List.mem_map] at hu
    obtain ⟨z, _, rfl⟩ := hu
    rfl
  · intro v' w' h1 h2 _
    refine h v' w' (by simpa [Own] using h1) ?_
    refine (((Below.refl wr.heap.size wr).alloc (Nat.le_refl _) _).grown h2 (by simp) ?_)
    intro k hk
    exact (World.ownsRow.lt hown k hk).1
end

/-- WHAT A COPY LEAVES. -/
def Made1 (zs : List Int) (w : World) (e : Ending) (w' : World) : Prop :=
  ∃ g c, e = .returned (.slice (some ⟨g, 0, none⟩) zs.length c) ∧ w.heap.size ≤ g ∧ g < w'.heap.size ∧ zs.length ≤ c ∧ c ≤ maxLen ∧ Own w' w.heap.size 3 (.slice (some ⟨g, 0, none⟩) zs.length c) zs ∧ Below w.heap.size w w'

theorem made1_of {zs : List Int} {w w' : World} {v : Value} (h0 : 0 < zs.length) (hown : Own w' w.heap.size 3 v zs) (hb : Below w.heap.size w w') : Made1 zs w (.returned v) w' := by
  rcases hown.form with ⟨_, rfl⟩ | ⟨g, c, rfl, h1, h2, h3, h4⟩
  · simp at h0
  · exact ⟨g, c, rfl, h1, h2, h3, h4, hown, hb⟩

/-- The model's l1Own. -/
theorem l1Own_any (A : Option Addr) (n c B : Nat) (zs : List Int) (w : World) (hr : Ints w B A n zs) (hB : B ≤ w.heap.size) (h0 : 0 < n) (hn : n < 1000000) :
    Calls Try.prog 62 #[.slice A n c] w (Made1 zs w) := by
  obtain rfl := hr.len
  obtain ⟨ad, rfl, hab, _⟩ := hr.at_ h0
  go_enter Try.func62, Try.ntmps62
  go_wp2_with (at_builtin; refine wpList_app_list rfl _ _ 24 3 rfl Try.underlying24 infoInt rfl ad _ _ B zs rfl hr hB (by omega) ?_; intro v' w' hown' hb')
  go_ret
  exact made1_of h0 hown' hb'

/-- slices.Clone of a list that is not empty. -/
theorem Clone_any (A : Option Addr) (n c B : Nat) (zs : List Int) (w : World) (hr : Ints w B A n zs) (hB : B ≤ w.heap.size) (h0 : 0 < n) (hn : n < 1000000) :
    Calls Try.prog 48 #[.slice A n c] w (Made1 zs w) := by
  obtain rfl := hr.len
  obtain ⟨ad, rfl, hab, _⟩ := hr.at_ h0
  have he := fun w => Lib.run_eql_slice_nil (P := Try.prog) w 24 3 (some ad) zs.length c 0 0 Try.underlying24
  go_enter Try.func48, Try.ntmps48
  go_wp2_with (at_builtin; refine wpList_app_list rfl _ _ 24 3 rfl Try.underlying24 infoInt rfl ad _ _ B zs rfl hr hB (by omega) ?_; intro v' w' hown' hb')
  go_ret
  exact made1_of h0 hown' hb'
end Go.Proofs.Ytediapekgbekeaa
