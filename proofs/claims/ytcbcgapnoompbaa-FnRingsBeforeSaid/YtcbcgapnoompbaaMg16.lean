import Derived.Test.YtcbcgapnoompbaaMg10
import Derived.Test.YtcbcgapnoompbaaMg15
import Derived.Sort.OwnSortedInts
import Derived.Test.YtcbcgapnoompbaaMg14
import Derived.Lib.AppendZeros
import Derived.StillTailTactics
import Derived.Deep.RegionWith

/-
  A CIRCLE TOLD FROM THE LAST ONE ON, BOTH WAYS: slices.Reverse, the model's cyMirror, MirrorCircle.
-/
namespace Go.Proofs.Ytcbcgapnoompbaa
open Go.RowKit Go.Deep Go.Sort

theorem Own.rowOf {w : World} {base g n c : Nat} {e : TypeId} {zs : List Int} (h : Own w base e (.slice (some ⟨g, 0, none⟩) n c) zs) :
    n = zs.length ∧ ∃ cur, base ≤ g ∧ w.heap[g]? = some (.cells cur e (0, 0)) ∧ zs.length ≤ c ∧ c ≤ maxLen ∧ cur.size = c * 1 ∧ cur.toList.take zs.length = zs.map (Value.int .i64) := by
  rcases h.2 with ⟨h1, _⟩ | ⟨g', c', cur, h1, hb, hg, hn, hm, hs, ht⟩
  · cases h1
  · cases h1
    exact ⟨rfl, cur, hb, hg, hn, hm, hs, by simpa using ht⟩

/-- WHAT slices.Reverse LEAVES of a list of the call's own. -/
def Reversed (base g n c : Nat) (zs : List Int) (w : World) (e : Ending) (w' : World) : Prop :=
  e = .returned (.tuple #[]) ∧ Own w' base 3 (.slice (some ⟨g, 0, none⟩) n c) zs.reverse ∧ Below base w w' ∧ g < w'.heap.size ∧ ∀ h, h < w.heap.size → h ≠ g → w'.heap[h]? = w.heap[h]?

theorem Reverse_any (base g n c : Nat) (zs : List Int) (w : World) (hown : Own w base 3 (.slice (some ⟨g, 0, none⟩) n c) zs) (hn : n ≤ 1000000) :
    Calls Try.prog 74 #[.slice (some ⟨g, 0, none⟩) n c] w (Reversed base g n c zs w) := by
  obtain ⟨rfl, cur, hb, hg, hnc, hm, hs, ht⟩ := hown.rowOf
  have hlt : g < w.heap.size := (Array.getElem?_eq_some_iff.1 hg).1
  refine (Try.slices_Reverse_int g 0 c zs w (holds_of_blockI hg ht) (by omega)).mono ?_
  rintro e w' ⟨rfl, k, rfl⟩
  have h1 := ownsRow_sortedI (n := k) (os := #[]) (ss := zs) (ts := zs.reverse) (by simp) hb hg hnc hm hs
  have h2 := grownBy_sortedI (w := w) (g := g) (n := k) (os := #[]) zs.reverse.toArray
  rw [grow_empty] at h1 h2
  refine ⟨rfl, ?_, ⟨h2.os, h2.tape, h2.output, h2.size, fun i hi => h2.block i (by omega) (fun e => by injection e with e; omega)⟩, Nat.lt_of_lt_of_le hlt h2.size, fun h hh hne => h2.block h hh (fun e => hne (by injection e))⟩
  unfold Own
  rw [List.length_reverse]
  exact h1

/-- The program's reversed. -/
theorem reversed_any (A : Option Addr) (n c B : Nat) (zs : List Int) (w : World) (hr : Ints w B A n zs) (hB : B ≤ w.heap.size) (h0 : 0 < n) (hn : n < 1000000) :
    Calls Try.prog 45 #[.slice A n c] w (Made1 zs.reverse w) := by
  obtain rfl := hr.len
  have HL := hide (show zs.reverse.length = zs.length from List.length_reverse)
  go_enter Try.func45, Try.ntmps45
  go_wp2_with fail
  refine (Clone_any _ _ _ _ _ _ hr hB (by omega) (by omega)).mono ?_
  rintro e w1 ⟨g, c1, rfl, hg1, hg2, hc1, hc2, hown, hb1⟩
  go_wp2_with fail
  refine (Reverse_any w.heap.size _ _ _ _ _ hown (by omega)).mono ?_
  rintro e w2 ⟨rfl, hown2, hb2, hg3, _⟩
  go_wp2_with fail
  go_ret
  exact ⟨g, c1, by rw [HL.out]; rfl, hg1, hg3, by rw [HL.out]; exact hc1, hc2, by rw [HL.out]; exact hown2, hb1.trans hb2⟩

/-- What MirrorCircle tells. -/
def mirR (zs : List Int) : List Int := if cgood zs then zs.reverse else []
theorem mirR_short (zs : List Int) (h : zs.length ≤ 1048576) : (mirR zs).length ≤ 1048576 := by
  unfold mirR; split
  · rw [List.length_reverse]; exact h
  · simp
theorem rev_take (zs : List Int) (j : Nat) (h : j < zs.length) : zs.reverse.take (zs.length - j) = zs.reverse.take (zs.length - (j + 1)) ++ [zs[j]] := by
  have e : zs.length - j = zs.length - (j + 1) + 1 := by omega
  rw [e, List.take_succ_eq_append_getElem (by rw [List.length_reverse]; omega)]
  congr 2
  rw [List.getElem_reverse]
  congr 1
  omega

/-- The model's cyMirror. -/
theorem cyMirror_any (A : Option Addr) (n c B : Nat) (zs : List Int) (w : World) (hr : Ints w B A n zs) (hB : B ≤ w.heap.size) (h0 : 0 < n) (hn : n < 1000000) :
    Calls Try.prog 46 #[.slice A n c] w (Made1 zs.reverse w) := by
  obtain rfl := hr.len
  go_enter Try.func46, Try.ntmps46
  go_wp2_with fail
  go_loopw [3, 4] (fun v i wr => ∃ m : Nat, m ≤ zs.length ∧ i = .int .i64 ((m : Int) - 1) ∧ Own wr w.heap.size 3 v (zs.reverse.take (zs.length - m)) ∧ Below w.heap.size w wr)
    (fun _ i _ => (intOf i + 1).toNat)
  case atStart => exact ⟨zs.length, Nat.le_refl _, rfl, by rw [Nat.sub_self]; exact Own.nil _ _ _, Below.refl _ _⟩
  case round =>
    obtain ⟨m, hm, rfl, hown, hb⟩ := hrel
    have hsz := hb.size
    have hll : (zs.reverse.take (zs.length - m)).length < 1000000 := by rw [List.length_take, List.length_reverse]; omega
    cases m with
    | zero =>
      rw [Nat.sub_zero, List.take_of_length_le (by rw [List.length_reverse]; exact Nat.le_refl _)] at hown
      go_wp2_with fail
      go_ret
      exact made1_of (by rw [List.length_reverse]; exact h0) hown hb
    | succ j =>
      have hlt : j < zs.length := by omega
      have Hs := hide (rev_take zs j hlt)
      obtain ⟨ad, rfl, hab, hcell⟩ := (hr.below hb hB).at_ hlt
      rw [getD_get hlt] at hcell
      rw [show ((j + 1 : Nat) : Int) - 1 = (j : Int) by omega]
      go_wp2_with (at_builtin; refine wpList_app_int rfl _ _ 24 3 rfl Try.underlying24 infoInt w.heap.size _ _ rfl hown _ _ rfl hsz hll ?_; intro v' w' hown' hb')
      go_roundw
      case rel => exact ⟨j, by omega, by go_num, by rw [Hs.out]; exact hown', hb.trans hb'⟩
      case measure => simp [intOf]

end Go.Proofs.Ytcbcgapnoompbaa

/-
  A CIRCLE TOLD FROM ANOTHER CHILD ON, BOTH WAYS: slices.Grow of a nil list, slices.Concat of two parts, TurnCircle.
-/
namespace Go.Proofs.Ytcbcgapnoompbaa
open Go.RowKit Go.Deep

theorem heap_new_drew (w : World) (o : Obj) : (w.alloc o).drew.heap[w.heap.size]? = some o := by
  show (w.alloc o).heap[w.heap.size]? = some o
  show (w.heap.push o)[w.heap.size]? = some o
  rw [Array.getElem?_push]; simp

/-- WHAT slices.Grow LEAVES of a nil list: room, and no number. -/
def Grown0 (w : World) (e : Ending) (w' : World) : Prop := ∃ v, e = .returned v ∧ Own w' w.heap.size 3 v [] ∧ Below w.heap.size w w'

theorem Grow_any (k : Nat) (w : World) (h0 : 0 < k) (hk : k ≤ 1000000) :
    Calls Try.prog 79 #[.slice none 0 0, .int .i64 k] w (Grown0 w) := by
  obtain ⟨i0, hi, hz0, hz1, hz2⟩ := info_parts infoInt
  have hrun := fun ty => Lib.run_append_nil_zeros (P := Try.prog) w 24 3 ty 3 i0 (.int .i64 0) .i64 .i64 Try.underlying24 Try.underlying3 hi hz0 k h0 (by rw [hz1]; omega) (by omega) (by rw [hz2]; omega)
  have hge := grownCap_ge w k 0 3
  have hle := grownCap_le_maxLen w k 0 3 (by unfold maxLen; omega)
  go_enter Try.func79, Try.ntmps79
  go_wp2_with (at_builtin; refine Lib.wpList_append_run _ rfl _ _ _ _ rfl _ _ rfl rfl _ _ (hrun _) ?_)
  go_ret
  refine ⟨_, rfl, ⟨rfl, .inr ⟨w.heap.size, _, _, rfl, Nat.le_refl _, heap_new_drew _ _, Nat.zero_le _, hle, ?_, by simp⟩⟩, ((Below.refl _ _).alloc (Nat.le_refl _) _).drew⟩
  simp [Builtin.zeroCells, Value.cells]
  omega

/-- slices.Concat of two parts. -/
theorem Concat_any (g c B : Nat) (a1 a2 : Addr) (n1 c1 n2 c2 : Nat) (ys1 ys2 : List Int) (w : World) (hg : g < w.heap.size) (hB : B ≤ w.heap.size)
    (hq1 : w.cell? ⟨g, 0, none⟩ = some (.slice (some a1) n1 c1)) (hq2 : w.cell? ⟨g, 1, none⟩ = some (.slice (some a2) n2 c2))
    (hr1 : Ints w B (some a1) n1 ys1) (hr2 : Ints w B (some a2) n2 ys2) (h0 : 0 < n1 + n2) (hn : n1 + n2 < 1000000) :
    Calls Try.prog 58 #[.slice (some ⟨g, 0, none⟩) 2 c] w fun e w' => ∃ v, e = .returned v ∧ Own w' w.heap.size 3 v (ys1 ++ ys2) ∧ Below w.heap.size w w' := by
  have hl1 := hr1.len
  have hl2 := hr2.len
  go_enter Try.func58, Try.ntmps58
  go_wp2_with fail
  go_loop [3, 11] (fun s i => (i = .int .i64 0 ∧ s = .int .i64 0) ∨ (i = .int .i64 1 ∧ s = .int .i64 (n1 : Int)) ∨ (i = .int .i64 2 ∧ s = .int .i64 ((n1 + n2 : Nat) : Int)))
    (fun _ i => 2 - (intOf i).toNat)
  case atStart => exact .inl ⟨rfl, rfl⟩
  case round =>
    rcases hrel with ⟨rfl, rfl⟩ | ⟨rfl, rfl⟩ | ⟨rfl, rfl⟩
    · go_wp2_with fail
      go_round
      case rel => exact .inr (.inl ⟨rfl, by go_num⟩)
      case measure => simp [intOf]
    · go_wp2_with fail
      go_round
      case rel => exact .inr (.inr ⟨rfl, by go_num⟩)
      case measure => simp [intOf]
    · go_wp2_with fail
      refine (Grow_any _ _ h0 (by omega)).mono ?_
      rintro e w1 ⟨v1, rfl, hown1, hb1⟩
      have hs1 := hb1.size
      have hq1' := (hb1.cell (p := ⟨g, 0, none⟩) hg).trans hq1
      have hq2' := (hb1.cell (p := ⟨g, 1, none⟩) hg).trans hq2
      go_wp2_with fail
      go_loopw [6, 27] (fun v i wr => (Below w.heap.size w wr) ∧ ((i = .int .i64 0 ∧ Own wr w.heap.size 3 v []) ∨ (i = .int .i64 1 ∧ Own wr w.heap.size 3 v ys1) ∨ (i = .int .i64 2 ∧ Own wr w.heap.size 3 v (ys1 ++ ys2))))
        (fun _ i _ => 2 - (intOf i).toNat)
      case atStart => exact ⟨hb1, .inl ⟨rfl, hown1⟩⟩
      case round =>
        obtain ⟨hb, hrel⟩ := hrel
        clear hq1' hq2'
        have hsz := hb.size
        have hc1 := (hb.cell (p := ⟨g, 0, none⟩) hg).trans hq1
        have hc2 := (hb.cell (p := ⟨g, 1, none⟩) hg).trans hq2
        rcases hrel with ⟨rfl, hown⟩ | ⟨rfl, hown⟩ | ⟨rfl, hown⟩
        · go_wp2_with (at_builtin; refine wpList_app_ints rfl _ _ 24 3 rfl Try.underlying24 infoInt w.heap.size _ [] rfl hown a1 n1 c1 B ys1 rfl (hr1.below hb hB) hsz (by simp; omega) ?_; intro v' w' hown' hb')
          go_roundw
          case rel => exact ⟨hb.trans hb', .inr (.inl ⟨rfl, hown'⟩)⟩
          case measure => simp [intOf]
        · go_wp2_with (at_builtin; refine wpList_app_ints rfl _ _ 24 3 rfl Try.underlying24 infoInt w.heap.size _ ys1 rfl hown a2 n2 c2 B ys2 rfl (hr2.below hb hB) hsz (by omega) ?_; intro v' w' hown' hb')
          go_roundw
          case rel => exact ⟨hb.trans hb', .inr (.inr ⟨rfl, hown'⟩)⟩
          case measure => simp [intOf]
        · go_wp2_with fail
          go_ret
          exact ⟨_, rfl, hown, hb⟩

/-- What TurnCircle tells. -/
def turnOk (zs : List Int) (b : Int) : Bool := cgood zs && decide (0 ≤ b ∧ b ≤ zs.length - 1)
def turnR (zs : List Int) (b : Int) : List Int := if turnOk zs b then zs.drop b.toNat ++ zs.take b.toNat else []
theorem turnR_short (zs : List Int) (b : Int) (h : zs.length ≤ 1048576) : (turnR zs b).length ≤ 1048576 := by
  unfold turnR; split
  · rw [List.length_append, List.length_drop, List.length_take]; omega
  · simp

end Go.Proofs.Ytcbcgapnoompbaa
