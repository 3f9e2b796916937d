
/-
  A CIRCLE TOLD FROM ANOTHER CHILD ON, BOTH WAYS: slices.Grow of a nil list, slices.Concat of two parts, TurnCircle.
-/
import Derived.Test.YtleagplokahhhaaCyB
import Derived.Test.YtleagplokahhhaaApp
import Derived.Lib.AppendZeros
import Derived.StillTailTactics
import Derived.Deep.RegionWith
namespace Go.Proofs.Ytleagplokahhhaa
open Go.RowKit Go.Deep

theorem heap_new_drew (w : World) (o : Obj) : (w.alloc o).drew.heap[w.heap.size]? = some o := by
  show (w.alloc o).heap[w.heap.size]? = some o
  show (w.heap.push o)[w.heap.size]? = some o
  rw [Array.getElem?_push]; simp

/-- WHAT slices.Grow LEAVES of a nil list: room, and no number. -/
def Grown0 (w : World) (e : Ending) (w' : World) : Prop := ∃ v, e = .returned v ∧ Own w' w.heap.size 3 v [] ∧ Below w.heap.size w w'

theorem Grow_any (k : Nat) (w : World) (h0 : 0 < k) (hk : k ≤ 1000000) :
    Calls Try.prog 50 #[.slice none 0 0, .int .i64 k] w (Grown0 w) := by
  obtain ⟨i0, hi, hz0, hz1, hz2⟩ := info_parts infoInt
  have hrun := fun ty => Lib.run_append_nil_zeros (P := Try.prog) w 22 3 ty 3 i0 (.int .i64 0) .i64 .i64 Try.underlying22 Try.underlying3 hi hz0 k h0 (by rw [hz1]; omega) (by omega) (by rw [hz2]; omega)
  have hge := grownCap_ge w k 0 3
  have hle := grownCap_le_maxLen w k 0 3 (by unfold maxLen; omega)
  go_enter Try.func50, Try.ntmps50
  go_wp2_with (at_builtin; refine Lib.wpList_append_run _ rfl _ _ _ _ rfl _ _ rfl rfl _ _ (hrun _) ?_)
  go_ret
  refine ⟨_, rfl, ⟨rfl, .inr ⟨w.heap.size, _, _, rfl, Nat.le_refl _, heap_new_drew _ _, Nat.zero_le _, hle, ?_, by simp⟩⟩, ((Below.refl _ _).alloc (Nat.le_refl _) _).drew⟩
  simp [Builtin.zeroCells, Value.cells]
  omega

/-- slices.Concat of two parts. -/
theorem Concat_any (g c B : Nat) (a1 a2 : Addr) (n1 c1 n2 c2 : Nat) (ys1 ys2 : List Int) (w : World) (hg : g < w.heap.size) (hB : B ≤ w.heap.size)
    (hq1 : w.cell? ⟨g, 0, none⟩ = some (.slice (some a1) n1 c1)) (hq2 : w.cell? ⟨g, 1, none⟩ = some (.slice (some a2) n2 c2))
    (hr1 : Ints w B (some a1) n1 ys1) (hr2 : Ints w B (some a2) n2 ys2) (h0 : 0 < n1 + n2) (hn : n1 + n2 < 1000000) :
    Calls Try.prog 40 #[.slice (some ⟨g, 0, none⟩) 2 c] w fun e w' => ∃ v, e = .returned v ∧ Own w' w.heap.size 3 v (ys1 ++ ys2) ∧ Below w.heap.size w w' := by
  have hl1 := hr1.len
  have hl2 := hr2.len
  go_enter Try.func40, Try.ntmps40
  go_wp2_with fail
  go_loop [3, 11] (fun s i => (i = .int .i64 0 ∧ s = .int .i64 0) ∨ (i = .int .i64 1 ∧ s = .int .i64 (n1 : Int)) ∨ (i = .int .i64 2 ∧ s = .int .i64 ((n1 + n2 : Nat) : Int)))
    (fun _ i => 2 - (intOf i).toNat)
  case atStart => exact .inl ⟨rfl, rfl⟩
  case round =>
    rcases hrel with ⟨rfl, rfl⟩ | ⟨rfl, rfl⟩ | ⟨rfl, rfl⟩
    · go_wp2_with fail
      go_round
      case rel => exact .inr (.inl ⟨rfl, by go_num⟩)
      case measure => simp [intOf]
    · go_wp2_with fail
      go_round
      case rel => exact .inr (.inr ⟨rfl, by go_num⟩)
      case measure => simp [intOf]
    · go_wp2_with fail
      refine (Grow_any _ _ h0 (by omega)).mono ?_
      rintro e w1 ⟨v1, rfl, hown1, hb1⟩
      have hs1 := hb1.size
      have hq1' := (hb1.cell (p := ⟨g, 0, none⟩) hg).trans hq1
      have hq2' := (hb1.cell (p := ⟨g, 1, none⟩) hg).trans hq2
      go_wp2_with fail
      go_loopw [6, 27] (fun v i wr => (Below w.heap.size w wr) ∧ ((i = .int .i64 0 ∧ Own wr w.heap.size 3 v []) ∨ (i = .int .i64 1 ∧ Own wr w.heap.size 3 v ys1) ∨ (i = .int .i64 2 ∧ Own wr w.heap.size 3 v (ys1 ++ ys2))))
        (fun _ i _ => 2 - (intOf i).toNat)
      case atStart => exact ⟨hb1, .inl ⟨rfl, hown1⟩⟩
      case round =>
        obtain ⟨hb, hrel⟩ := hrel
        clear hq1' hq2'
        have hsz := hb.size
        have hc1 := (hb.cell (p := ⟨g, 0, none⟩) hg).trans hq1
        have hc2 := (hb.cell (p := ⟨g, 1, none⟩) hg).trans hq2
        rcases hrel with ⟨rfl, hown⟩ | ⟨rfl, hown⟩ | ⟨rfl, hown⟩
        · go_wp2_with (at_builtin; refine wpList_app_ints rfl _ _ 22 3 rfl Try.underlying22 infoInt w.heap.size _ [] rfl hown a1 n1 c1 B ys1 rfl (hr1.below hb hB) hsz (by simp; omega) ?_; intro v' w' hown' hb')
          go_roundw
          case rel => exact ⟨hb.trans hb', .inr (.inl ⟨rfl, hown'⟩)⟩
          case measure => simp [intOf]
        · go_wp2_with (at_builtin; refine wpList_app_ints rfl _ _ 22 3 rfl Try.underlying22 infoInt w.heap.size _ ys1 rfl hown a2 n2 c2 B ys2 rfl (hr2.below hb hB) hsz (by omega) ?_; intro v' w' hown' hb')
          go_roundw
          case rel => exact ⟨hb.trans hb', .inr (.inr ⟨rfl, hown'⟩)⟩
          case measure => simp [intOf]
        · go_wp2_with fail
          go_ret
          exact ⟨_, rfl, hown, hb⟩

/-- What TurnCircle tells. -/
def turnOk (zs : List Int) (b : Int) : Bool := cgood zs && decide (0 ≤ b ∧ b ≤ zs.length - 1)
def turnR (zs : List Int) (b : Int) : List Int := if turnOk zs b then zs.drop b.toNat ++ zs.take b.toNat else []
theorem turnR_short (zs : List Int) (b : Int) (h : zs.length ≤ 1048576) : (turnR zs b).length ≤ 1048576 := by
  unfold turnR; split
  · rw [List.length_append, List.length_drop, List.length_take]; omega
  · simp

end Go.Proofs.Ytleagplokahhhaa
