
/-
  A CIRCLE TOLD FROM THE LAST ONE ON, BOTH WAYS: slices.Reverse, the model's cyMirror, MirrorCircle.
-/
import Derived.Test.YtleagplokahhhaaCyB
import Derived.Test.YtleagplokahhhaaShelf
import Derived.Sort.OwnSortedInts
namespace Go.Proofs.Ytleagplokahhhaa
open Go.RowKit Go.Deep Go.Sort

theorem Own.rowOf {w : World} {base g n c : Nat} {e : TypeId} {zs : List Int} (h : Own w base e (.slice (some ⟨g, 0, none⟩) n c) zs) :
    n = zs.length ∧ ∃ cur, base ≤ g ∧ w.heap[g]? = some (.cells cur e (0, 0)) ∧ zs.length ≤ c ∧ c ≤ maxLen ∧ cur.size = c * 1 ∧ cur.toList.take zs.length = zs.map (Value.int .i64) := by
  rcases h.2 with ⟨h1, _⟩ | ⟨g', c', cur, h1, hb, hg, hn, hm, hs, ht⟩
  · cases h1
  · cases h1
    exact ⟨rfl, cur, hb, hg, hn, hm, hs, by simpa using ht⟩

/-- WHAT slices.Reverse LEAVES of a list of the call's own. -/
def Reversed (base g n c : Nat) (zs : List Int) (w : World) (e : Ending) (w' : World) : Prop :=
  e = .returned (.tuple #[]) ∧ Own w' base 3 (.slice (some ⟨g, 0, none⟩) n c) zs.reverse ∧ Below base w w' ∧ g < w'.heap.size ∧ ∀ h, h < w.heap.size → h ≠ g → w'.heap[h]? = w.heap[h]?

theorem Reverse_any (base g n c : Nat) (zs : List Int) (w : World) (hown : Own w base 3 (.slice (some ⟨g, 0, none⟩) n c) zs) (hn : n ≤ 1000000) :
    Calls Try.prog 49 #[.slice (some ⟨g, 0, none⟩) n c] w (Reversed base g n c zs w) := by
  obtain ⟨rfl, cur, hb, hg, hnc, hm, hs, ht⟩ := hown.rowOf
  have hlt : g < w.heap.size := (Array.getElem?_eq_some_iff.1 hg).1
  refine (Try.slices_Reverse_int g 0 c zs w (holds_of_blockI hg ht) (by omega)).mono ?_
  rintro e w' ⟨rfl, k, rfl⟩
  have h1 := ownsRow_sortedI (n := k) (os := #[]) (ss := zs) (ts := zs.reverse) (by simp) hb hg hnc hm hs
  have h2 := grownBy_sortedI (w := w) (g := g) (n := k) (os := #[]) zs.reverse.toArray
  rw [grow_empty] at h1 h2
  refine ⟨rfl, ?_, ⟨h2.os, h2.tape, h2.output, h2.size, fun i hi => h2.block i (by omega) (fun e => by injection e with e; omega)⟩, Nat.lt_of_lt_of_le hlt h2.size, fun h hh hne => h2.block h hh (fun e => hne (by injection e))⟩
  unfold Own
  rw [List.length_reverse]
  exact h1

/-- The program's reversed. -/
theorem reversed_any (A : Option Addr) (n c B : Nat) (zs : List Int) (w : World) (hr : Ints w B A n zs) (hB : B ≤ w.heap.size) (h0 : 0 < n) (hn : n < 1000000) :
    Calls Try.prog 37 #[.slice A n c] w (Made1 zs.reverse w) := by
  obtain rfl := hr.len
  have HL := hide (show zs.reverse.length = zs.length from List.length_reverse)
  go_enter Try.func37, Try.ntmps37
  go_wp2_with fail
  refine (Clone_any _ _ _ _ _ _ hr hB (by omega) (by omega)).mono ?_
  rintro e w1 ⟨g, c1, rfl, hg1, hg2, hc1, hc2, hown, hb1⟩
  go_wp2_with fail
  refine (Reverse_any w.heap.size _ _ _ _ _ hown (by omega)).mono ?_
  rintro e w2 ⟨rfl, hown2, hb2, hg3, _⟩
  go_wp2_with fail
  go_ret
  exact ⟨g, c1, by rw [HL.out]; rfl, hg1, hg3, by rw [HL.out]; exact hc1, hc2, by rw [HL.out]; exact hown2, hb1.trans hb2⟩

/-- What MirrorCircle tells. -/
def mirR (zs : List Int) : List Int := if cgood zs then zs.reverse else []
theorem mirR_short (zs : List Int) (h : zs.length ≤ 1048576) : (mirR zs).length ≤ 1048576 := by
  unfold mirR; split
  · rw [List.length_reverse]; exact h
  · simp
theorem rev_take (zs : List Int) (j : Nat) (h : j < zs.length) : zs.reverse.take (zs.length - j) = zs.reverse.take (zs.length - (j + 1)) ++ [zs[j]] := by
  have e : zs.length - j = zs.length - (j + 1) + 1 := by omega
  rw [e, List.take_succ_eq_append_getElem (by rw [List.length_reverse]; omega)]
  congr 2
  rw [List.getElem_reverse]
  congr 1
  omega

/-- The model's cyMirror. -/
theorem cyMirror_any (A : Option Addr) (n c B : Nat) (zs : List Int) (w : World) (hr : Ints w B A n zs) (hB : B ≤ w.heap.size) (h0 : 0 < n) (hn : n < 1000000) :
    Calls Try.prog 36 #[.slice A n c] w (Made1 zs.reverse w) := by
  obtain rfl := hr.len
  go_enter Try.func36, Try.ntmps36
  go_wp2_with fail
  go_loopw [3, 4] (fun v i wr => ∃ m : Nat, m ≤ zs.length ∧ i = .int .i64 ((m : Int) - 1) ∧ Own wr w.heap.size 3 v (zs.reverse.take (zs.length - m)) ∧ Below w.heap.size w wr)
    (fun _ i _ => (intOf i + 1).toNat)
  case atStart => exact ⟨zs.length, Nat.le_refl _, rfl, by rw [Nat.sub_self]; exact Own.nil _ _ _, Below.refl _ _⟩
  case round =>
    obtain ⟨m, hm, rfl, hown, hb⟩ := hrel
    have hsz := hb.size
    have hll : (zs.reverse.take (zs.length - m)).length < 1000000 := by rw [List.length_take, List.length_reverse]; omega
    cases m with
    | zero =>
      rw [Nat.sub_zero, List.take_of_length_le (by rw [List.length_reverse]; exact Nat.le_refl _)] at hown
      go_wp2_with fail
      go_ret
      exact made1_of (by rw [List.length_reverse]; exact h0) hown hb
    | succ j =>
      have hlt : j < zs.length := by omega
      have Hs := hide (rev_take zs j hlt)
      obtain ⟨ad, rfl, hab, hcell⟩ := (hr.below hb hB).at_ hlt
      rw [getD_get hlt] at hcell
      rw [show ((j + 1 : Nat) : Int) - 1 = (j : Int) by omega]
      go_wp2_with (at_builtin; refine wpList_app_int rfl _ _ 22 3 rfl Try.underlying22 infoInt w.heap.size _ _ rfl hown _ _ rfl hsz hll ?_; intro v' w' hown' hb')
      go_roundw
      case rel => exact ⟨j, by omega, by go_num, by rw [Hs.out]; exact hown', hb.trans hb'⟩
      case measure => simp [intOf]

end Go.Proofs.Ytleagplokahhhaa
