
/-
  PUZZLES: the laws' own helpers: szPuzzle, toPuzzle, eqPuzzle, markPuzzle, heldPuzzle.
-/
import Derived.Test.YtfmncffjaholmaaClM
import Derived.Test.YtfmncffjaholmaaClB
import Derived.Laws.ResultCell
import Derived.Test.YtfmncffjaholmaaBox
namespace Go.Proofs.Ytfmncffjaholmaa
open Go.RowKit Go.Deep
set_option linter.unusedVariables false

/-- WHAT toPuzzle LEAVES. -/
def CopiedP (cs : List Cl) (u : Int) (w : World) (e : Ending) (w' : World) : Prop :=
  ∃ g, w.heap.size ≤ g ∧ g < w'.heap.size ∧ e = .returned (.agg #[.int .i64 u, .slice (some ⟨g, 0, none⟩) cs.length cs.length]) ∧ RowCl w' g cs ∧ Below w.heap.size w w'

theorem RowCl.setOther {w : World} {g : Nat} {cs : List Cl} (h : RowCl w g cs) {a : Addr} (ha : g ≠ a.block) (v : Value) : RowCl (w.setCell a v) g cs := by
  obtain ⟨c, h1, h2, h3⟩ := h
  exact ⟨c, (Below.heap_setCell _ _ _ _ ha).trans h1, h2, h3⟩

theorem three_boxes (w : World) (v0 v1 : Value) (z0 z1 y0 y1 : Value) (T U : TypeId) (W : World) (hW : W = ((w.alloc (.cells #[v0, v1] T)).alloc (.cells #[z0, z1] U)).alloc (.cells #[y0, y1] U)) (w2 : World) (hb : Below W.heap.size W w2) :
    Bx w2 w.heap.size T v0 v1 ∧ Bx w2 (w.heap.size + 1) U z0 z1 ∧ Bx w2 (w.heap.size + 1 + 1) U y0 y1 ∧ Below w.heap.size w w2 ∧ w.heap.size + 3 ≤ w2.heap.size := by
  have hs : W.heap.size = w.heap.size + 3 := by rw [hW]; simp
  have l3 : ∀ (w : World) (o : Obj), (w.alloc o).heap.size = w.heap.size + 1 := fun w o => by simp
  have hbW : Below w.heap.size w W := by rw [hW]; exact (((Below.refl _ _).alloc (Nat.le_refl _) _).alloc (by simp) _).alloc (by simp; omega) _
  have q0 : Bx W w.heap.size T v0 v1 := by rw [hW]; exact ((Bx.new _ _ _ _).alloc _).alloc _
  have q1 : Bx W (w.heap.size + 1) U z0 z1 := by
    rw [hW]
    have := Bx.new (w.alloc (.cells #[v0, v1] T)) U z0 z1
    rw [l3] at this
    exact this.alloc _
  have q2 : Bx W (w.heap.size + 1 + 1) U y0 y1 := by
    rw [hW]
    have := Bx.new ((w.alloc (.cells #[v0, v1] T)).alloc (.cells #[z0, z1] U)) U y0 y1
    rw [l3, l3] at this
    exact this
  exact ⟨q0.next hb, q1.next hb, q2.next hb, hbW.trans (hb.mono (by omega)), by have := hb.size; omega⟩

theorem eqPuzzle_same (A A' : Option Addr) (n c c' B B' : Nat) (cs : List Cl) (u : Int) (w : World) (hr : Cls w B A n cs) (hr' : Cls w B' A' n cs) (hB : B ≤ w.heap.size) (hB' : B' ≤ w.heap.size) (hn : n ≤ 1099511627776) :
    Calls Try.prog 7 #[.agg #[.int .i64 u, .slice A n c], .agg #[.int .i64 u, .slice A' n c']] w fun e w' => e = .returned (.bool true) ∧ Below w.heap.size w w' := by
  have b1 : Below w.heap.size w ((w.alloc (.cells #[.int .i64 u, .slice A n c] 25)).alloc (.cells #[.int .i64 u, .slice A' n c'] 25)) := ((Below.refl _ _).alloc (Nat.le_refl _) _).alloc (by simp) _
  have HE := hide (eqClueS_same A A' n c c' B B' cs _ (hr.below b1 hB) (hr'.below b1 hB') (Nat.le_trans hB b1.size) (Nat.le_trans hB' b1.size) hn)
  have HB := hide b1
  have hne : (u != u) = false := by simp
  clear b1 hr hr'
  go_enter Try.func7, Try.ntmps7
  go_wp2_with fail
  refine HE.out.mono ?_; rintro e w2 ⟨rfl, hb2⟩
  have HB2 := hide (HB.out.trans (hb2.mono HB.out.size))
  clear hb2
  go_wp2_with fail
  go_ret
  exact ⟨rfl, HB2.out⟩

/-- The marking of a puzzle that is the call's own. -/
theorem markPuzzle_any (base : Nat) (A : Option Addr) (n c : Nat) (xs : List Int) (u k0 : Int) (w : World) (hown : OwnICl w base (.slice A n c) n xs) (hn : n ≤ 1048576) (hk0 : 0 ≤ k0) (hk1 : k0 ≤ 2000000) (hbase : base ≤ w.heap.size) :
    Calls Try.prog 10 #[.agg #[.int .i64 u, .slice A n c], .int .i64 k0] w (MarkedCl base A n c k0 w) := by
  have HM := hide (markClueS_any base A n c xs k0 _ (hown.below ((Below.refl _ w).alloc (Nat.le_refl _) (.cells #[.int .i64 u, .slice A n c] 25))) hn hk0 hk1)
  have HA : Hid (∀ h, h < w.heap.size → (w.alloc (.cells #[.int .i64 u, .slice A n c] 25)).heap[h]? = w.heap[h]?) := hide (fun h hh => Below.heap_alloc _ _ _ hh)
  have HB := hide (show Below base w (w.alloc (.cells #[.int .i64 u, .slice A n c] 25)) from (Below.refl _ _).alloc hbase _)
  have HS := hide (show (w.alloc (.cells #[.int .i64 u, .slice A n c] 25)).heap.size = w.heap.size + 1 from by simp)
  go_enter Try.func10, Try.ntmps10
  go_wp2_with fail
  refine HM.out.mono ?_; rintro e w2 ⟨rfl, hown2, hb2, hoth⟩
  have HR := hide (show OwnICl w2 base (.slice A n c) n (marks k0 (n * 4)) ∧ Below base w w2 ∧ ∀ h, h < w.heap.size → (∀ ad, A = some ad → h ≠ ad.block) → w2.heap[h]? = w.heap[h]? from
    ⟨hown2, HB.out.trans hb2, fun h hh hA => (hoth h (by rw [HS.out]; omega) hA).trans (HA.out h hh)⟩)
  clear hown2 hb2 hoth hown
  go_wp2_with fail
  go_ret
  exact ⟨rfl, HR.out⟩

/-- The marks are there. -/
theorem heldPuzzle_any (base : Nat) (A : Option Addr) (n c : Nat) (u k0 : Int) (w : World) (hown : OwnICl w base (.slice A n c) n (marks k0 (n * 4))) (hn : n ≤ 1048576) (hk0 : 0 ≤ k0) (hk1 : k0 ≤ 2000000) :
    Calls Try.prog 11 #[.agg #[.int .i64 u, .slice A n c], .int .i64 k0] w fun e w' => e = .returned (.int .i64 (k0 + 4 * (n : Int))) ∧ Below w.heap.size w w' := by
  have b1 : Below w.heap.size w (w.alloc (.cells #[.int .i64 u, .slice A n c] 25)) := (Below.refl _ _).alloc (Nat.le_refl _) _
  have HH := hide (heldClueS_any base A n c k0 _ (hown.below b1) hn hk0 hk1)
  have HB := hide b1
  have hlt : ¬ (k0 + 4 * (n : Int) < 0) := by omega
  clear b1 hown
  go_enter Try.func11, Try.ntmps11
  go_wp2_with fail
  refine HH.out.mono ?_; rintro e w2 ⟨rfl, hb2⟩
  have HB2 := hide (HB.out.trans (hb2.mono HB.out.size))
  clear hb2
  go_wp2_with fail
  go_ret
  exact ⟨rfl, HB2.out⟩
end Go.Proofs.Ytfmncffjaholmaa
