
/-
  PUZZLES: the laws' own helpers: szPuzzle, toPuzzle, eqPuzzle, markPuzzle, heldPuzzle.
-/
import Derived.Test.YtmjlfmlbmegheaaDoorClM
import Derived.Test.YtmjlfmlbmegheaaDoorClB
import Derived.Laws.ResultCell
import Derived.Test.YtmjlfmlbmegheaaDoorBox
namespace Go.Proofs.YtmjlfmlbmegheaaDoor
open Go.RowKit Go.Deep
set_option linter.unusedVariables false

theorem szPuzzle_any (A : Option Addr) (n c : Nat) (u left : Int) (w : World) (hn : n ≤ 9223372036854775807) (h0 : 0 ≤ left) (h1 : left ≤ 1048576) :
    Calls Tryd.prog 5 #[.agg #[.int .i64 u, .slice A n c], .int .i64 left] w fun e w' => e = .returned (.int .i64 (if left < n then -1 else left - n)) ∧ Below w.heap.size w w' := by
  have HS := hide (fun W => szClueS_any A n c left W hn h0 h1)
  by_cases h : left < n
  · have H := hide (show (if left < (n : Int) then (-1 : Int) else left - n) = -1 from if_pos h)
    rw [H.out] at HS
    rw [H.out]
    go_enter Tryd.func5, Tryd.ntmps5
    go_wp2_with fail
    refine (HS.out _).mono ?_; rintro e w' ⟨rfl, rfl⟩
    go_wp2_with fail
    go_ret
    exact ⟨rfl, (Below.refl _ _).alloc (Nat.le_refl _) _⟩
  · have H := hide (show (if left < (n : Int) then (-1 : Int) else left - n) = left - n from if_neg h)
    rw [H.out] at HS
    rw [H.out]
    have h' : ¬ (left - (n : Int) < 0) := by omega
    go_enter Tryd.func5, Tryd.ntmps5
    go_wp2_with fail
    refine (HS.out _).mono ?_; rintro e w' ⟨rfl, rfl⟩
    go_wp2_with fail
    go_ret
    exact ⟨rfl, (Below.refl _ _).alloc (Nat.le_refl _) _⟩

/-- WHAT toPuzzle LEAVES. -/
def CopiedP (cs : List Cl) (u : Int) (w : World) (e : Ending) (w' : World) : Prop :=
  ∃ g, w.heap.size ≤ g ∧ g < w'.heap.size ∧ e = .returned (.agg #[.int .i64 u, .slice (some ⟨g, 0, none⟩) cs.length cs.length]) ∧ RowCl w' g cs ∧ Below w.heap.size w w'

theorem RowCl.setOther {w : World} {g : Nat} {cs : List Cl} (h : RowCl w g cs) {a : Addr} (ha : g ≠ a.block) (v : Value) : RowCl (w.setCell a v) g cs := by
  obtain ⟨c, h1, h2, h3⟩ := h
  exact ⟨c, (Below.heap_setCell _ _ _ _ ha).trans h1, h2, h3⟩

theorem three_boxes (w : World) (v0 v1 : Value) (z0 z1 y0 y1 : Value) (T U : TypeId) (W : World) (hW : W = ((w.alloc (.cells #[v0, v1] T)).alloc (.cells #[z0, z1] U)).alloc (.cells #[y0, y1] U)) (w2 : World) (hb : Below W.heap.size W w2) :
    Bx w2 w.heap.size T v0 v1 ∧ Bx w2 (w.heap.size + 1) U z0 z1 ∧ Bx w2 (w.heap.size + 1 + 1) U y0 y1 ∧ Below w.heap.size w w2 ∧ w.heap.size + 3 ≤ w2.heap.size := by
  have hs : W.heap.size = w.heap.size + 3 := by rw [hW]; simp
  have l3 : ∀ (w : World) (o : Obj), (w.alloc o).heap.size = w.heap.size + 1 := fun w o => by simp
  have hbW : Below w.heap.size w W := by rw [hW]; exact (((Below.refl _ _).alloc (Nat.le_refl _) _).alloc (by simp) _).alloc (by simp; omega) _
  have q0 : Bx W w.heap.size T v0 v1 := by rw [hW]; exact ((Bx.new _ _ _ _).alloc _).alloc _
  have q1 : Bx W (w.heap.size + 1) U z0 z1 := by
    rw [hW]
    have := Bx.new (w.alloc (.cells #[v0, v1] T)) U z0 z1
    rw [l3] at this
    exact this.alloc _
  have q2 : Bx W (w.heap.size + 1 + 1) U y0 y1 := by
    rw [hW]
    have := Bx.new ((w.alloc (.cells #[v0, v1] T)).alloc (.cells #[z0, z1] U)) U y0 y1
    rw [l3, l3] at this
    exact this
  exact ⟨q0.next hb, q1.next hb, q2.next hb, hbW.trans (hb.mono (by omega)), by have := hb.size; omega⟩

set_option maxRecDepth 100000 in
theorem toPuzzle_any (A : Option Addr) (n c : Nat) (cs : List Cl) (u : Int) (w : World) (hr : Cls w w.heap.size A n cs) (hn : n ≤ 1099511627776) :
    Calls Tryd.prog 7 #[.agg #[.int .i64 u, .slice A n c]] w (CopiedP cs u w) := by
  obtain rfl := hr.len
  have HR := hide (fun W (h : Below w.heap.size w W) => toClueS_any A cs.length c cs W ((hr.below h (Nat.le_refl _)).more h.size) hn)
  clear hr
  go_enter Tryd.func7, Tryd.ntmps7
  go_wp2_with fail
  have h3 := three_boxes w (.int .i64 u) (.slice A cs.length c) (.int .i64 0) (.slice none 0 0) (.int .i64 u) (.slice none 0 0) 24 30 _ rfl
  have hB : Below w.heap.size w (((w.alloc (.cells #[.int .i64 u, .slice A cs.length c] 24)).alloc (.cells #[.int .i64 0, .slice none 0 0] 30)).alloc (.cells #[.int .i64 u, .slice none 0 0] 30)) :=
    (((Below.refl _ _).alloc (Nat.le_refl _) _).alloc (by simp) _).alloc (by simp; omega) _
  have hs : w.heap.size + 3 ≤ (((w.alloc (.cells #[.int .i64 u, .slice A cs.length c] 24)).alloc (.cells #[.int .i64 0, .slice none 0 0] 30)).alloc (.cells #[.int .i64 u, .slice none 0 0] 30)).heap.size := by simp
  generalize (((w.alloc (.cells #[.int .i64 u, .slice A cs.length c] 24)).alloc (.cells #[.int .i64 0, .slice none 0 0] 30)).alloc (.cells #[.int .i64 u, .slice none 0 0] 30)) = W at *
  refine (HR.out _ hB).mono ?_
  rintro e w2 ⟨g, hg1, hg2, rfl, hrow, hb⟩
  obtain ⟨b0, b1, b2, hb2, hs2⟩ := h3 w2 hb
  have HRow := hide (((hrow.setOther (a := ⟨w.heap.size + 1 + 1, 1, none⟩) (by simp; omega) (.slice (some ⟨g, 0, none⟩) cs.length cs.length)).setOther (a := ⟨w.heap.size + 1, 0, none⟩) (by simp; omega) (.int .i64 u)).setOther (a := ⟨w.heap.size + 1, 1, none⟩) (by simp; omega) (.slice (some ⟨g, 0, none⟩) cs.length cs.length))
  have HG := hide (show w.heap.size + 3 ≤ g ∧ g < w2.heap.size from ⟨by omega, hg2⟩)
  have x1 := b2.set1 (.slice (some ⟨g, 0, none⟩) cs.length cs.length)
  have y1 := b1.setOther (a := ⟨w.heap.size + 1 + 1, 1, none⟩) (by simp) (.slice (some ⟨g, 0, none⟩) cs.length cs.length)
  have y2 := y1.set0 (.int .i64 u)
  have y3 := y2.set1 (.slice (some ⟨g, 0, none⟩) cs.length cs.length)
  have HB2 := hide (((hb2.setCell (p := ⟨w.heap.size + 1 + 1, 1, none⟩) (by simp; omega) (.slice (some ⟨g, 0, none⟩) cs.length cs.length)).setCell (p := ⟨w.heap.size + 1, 0, none⟩) (by simp) (.int .i64 u)).setCell (p := ⟨w.heap.size + 1, 1, none⟩) (by simp) (.slice (some ⟨g, 0, none⟩) cs.length cs.length))
  have a3 := b2.c1
  have a4 := b2.f 1
  have a5 := x1.c0
  have a6 := x1.c1
  have d2 := y1.c0
  have d3 := y1.c1
  have d4 := y1.f 0
  have d5 := y2.f 1
  have d6 := y2.c0
  have d7 := y2.c1
  have d8 := y3.c0
  have d9 := y3.c1
  clear h3 hb hb2 hB hg1 hg2 hrow hs HR W x1 y1 y2 y3 b0 b1 b2
  go_wp2_with fail
  exact bodyPost_ret (v := .agg #[.int .i64 u, .slice (some ⟨g, 0, none⟩) cs.length cs.length]) (by simp [results, Tryd.results7, go_sem, d8, d9]) rfl ⟨g, by have := HG.out; omega, by have := HG.out; simp; omega, rfl, HRow.out, HB2.out⟩

theorem eqPuzzle_same (A A' : Option Addr) (n c c' B B' : Nat) (cs : List Cl) (u : Int) (w : World) (hr : Cls w B A n cs) (hr' : Cls w B' A' n cs) (hB : B ≤ w.heap.size) (hB' : B' ≤ w.heap.size) (hn : n ≤ 1099511627776) :
    Calls Tryd.prog 9 #[.agg #[.int .i64 u, .slice A n c], .agg #[.int .i64 u, .slice A' n c']] w fun e w' => e = .returned (.bool true) ∧ Below w.heap.size w w' := by
  have b1 : Below w.heap.size w ((w.alloc (.cells #[.int .i64 u, .slice A n c] 30)).alloc (.cells #[.int .i64 u, .slice A' n c'] 30)) := ((Below.refl _ _).alloc (Nat.le_refl _) _).alloc (by simp) _
  have HE := hide (eqClueS_same A A' n c c' B B' cs _ (hr.below b1 hB) (hr'.below b1 hB') (Nat.le_trans hB b1.size) (Nat.le_trans hB' b1.size) hn)
  have HB := hide b1
  have hne : (u != u) = false := by simp
  clear b1 hr hr'
  go_enter Tryd.func9, Tryd.ntmps9
  go_wp2_with fail
  refine HE.out.mono ?_; rintro e w2 ⟨rfl, hb2⟩
  have HB2 := hide (HB.out.trans (hb2.mono HB.out.size))
  clear hb2
  go_wp2_with fail
  go_ret
  exact ⟨rfl, HB2.out⟩

/-- The marking of a puzzle that is the call's own. -/
theorem markPuzzle_any (base : Nat) (A : Option Addr) (n c : Nat) (xs : List Int) (u k0 : Int) (w : World) (hown : OwnICl w base (.slice A n c) n xs) (hn : n ≤ 1048576) (hk0 : 0 ≤ k0) (hk1 : k0 ≤ 2000000) (hbase : base ≤ w.heap.size) :
    Calls Tryd.prog 12 #[.agg #[.int .i64 u, .slice A n c], .int .i64 k0] w (MarkedCl base A n c k0 w) := by
  have HM := hide (markClueS_any base A n c xs k0 _ (hown.below ((Below.refl _ w).alloc (Nat.le_refl _) (.cells #[.int .i64 u, .slice A n c] 30))) hn hk0 hk1)
  have HA : Hid (∀ h, h < w.heap.size → (w.alloc (.cells #[.int .i64 u, .slice A n c] 30)).heap[h]? = w.heap[h]?) := hide (fun h hh => Below.heap_alloc _ _ _ hh)
  have HB := hide (show Below base w (w.alloc (.cells #[.int .i64 u, .slice A n c] 30)) from (Below.refl _ _).alloc hbase _)
  have HS := hide (show (w.alloc (.cells #[.int .i64 u, .slice A n c] 30)).heap.size = w.heap.size + 1 from by simp)
  go_enter Tryd.func12, Tryd.ntmps12
  go_wp2_with fail
  refine HM.out.mono ?_; rintro e w2 ⟨rfl, hown2, hb2, hoth⟩
  have HR := hide (show OwnICl w2 base (.slice A n c) n (marks k0 (n * 4)) ∧ Below base w w2 ∧ ∀ h, h < w.heap.size → (∀ ad, A = some ad → h ≠ ad.block) → w2.heap[h]? = w.heap[h]? from
    ⟨hown2, HB.out.trans hb2, fun h hh hA => (hoth h (by rw [HS.out]; omega) hA).trans (HA.out h hh)⟩)
  clear hown2 hb2 hoth hown
  go_wp2_with fail
  go_ret
  exact ⟨rfl, HR.out⟩

/-- The marks are there. -/
theorem heldPuzzle_any (base : Nat) (A : Option Addr) (n c : Nat) (u k0 : Int) (w : World) (hown : OwnICl w base (.slice A n c) n (marks k0 (n * 4))) (hn : n ≤ 1048576) (hk0 : 0 ≤ k0) (hk1 : k0 ≤ 2000000) :
    Calls Tryd.prog 13 #[.agg #[.int .i64 u, .slice A n c], .int .i64 k0] w fun e w' => e = .returned (.int .i64 (k0 + 4 * (n : Int))) ∧ Below w.heap.size w w' := by
  have b1 : Below w.heap.size w (w.alloc (.cells #[.int .i64 u, .slice A n c] 30)) := (Below.refl _ _).alloc (Nat.le_refl _) _
  have HH := hide (heldClueS_any base A n c k0 _ (hown.below b1) hn hk0 hk1)
  have HB := hide b1
  have hlt : ¬ (k0 + 4 * (n : Int) < 0) := by omega
  clear b1 hown
  go_enter Tryd.func13, Tryd.ntmps13
  go_wp2_with fail
  refine HH.out.mono ?_; rintro e w2 ⟨rfl, hb2⟩
  have HB2 := hide (HB.out.trans (hb2.mono HB.out.size))
  clear hb2
  go_wp2_with fail
  go_ret
  exact ⟨rfl, HB2.out⟩
end Go.Proofs.YtmjlfmlbmegheaaDoor
