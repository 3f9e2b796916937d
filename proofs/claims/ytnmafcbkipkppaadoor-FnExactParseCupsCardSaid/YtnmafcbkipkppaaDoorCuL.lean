
/-
  CUPS: the laws' own helpers: szCups, toCups, eqCups, markCups, heldCups.
-/
import Derived.Test.YtnmafcbkipkppaaDoorLaws0
import Derived.Test.YtnmafcbkipkppaaDoorMark
import Derived.Laws.ResultCell
import Derived.Test.YtnmafcbkipkppaaDoorBox
namespace Go.Proofs.YtnmafcbkipkppaaDoor
open Go.RowKit Go.Deep
set_option linter.unusedVariables false

theorem Own.two {w : World} {base g n c b : Nat} {e : TypeId} {zs : List Int} (h : Own w base e (.slice (some ⟨g, 0, none⟩) n c) zs) (hb : g ≠ b) (x y : Value) :
    Own ((w.setCell ⟨b, 0, none⟩ x).setCell ⟨b, 1, none⟩ y) base e (.slice (some ⟨g, 0, none⟩) n c) zs :=
  ownsRow_setCell_other (ownsRow_setCell_other (show w.ownsRow _ _ _ _ _ _ from h) (a := ⟨b, 0, none⟩) (by simp [Value.ownBlock]; omega) x) (a := ⟨b, 1, none⟩) (by simp [Value.ownBlock]; omega) y

/-- WHAT toCups LEAVES. -/
def CopiedC (zs : List Int) (u : Int) (w : World) (e : Ending) (w' : World) : Prop :=
  ∃ g, w.heap.size ≤ g ∧ g < w'.heap.size ∧ e = .returned (.agg #[.slice (some ⟨g, 0, none⟩) zs.length zs.length, .int .i64 u]) ∧ Row w' g 3 zs ∧ Below w.heap.size w w'

theorem three_boxes (w : World) (v0 v1 : Value) (z0 z1 : Value) (T U : TypeId) (W : World) (hW : W = ((w.alloc (.cells #[v0, v1] T)).alloc (.cells #[z0, z1] U)).alloc (.cells #[z0, z1] U)) (w2 : World) (hb : Below W.heap.size W w2) :
    Bx w2 w.heap.size T v0 v1 ∧ Bx w2 (w.heap.size + 1) U z0 z1 ∧ Bx w2 (w.heap.size + 1 + 1) U z0 z1 ∧ Below w.heap.size w w2 ∧ w.heap.size + 3 ≤ w2.heap.size := by
  have hs : W.heap.size = w.heap.size + 3 := by rw [hW]; simp
  have l3 : ∀ (w : World) (o : Obj), (w.alloc o).heap.size = w.heap.size + 1 := fun w o => by simp
  have hbW : Below w.heap.size w W := by rw [hW]; exact (((Below.refl _ _).alloc (Nat.le_refl _) _).alloc (by simp) _).alloc (by simp; omega) _
  have q0 : Bx W w.heap.size T v0 v1 := by rw [hW]; exact ((Bx.new _ _ _ _).alloc _).alloc _
  have q1 : Bx W (w.heap.size + 1) U z0 z1 := by
    rw [hW]
    have := Bx.new (w.alloc (.cells #[v0, v1] T)) U z0 z1
    rw [l3] at this
    exact this.alloc _
  have q2 : Bx W (w.heap.size + 1 + 1) U z0 z1 := by
    rw [hW]
    have := Bx.new ((w.alloc (.cells #[v0, v1] T)).alloc (.cells #[z0, z1] U)) U z0 z1
    rw [l3, l3] at this
    exact this
  exact ⟨q0.next hb, q1.next hb, q2.next hb, hbW.trans (hb.mono (by omega)), by have := hb.size; omega⟩

theorem two_boxes (w : World) (v0 v1 : Value) (z0 z1 : Value) (T U : TypeId) :
    Bx ((w.alloc (.cells #[v0, v1] T)).alloc (.cells #[z0, z1] U)) w.heap.size T v0 v1 ∧ Bx ((w.alloc (.cells #[v0, v1] T)).alloc (.cells #[z0, z1] U)) (w.heap.size + 1) U z0 z1 ∧
    Below w.heap.size w ((w.alloc (.cells #[v0, v1] T)).alloc (.cells #[z0, z1] U)) ∧ ((w.alloc (.cells #[v0, v1] T)).alloc (.cells #[z0, z1] U)).heap.size = w.heap.size + 2 := by
  have l3 : ∀ (w : World) (o : Obj), (w.alloc o).heap.size = w.heap.size + 1 := fun w o => by simp
  have q1 := Bx.new (w.alloc (.cells #[v0, v1] T)) U z0 z1
  rw [l3] at q1
  exact ⟨(Bx.new _ _ _ _).alloc _, q1, ((Below.refl _ _).alloc (Nat.le_refl _) _).alloc (by simp) _, by rw [l3, l3]⟩

theorem eqCups_same (A A' : Option Addr) (n c c' B B' : Nat) (zs : List Int) (u : Int) (w : World) (hr : Ints w B A n zs) (hr' : Ints w B' A' n zs) (hB : B ≤ w.heap.size) (hB' : B' ≤ w.heap.size) (hn : n ≤ 17592186044416) :
    Calls Tryd.prog 6 #[.agg #[.slice A n c, .int .i64 u], .agg #[.slice A' n c', .int .i64 u]] w fun e w' => e = .returned (.bool true) ∧ Below w.heap.size w w' := by
  have b1 : Below w.heap.size w ((w.alloc (.cells #[.slice A n c, .int .i64 u] 24)).alloc (.cells #[.slice A' n c', .int .i64 u] 24)) := ((Below.refl _ _).alloc (Nat.le_refl _) _).alloc (by simp) _
  have x0 := (Bx.new w 24 (.slice A n c) (.int .i64 u)).alloc (.cells #[.slice A' n c', .int .i64 u] 24)
  have x1 := Bx.new (w.alloc (.cells #[.slice A n c, .int .i64 u] 24)) 24 (.slice A' n c') (.int .i64 u)
  rw [show (w.alloc (.cells #[.slice A n c, .int .i64 u] 24)).heap.size = w.heap.size + 1 from by simp] at x1
  have HE := hide (eqIntS_same A A' n c c' B B' zs _ (hr.below b1 hB) (hr'.below b1 hB') (Nat.le_trans hB b1.size) (Nat.le_trans hB' b1.size) hn)
  have HB := hide b1
  clear b1 hr hr'
  go_enter Tryd.func6, Tryd.ntmps6
  go_wp2_with fail
  refine HE.out.mono ?_; rintro e w2 ⟨rfl, hb2⟩
  have k0 := (x0.next hb2).c1
  have k1 := (x1.next hb2).c1
  have HB2 := hide (HB.out.trans (hb2.mono HB.out.size))
  clear hb2 x0 x1
  go_wp2_with fail
  go_ret
  exact ⟨rfl, HB2.out⟩

/-- The marking of cups that are the call's own. -/
theorem markCups_any (base : Nat) (A : Option Addr) (n c : Nat) (zs : List Int) (u k0 : Int) (w : World) (hown : Own w base 3 (.slice A n c) zs) (hlen : zs.length = n) (hn : n ≤ 1048576) (hk0 : 0 ≤ k0) (hk1 : k0 ≤ 100000000) (hbase : base ≤ w.heap.size) :
    Calls Tryd.prog 7 #[.agg #[.slice A n c, .int .i64 u], .int .i64 k0] w (Marked base A n c k0 w) := by
  have HM := hide (markIntS_any base A n c zs k0 _ (hown.alloc (.cells #[.slice A n c, .int .i64 u] 24)) hlen hn hk0 hk1)
  have HA : Hid (∀ h, h < w.heap.size → (w.alloc (.cells #[.slice A n c, .int .i64 u] 24)).heap[h]? = w.heap[h]?) := hide (fun h hh => Below.heap_alloc _ _ _ hh)
  have HB := hide (show Below base w (w.alloc (.cells #[.slice A n c, .int .i64 u] 24)) from (Below.refl _ _).alloc hbase _)
  have HS := hide (show (w.alloc (.cells #[.slice A n c, .int .i64 u] 24)).heap.size = w.heap.size + 1 from by simp)
  go_enter Tryd.func7, Tryd.ntmps7
  go_wp2_with fail
  refine HM.out.mono ?_; rintro e w2 ⟨rfl, hown2, hb2, hoth⟩
  have HR := hide (show Own w2 base 3 (.slice A n c) (marks k0 n) ∧ Below base w w2 ∧ ∀ h, h < w.heap.size → (∀ ad, A = some ad → h ≠ ad.block) → w2.heap[h]? = w.heap[h]? from
    ⟨hown2, HB.out.trans hb2, fun h hh hA => (hoth h (by rw [HS.out]; omega) hA).trans (HA.out h hh)⟩)
  clear hown2 hb2 hoth hown
  go_wp2_with fail
  go_ret
  exact ⟨rfl, HR.out⟩

/-- The marks are there. -/
theorem heldCups_any (A : Option Addr) (n c B : Nat) (u k0 : Int) (w : World) (hr : Ints w B A n (marks k0 n)) (hB : B ≤ w.heap.size) (hn : n ≤ 1048576) (hk0 : 0 ≤ k0) (hk1 : k0 ≤ 100000000) :
    Calls Tryd.prog 8 #[.agg #[.slice A n c, .int .i64 u], .int .i64 k0] w fun e w' => e = .returned (.int .i64 (k0 + (n : Int))) ∧ Below w.heap.size w w' := by
  have b1 : Below w.heap.size w (w.alloc (.cells #[.slice A n c, .int .i64 u] 24)) := (Below.refl _ _).alloc (Nat.le_refl _) _
  have HH := hide (heldIntS_any A n c B k0 _ (hr.below b1 hB) hn hk0 hk1)
  have HB := hide b1
  have hlt : ¬ (k0 + (n : Int) < 0) := by omega
  clear b1 hr
  go_enter Tryd.func8, Tryd.ntmps8
  go_wp2_with fail
  refine HH.out.mono ?_; rintro e w' ⟨rfl, rfl⟩
  go_wp2_with fail
  go_ret
  exact ⟨rfl, HB.out⟩
end Go.Proofs.YtnmafcbkipkppaaDoor
