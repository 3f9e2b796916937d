
/-
  CUPS: the laws' own helpers: szCups, toCups, eqCups, markCups, heldCups.
-/
import Derived.Test.YtmknencbjhcehaaDoorLaws0
import Derived.Test.YtmknencbjhcehaaDoorMark
import Derived.Laws.ResultCell
import Derived.Test.YtmknencbjhcehaaDoorBox
namespace Go.Proofs.YtmknencbjhcehaaDoor
open Go.RowKit Go.Deep
set_option linter.unusedVariables false

theorem Own.two {w : World} {base g n c b : Nat} {e : TypeId} {zs : List Int} (h : Own w base e (.slice (some ⟨g, 0, none⟩) n c) zs) (hb : g ≠ b) (x y : Value) :
    Own ((w.setCell ⟨b, 0, none⟩ x).setCell ⟨b, 1, none⟩ y) base e (.slice (some ⟨g, 0, none⟩) n c) zs :=
  ownsRow_setCell_other (ownsRow_setCell_other (show w.ownsRow _ _ _ _ _ _ from h) (a := ⟨b, 0, none⟩) (by simp [Value.ownBlock]; omega) x) (a := ⟨b, 1, none⟩) (by simp [Value.ownBlock]; omega) y

theorem szIntS_any (A : Option Addr) (n c : Nat) (left : Int) (w : World) (hn : n ≤ 9223372036854775807) (h0 : 0 ≤ left) (h1 : left ≤ 1048576) :
    Calls Tryd.prog 13 #[.slice A n c, .int .i64 left] w fun e w' => e = .returned (.int .i64 (if left < n then -1 else left - n)) ∧ w = w' := by
  by_cases h : left < n
  · have H := hide (show (if left < (n : Int) then (-1 : Int) else left - n) = -1 from if_pos h)
    go_enter Tryd.func13, Tryd.ntmps13
    go_wp2
    go_ret
    exact ⟨by first | rfl | (rw [H.out]; rfl), rfl⟩
  · have H := hide (show (if left < (n : Int) then (-1 : Int) else left - n) = left - n from if_neg h)
    go_enter Tryd.func13, Tryd.ntmps13
    go_wp2
    go_ret
    exact ⟨by first | rfl | (rw [H.out]; rfl), rfl⟩
theorem szCups_any (A : Option Addr) (n c : Nat) (u left : Int) (w : World) (hn : n ≤ 9223372036854775807) (h0 : 0 ≤ left) (h1 : left ≤ 1048576) :
    Calls Tryd.prog 4 #[.agg #[.slice A n c, .int .i64 u], .int .i64 left] w fun e w' => e = .returned (.int .i64 (if left < n then -1 else left - n)) ∧ Below w.heap.size w w' := by
  have HS := hide (fun W => szIntS_any A n c left W hn h0 h1)
  by_cases h : left < n
  · have H := hide (show (if left < (n : Int) then (-1 : Int) else left - n) = -1 from if_pos h)
    rw [H.out] at HS
    rw [H.out]
    go_enter Tryd.func4, Tryd.ntmps4
    go_wp2_with fail
    refine (HS.out _).mono ?_; rintro e w' ⟨rfl, rfl⟩
    go_wp2_with fail
    go_ret
    exact ⟨rfl, (Below.refl _ _).alloc (Nat.le_refl _) _⟩
  · have H := hide (show (if left < (n : Int) then (-1 : Int) else left - n) = left - n from if_neg h)
    rw [H.out] at HS
    rw [H.out]
    have h' : ¬ (left - (n : Int) < 0) := by omega
    go_enter Tryd.func4, Tryd.ntmps4
    go_wp2_with fail
    refine (HS.out _).mono ?_; rintro e w' ⟨rfl, rfl⟩
    go_wp2_with fail
    go_ret
    exact ⟨rfl, (Below.refl _ _).alloc (Nat.le_refl _) _⟩

/-- WHAT toCups LEAVES. -/
def CopiedC (zs : List Int) (u : Int) (w : World) (e : Ending) (w' : World) : Prop :=
  ∃ g, w.heap.size ≤ g ∧ g < w'.heap.size ∧ e = .returned (.agg #[.slice (some ⟨g, 0, none⟩) zs.length zs.length, .int .i64 u]) ∧ Row w' g 3 zs ∧ Below w.heap.size w w'

theorem three_boxes (w : World) (v0 v1 : Value) (z0 z1 : Value) (T U : TypeId) (W : World) (hW : W = ((w.alloc (.cells #[v0, v1] T)).alloc (.cells #[z0, z1] U)).alloc (.cells #[z0, z1] U)) (w2 : World) (hb : Below W.heap.size W w2) :
    Bx w2 w.heap.size T v0 v1 ∧ Bx w2 (w.heap.size + 1) U z0 z1 ∧ Bx w2 (w.heap.size + 1 + 1) U z0 z1 ∧ Below w.heap.size w w2 ∧ w.heap.size + 3 ≤ w2.heap.size := by
  have hs : W.heap.size = w.heap.size + 3 := by rw [hW]; simp
  have l3 : ∀ (w : World) (o : Obj), (w.alloc o).heap.size = w.heap.size + 1 := fun w o => by simp
  have hbW : Below w.heap.size w W := by rw [hW]; exact (((Below.refl _ _).alloc (Nat.le_refl _) _).alloc (by simp) _).alloc (by simp; omega) _
  have q0 : Bx W w.heap.size T v0 v1 := by rw [hW]; exact ((Bx.new _ _ _ _).alloc _).alloc _
  have q1 : Bx W (w.heap.size + 1) U z0 z1 := by
    rw [hW]
    have := Bx.new (w.alloc (.cells #[v0, v1] T)) U z0 z1
    rw [l3] at this
    exact this.alloc _
  have q2 : Bx W (w.heap.size + 1 + 1) U z0 z1 := by
    rw [hW]
    have := Bx.new ((w.alloc (.cells #[v0, v1] T)).alloc (.cells #[z0, z1] U)) U z0 z1
    rw [l3, l3] at this
    exact this
  exact ⟨q0.next hb, q1.next hb, q2.next hb, hbW.trans (hb.mono (by omega)), by have := hb.size; omega⟩

theorem two_boxes (w : World) (v0 v1 : Value) (z0 z1 : Value) (T U : TypeId) :
    Bx ((w.alloc (.cells #[v0, v1] T)).alloc (.cells #[z0, z1] U)) w.heap.size T v0 v1 ∧ Bx ((w.alloc (.cells #[v0, v1] T)).alloc (.cells #[z0, z1] U)) (w.heap.size + 1) U z0 z1 ∧
    Below w.heap.size w ((w.alloc (.cells #[v0, v1] T)).alloc (.cells #[z0, z1] U)) ∧ ((w.alloc (.cells #[v0, v1] T)).alloc (.cells #[z0, z1] U)).heap.size = w.heap.size + 2 := by
  have l3 : ∀ (w : World) (o : Obj), (w.alloc o).heap.size = w.heap.size + 1 := fun w o => by simp
  have q1 := Bx.new (w.alloc (.cells #[v0, v1] T)) U z0 z1
  rw [l3] at q1
  exact ⟨(Bx.new _ _ _ _).alloc _, q1, ((Below.refl _ _).alloc (Nat.le_refl _) _).alloc (by simp) _, by rw [l3, l3]⟩

theorem toCups_any (A : Option Addr) (n c : Nat) (zs : List Int) (u : Int) (w : World) (hr : Ints w w.heap.size A n zs) (hn : n ≤ 17592186044416) :
    Calls Tryd.prog 6 #[.agg #[.slice A n c, .int .i64 u]] w (CopiedC zs u w) := by
  obtain rfl := hr.len
  have HR := hide (fun W (h : Below w.heap.size w W) => toIntS_any A zs.length c zs W ((hr.below h (Nat.le_refl _)).more h.size) hn)
  clear hr
  go_enter Tryd.func6, Tryd.ntmps6
  go_wp2_with fail
  have h3 := three_boxes w (.slice A zs.length c) (.int .i64 u) (.slice none 0 0) (.int .i64 0) 24 29 _ rfl
  have hB : Below w.heap.size w (((w.alloc (.cells #[.slice A zs.length c, .int .i64 u] 24)).alloc (.cells #[.slice none 0 0, .int .i64 0] 29)).alloc (.cells #[.slice none 0 0, .int .i64 0] 29)) :=
    (((Below.refl _ _).alloc (Nat.le_refl _) _).alloc (by simp) _).alloc (by simp; omega) _
  have hs : w.heap.size + 3 ≤ (((w.alloc (.cells #[.slice A zs.length c, .int .i64 u] 24)).alloc (.cells #[.slice none 0 0, .int .i64 0] 29)).alloc (.cells #[.slice none 0 0, .int .i64 0] 29)).heap.size := by simp
  generalize (((w.alloc (.cells #[.slice A zs.length c, .int .i64 u] 24)).alloc (.cells #[.slice none 0 0, .int .i64 0] 29)).alloc (.cells #[.slice none 0 0, .int .i64 0] 29)) = W at *
  refine (HR.out _ hB).mono ?_
  rintro e w2 ⟨g, hg1, hg2, rfl, hrow, hb⟩
  obtain ⟨b0, b1, b2, hb2, hs2⟩ := h3 w2 hb
  have HRow := hide ((((hrow.setOther (a := ⟨w.heap.size + 1 + 1, 0, none⟩) (by simp; omega) (.slice (some ⟨g, 0, none⟩) zs.length zs.length)).setOther (a := ⟨w.heap.size + 1 + 1, 1, none⟩) (by simp; omega) (.int .i64 u)).setOther (a := ⟨w.heap.size + 1, 0, none⟩) (by simp; omega) (.slice (some ⟨g, 0, none⟩) zs.length zs.length)).setOther (a := ⟨w.heap.size + 1, 1, none⟩) (by simp; omega) (.int .i64 u))
  have HG := hide (show w.heap.size + 3 ≤ g ∧ g < w2.heap.size from ⟨by omega, hg2⟩)
  have x1 := b2.set0 (.slice (some ⟨g, 0, none⟩) zs.length zs.length)
  have x2 := x1.set1 (.int .i64 u)
  have y0 := (b0.setOther (a := ⟨w.heap.size + 1 + 1, 0, none⟩) (by simp; omega) (.slice (some ⟨g, 0, none⟩) zs.length zs.length))
  have y1 := ((b1.setOther (a := ⟨w.heap.size + 1 + 1, 0, none⟩) (by simp) (.slice (some ⟨g, 0, none⟩) zs.length zs.length)).setOther (a := ⟨w.heap.size + 1 + 1, 1, none⟩) (by simp) (.int .i64 u))
  have y2 := y1.set0 (.slice (some ⟨g, 0, none⟩) zs.length zs.length)
  have y3 := y2.set1 (.int .i64 u)
  have HB2 := hide ((((hb2.setCell (p := ⟨w.heap.size + 1 + 1, 0, none⟩) (by simp; omega) (.slice (some ⟨g, 0, none⟩) zs.length zs.length)).setCell (p := ⟨w.heap.size + 1 + 1, 1, none⟩) (by simp; omega) (.int .i64 u)).setCell (p := ⟨w.heap.size + 1, 0, none⟩) (by simp) (.slice (some ⟨g, 0, none⟩) zs.length zs.length)).setCell (p := ⟨w.heap.size + 1, 1, none⟩) (by simp) (.int .i64 u))
  have a1 := b0.c0
  have a2 := b0.c1
  have a3 := b2.c0
  have a4 := b2.f 0
  have a5 := x1.c0
  have a6 := x1.c1
  have a7 := x1.f 1
  have a8 := x2.c0
  have a9 := x2.c1
  have d0 := y0.c0
  have d1 := y0.c1
  have d2 := y1.c0
  have d3 := y1.c1
  have d4 := y1.f 0
  have d5 := y1.f 1
  have d6 := y2.c0
  have d7 := y2.c1
  have d8 := y3.c0
  have d9 := y3.c1
  clear h3 hb hb2 hB hg1 hg2 hrow hs HR W x1 x2 y0 y1 y2 y3 b0 b1 b2
  go_wp2_with fail
  exact bodyPost_ret (v := .agg #[.slice (some ⟨g, 0, none⟩) zs.length zs.length, .int .i64 u]) (by simp [results, Tryd.results6, go_sem, d8, d9]) rfl ⟨g, by have := HG.out; omega, by have := HG.out; simp; omega, rfl, HRow.out, HB2.out⟩

theorem eqCups_same (A A' : Option Addr) (n c c' B B' : Nat) (zs : List Int) (u : Int) (w : World) (hr : Ints w B A n zs) (hr' : Ints w B' A' n zs) (hB : B ≤ w.heap.size) (hB' : B' ≤ w.heap.size) (hn : n ≤ 17592186044416) :
    Calls Tryd.prog 9 #[.agg #[.slice A n c, .int .i64 u], .agg #[.slice A' n c', .int .i64 u]] w fun e w' => e = .returned (.bool true) ∧ Below w.heap.size w w' := by
  have b1 : Below w.heap.size w ((w.alloc (.cells #[.slice A n c, .int .i64 u] 29)).alloc (.cells #[.slice A' n c', .int .i64 u] 29)) := ((Below.refl _ _).alloc (Nat.le_refl _) _).alloc (by simp) _
  have x0 := (Bx.new w 29 (.slice A n c) (.int .i64 u)).alloc (.cells #[.slice A' n c', .int .i64 u] 29)
  have x1 := Bx.new (w.alloc (.cells #[.slice A n c, .int .i64 u] 29)) 29 (.slice A' n c') (.int .i64 u)
  rw [show (w.alloc (.cells #[.slice A n c, .int .i64 u] 29)).heap.size = w.heap.size + 1 from by simp] at x1
  have HE := hide (eqIntS_same A A' n c c' B B' zs _ (hr.below b1 hB) (hr'.below b1 hB') (Nat.le_trans hB b1.size) (Nat.le_trans hB' b1.size) hn)
  have HB := hide b1
  clear b1 hr hr'
  go_enter Tryd.func9, Tryd.ntmps9
  go_wp2_with fail
  refine HE.out.mono ?_; rintro e w2 ⟨rfl, hb2⟩
  have k0 := (x0.next hb2).c1
  have k1 := (x1.next hb2).c1
  have HB2 := hide (HB.out.trans (hb2.mono HB.out.size))
  clear hb2 x0 x1
  go_wp2_with fail
  go_ret
  exact ⟨rfl, HB2.out⟩

/-- The marking of cups that are the call's own. -/
theorem markCups_any (base : Nat) (A : Option Addr) (n c : Nat) (zs : List Int) (u k0 : Int) (w : World) (hown : Own w base 3 (.slice A n c) zs) (hlen : zs.length = n) (hn : n ≤ 1048576) (hk0 : 0 ≤ k0) (hk1 : k0 ≤ 100000000) (hbase : base ≤ w.heap.size) :
    Calls Tryd.prog 10 #[.agg #[.slice A n c, .int .i64 u], .int .i64 k0] w (Marked base A n c k0 w) := by
  have HM := hide (markIntS_any base A n c zs k0 _ (hown.alloc (.cells #[.slice A n c, .int .i64 u] 29)) hlen hn hk0 hk1)
  have HA : Hid (∀ h, h < w.heap.size → (w.alloc (.cells #[.slice A n c, .int .i64 u] 29)).heap[h]? = w.heap[h]?) := hide (fun h hh => Below.heap_alloc _ _ _ hh)
  have HB := hide (show Below base w (w.alloc (.cells #[.slice A n c, .int .i64 u] 29)) from (Below.refl _ _).alloc hbase _)
  have HS := hide (show (w.alloc (.cells #[.slice A n c, .int .i64 u] 29)).heap.size = w.heap.size + 1 from by simp)
  go_enter Tryd.func10, Tryd.ntmps10
  go_wp2_with fail
  refine HM.out.mono ?_; rintro e w2 ⟨rfl, hown2, hb2, hoth⟩
  have HR := hide (show Own w2 base 3 (.slice A n c) (marks k0 n) ∧ Below base w w2 ∧ ∀ h, h < w.heap.size → (∀ ad, A = some ad → h ≠ ad.block) → w2.heap[h]? = w.heap[h]? from
    ⟨hown2, HB.out.trans hb2, fun h hh hA => (hoth h (by rw [HS.out]; omega) hA).trans (HA.out h hh)⟩)
  clear hown2 hb2 hoth hown
  go_wp2_with fail
  go_ret
  exact ⟨rfl, HR.out⟩

end Go.Proofs.YtmknencbjhcehaaDoor
