
/-
  DESKS: the laws' own helpers: szDesk, toDesk, eqDesk, markDesk, heldDesk; both sides of FirstDesk and IsDesk.
-/
import Derived.Test.YtgandgbajikacaaLaws0
import Derived.Test.YtgandgbajikacaaMark
import Derived.Laws.ResultCell
import Derived.Test.YtgandgbajikacaaRws
namespace Go.Proofs.Ytgandgbajikacaa
open Go.RowKit Go.Deep
set_option linter.unusedVariables false

theorem szIntS_any (A : Option Addr) (n c : Nat) (left : Int) (w : World) (hn : n ≤ 9223372036854775807) (h0 : 0 ≤ left) (h1 : left ≤ 1048576) :
    Calls Try.prog 17 #[.slice A n c, .int .i64 left] w fun e w' => e = .returned (.int .i64 (if left < n then -1 else left - n)) ∧ w = w' := by
  by_cases h : left < n
  · have H := hide (show (if left < (n : Int) then (-1 : Int) else left - n) = -1 from if_pos h)
    go_enter Try.func17, Try.ntmps17
    go_wp2
    go_ret
    exact ⟨by first | rfl | (rw [H.out]; rfl), rfl⟩
  · have H := hide (show (if left < (n : Int) then (-1 : Int) else left - n) = left - n from if_neg h)
    go_enter Try.func17, Try.ntmps17
    go_wp2
    go_ret
    exact ⟨by first | rfl | (rw [H.out]; rfl), rfl⟩
theorem szDesk_any (A : Option Addr) (n c : Nat) (left : Int) (w : World) (hn : n ≤ 9223372036854775807) (h0 : 0 ≤ left) (h1 : left ≤ 1048576) :
    Calls Try.prog 10 #[.agg #[.slice A n c], .int .i64 left] w fun e w' => e = .returned (.int .i64 (if left < n then -1 else left - n)) ∧ Below w.heap.size w w' := by
  have HS := hide (fun W => szIntS_any A n c left W hn h0 h1)
  by_cases h : left < n
  · have H := hide (show (if left < (n : Int) then (-1 : Int) else left - n) = -1 from if_pos h)
    rw [H.out] at HS
    rw [H.out]
    go_enter Try.func10, Try.ntmps10
    go_wp2_with fail
    refine (HS.out _).mono ?_; rintro e w' ⟨rfl, rfl⟩
    go_wp2_with fail
    go_ret
    exact ⟨rfl, (Below.refl _ _).alloc (Nat.le_refl _) _⟩
  · have H := hide (show (if left < (n : Int) then (-1 : Int) else left - n) = left - n from if_neg h)
    rw [H.out] at HS
    rw [H.out]
    have h' : ¬ (left - (n : Int) < 0) := by omega
    go_enter Try.func10, Try.ntmps10
    go_wp2_with fail
    refine (HS.out _).mono ?_; rintro e w' ⟨rfl, rfl⟩
    go_wp2_with fail
    go_ret
    exact ⟨rfl, (Below.refl _ _).alloc (Nat.le_refl _) _⟩

/-- WHAT toDesk LEAVES. -/
def CopiedD (zs : List Int) (w : World) (e : Ending) (w' : World) : Prop :=
  ∃ g, w.heap.size ≤ g ∧ g < w'.heap.size ∧ e = .returned (.agg #[.slice (some ⟨g, 0, none⟩) zs.length zs.length]) ∧ Row w' g 3 zs ∧ Below w.heap.size w w'

theorem toDesk_any (A : Option Addr) (n c : Nat) (zs : List Int) (w : World) (hr : Ints w w.heap.size A n zs) (hn : n ≤ 17592186044416) :
    Calls Try.prog 12 #[.agg #[.slice A n c]] w (CopiedD zs w) := by
  obtain rfl := hr.len
  have HR := hide (fun W (h : Below w.heap.size w W) => toIntS_any A zs.length c zs W ((hr.below h (Nat.le_refl _)).more h.size) hn)
  clear hr
  go_enter Try.func12, Try.ntmps12
  go_wp2_with fail
  have hB : Below w.heap.size w (((w.alloc (.cells #[.slice A zs.length c] 29)).alloc (.cells #[.slice none 0 0] 24)).alloc (.cells #[.slice none 0 0] 24)) :=
    (((Below.refl _ _).alloc (Nat.le_refl _) _).alloc (by simp) _).alloc (by simp; omega) _
  have hs : (((w.alloc (.cells #[.slice A zs.length c] 29)).alloc (.cells #[.slice none 0 0] 24)).alloc (.cells #[.slice none 0 0] 24)).heap.size = w.heap.size + 3 := by simp
  have q1 : One (((w.alloc (.cells #[.slice A zs.length c] 29)).alloc (.cells #[.slice none 0 0] 24)).alloc (.cells #[.slice none 0 0] 24)) (w.heap.size + 1) 24 (.slice none 0 0) := by
    have := One.made (w.alloc (.cells #[.slice A zs.length c] 29)) 24 (.slice none 0 0)
    rw [show (w.alloc (.cells #[.slice A zs.length c] 29)).heap.size = w.heap.size + 1 from by simp] at this
    exact this.new _
  have q2 : One (((w.alloc (.cells #[.slice A zs.length c] 29)).alloc (.cells #[.slice none 0 0] 24)).alloc (.cells #[.slice none 0 0] 24)) (w.heap.size + 1 + 1) 24 (.slice none 0 0) := by
    have := One.made ((w.alloc (.cells #[.slice A zs.length c] 29)).alloc (.cells #[.slice none 0 0] 24)) 24 (.slice none 0 0)
    rw [show ((w.alloc (.cells #[.slice A zs.length c] 29)).alloc (.cells #[.slice none 0 0] 24)).heap.size = w.heap.size + 1 + 1 from by simp] at this
    exact this
  have q0 : One (((w.alloc (.cells #[.slice A zs.length c] 29)).alloc (.cells #[.slice none 0 0] 24)).alloc (.cells #[.slice none 0 0] 24)) w.heap.size 29 (.slice A zs.length c) := ((One.made _ _ _).new _).new _
  generalize (((w.alloc (.cells #[.slice A zs.length c] 29)).alloc (.cells #[.slice none 0 0] 24)).alloc (.cells #[.slice none 0 0] 24)) = W at *
  have HS := hide hs
  clear hs
  have a0 := q0.cell
  refine (HR.out _ hB).mono ?_
  rintro e w2 ⟨g, hg1, hg2, rfl, hrow, hb⟩
  have hsz := HS.out
  have hb1 := hb.size
  have b1 : One w2 (w.heap.size + 1) 24 (.slice none 0 0) := q1.below hb q1.lt
  have b2 : One w2 (w.heap.size + 1 + 1) 24 (.slice none 0 0) := q2.below hb q2.lt
  have hb2 : Below w.heap.size w w2 := hB.trans (hb.mono (by omega))
  have HRow := hide ((hrow.past (a := ⟨w.heap.size + 1 + 1, 0, none⟩) (by simp; omega) (.slice (some ⟨g, 0, none⟩) zs.length zs.length)).past (a := ⟨w.heap.size + 1, 0, none⟩) (by simp; omega) (.slice (some ⟨g, 0, none⟩) zs.length zs.length))
  have HG := hide (show w.heap.size + 3 ≤ g ∧ g < w2.heap.size from ⟨by omega, hg2⟩)
  have x1 := b2.put (.slice (some ⟨g, 0, none⟩) zs.length zs.length)
  have y1 := b1.past (a := ⟨w.heap.size + 1 + 1, 0, none⟩) (by simp) (.slice (some ⟨g, 0, none⟩) zs.length zs.length)
  have y2 := y1.put (.slice (some ⟨g, 0, none⟩) zs.length zs.length)
  have HB2 := hide ((hb2.setCell (p := ⟨w.heap.size + 1 + 1, 0, none⟩) (by simp; omega) (.slice (some ⟨g, 0, none⟩) zs.length zs.length)).setCell (p := ⟨w.heap.size + 1, 0, none⟩) (by simp) (.slice (some ⟨g, 0, none⟩) zs.length zs.length))
  have a1 := b1.cell
  have a2 := b2.cell
  have a3 := b2.free
  have a4 := x1.cell
  have a5 := y1.cell
  have a6 := y1.free
  have a7 := y2.cell
  clear hb hb1 hb2 hB hg1 hg2 hrow HR q0 q1 q2 x1 y1 y2 b1 b2 hsz a0 HS W
  go_wp2_with fail
  exact bodyPost_ret (v := .agg #[.slice (some ⟨g, 0, none⟩) zs.length zs.length]) (by simp [results, Try.results12, go_sem, a7]) rfl ⟨g, by have := HG.out; omega, by have := HG.out; simp; omega, rfl, HRow.out, HB2.out⟩

theorem eqDesk_same (A A' : Option Addr) (n c c' B B' : Nat) (zs : List Int) (w : World) (hr : Ints w B A n zs) (hr' : Ints w B' A' n zs) (hB : B ≤ w.heap.size) (hB' : B' ≤ w.heap.size) (hn : n ≤ 17592186044416) :
    Calls Try.prog 7 #[.agg #[.slice A n c], .agg #[.slice A' n c']] w fun e w' => e = .returned (.bool true) ∧ Below w.heap.size w w' := by
  have b1 : Below w.heap.size w ((w.alloc (.cells #[.slice A n c] 24)).alloc (.cells #[.slice A' n c'] 24)) := ((Below.refl _ _).alloc (Nat.le_refl _) _).alloc (by simp) _
  have HE := hide (eqIntS_same A A' n c c' B B' zs _ (hr.below b1 hB) (hr'.below b1 hB') (Nat.le_trans hB b1.size) (Nat.le_trans hB' b1.size) hn)
  have HB := hide b1
  clear b1 hr hr'
  go_enter Try.func7, Try.ntmps7
  go_wp2_with fail
  refine HE.out.mono ?_; rintro e w2 ⟨rfl, hb2⟩
  have HB2 := hide (HB.out.trans (hb2.mono HB.out.size))
  clear hb2
  go_wp2_with fail
  go_ret
  exact ⟨rfl, HB2.out⟩

/-- The marking of a desk that is the call's own. -/
theorem markDesk_any (base : Nat) (A : Option Addr) (n c : Nat) (zs : List Int) (k0 : Int) (w : World) (hown : Own w base 3 (.slice A n c) zs) (hlen : zs.length = n) (hn : n ≤ 1048576) (hk0 : 0 ≤ k0) (hk1 : k0 ≤ 100000000) (hbase : base ≤ w.heap.size) :
    Calls Try.prog 8 #[.agg #[.slice A n c], .int .i64 k0] w (Marked base A n c k0 w) := by
  have HM := hide (markIntS_any base A n c zs k0 _ (hown.alloc (.cells #[.slice A n c] 24)) hlen hn hk0 hk1)
  have HA : Hid (∀ h, h < w.heap.size → (w.alloc (.cells #[.slice A n c] 24)).heap[h]? = w.heap[h]?) := hide (fun h hh => Below.heap_alloc _ _ _ hh)
  have HB := hide (show Below base w (w.alloc (.cells #[.slice A n c] 24)) from (Below.refl _ _).alloc hbase _)
  have HS := hide (show (w.alloc (.cells #[.slice A n c] 24)).heap.size = w.heap.size + 1 from by simp)
  go_enter Try.func8, Try.ntmps8
  go_wp2_with fail
  refine HM.out.mono ?_; rintro e w2 ⟨rfl, hown2, hb2, hoth⟩
  have HR := hide (show Own w2 base 3 (.slice A n c) (marks k0 n) ∧ Below base w w2 ∧ ∀ h, h < w.heap.size → (∀ ad, A = some ad → h ≠ ad.block) → w2.heap[h]? = w.heap[h]? from
    ⟨hown2, HB.out.trans hb2, fun h hh hA => (hoth h (by rw [HS.out]; omega) hA).trans (HA.out h hh)⟩)
  clear hown2 hb2 hoth hown
  go_wp2_with fail
  go_ret
  exact ⟨rfl, HR.out⟩

/-- The marks are there. -/
theorem heldDesk_any (A : Option Addr) (n c B : Nat) (k0 : Int) (w : World) (hr : Ints w B A n (marks k0 n)) (hB : B ≤ w.heap.size) (hn : n ≤ 1048576) (hk0 : 0 ≤ k0) (hk1 : k0 ≤ 100000000) :
    Calls Try.prog 9 #[.agg #[.slice A n c], .int .i64 k0] w fun e w' => e = .returned (.int .i64 (k0 + (n : Int))) ∧ Below w.heap.size w w' := by
  have b1 : Below w.heap.size w (w.alloc (.cells #[.slice A n c] 24)) := (Below.refl _ _).alloc (Nat.le_refl _) _
  have HH := hide (heldIntS_any A n c B k0 _ (hr.below b1 hB) hn hk0 hk1)
  have HB := hide b1
  have hlt : ¬ (k0 + (n : Int) < 0) := by omega
  clear b1 hr
  go_enter Try.func9, Try.ntmps9
  go_wp2_with fail
  refine HH.out.mono ?_; rintro e w' ⟨rfl, rfl⟩
  go_wp2_with fail
  go_ret
  exact ⟨rfl, HB.out⟩

/-- WHAT FirstDesk LEAVES: a desk of the call's own. -/
def MadeD (zs : List Int) (w : World) (e : Ending) (w' : World) : Prop :=
  ∃ g, w.heap.size ≤ g ∧ g < w'.heap.size ∧ e = .returned (.agg #[.slice (some ⟨g, 0, none⟩) zs.length zs.length]) ∧ Own w' w.heap.size 3 (.slice (some ⟨g, 0, none⟩) zs.length zs.length) zs ∧ Below w.heap.size w w'
end Go.Proofs.Ytgandgbajikacaa
