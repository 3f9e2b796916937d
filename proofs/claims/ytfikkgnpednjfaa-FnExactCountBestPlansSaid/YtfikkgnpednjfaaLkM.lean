
/-
  BEST PLANS: THREE VARIABLES THAT TURN, and all else as it was. No program is named here.
-/
import Derived.Test.YtfikkgnpednjfaaLkP
import Derived.Test.YtfikkgnpednjfaaRws
namespace Go.Proofs.Ytfikkgnpednjfaa
open Go.RowKit Go.Deep

/-- All blocks but three are as they were. -/
structure K3 (b0 x y z : Nat) (W W' : World) : Prop where
  bl : Below b0 W W'
  sv : ∀ h, h < W.heap.size → h ≠ x → h ≠ y → h ≠ z → W'.heap[h]? = W.heap[h]?
theorem K3.refl (b0 x y z : Nat) (W : World) : K3 b0 x y z W W := ⟨Below.refl _ _, fun _ _ _ _ _ => rfl⟩
theorem K3.next {b0 x y z : Nat} {W W1 W2 : World} (h : K3 b0 x y z W W1) (h2 : K3 b0 x y z W1 W2) : K3 b0 x y z W W2 :=
  ⟨h.bl.trans h2.bl, fun b hb n1 n2 n3 => (h2.sv b (Nat.lt_of_lt_of_le hb h.bl.size) n1 n2 n3).trans (h.sv b hb n1 n2 n3)⟩
theorem K3.call {b0 x y z : Nat} {W W1 W2 : World} (h : K3 b0 x y z W W1) (h0 : b0 ≤ W.heap.size) (h2 : Below W1.heap.size W1 W2) : K3 b0 x y z W W2 :=
  ⟨h.bl.trans (h2.mono (Nat.le_trans h0 h.bl.size)), fun b hb n1 n2 n3 => (h2.block b (Nat.lt_of_lt_of_le hb h.bl.size)).trans (h.sv b hb n1 n2 n3)⟩
theorem K3.put {b0 x y z : Nat} {W W1 : World} (h : K3 b0 x y z W W1) {a : Addr} (ha : a.block = x ∨ a.block = y ∨ a.block = z) (h0 : b0 ≤ a.block) (v : Value) : K3 b0 x y z W (W1.setCell a v) :=
  ⟨h.bl.setCell h0 v, fun b hb n1 n2 n3 => (Below.heap_setCell _ _ _ _ (by rcases ha with e | e | e <;> (rw [e]; assumption))).trans (h.sv b hb n1 n2 n3)⟩
theorem K3.drew {b0 x y z : Nat} {W W1 : World} (h : K3 b0 x y z W W1) : K3 b0 x y z W W1.drew := ⟨h.bl.drew, h.sv⟩
theorem K3.newer {b0 x y z : Nat} {W W1 : World} (h : K3 b0 x y z W W1) {a : Addr} (ha : W.heap.size ≤ a.block) (h0 : b0 ≤ W.heap.size) (v : Value) : K3 b0 x y z W (W1.setCell a v) :=
  ⟨h.bl.setCell (Nat.le_trans h0 ha) v, fun b hb n1 n2 n3 => (Below.heap_setCell _ _ _ _ (by omega)).trans (h.sv b hb n1 n2 n3)⟩
/-- A list that lies elsewhere. -/
def Away (x y z : Nat) (A : Option Addr) : Prop := ∀ ad, A = some ad → ad.block ≠ x ∧ ad.block ≠ y ∧ ad.block ≠ z
theorem Ints.kept {b0 x y z n : Nat} {W W' : World} {A : Option Addr} {zs : List Int} (h : Ints W W.heap.size A n zs) (ha : Away x y z A) (hk : K3 b0 x y z W W') : Ints W' W'.heap.size A n zs :=
  ⟨h.1, fun hn => by
    obtain ⟨ad, e, hb, hc⟩ := h.2 hn
    obtain ⟨n1, n2, n3⟩ := ha ad e
    exact ⟨ad, e, Nat.lt_of_lt_of_le hb hk.bl.size, fun k hk' => (cell_of_block (hk.sv _ (by rw [block_of_add]; exact hb) (by rw [block_of_add]; exact n1) (by rw [block_of_add]; exact n2) (by rw [block_of_add]; exact n3))).trans (hc k hk')⟩⟩
theorem away_new {x y z g : Nat} (h : x < g ∧ y < g ∧ z < g) : Away x y z (some ⟨g, 0, none⟩) := fun ad e => by
  injection e with e; subst e; exact ⟨by show g ≠ x; omega, by show g ≠ y; omega, by show g ≠ z; omega⟩
theorem away_none (x y z : Nat) : Away x y z none := fun ad e => by cases e
end Go.Proofs.Ytfikkgnpednjfaa
