
/-
  A SLICE OF STRUCTS OF 4 NUMBERS (impl.Clue) THAT CAME IN, OPENED. Printed by structs.py.
-/
import Derived.Test.YtmjlfmlbmegheaaDoorCl
import Derived.Test.YtmjlfmlbmegheaaDoorOpenL
import Derived.ProofKit
import Derived.Deep.SlicePairs
namespace Go.Proofs.YtmjlfmlbmegheaaDoor
open Go.RowKit Go.Deep Go.ChangeShapes Go.WideShapes

variable {H : Type} {enc : TypeId × Value → H} {P : Program} {w : World} {spare : Nat → Bool} {held : Bool}
theorem open_Cl {t e : TypeId} {f0 f1 f2 f3 : Field} {fuel : Nat} {A : Option Addr} {len cap : Nat} {x : DataW H × List MemPlace} (ht : P.underlying t = some (.slice e)) (he : P.underlying e = some (.struct #[f0, f1, f2, f3]))
    (ce : P.cellsOf e = 4) (o0 : f0.offset = 0) (o1 : f1.offset = 1) (o2 : f2.offset = 2) (o3 : f3.offset = 3) (c0 : P.cellsOf f0.type = 1) (c1 : P.cellsOf f1.type = 1) (c2 : P.cellsOf f2.type = 1) (c3 : P.cellsOf f3.type = 1)
    (u0 : P.underlying f0.type = some (.int .i64)) (u1 : P.underlying f1.type = some (.int .i64)) (u2 : P.underlying f2.type = some (.int .i64)) (u3 : P.underlying f3.type = some (.int .i64))
    (h : DataW.trod enc P w 0 spare held fuel t [.slice A len cap] = some x) : ∃ ms, Cls w w.heap.size A len ms ∧ len ≤ maxLen := by
  rcases open_slice ht h with ⟨h0, _⟩ | ⟨a, len', cap', m, n, D, Pl, h0, _, hl, hm, hmm, _, hx⟩
  · simp at h0
    obtain ⟨rfl, rfl, rfl⟩ := h0
    exact ⟨[], ⟨rfl, fun h => by omega⟩, Nat.zero_le _⟩
  · simp at h0
    obtain ⟨rfl, rfl, rfl⟩ := h0
    have hlm : len ≤ m := by rw [hmm]; split <;> omega
    have each : ∀ i, i < len → ∃ q : Cl, w.cell? ((a.add (i * 4)).add 0) = some (.int .i64 q.x0) ∧ w.cell? ((a.add (i * 4)).add 1) = some (.int .i64 q.x1) ∧ w.cell? ((a.add (i * 4)).add 2) = some (.int .i64 q.x2) ∧ w.cell? ((a.add (i * 4)).add 3) = some (.int .i64 q.x3) := by
      intro i hi
      obtain ⟨cs', h1, h2⟩ := hx i (by omega)
      rw [ce] at h1
      obtain ⟨_, hlen, hcell⟩ := World.cells?_some h1
      obtain ⟨xs, k, hk, hxy, _, hxl, hf⟩ := DataW.trod_struct he h2
      match xs, hxl, cs', hlen with
      | [y0, y1, y2, y3], _, [v0, v1, v2, v3], _ =>
        have g0 := hf 0 f0 rfl
        have g1 := hf 1 f1 rfl
        have g2 := hf 2 f2 rfl
        have g3 := hf 3 f3 rfl
        simp [o0, o1, o2, o3, c0, c1, c2, c3] at g0 g1 g2 g3
        obtain ⟨n0, e0, _, _⟩ := DataW.trod_int u0 g0
        obtain ⟨n1, e1, _, _⟩ := DataW.trod_int u1 g1
        obtain ⟨n2, e2, _, _⟩ := DataW.trod_int u2 g2
        obtain ⟨n3, e3, _, _⟩ := DataW.trod_int u3 g3
        simp at e0 e1 e2 e3
        subst e0 e1 e2 e3
        exact ⟨⟨n0, n1, n2, n3⟩, by simpa using hcell 0 (by omega), by simpa using hcell 1 (by omega), by simpa using hcell 2 (by omega), by simpa using hcell 3 (by omega)⟩
    obtain ⟨ms, hms, hp⟩ := exists_list len _ each
    refine ⟨ms, ⟨hms, fun hn => ?_⟩, by omega⟩
    obtain ⟨b, off, spot⟩ := a
    have p0 := (hp 0 (by omega)).1
    have hspot : spot = none := by simpa [Addr.add] using World.cell?_spot p0
    subst hspot
    refine ⟨b, off, rfl, ?_, fun i hi => ?_⟩
    · have := lt_of_cell? p0
      simpa [Addr.add] using this
    · obtain ⟨k, j, hk, hj, rfl⟩ : ∃ k j, k < ms.length ∧ j < 4 ∧ i = k * 4 + j := ⟨i / 4, i % 4, by omega, by omega, by omega⟩
      have hpi := hp k hk
      have addp : ∀ k : Nat, (⟨b, off, none⟩ : Addr).add k = ⟨b, off + k, none⟩ := fun k => by unfold Addr.add; split <;> simp_all
      have addp' : ∀ j k : Nat, (⟨b, off + j, none⟩ : Addr).add k = ⟨b, off + j + k, none⟩ := fun j k => by unfold Addr.add; split <;> simp_all
      rw [addp, addp', addp', addp', addp'] at hpi
      rw [← Nat.add_assoc]
      match j, hj with
      | 0, _ => rw [hpi.1, Nat.add_zero, cellCl_0 ms k hk]
      | 1, _ => rw [hpi.2.1, cellCl_1 ms k hk]
      | 2, _ => rw [hpi.2.2.1, cellCl_2 ms k hk]
      | 3, _ => rw [hpi.2.2.2, cellCl_3 ms k hk]
end Go.Proofs.YtmjlfmlbmegheaaDoor
