import Derived.Test.YtediapekgbekeaaMg05

/-
  BYTES THAT COME IN: out of the row's own opening.
-/
namespace Go.Proofs.Ytediapekgbekeaa
open Go.RowKit Go.Deep

theorem bys_of_row {w : World} {x : Addr} {len cap : Nat} {zs : List Int} (hl : len ≤ cap) (hz : zs.length = cap)
    (hc : ∀ i, i < zs.length → w.cell? (x.add i) = some (.int .u8 (zs.getD i 0))) (hw : ∀ n ∈ zs, (Lit.int .u8 n).wf = true) : Bys w w.heap.size (some x) len := fun hn => by
  refine ⟨x, rfl, ?_, fun k hk => ?_⟩
  · have h0 := hc 0 (by omega)
    rw [show x.add 0 = x from by simp [Addr.add]] at h0
    exact lt_of_cell? h0
  · have hk' : k < zs.length := by omega
    have h := hw _ (List.getElem_mem hk')
    have e : zs.getD k 0 = zs[k] := by simp [List.getD, hk']
    refine ⟨zs.getD k 0, ?_, ?_, hc k hk'⟩
    · rw [e]; simp [Lit.wf, IntKind.min, IntKind.max, IntKind.bits, IntKind.signed] at h; omega
    · rw [e]; simp [Lit.wf, IntKind.min, IntKind.max, IntKind.bits, IntKind.signed] at h; omega
end Go.Proofs.Ytediapekgbekeaa
