
/-
  A LIST OF LISTS OF NUMBERS THAT IS HANDED IN: what it reads as.
-/
import Derived.Test.YtjfkadmmmhefbaaDoorSs
import Derived.Deep.Matrix
namespace Go.Proofs.YtjfkadmmmhefbaaDoor
open Go.RowKit Go.Deep
set_option linter.unusedVariables false

theorem open_SS {H : Type} {enc : TypeId × Value → H} {P : Program} {w : World} {held : Bool} {t e q : TypeId} {fuel : Nat} {A : Option Addr} {len cap : Nat} {x : DataW H × List MemPlace} (ht : P.underlying t = some (.slice e)) (he : P.underlying e = some (.slice q)) (hq : P.underlying q = some (.int .i64))
    (ce : P.cellsOf e = 1) (cq : P.cellsOf q = 1) (h : DataW.trod enc P w 0 (fun _ => true) held fuel t [.slice A len cap] = some x) :
    ∃ vs ms, Vals w w.heap.size A len vs ∧ IntVs w w.heap.size vs ms ∧ len ≤ maxLen ∧ ∀ j, j < ms.length → (ms.getD j []).length ≤ maxLen := by
  rcases open_int_rows ht he hq ce cq h with ⟨h0, _⟩ | ⟨a, len', cap', B, L, C, Z, h0, _, hl, hm, _, hx⟩
  · simp at h0
    obtain ⟨rfl, rfl, rfl⟩ := h0
    exact ⟨[], [], ⟨rfl, fun h => by omega⟩, ⟨rfl, fun k hk => absurd hk (by simp)⟩, Nat.zero_le _, fun j hj => absurd hj (by simp)⟩
  · simp at h0
    obtain ⟨rfl, rfl, rfl⟩ := h0
    have hv : ∀ k, k < len → ((List.range len).map fun r => Value.slice (B r) (L r) (C r)).getD k undef = .slice (B k) (L k) (C k) := fun k hk => by simp [List.getD, hk]
    have hm' : ∀ k, k < len → ((List.range len).map fun r => (Z r).take (L r)).getD k [] = (Z k).take (L k) := fun k hk => by simp [List.getD, hk]
    have hlen : ∀ k, k < len → ((Z k).take (L k)).length = L k := fun k hk => by
      obtain ⟨_, h1, _, h2, _⟩ := hx k (by omega)
      rw [List.length_take]; omega
    refine ⟨(List.range len).map fun r => .slice (B r) (L r) (C r), (List.range len).map fun r => (Z r).take (L r), ⟨by simp, fun hn => ⟨a, rfl, ?_, fun k hk => ?_⟩⟩, ⟨by simp, fun k hk => ?_⟩, by omega, fun j hj => ?_⟩
    · have := lt_of_cell? (hx 0 (by omega)).1
      rwa [block_of_add] at this
    · rw [hv k hk]; exact (hx k (by omega)).1
    · simp at hk
      rw [hv k hk, hm' k hk]
      refine ⟨B k, C k, by rw [hlen k hk], ?_⟩
      obtain ⟨_, h1, _, h2, _, h3, h4⟩ := hx k (by omega)
      refine ⟨rfl, fun hn => ?_⟩
      rw [hlen k hk] at hn
      cases hB : B k with
      | none => have := h3 hB; omega
      | some a' =>
        obtain ⟨_, h5⟩ := h4 a' hB
        refine ⟨a', rfl, ?_, fun i hi => ?_⟩
        · have := lt_of_cell? (h5 0 (by omega))
          rwa [block_of_add] at this
        · rw [hlen k hk] at hi
          rw [h5 i (by omega)]
          simp only [List.getD]
          rw [List.getElem?_take, if_pos hi]
    · simp at hj
      rw [hm' j hj, hlen j hj]
      obtain ⟨_, h1, h2, _⟩ := hx j (by omega)
      omega
end Go.Proofs.YtjfkadmmmhefbaaDoor
