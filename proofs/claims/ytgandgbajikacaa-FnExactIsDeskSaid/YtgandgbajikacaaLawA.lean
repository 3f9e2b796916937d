
/-
  THE WALKS OF THE EXACT LAWS, the given frame left out: for all numbers the law returns true and writes nothing that was there.
-/
import Derived.Test.YtgandgbajikacaaGood
namespace Go.Proofs.Ytgandgbajikacaa
open Go.RowKit Go.Deep

theorem size_below {w w' : World} (h : Below w.heap.size w w') : w.heap.size ≤ w'.heap.size := h.size

end Go.Proofs.Ytgandgbajikacaa
