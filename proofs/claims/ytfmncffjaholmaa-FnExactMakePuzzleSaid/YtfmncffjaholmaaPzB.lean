
/-
  DropClue, BOTH WAYS.
-/
import Derived.Test.YtfmncffjaholmaaPzV
import Derived.Test.YtfmncffjaholmaaPzD
import Derived.Test.YtfmncffjaholmaaPz
import Derived.Test.YtfmncffjaholmaaOne
import Derived.Deep.RegionHeld3
namespace Go.Proofs.Ytfmncffjaholmaa
open Go.RowKit Go.Deep
set_option linter.unusedVariables false

/-- A PUZZLE BESIDE A BOOL, MADE BY THE CALL. -/
def MadeP (ds : List Cl) (h : Int) (b : Bool) (w : World) (e : Ending) (w' : World) : Prop :=
  ∃ A c, e = .returned (.tuple #[.agg #[.int .i64 h, .slice A ds.length c], .bool b]) ∧ OwnICl w' w.heap.size (.slice A ds.length c) ds.length (numsCl ds) ∧ Below w.heap.size w w'
theorem madeP_no {w w' : World} (h : Below w.heap.size w w') : MadeP [] 0 false w (.returned (.tuple #[.agg #[.int .i64 0, .slice none 0 0], .bool false])) w' :=
  ⟨none, 0, rfl, OwnICl.nil _ _, h⟩
theorem madeP_put {w w3 : World} {T : TypeId} {x y : Value} {h : Int} {A' : Option Addr} {c' base b1 : Nat} {ds : List Cl} (b : Bool) (h1 : w.heap.size ≤ b1) (R : Bx w3 b1 T x y) (hown : OwnICl w3 base (.slice A' ds.length c') ds.length (numsCl ds)) (h2 : b1 < base) (hB : Below w.heap.size w w3) :
    ((w3.setCell ⟨b1, 0, none⟩ (.int .i64 h)).setCell ⟨b1, 1, none⟩ (.slice A' ds.length c')).cell? ⟨b1, 0, none⟩ = some (.int .i64 h) ∧
    ((w3.setCell ⟨b1, 0, none⟩ (.int .i64 h)).setCell ⟨b1, 1, none⟩ (.slice A' ds.length c')).cell? ⟨b1, 1, none⟩ = some (.slice A' ds.length c') ∧
    MadeP ds h b w (.returned (.tuple #[.agg #[.int .i64 h, .slice A' ds.length c'], .bool b])) ((w3.setCell ⟨b1, 0, none⟩ (.int .i64 h)).setCell ⟨b1, 1, none⟩ (.slice A' ds.length c')) := by
  have R2 := (R.set0 (.int .i64 h)).set1 (.slice A' ds.length c')
  refine ⟨R2.c0, R2.c1, A', c', rfl, ?_, (hB.setCell (p := ⟨b1, 0, none⟩) h1 _).setCell (p := ⟨b1, 1, none⟩) h1 _⟩
  exact ((hown.keep (w' := w3.setCell ⟨b1, 0, none⟩ (.int .i64 h)) fun g hg _ => Below.heap_setCell _ _ _ _ (by simp; omega)).keep (w' := (w3.setCell ⟨b1, 0, none⟩ (.int .i64 h)).setCell ⟨b1, 1, none⟩ (.slice A' ds.length c')) fun g hg _ => Below.heap_setCell _ _ _ _ (by simp; omega)).less (by omega)
theorem noP_put {w w3 : World} {T : TypeId} {x y : Value} {b1 : Nat} (h1 : w.heap.size ≤ b1) (R : Bx w3 b1 T x y) (hB : Below w.heap.size w w3) :
    w3.cell? ⟨b1, 0, none⟩ = some x ∧ w3.frozen? ⟨b1, 0, none⟩ = false ∧ (w3.setCell ⟨b1, 0, none⟩ (.int .i64 0)).cell? ⟨b1, 1, none⟩ = some y ∧ (w3.setCell ⟨b1, 0, none⟩ (.int .i64 0)).frozen? ⟨b1, 1, none⟩ = false ∧
    ((w3.setCell ⟨b1, 0, none⟩ (.int .i64 0)).setCell ⟨b1, 1, none⟩ (.slice none 0 0)).cell? ⟨b1, 0, none⟩ = some (.int .i64 0) ∧
    ((w3.setCell ⟨b1, 0, none⟩ (.int .i64 0)).setCell ⟨b1, 1, none⟩ (.slice none 0 0)).cell? ⟨b1, 1, none⟩ = some (.slice none 0 0) ∧
    MadeP [] 0 false w (.returned (.tuple #[.agg #[.int .i64 0, .slice none 0 0], .bool false])) ((w3.setCell ⟨b1, 0, none⟩ (.int .i64 0)).setCell ⟨b1, 1, none⟩ (.slice none 0 0)) := by
  have R1 := R.set0 (.int .i64 0)
  have R2 := R1.set1 (.slice none 0 0)
  exact ⟨R.c0, R.f 0, R1.c1, R1.f 1, R2.c0, R2.c1, madeP_no ((hB.setCell (p := ⟨b1, 0, none⟩) h1 _).setCell (p := ⟨b1, 1, none⟩) h1 _)⟩
def dropOk (u : Int) (cs : List Cl) (k : Int) : Bool := pzOk u cs && decide (0 ≤ k ∧ k < cs.length)
def dropL (u : Int) (cs : List Cl) (k : Int) : List Cl := if dropOk u cs k then withoutL cs k.toNat else []
def dropU (u : Int) (cs : List Cl) (k : Int) : Int := if dropOk u cs k then u else 0
theorem dropL_len (u : Int) (cs : List Cl) (k : Int) (h : cs.length ≤ 1048576) : (dropL u cs k).length ≤ 1048576 := by
  unfold dropL withoutL
  split
  · rw [List.length_append, List.length_take, List.length_drop]; omega
  · simp
theorem drop_no {u : Int} {cs : List Cl} {k : Int} (h : dropOk u cs k = false) : dropL u cs k = [] ∧ dropU u cs k = 0 := by simp [dropL, dropU, h]
theorem drop_yes {u : Int} {cs : List Cl} {k : Int} (h : dropOk u cs k = true) : dropL u cs k = withoutL cs k.toNat ∧ dropU u cs k = u := by simp [dropL, dropU, h]

end Go.Proofs.Ytfmncffjaholmaa
