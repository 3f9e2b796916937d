
/-
  A STRUCT OF ONE FIELD BY VALUE, OPENED. No program is named here.
-/
import Derived.Test.YtgandgbajikacaaWords
import Derived.Lib.SmallJoins
namespace Go.Proofs.Ytgandgbajikacaa
open Go.RowKit Go.Deep Go.ChangeShapes Go.WideShapes Go.WideElems Go.Joins

section
variable {H : Type} {enc : TypeId × Value → H} {P : Program} {w : World} {base : Nat} {spare : Nat → Bool} {held : Bool}
theorem open_agg1 {r : Reach} {b0 : Nat} {t : TypeId} {f0 : Field} {v : Value} {d : DataW H} {p : List MemPlace} (hs : P.underlying t = some (.struct #[f0])) (hone : oneCellFields P #[f0] = true) (hC : P.cellsOf t = 1)
    (hv : Value.okWide P w r b0 t v) (h : DataW.Trod enc P w base spare held t v d p) :
    ∃ (v0 : Value) (y0 : DataW H × List MemPlace) (n : Nat), v = .agg #[v0] ∧ d = .agg [y0.1] ∧ p = y0.2 ∧ DataW.trod enc P w base spare held n f0.type [v0] = some y0 := by
  obtain ⟨cs, rfl, hsz⟩ := okWide_struct hs hv
  obtain ⟨c0, rfl⟩ : ∃ c0, cs = #[c0] := by
    have h1 : cs.size = 1 := hsz.trans hC
    obtain ⟨l⟩ := cs
    match l, h1 with
    | [c0], _ => exact ⟨c0, rfl⟩
  obtain ⟨fuel, hf⟩ := h
  obtain ⟨xs, n, _, hx, hl, hlen, hf'⟩ := DataW.trod_struct hs hf
  obtain ⟨o0, k0⟩ := hone_of hone 0 f0 rfl
  match xs, hlen with
  | [y0], _ =>
    have h0 := hf' 0 f0 rfl
    refine ⟨c0, y0, n, rfl, ?_, ?_, by simpa [Value.cells, o0, k0] using h0⟩
    · have := congrArg Prod.fst hx; simpa using this
    · have := congrArg Prod.snd hx; simpa using this
end
end Go.Proofs.Ytgandgbajikacaa
