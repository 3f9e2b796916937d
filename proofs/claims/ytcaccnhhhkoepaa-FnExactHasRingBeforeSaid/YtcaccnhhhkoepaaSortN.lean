
/-
  slices.SortFunc OVER NO LIST: nothing turns.
-/
import Derived.Test.YtcaccnhhhkoepaaSortR
import Derived.Shelf.SlSortCmp.NoneTotal
namespace Go.Proofs.Ytcaccnhhhkoepaa
open Go.RowKit Go.Deep
theorem sortNone_any (p : Option Addr) (c : Nat) (w : World) :
    Calls Try.prog 24 #[.slice p 0 c, .func (.func 25) #[] #[]] w fun e w' => e = .returned (.tuple #[]) ∧ w' = w :=
  Go.Proofs.AnyF.slices_SortFunc_none (P := Try.prog) (ρ := Try.laysSlF6_f24_ren) { Try.laysSlF6_f24 with } p c _ w
end Go.Proofs.Ytcaccnhhhkoepaa
