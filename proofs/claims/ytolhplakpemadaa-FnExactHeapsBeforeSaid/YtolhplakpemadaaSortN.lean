
/-
  slices.SortFunc OVER NO LIST: nothing turns.
-/
import Derived.Test.YtolhplakpemadaaSortR
import Derived.Shelf.SlSortCmp.NoneTotal
namespace Go.Proofs.Ytolhplakpemadaa
open Go.RowKit Go.Deep
theorem sortNone_any (p : Option Addr) (c : Nat) (w : World) :
    Calls Try.prog 23 #[.slice p 0 c, .func (.func 24) #[] #[]] w fun e w' => e = .returned (.tuple #[]) ∧ w' = w :=
  Go.Proofs.AnyF.slices_SortFunc_none (P := Try.prog) (ρ := Try.laysSlF6_f23_ren) { Try.laysSlF6_f23 with } p c _ w
end Go.Proofs.Ytolhplakpemadaa
