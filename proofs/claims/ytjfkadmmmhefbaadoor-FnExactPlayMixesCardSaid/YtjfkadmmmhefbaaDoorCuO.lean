
/-
  CUPS OF DROPS, BOTH WAYS: CupsOf.
-/
import Derived.Test.YtjfkadmmmhefbaaDoorCuL
import Derived.Test.YtjfkadmmmhefbaaDoorCuS
import Derived.Test.YtjfkadmmmhefbaaDoorCopy
namespace Go.Proofs.YtjfkadmmmhefbaaDoor
open Go.RowKit Go.Deep
set_option linter.unusedVariables false

/-- WHAT A CALL THAT MAKES CUPS, PERHAPS, LEAVES. -/
def MadeCB (fs : List Int) (fu : Int) (b : Bool) (w : World) (e : Ending) (w' : World) : Prop :=
  ∃ A c, e = .returned (.tuple #[.agg #[.slice A fs.length c, .int .i64 fu], .bool b]) ∧ fs.length ≤ c ∧ c ≤ maxLen ∧ Own w' w.heap.size 3 (.slice A fs.length c) fs ∧ Below w.heap.size w w'
theorem madeCB_no (w w' : World) (h : Below w.heap.size w w') : MadeCB [] 0 false w (.returned (.tuple #[.agg #[.slice none 0 0, .int .i64 0], .bool false])) w' :=
  ⟨none, 0, rfl, Nat.le_refl _, by unfold maxLen; omega, Own.nil _ _ _, h⟩

/-- slices.Clone of any list. -/
theorem CloneAny_any (A : Option Addr) (n c B : Nat) (zs : List Int) (w : World) (hr : Ints w B A n zs) (hB : B ≤ w.heap.size) (hn : n < 10000000) :
    Calls Tryd.prog 20 #[.slice A n c] w fun e w' => ∃ v, e = .returned v ∧ Own w' w.heap.size 3 v zs ∧ Below w.heap.size w w' := by
  obtain rfl := hr.len
  cases A with
  | none =>
    have hz : zs = [] := by
      rcases Nat.eq_zero_or_pos zs.length with h | h
      · exact List.length_eq_zero_iff.1 h
      · obtain ⟨ad, had, _⟩ := hr.at_ h
        cases had
    subst hz
    have he := fun w => Lib.run_eql_slice_nil (P := Tryd.prog) w 22 3 none 0 c 0 0 Tryd.underlying22
    go_enter Tryd.func20, Tryd.ntmps20
    go_wp2_with fail
    exact bodyPost_ret (v := .slice none 0 0) (by simp [results, Tryd.results20, go_sem]) rfl ⟨_, rfl, Own.nil _ _ _, Below.refl _ _⟩
  | some ad =>
    have he := fun w => Lib.run_eql_slice_nil (P := Tryd.prog) w 22 3 (some ad) zs.length c 0 0 Tryd.underlying22
    go_enter Tryd.func20, Tryd.ntmps20
    go_wp2_with (at_builtin; refine wpList_app_list rfl _ _ 22 3 rfl Tryd.underlying22 infoInt rfl ad _ _ B zs rfl hr hB hn ?_; intro v' w' hown' hb')
    go_ret
    exact ⟨v', rfl, hown', hb'⟩

def ofL (zs : List Int) : List Int := if cuOk zs 1 then zs else []
def ofU (zs : List Int) : Int := if cuOk zs 1 then 1 else 0
theorem ofL_no {zs : List Int} (h : cuOk zs 1 = false) : ofL zs = [] := by unfold ofL; rw [h]; rfl
theorem ofU_no {zs : List Int} (h : cuOk zs 1 = false) : ofU zs = 0 := by unfold ofU; rw [h]; rfl
theorem ofL_yes {zs : List Int} (h : cuOk zs 1 = true) : ofL zs = zs := by unfold ofL; rw [h]; rfl
theorem ofU_yes {zs : List Int} (h : cuOk zs 1 = true) : ofU zs = 1 := by unfold ofU; rw [h]; rfl
theorem isU_one : isU 1 = true := by simpa using isU_mk 0 (by omega)
theorem cuOk_one (zs : List Int) : cuOk zs 1 = (decide (2 ≤ (zs.length : Int) ∧ (zs.length : Int) ≤ 6) && within 0 1000 zs) := by
  unfold cuOk
  rw [isU_one, show (1000 : Int) * 1 = 1000 from rfl, show ((1 : Int) == 1 || anyOdd zs) = true from rfl, Bool.and_true, Bool.and_true]
  congr 1
  apply decide_eq_decide.2; omega

end Go.Proofs.YtjfkadmmmhefbaaDoor
