
/-
  SPLITS, BOTH WAYS, THE SECOND PART: splitGameOf, canMake; the model's slAsked, slMake.
-/
import Derived.Test.YtlaapnfinbancaaSl
import Derived.Test.YtlaapnfinbancaaApp
import Derived.Test.YtlaapnfinbancaaSums
import Derived.Deep.RegionHeld3
import Derived.Deep.RegionWith
namespace Go.Proofs.Ytlaapnfinbancaa
open Go.RowKit Go.Deep
set_option linter.unusedVariables false

theorem wrap_ok {n : Int} (h0 : -1000000000000 ≤ n) (h1 : n ≤ 1000000000000) : IntKind.i64.wrap n = n := by
  rw [IntKind.wrap_i64]; omega
theorem sask_no1 {r : Int} {zs : List Int} (h : srule r = false) : sask r zs = false := by simp [sask, h]
theorem sask_yes1 {r : Int} {zs : List Int} (h : srule r = true) : sask r zs = sgood zs := by simp [sask, h]

/-- The model's slRule. -/
theorem slRule_any (r : Int) (w : World) :
    Calls Try.prog 19 #[.int .i64 r] w fun e w' => e = .returned (.bool (srule r)) ∧ w = w' := by
  have HA := hide (fun W => l1In_any r 0 2 W)
  have HE := show srule r = decide (0 ≤ r ∧ r ≤ 2) from rfl
  rw [← HE] at HA
  clear HE
  generalize srule r = b at *
  go_enter Try.func19, Try.ntmps19
  go_wp2_with fail
  refine (HA.out _).mono ?_; rintro e w' ⟨rfl, rfl⟩
  go_wp2_with fail
  go_ret
  exact ⟨rfl, rfl⟩

/-- The model's slAsked. -/
theorem slAsked_any (r : Int) (A : Option Addr) (n c B : Nat) (zs : List Int) (w : World) (hr : Ints w B A n zs) (hn : n ≤ 17592186044416) :
    Calls Try.prog 22 #[.int .i64 r, .slice A n c] w fun e w' => e = .returned (.bool (sask r zs)) ∧ w = w' := by
  have HR := hide (fun W => slRule_any r W)
  have HG := hide (slGood_any A n c B zs w hr hn)
  cases h : srule r
  · have HE := hide (sask_no1 (zs := zs) h)
    rw [h] at HR
    go_enter Try.func22, Try.ntmps22
    go_wp2_with fail
    refine (HR.out _).mono ?_; rintro e w' ⟨rfl, rfl⟩
    go_wp2_with fail
    go_ret
    exact ⟨by rw [HE.out]; rfl, rfl⟩
  · have HE := hide (sask_yes1 (zs := zs) h)
    rw [h] at HR
    go_enter Try.func22, Try.ntmps22
    go_wp2_with fail
    refine (HR.out _).mono ?_; rintro e w' ⟨rfl, rfl⟩
    go_wp2_with fail
    refine HG.out.mono ?_; rintro e w' ⟨rfl, rfl⟩
    go_wp2_with fail
    go_ret
    exact ⟨by rw [HE.out]; rfl, rfl⟩

/-- A game as a value: its rule, and the very heaps that came. -/
def gameV (b : Bool) (r : Int) (A : Option Addr) (n c : Nat) : Value := if b then .agg #[.int .i64 r, .slice A n c] else .agg #[.int .i64 0, .slice none 0 0]

theorem splitGameOf_any (r : Int) (A : Option Addr) (n c B : Nat) (zs : List Int) (w : World) (hr : Ints w B A n zs) (hB : B ≤ w.heap.size) (hn : n ≤ 17592186044416) :
    Calls Try.prog 24 #[.int .i64 r, .slice A n c] w fun e w' => e = .returned (.tuple #[gameV (sask r zs) r A n c, .bool (sask r zs)]) ∧ Below w.heap.size w w' := by
  have HR := hide (fun W => isSplitRule_any r W)
  have HG := hide (fun W (h : Ints W B A n zs) => AreSplitHeaps_any A n c B zs W h hn)
  have hro : ∀ o, Ints (w.alloc o) B A n zs := fun o => hr.alloc hB o
  cases h : srule r
  · have HE := hide (sask_no1 (zs := zs) h)
    rw [h] at HR
    go_enter Try.func24, Try.ntmps24
    go_wp2_with fail
    refine (HR.out _).mono ?_; rintro e w' ⟨rfl, rfl⟩
    go_wp2_with fail
    rw [HE.out]
    exact bodyPost_ret (v := .tuple #[.agg #[.int .i64 0, .slice none 0 0], .bool false]) (by simp [results, Try.results24, go_sem]) rfl
      ⟨rfl, (Below.refl _ _).alloc (Nat.le_refl _) _⟩
  · have HE := hide (sask_yes1 (zs := zs) h)
    rw [h] at HR
    cases hg : sgood zs
    · rw [hg] at HG HE
      go_enter Try.func24, Try.ntmps24
      go_wp2_with fail
      refine (HR.out _).mono ?_; rintro e w' ⟨rfl, rfl⟩
      go_wp2_with fail
      refine (HG.out _ (hro _)).mono ?_; rintro e w' ⟨rfl, rfl⟩
      go_wp2_with fail
      rw [HE.out]
      exact bodyPost_ret (v := .tuple #[.agg #[.int .i64 0, .slice none 0 0], .bool false]) (by simp [results, Try.results24, go_sem]) rfl
        ⟨rfl, (Below.refl _ _).alloc (Nat.le_refl _) _⟩
    · rw [hg] at HG HE
      go_enter Try.func24, Try.ntmps24
      go_wp2_with fail
      refine (HR.out _).mono ?_; rintro e w' ⟨rfl, rfl⟩
      go_wp2_with fail
      refine (HG.out _ (hro _)).mono ?_; rintro e w' ⟨rfl, rfl⟩
      go_wp2_with fail
      rw [HE.out]
      exact bodyPost_ret (v := .tuple #[.agg #[.int .i64 r, .slice A n c], .bool true]) (by simp [results, Try.results24, go_sem]) rfl
        ⟨rfl, (Below.refl _ _).alloc (Nat.le_refl _) _⟩

/-- WHAT IS LEFT BEHIND A SPLIT: heaps of the call's own, at the head of a new block. -/
def SMade (zs : List Int) (w : World) (e : Ending) (w' : World) : Prop :=
  ∃ g c, e = .returned (.tuple #[.slice (some ⟨g, 0, none⟩) zs.length c, .bool true]) ∧ w.heap.size ≤ g ∧ g < w'.heap.size ∧ zs.length ≤ c ∧ c ≤ maxLen ∧ Own w' w.heap.size 3 (.slice (some ⟨g, 0, none⟩) zs.length c) zs ∧ Below w.heap.size w w'

end Go.Proofs.Ytlaapnfinbancaa
