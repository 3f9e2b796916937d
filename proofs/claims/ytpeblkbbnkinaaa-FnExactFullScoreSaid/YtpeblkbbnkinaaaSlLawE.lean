
/-
  THE WALK OF THE EXACT LAW ON FULL SCORES, the given frame left out.
-/
import Derived.Test.YtpeblkbbnkinaaaSl
namespace Go.Proofs.Ytpeblkbbnkinaaa
open Go.RowKit Go.Deep
set_option linter.unusedVariables false

def fsOk (h : Int) : Bool := decide (1 ≤ h ∧ h ≤ 60)
def fsN (h : Int) : Int := if fsOk h then spairs h else 0

theorem specFullScore_any (h : Int) (w : World) :
    Calls Try.prog 12 #[.int .i64 h] w fun e w' => e = .returned (.tuple #[.int .i64 (fsN h), .bool (fsOk h)]) ∧ Below w.heap.size w w' := by
  have HI := hide (fun W => l1In_any h 1 60 W)
  by_cases hh : 1 ≤ h ∧ h ≤ 60
  · rw [decide_eq_true hh] at HI
    have HE := hide (show fsN h = spairs h ∧ fsOk h = true from by unfold fsN fsOk; rw [decide_eq_true hh]; exact ⟨rfl, rfl⟩)
    rw [HE.out.1, HE.out.2]
    have hm : h * (h - 1) = spairs h * 2 := by
      unfold spairs
      have h2 : h * (h - 1) % 2 = 0 := by
        rcases Int.emod_two_eq h with e | e
        · rw [Int.mul_emod, e]; simp
        · rw [Int.mul_emod, Int.sub_emod, e]; simp
      omega
    have hb : 0 ≤ spairs h ∧ spairs h ≤ 1770 := by
      have h1 : 0 ≤ h * (h - 1) := Int.mul_nonneg (by omega) (by omega)
      have h2 : h * (h - 1) ≤ 60 * 59 := Int.mul_le_mul hh.2 (by omega) (by omega) (by omega)
      omega
    have e2 : (spairs h * 2).tdiv 2 = spairs h := by rw [Int.tdiv_eq_ediv_of_nonneg (by omega)]; omega
    generalize spairs h = s at *
    clear HE
    go_enter Try.func12, Try.ntmps12
    go_wp2_with fail
    refine (HI.out _).mono ?_; rintro e w' ⟨rfl, rfl⟩
    go_wp2_with fail
    go_ret2
    exact ⟨by congr 4 <;> omega, Below.refl _ _⟩
  · rw [decide_eq_false hh] at HI
    have HE := hide (show fsN h = 0 ∧ fsOk h = false from by unfold fsN fsOk; rw [decide_eq_false hh]; exact ⟨rfl, rfl⟩)
    rw [HE.out.1, HE.out.2]
    go_enter Try.func12, Try.ntmps12
    go_wp2_with fail
    refine (HI.out _).mono ?_; rintro e w' ⟨rfl, rfl⟩
    go_wp2_with fail
    go_ret2
    exact ⟨rfl, Below.refl _ _⟩

theorem FullScore_any (h : Int) (w : World) :
    Calls Try.prog 13 #[.int .i64 h] w fun e w' => e = .returned (.tuple #[.int .i64 (fsN h), .bool (fsOk h)]) ∧ Below w.heap.size w w' := by
  have HI := hide (fun W => isSplitHeap_any h W)
  by_cases hh : 1 ≤ h ∧ h ≤ 60
  · have hs : sheap h = true := decide_eq_true hh
    rw [hs] at HI
    have HE := hide (show fsN h = spairs h ∧ fsOk h = true from by unfold fsN fsOk; rw [decide_eq_true hh]; exact ⟨rfl, rfl⟩)
    rw [HE.out.1, HE.out.2]
    have HP := hide (fun W => pairsOf_any h (by omega) hh.2 W)
    generalize spairs h = s at *
    clear HE hs
    go_enter Try.func13, Try.ntmps13
    go_wp2_with fail
    refine (HI.out _).mono ?_; rintro e w' ⟨rfl, rfl⟩
    go_wp2_with fail
    refine (HP.out _).mono ?_; rintro e w' ⟨rfl, rfl⟩
    go_wp2_with fail
    go_ret2
    exact ⟨rfl, Below.refl _ _⟩
  · have hs : sheap h = false := decide_eq_false hh
    rw [hs] at HI
    have HE := hide (show fsN h = 0 ∧ fsOk h = false from by unfold fsN fsOk; rw [decide_eq_false hh]; exact ⟨rfl, rfl⟩)
    rw [HE.out.1, HE.out.2]
    clear hs
    go_enter Try.func13, Try.ntmps13
    go_wp2_with fail
    refine (HI.out _).mono ?_; rintro e w' ⟨rfl, rfl⟩
    go_wp2_with fail
    go_ret2
    exact ⟨rfl, Below.refl _ _⟩

theorem lawFullScore (h : Int) (w : World) :
    Calls Try.prog 4 #[.int .i64 h] w fun e w' => e = .returned (.bool true) ∧ Below w.heap.size w w' := by
  have HS := hide (specFullScore_any h)
  have HI := hide (FullScore_any h)
  generalize fsN h = t at *
  generalize fsOk h = o at *
  have e1 : (t != t) = false := by simp
  have e2 : (o != o) = false := by simp
  go_enter Try.func4, Try.ntmps4
  go_wp2_with fail
  refine (HS.out _).mono ?_; rintro e w1 ⟨rfl, hb1⟩
  go_wp2_with fail
  refine (HI.out _).mono ?_; rintro e w2 ⟨rfl, hb2⟩
  go_wp2_with fail
  go_ret
  exact ⟨rfl, below_next hb1 hb2⟩
end Go.Proofs.Ytpeblkbbnkinaaa
