
/-
  LOADS, ENDS, IDLE TIMES AND BOUNDS, BOTH WAYS: LoadsOf, EndOfPlan, IdleOfPlan, EndBound.
-/
import Derived.Test.YtaplnbjljgeakaaLdB
import Derived.Test.YtaplnbjljgeakaaSpread
import Derived.Test.YtaplnbjljgeakaaSums
namespace Go.Proofs.Ytaplnbjljgeakaa
open Go.RowKit Go.Deep

theorem up_two (a b : Int) (l : List Int) : up (max a b) l = max a (up b l) := by
  induction l generalizing b with
  | nil => rfl
  | cons x xs ih =>
    show up (max (max a b) x) xs = max a (up (max b x) xs)
    rw [show max (max a b) x = max a (max b x) by omega]
    exact ih _
theorem up_first (b : Int) {l : List Int} (h : 0 < l.length) : up b l = max b (up (l.getD 0 0) l) := by
  cases l with
  | nil => simp at h
  | cons x xs =>
    show up (max b x) xs = max b (up (max x x) xs)
    rw [up_two, show max x x = x by omega]
theorem up_low {l : List Int} (h : 0 < l.length) {lo hi : Int} (hw : within lo hi l = true) (hl : 0 ≤ lo) : up (l.getD 0 0) l = up 0 l := by
  rw [up_first 0 h]
  have h0 := within_get hw 0 h
  have := up_bd hw (l.getD 0 0) (by rw [getD_at h]; exact h0)
  omega

/-- The end of a plan; 0 where there is none. -/
def endZ (zs ps : List Int) (m : Nat) : Int := up 0 (loadsA zs ps m)
def endN (zs : List Int) (m : Int) (ps : List Int) : Int := if jboth zs m ps then endZ zs ps m.toNat else 0
theorem endN_yes {zs ps : List Int} {m : Int} (h : jboth zs m ps = true) : endN zs m ps = endZ zs ps m.toNat := by simp [endN, h]
theorem endN_no {zs ps : List Int} {m : Int} (h : jboth zs m ps = false) : endN zs m ps = 0 := by simp [endN, h]
theorem endZ_bd {zs ps : List Int} {m : Int} (h : jboth zs m ps = true) (k : Nat) : 0 ≤ endZ zs ps k ∧ endZ zs ps k ≤ 9000 := up_bd (loadsA_bd h k) 0 (by omega)
/-- How long machines have nothing to do. -/
def idleN (zs : List Int) (m : Int) (ps : List Int) : Int := if jboth zs m ps then m * endZ zs ps m.toNat - tot zs else 0
theorem idleN_yes {zs ps : List Int} {m : Int} (h : jboth zs m ps = true) : idleN zs m ps = m * endZ zs ps m.toNat - tot zs := by simp [idleN, h]
theorem idleN_no {zs ps : List Int} {m : Int} (h : jboth zs m ps = false) : idleN zs m ps = 0 := by simp [idleN, h]
/-- The bound. -/
def boundN (zs : List Int) (m : Int) : Int := if jask zs m then up ((tot zs + m - 1) / m) zs else 0
theorem boundN_yes {zs : List Int} {m : Int} (h : jask zs m = true) : boundN zs m = up ((tot zs + m - 1) / m) zs := by simp [boundN, h]
theorem boundN_no {zs : List Int} {m : Int} (h : jask zs m = false) : boundN zs m = 0 := by simp [boundN, h]

theorem bound_fits {zs : List Int} {m : Int} (h : jask zs m = true) : 0 ≤ (tot zs + m - 1) / m ∧ (tot zs + m - 1) / m ≤ 9003 := by
  obtain ⟨h1, h2, h3⟩ := jask_of h
  have ht := jgood_tot h1
  exact ⟨Int.ediv_nonneg (by omega) (by omega), Int.le_trans (Int.ediv_le_self _ (by omega)) (by omega)⟩

theorem AreJobs_b (A : Option Addr) (n c : Nat) (zs : List Int) (w : World) (hr : Ints w w.heap.size A n zs) (hn : n ≤ 17592186044416) :
    Calls Try.prog 13 #[.slice A n c] w fun e w' => e = .returned (.bool (jgood zs)) ∧ Below w.heap.size w w' := to_below (AreJobs_any A n c _ zs w hr hn)
end Go.Proofs.Ytaplnbjljgeakaa
