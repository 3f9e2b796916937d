
/-
  COSTS OF MOVES, BOTH WAYS.
-/
import Derived.Test.YtieikogjjhjcdaaMoveB
import Derived.Test.YtieikogjjhjcdaaFlows
import Derived.Test.YtieikogjjhjcdaaTwo
namespace Go.Proofs.Ytieikogjjhjcdaa
open Go.RowKit Go.Deep

/-- Is it a move among n heaps? -/
def mvOk (n : Int) (m : Mv) : Bool := decide (0 ≤ m.f ∧ m.f < n ∧ 0 ≤ m.t ∧ m.t < n ∧ m.f ≠ m.t ∧ 1 ≤ m.c)
theorem mvOk_yes {n : Int} {m : Mv} (h : 0 ≤ m.f ∧ m.f < n ∧ 0 ≤ m.t ∧ m.t < n ∧ m.f ≠ m.t ∧ 1 ≤ m.c) : mvOk n m = true := by unfold mvOk; simpa using h
theorem mvOk_no {n : Int} {m : Mv} (h : ¬ (0 ≤ m.f ∧ m.f < n ∧ 0 ≤ m.t ∧ m.t < n ∧ m.f ≠ m.t ∧ 1 ≤ m.c)) : mvOk n m = false := by unfold mvOk; simpa using h

/-- The program's isMoveAmong. -/
theorem isMoveAmong_any (n : Int) (m : Mv) (w : World) :
    Calls Try.prog 20 #[.int .i64 n, .agg #[.int .i64 m.f, .int .i64 m.t, .int .i64 m.c]] w fun e w' => e = .returned (.bool (mvOk n m)) ∧ Below w.heap.size w w' := by
  have HT := hide (fun W => areTwoAmong_any n m.f m.t W)
  cases h1 : two n m.f m.t
  · have H := hide (mvOk_no (n := n) (m := m) (fun h => by have := two_yes (n := n) (f := m.f) (t := m.t) (by omega); simp [this] at h1))
    rw [h1] at HT
    clear h1
    go_enter Try.func20, Try.ntmps20
    go_wp2_with fail
    refine (HT.out _).mono ?_; rintro e w' ⟨rfl, rfl⟩
    go_wp2_with fail
    go_ret
    exact ⟨by rw [H.out]; rfl, (Below.refl _ _).alloc (Nat.le_refl _) _⟩
  · have h2 := two_bd h1
    rw [h1] at HT
    clear h1
    by_cases h6 : 1 ≤ m.c
    · have H := hide (mvOk_yes (n := n) (m := m) (by omega))
      clear h2
      have h6' : decide (1 ≤ m.c) = true := by simpa using h6
      go_enter Try.func20, Try.ntmps20
      go_wp2_with fail
      refine (HT.out _).mono ?_; rintro e w' ⟨rfl, rfl⟩
      go_wp2_with fail
      go_ret
      exact ⟨by rw [H.out]; rfl, (Below.refl _ _).alloc (Nat.le_refl _) _⟩
    · have H := hide (mvOk_no (n := n) (m := m) (by omega))
      clear h2
      have h6' : decide (1 ≤ m.c) = false := by simpa using h6
      go_enter Try.func20, Try.ntmps20
      go_wp2_with fail
      refine (HT.out _).mono ?_; rintro e w' ⟨rfl, rfl⟩
      go_wp2_with fail
      go_ret
      exact ⟨by rw [H.out]; rfl, (Below.refl _ _).alloc (Nat.le_refl _) _⟩

def costOk1 (m : Mv) : Bool := mvOk 12 m && decide (m.c ≤ 1000)
def cost1 (m : Mv) : Int := m.c * size1 (m.f - m.t)
def costs : List Mv → Int
  | [] => 0
  | m :: ms => cost1 m + costs ms
theorem costs_append (a b : List Mv) : costs (a ++ b) = costs a + costs b := by
  induction a with
  | nil => simp [costs]
  | cons x xs ih => simp [costs, ih]; omega
theorem costs_take_succ (ms : List Mv) (k : Nat) (hk : k < ms.length) : costs (ms.take (k + 1)) = costs (ms.take k) + cost1 ms[k] := by
  rw [List.take_succ_eq_append_getElem hk, costs_append]; simp [costs]
theorem costOk1_bd {m : Mv} (h : costOk1 m = true) : (0 ≤ m.f ∧ m.f < 12 ∧ 0 ≤ m.t ∧ m.t < 12 ∧ m.f ≠ m.t ∧ 1 ≤ m.c) ∧ m.c ≤ 1000 := by
  unfold costOk1 mvOk at h; simpa using h
theorem cost1_bd {m : Mv} (h : costOk1 m = true) : 0 ≤ cost1 m ∧ cost1 m ≤ 11000 := by
  have hb := costOk1_bd h
  have hs : 0 ≤ size1 (m.f - m.t) ∧ size1 (m.f - m.t) ≤ 11 := size1_bd (by omega)
  unfold cost1
  have h1 := Int.mul_nonneg (show 0 ≤ m.c by omega) hs.1
  have h2 : m.c * size1 (m.f - m.t) ≤ 1000 * 11 := Int.mul_le_mul hb.2 hs.2 hs.1 (by omega)
  omega
theorem costs_bd (ms : List Mv) (h : ∀ m ∈ ms, costOk1 m = true) : 0 ≤ costs ms ∧ costs ms ≤ 11000 * ms.length := by
  induction ms with
  | nil => simp [costs]
  | cons x xs ih =>
    have h1 := cost1_bd (h x (by simp))
    have h2 := ih (fun m hm => h m (by simp [hm]))
    simp [costs]
    omega
def costOk (ms : List Mv) : Bool := decide (ms.length ≤ 100) && ms.all costOk1
def costN (ms : List Mv) : Int := if costOk ms then costs ms else 0
theorem costOk_long {ms : List Mv} (h : ¬ ms.length ≤ 100) : costOk ms = false := by unfold costOk; simp; omega
theorem costOk_yes {ms : List Mv} (h : ms.length ≤ 100) (ha : ∀ m ∈ ms, costOk1 m = true) : costOk ms = true := by
  unfold costOk; simp [h]; exact ha
theorem costOk_bad {ms : List Mv} (k : Nat) (hk : k < ms.length) (hb : costOk1 ms[k] = false) : costOk ms = false := by
  unfold costOk
  have : ms.all costOk1 = false := by
    rw [List.all_eq_false]
    exact ⟨ms[k], List.getElem_mem hk, by simp [hb]⟩
  rw [this, Bool.and_false]
theorem costN_yes {ms : List Mv} (h : costOk ms = true) : costN ms = costs ms := by simp [costN, h]
theorem costN_no {ms : List Mv} (h : costOk ms = false) : costN ms = 0 := by simp [costN, h]
theorem costOk1_f {m : Mv} (h : mvOk 12 m = false) : costOk1 m = false := by simp [costOk1, h]
theorem costOk1_c {m : Mv} (h : mvOk 12 m = true) : costOk1 m = decide (m.c ≤ 1000) := by simp [costOk1, h]
/-- The first k are in order. -/
def okTo (ms : List Mv) (k : Nat) : Prop := ∀ m ∈ ms.take k, costOk1 m = true
theorem okTo_succ {ms : List Mv} {k : Nat} (hk : k < ms.length) (h : okTo ms k) (h1 : costOk1 ms[k] = true) : okTo ms (k + 1) := by
  intro m hm
  rw [List.take_succ_eq_append_getElem hk] at hm
  rcases List.mem_append.1 hm with h2 | h2
  · exact h m h2
  · simp at h2; subst h2; exact h1
theorem okTo_bd {ms : List Mv} {k : Nat} (h : okTo ms k) (hl : ms.length ≤ 100) : 0 ≤ costs (ms.take k) ∧ costs (ms.take k) ≤ 1100000 := by
  have := costs_bd _ h
  have hl2 : (ms.take k).length ≤ 100 := by rw [List.length_take]; omega
  omega

end Go.Proofs.Ytieikogjjhjcdaa
