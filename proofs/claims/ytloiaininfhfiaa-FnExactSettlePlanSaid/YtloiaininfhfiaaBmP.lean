
/-
  MOVES THAT HELP, PLAINLY. No program is named here.
-/
import Derived.Test.YtloiaininfhfiaaLdG
import Derived.Test.YtloiaininfhfiaaLdC
namespace Go.Proofs.Ytloiaininfhfiaa

/-- The plan behind the q-th move of all: the job q / M to the machine q % M. -/
def mvd (ps : List Int) (M q : Nat) : List Int := ps.set (q / M) ((q % M : Nat) : Int)
theorem mvd_length (ps : List Int) (M q : Nat) : (mvd ps M q).length = ps.length := by simp [mvd]
theorem mvd_fits {zs ps : List Int} {M : Nat} (h : jboth zs M ps = true) (q : Nat) : jboth zs M (mvd ps M q) = true := by
  obtain ⟨h1, h2⟩ := jboth_of h
  obtain ⟨h3, h4⟩ := jfit_of h2
  have hm := jboth_m h
  rw [jboth_yes h1]
  unfold jfit
  rw [mvd_length, show decide (ps.length = zs.length) = true from by simpa using h3, Bool.true_and]
  exact within_set h4 _ _ (by have := Nat.mod_lt q (show 0 < M by omega); omega)
/-- The ends behind all moves. -/
def endsL (zs ps : List Int) (M : Nat) : List Int := (List.range (ps.length * M)).map fun q => endZ zs (mvd ps M q) M
theorem endsL_length (zs ps : List Int) (M : Nat) : (endsL zs ps M).length = ps.length * M := by simp [endsL]
theorem endsL_at (zs ps : List Int) {M q : Nat} (h : q < ps.length * M) : (endsL zs ps M).getD q 0 = endZ zs (mvd ps M q) M := by
  simp [endsL, List.getD, h]
/-- Is one of the first k ends less than e? -/
def less (V : List Int) (e : Int) (k : Nat) : Bool := decide (0 < k) && decide (V.getD (flAt V k) 0 < e)
theorem less_zero (V : List Int) (e : Int) : less V e 0 = false := by simp [less]
/-- What the model's search holds behind k moves: the move, and the end. -/
def bmQ (V : List Int) (e : Int) (k : Nat) : Int := if less V e k then (flAt V k : Int) else -1
def bmE (V : List Int) (e : Int) (k : Nat) : Int := if less V e k then V.getD (flAt V k) 0 else e
theorem bm_zero (V : List Int) (e : Int) : bmQ V e 0 = -1 ∧ bmE V e 0 = e := by simp [bmQ, bmE, less_zero]
theorem bm_take {V : List Int} {e : Int} {k : Nat} (h : V.getD k 0 < bmE V e k) : bmQ V e (k + 1) = (k : Int) ∧ bmE V e (k + 1) = V.getD k 0 := by
  by_cases hl : less V e k = true
  · have hh := hl
    unfold less at hh
    simp only [Bool.and_eq_true, decide_eq_true_eq] at hh
    unfold bmE at h
    rw [if_pos hl] at h
    have hf := flAt_yes h
    have : less V e (k + 1) = true := by
      unfold less; rw [hf]; simp only [Bool.and_eq_true, decide_eq_true_eq]; omega
    unfold bmQ bmE
    rw [if_pos this, if_pos this, hf]
    exact ⟨rfl, rfl⟩
  · unfold bmE at h
    rw [if_neg hl] at h
    have hf : flAt V (k + 1) = k := by
      rcases Nat.eq_zero_or_pos k with rfl | hp
      · exact flAt_one V
      · refine flAt_yes ?_
        have : ¬ V.getD (flAt V k) 0 < e := by
          intro hc; apply hl; unfold less; simp only [Bool.and_eq_true, decide_eq_true_eq]; exact ⟨hp, hc⟩
        omega
    have : less V e (k + 1) = true := by
      unfold less; rw [hf]; simp only [Bool.and_eq_true, decide_eq_true_eq]; omega
    unfold bmQ bmE
    rw [if_pos this, if_pos this, hf]
    exact ⟨rfl, rfl⟩
theorem bm_leave {V : List Int} {e : Int} {k : Nat} (h : ¬ V.getD k 0 < bmE V e k) : bmQ V e (k + 1) = bmQ V e k ∧ bmE V e (k + 1) = bmE V e k := by
  by_cases hl : less V e k = true
  · have hh := hl
    unfold less at hh
    simp only [Bool.and_eq_true, decide_eq_true_eq] at hh
    unfold bmE at h
    rw [if_pos hl] at h
    have hf := flAt_no h
    have : less V e (k + 1) = true := by
      unfold less; rw [hf]; simp only [Bool.and_eq_true, decide_eq_true_eq]; omega
    unfold bmQ bmE
    rw [if_pos this, if_pos this, if_pos hl, if_pos hl, hf]
    exact ⟨rfl, rfl⟩
  · have h0 := h
    unfold bmE at h0
    rw [if_neg hl] at h0
    have : less V e (k + 1) = false := by
      unfold less
      rcases Nat.eq_zero_or_pos k with rfl | hp
      · rw [flAt_one]; rw [Bool.and_eq_false_iff, decide_eq_false_iff_not, decide_eq_false_iff_not]; omega
      · have hn : ¬ V.getD (flAt V k) 0 < e := by
          intro hc; apply hl; unfold less; simp only [Bool.and_eq_true, decide_eq_true_eq]; exact ⟨hp, hc⟩
        by_cases hc : V.getD k 0 < V.getD (flAt V k) 0
        · rw [flAt_yes hc]; rw [Bool.and_eq_false_iff, decide_eq_false_iff_not, decide_eq_false_iff_not]; omega
        · rw [flAt_no hc]; rw [Bool.and_eq_false_iff, decide_eq_false_iff_not, decide_eq_false_iff_not]; omega
    unfold bmQ bmE
    rw [this]
    simp [hl]
theorem bmE_le {lo hi e : Int} {V : List Int} (hw : within lo hi V = true) (he : lo ≤ e ∧ e ≤ hi) (k : Nat) (hk : k ≤ V.length) (h0 : 0 < V.length) : lo ≤ bmE V e k ∧ bmE V e k ≤ hi := by
  unfold bmE
  split
  · have := flAt_lt V h0 k hk
    rw [getD_at this]
    exact within_get hw _ this
  · exact he
/-- The job and the machine of a move, or -1 and 0. -/
def jobQ (M : Nat) (q : Int) : Int := if q < 0 then -1 else ((q.toNat / M : Nat) : Int)
def macQ (M : Nat) (q : Int) : Int := if q < 0 then 0 else ((q.toNat % M : Nat) : Int)
theorem jobQ_no (M : Nat) : jobQ M (-1) = -1 := by simp [jobQ]
theorem macQ_no (M : Nat) : macQ M (-1) = 0 := by simp [macQ]
theorem jobQ_at {M i j : Nat} (hj : j < M) : jobQ M ((i * M + j : Nat) : Int) = (i : Int) := by
  unfold jobQ
  rw [if_neg (by omega), Int.toNat_natCast, Nat.mul_comm, Nat.mul_add_div (by omega), Nat.div_eq_of_lt hj]
  simp
theorem macQ_at {M i j : Nat} (hj : j < M) : macQ M ((i * M + j : Nat) : Int) = (j : Int) := by
  unfold macQ
  rw [if_neg (by omega), Int.toNat_natCast, Nat.mul_comm, Nat.mul_add_mod, Nat.mod_eq_of_lt hj]
theorem mvd_at (ps : List Int) {M i j : Nat} (hj : j < M) : mvd ps M (i * M + j) = ps.set i (j : Int) := by
  unfold mvd
  rw [Nat.mul_comm, Nat.mul_add_div (by omega), Nat.div_eq_of_lt hj, Nat.mul_add_mod, Nat.mod_eq_of_lt hj]
  simp
/-- The best move of a plan: its place among all moves, or -1. -/
def bmA (zs ps : List Int) (M : Nat) : Int := bmQ (endsL zs ps M) (endZ zs ps M) (ps.length * M)
end Go.Proofs.Ytloiaininfhfiaa
