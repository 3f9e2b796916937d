
/-
  BEST MOVES AND SETTLED PLANS, PLAINLY. No program is named here.
-/
import Derived.Test.YtloiaininfhfiaaBmP
namespace Go.Proofs.Ytloiaininfhfiaa

def bestOk (zs : List Int) (m : Int) (ps : List Int) : Bool := jboth zs m ps && decide (0 ≤ bmA zs ps m.toNat)
def bestJ (zs : List Int) (m : Int) (ps : List Int) : Int := if bestOk zs m ps then jobQ m.toNat (bmA zs ps m.toNat) else 0
def bestM (zs : List Int) (m : Int) (ps : List Int) : Int := if bestOk zs m ps then macQ m.toNat (bmA zs ps m.toNat) else 0
theorem bestOk_no {zs ps : List Int} {m : Int} (h : jboth zs m ps = false) : bestOk zs m ps = false := by simp [bestOk, h]
theorem bestOk_yes {zs ps : List Int} {m : Int} (h : jboth zs m ps = true) : bestOk zs m ps = decide (0 ≤ bmA zs ps m.toNat) := by simp [bestOk, h]
theorem bestJ_no {zs ps : List Int} {m : Int} (h : bestOk zs m ps = false) : bestJ zs m ps = 0 ∧ bestM zs m ps = 0 := by simp [bestJ, bestM, h]
theorem bestJ_yes {zs ps : List Int} {m : Int} (h : bestOk zs m ps = true) : bestJ zs m ps = jobQ m.toNat (bmA zs ps m.toNat) ∧ bestM zs m ps = macQ m.toNat (bmA zs ps m.toNat) := by simp [bestJ, bestM, h]
theorem jobQ_neg {M : Nat} {q : Int} (h : q < 0) : jobQ M q = -1 := by simp [jobQ, h]
theorem bmQ_cases (V : List Int) (e : Int) (k : Nat) (h0 : 0 < V.length) (hk : k ≤ V.length) : bmQ V e k = -1 ∨ ∃ q : Nat, bmQ V e k = (q : Int) ∧ q < V.length ∧ q = flAt V k ∧ V.getD q 0 < e := by
  unfold bmQ
  by_cases hl : less V e k = true
  · rw [if_pos hl]
    unfold less at hl
    simp only [Bool.and_eq_true, decide_eq_true_eq] at hl
    exact .inr ⟨flAt V k, rfl, flAt_lt V h0 k hk, rfl, hl.2⟩
  · rw [if_neg hl]; exact .inl rfl
theorem bmA_cases {zs ps : List Int} {M : Nat} (h : jboth zs M ps = true) :
    bmA zs ps M = -1 ∨ ∃ q : Nat, bmA zs ps M = (q : Int) ∧ q < ps.length * M ∧ q / M < ps.length ∧ q % M < M ∧ jobQ M (bmA zs ps M) = ((q / M : Nat) : Int) ∧ macQ M (bmA zs ps M) = ((q % M : Nat) : Int) ∧ endZ zs (mvd ps M q) M < endZ zs ps M := by
  have hm := jboth_m h
  have hl := (jfit_of (jboth_of h).2).1
  have hg := (jgood_of (jask_of (jboth_of h).1).1).1
  have hp : 0 < ps.length * M := Nat.mul_pos (by omega) (by omega)
  have := bmQ_cases (endsL zs ps M) (endZ zs ps M) (ps.length * M) (by rw [endsL_length]; exact hp) (by rw [endsL_length]; exact Nat.le_refl _)
  rcases this with h1 | ⟨q, h1, h2, _, h3⟩
  · exact .inl h1
  · rw [endsL_length] at h2
    rw [endsL_at zs ps h2] at h3
    refine .inr ⟨q, h1, h2, ?_, Nat.mod_lt _ (by omega), ?_, ?_, h3⟩
    · exact (Nat.div_lt_iff_lt_mul (by omega)).2 h2
    · rw [show bmA zs ps M = (q : Int) from h1]; unfold jobQ; rw [if_neg (by omega)]; rfl
    · rw [show bmA zs ps M = (q : Int) from h1]; unfold macQ; rw [if_neg (by omega)]; rfl
/-- The plan behind moves, as far as the purse goes, and how many they are. -/
def settleF (zs : List Int) (M : Nat) : Nat → List Int → Nat → List Int × Nat
  | 0, p, k => (p, k)
  | f + 1, p, k => if 0 ≤ bmA zs p M then settleF zs M f (mvd p M (bmA zs p M).toNat) (k + 1) else (p, k)
theorem settleF_stop {zs p : List Int} {M f k : Nat} (h : bmA zs p M = -1) : settleF zs M f p k = (p, k) := by
  cases f with
  | zero => rfl
  | succ f => rw [settleF, if_neg (by omega)]
theorem settleF_go {zs p : List Int} {M f k q : Nat} (h : bmA zs p M = (q : Int)) : settleF zs M (f + 1) p k = settleF zs M f (mvd p M q) (k + 1) := by
  rw [settleF, if_pos (by omega), h]; rfl
theorem settleF_fit (zs : List Int) (M : Nat) : ∀ (f : Nat) (p : List Int) (k : Nat), (settleF zs M f p k).1.length = p.length
  | 0, _, _ => rfl
  | f + 1, p, k => by
    rw [settleF]
    split
    · rw [settleF_fit, mvd_length]
    · rfl
def setlR (zs : List Int) (m : Int) (ps : List Int) : List Int := if jboth zs m ps then (settleF zs m.toNat 9001 ps 0).1 else []
def setlN (zs : List Int) (m : Int) (ps : List Int) : Int := if jboth zs m ps then ((settleF zs m.toNat 9001 ps 0).2 : Int) else 0
theorem setl_yes {zs ps : List Int} {m : Int} (h : jboth zs m ps = true) : setlR zs m ps = (settleF zs m.toNat 9001 ps 0).1 ∧ setlN zs m ps = ((settleF zs m.toNat 9001 ps 0).2 : Int) := by simp [setlR, setlN, h]
theorem setl_no {zs ps : List Int} {m : Int} (h : jboth zs m ps = false) : setlR zs m ps = [] ∧ setlN zs m ps = 0 := by simp [setlR, setlN, h]
theorem setlR_short (zs : List Int) (m : Int) (ps : List Int) : (setlR zs m ps).length ≤ 1048576 := by
  cases h : jboth zs m ps
  · rw [(setl_no h).1]; simp
  · rw [(setl_yes h).1, settleF_fit]
    have h1 := (jfit_of (jboth_of h).2).1
    have h2 := (jgood_of (jask_of (jboth_of h).1).1).2.1
    omega
/-- What a search for the settled plan holds: where it is, how many moves were made. -/
def Way (zs ps : List Int) (M : Nat) (p : List Int) (k : Nat) : Prop :=
  jboth zs M p = true ∧ p.length = ps.length ∧ ∃ f : Nat, (endZ zs p M).toNat < f ∧ k + f ≤ 9001 ∧ settleF zs M f p k = settleF zs M 9001 ps 0
theorem Way.start {zs ps : List Int} {M : Nat} (h : jboth zs M ps = true) : Way zs ps M ps 0 := ⟨h, rfl, 9001, by have := endZ_bd h M; omega, by omega, rfl⟩
theorem Way.step {zs ps p : List Int} {M k q : Nat} (h : Way zs ps M p k) (hq : bmA zs p M = (q : Int)) (he : endZ zs (mvd p M q) M < endZ zs p M) : Way zs ps M (mvd p M q) (k + 1) := by
  obtain ⟨h1, h2, f, h3, h4, h5⟩ := h
  have hb := endZ_bd h1 M
  have hb2 := endZ_bd (mvd_fits h1 q) M
  cases f with
  | zero => omega
  | succ f => exact ⟨mvd_fits h1 q, by rw [mvd_length]; exact h2, f, by omega, by omega, by rw [← h5, settleF_go hq]⟩
theorem Way.stop {zs ps p : List Int} {M k : Nat} (h : Way zs ps M p k) (hq : bmA zs p M = -1) : settleF zs M 9001 ps 0 = (p, k) := by
  obtain ⟨_, _, f, _, _, h5⟩ := h
  rw [← h5, settleF_stop hq]
theorem Way.few {zs ps p : List Int} {M k : Nat} (h : Way zs ps M p k) : k ≤ 9001 := by
  obtain ⟨_, _, f, _, h4, _⟩ := h
  omega
end Go.Proofs.Ytloiaininfhfiaa
