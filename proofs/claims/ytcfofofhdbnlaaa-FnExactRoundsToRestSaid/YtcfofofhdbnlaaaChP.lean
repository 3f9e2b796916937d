
/-
  PLAIN FACTS FOR CHAPTER 4: chips, classes, chips that come again. No program is named here.
-/
import Derived.Test.YtcfofofhdbnlaaaPlain
namespace Go.Proofs.Ytcfofofhdbnlaaa

/-- Chips. -/
def hgood (zs : List Int) : Bool := decide (1 ≤ zs.length ∧ zs.length ≤ 20) && within 0 60 zs
theorem hgood_of {zs : List Int} (h : hgood zs = true) : 1 ≤ zs.length ∧ zs.length ≤ 20 ∧ within 0 60 zs = true := by
  unfold hgood at h
  simp at h
  exact ⟨by omega, h.1.2, h.2⟩
theorem hgood_in {zs : List Int} (h : 1 ≤ zs.length ∧ zs.length ≤ 20) : hgood zs = within 0 60 zs := by
  unfold hgood; simp [h]
theorem hgood_out {zs : List Int} (h : ¬ (1 ≤ zs.length ∧ zs.length ≤ 20)) : hgood zs = false := by
  unfold hgood; simp; omega
theorem hgood_get {zs : List Int} (h : hgood zs = true) (k : Nat) (hk : k < zs.length) : 0 ≤ zs[k] ∧ zs[k] ≤ 60 := within_get (hgood_of h).2.2 k hk
theorem getD_ge {zs : List Int} {k : Nat} (hk : k < zs.length) : zs.getD k 0 = zs[k] := by simp [List.getD, List.getElem?_eq_getElem hk]
theorem hgood_getD {zs : List Int} (h : hgood zs = true) (k : Nat) (hk : k < zs.length) : 0 ≤ zs.getD k 0 ∧ zs.getD k 0 ≤ 60 := by
  rw [getD_ge hk]; exact hgood_get h k hk
/-- A number of places. -/
def isNum (n : Int) : Bool := decide (1 ≤ n ∧ n ≤ 20)
theorem isNum_yes {n : Int} (h : 1 ≤ n) : isNum n = decide (n ≤ 20) := by unfold isNum; simp [h]
theorem isNum_no {n : Int} (h : ¬ 1 ≤ n) : isNum n = false := by unfold isNum; simp [h]
theorem isNum_of {n : Int} (h : isNum n = true) : 1 ≤ n ∧ n ≤ 20 := by unfold isNum at h; simpa using h
theorem isNum_in {n : Int} (h : 1 ≤ n ∧ n ≤ 20) : isNum n = true := by unfold isNum; simp [h]
theorem isNum_out {n : Int} (h : ¬ (1 ≤ n ∧ n ≤ 20)) : isNum n = false := by unfold isNum; rw [decide_eq_false_iff_not]; exact h
/-- A place that there is. -/
def isAt (p : Int) (n : Nat) : Bool := decide (0 ≤ p ∧ p < (n : Int))
def hasked (zs : List Int) (p : Int) : Bool := hgood zs && isAt p zs.length
theorem hasked_of {zs : List Int} {p : Int} (h : hasked zs p = true) : hgood zs = true ∧ ∃ k : Nat, p = (k : Int) ∧ k < zs.length := by
  unfold hasked isAt at h
  simp at h
  exact ⟨h.1, p.toNat, by omega, by omega⟩

/-- The chips times their numbers. -/
def csumTo (zs : List Int) : Nat → Int
  | 0 => 0
  | k + 1 => csumTo zs k + zs.getD k 0 * ((k : Int) + 1)
theorem csumTo_bd {zs : List Int} (h : hgood zs = true) (k : Nat) (hk : k ≤ zs.length) : 0 ≤ csumTo zs k ∧ csumTo zs k ≤ 1260 * (k : Int) := by
  have h20 := (hgood_of h).2.1
  induction k with
  | zero => simp [csumTo]
  | succ k ih =>
    have h1 := ih (by omega)
    have h2 := hgood_getD h k (by omega)
    unfold csumTo
    generalize zs.getD k 0 = a at *
    have h3 : 0 ≤ a * ((k : Int) + 1) := Int.mul_nonneg h2.1 (by omega)
    have h4 : a * ((k : Int) + 1) ≤ 60 * 21 := Int.mul_le_mul h2.2 (by omega) (by omega) (by omega)
    push_cast
    omega
def clsOf (zs : List Int) : Int := csumTo zs zs.length % ((zs.length : Int) + 1)
def classN (zs : List Int) : Int := if hgood zs then clsOf zs else 0
theorem classN_yes {zs : List Int} (h : hgood zs = true) : classN zs = clsOf zs := by unfold classN; simp [h]
theorem classN_no {zs : List Int} (h : hgood zs = false) : classN zs = 0 := by unfold classN; simp [h]
def hboth (zs ys : List Int) : Bool := hgood zs && hgood ys && decide (zs.length = ys.length)
def sameN (zs ys : List Int) : Bool := hboth zs ys && (clsOf zs == clsOf ys)

/-- How many of the first have none. -/
def noneTo (zs : List Int) : Nat → Nat
  | 0 => 0
  | k + 1 => noneTo zs k + if zs.getD k 0 = 0 then 1 else 0
theorem noneTo_bd (zs : List Int) (k : Nat) : noneTo zs k ≤ k := by
  induction k with
  | zero => simp [noneTo]
  | succ k ih => unfold noneTo; split <;> omega
theorem noneTo_yes (zs : List Int) (k : Nat) (h : zs.getD k 0 = 0) : noneTo zs (k + 1) = noneTo zs k + 1 := by
  show noneTo zs k + (if zs.getD k 0 = 0 then 1 else 0) = _
  rw [if_pos h]
theorem noneTo_no (zs : List Int) (k : Nat) (h : ¬ zs.getD k 0 = 0) : noneTo zs (k + 1) = noneTo zs k := by
  show noneTo zs k + (if zs.getD k 0 = 0 then 1 else 0) = _
  rw [if_neg h]; rfl
/-- At rest. -/
def rested (zs : List Int) : Bool := zs.all fun z => decide (z ≤ 1)
def comes (zs : List Int) : Bool := rested zs && decide (noneTo zs zs.length ≤ 1)
theorem rested_of {zs : List Int} (h : ∀ (k : Nat), k < zs.length → zs.getD k 0 ≤ 1) : rested zs = true := by
  unfold rested
  rw [List.all_eq_true]
  intro z hz
  obtain ⟨k, hk, rfl⟩ := List.getElem_of_mem hz
  have := h k hk
  rw [getD_ge hk] at this
  simpa using this
theorem rested_no {zs : List Int} (k : Nat) (hk : k < zs.length) (h : 1 < zs.getD k 0) : rested zs = false := by
  rw [getD_ge hk] at h
  cases e : rested zs with
  | false => rfl
  | true =>
    unfold rested at e
    rw [List.all_eq_true] at e
    have := e zs[k] (List.getElem_mem hk)
    simp at this; omega
theorem comes_no {zs : List Int} (k : Nat) (hk : k < zs.length) (h : 1 < zs.getD k 0) : comes zs = false := by
  unfold comes; rw [rested_no k hk h]; rfl
def comesN (zs : List Int) : Bool := hgood zs && comes zs
theorem comesN_yes {zs : List Int} (h : hgood zs = true) : comesN zs = comes zs := by unfold comesN; simp [h]
theorem comesN_no {zs : List Int} (h : hgood zs = false) : comesN zs = false := by unfold comesN; simp [h]

/-- A place that can fire. -/
def ableN (zs : List Int) (p : Int) : Bool := hasked zs p && decide (1 < zs.getD p.toNat 0)
theorem ableN_no {zs : List Int} {p : Int} (h : hasked zs p = false) : ableN zs p = false := by unfold ableN; simp [h]
theorem ableN_yes {zs : List Int} {k : Nat} (hk : k < zs.length) (h : hasked zs (k : Int) = true) : ableN zs (k : Int) = decide (1 < zs[k]) := by
  unfold ableN; rw [h, Bool.true_and, Int.toNat_natCast, getD_ge hk]
end Go.Proofs.Ytcfofofhdbnlaaa
