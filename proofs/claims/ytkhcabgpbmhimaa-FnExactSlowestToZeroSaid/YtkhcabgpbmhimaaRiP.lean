
/-
  PLAIN FACTS FOR CHAPTER 7: rings, their steps. No program is named here.
-/
import Derived.Test.YtkhcabgpbmhimaaPlainB
namespace Go.Proofs.Ytkhcabgpbmhimaa

/-- Rings. -/
def rgood (zs : List Int) : Bool := decide (2 ≤ zs.length ∧ zs.length ≤ 10) && within 0 1000 zs
theorem rgood_of {zs : List Int} (h : rgood zs = true) : 2 ≤ zs.length ∧ zs.length ≤ 10 ∧ within 0 1000 zs = true := by
  unfold rgood at h
  simp at h
  exact ⟨by omega, h.1.2, h.2⟩
theorem rgood_in {zs : List Int} (h : 2 ≤ zs.length ∧ zs.length ≤ 10) : rgood zs = within 0 1000 zs := by
  unfold rgood; simp [h]
theorem rgood_out {zs : List Int} (h : ¬ (2 ≤ zs.length ∧ zs.length ≤ 10)) : rgood zs = false := by
  unfold rgood; simp; omega
theorem rgood_get {zs : List Int} (h : rgood zs = true) (k : Nat) (hk : k < zs.length) : 0 ≤ zs[k] ∧ zs[k] ≤ 1000 := within_get (rgood_of h).2.2 k hk
/-- A size of rings. -/
def rsize (n : Int) : Bool := decide (2 ≤ n ∧ n ≤ 10)

/-- The difference of two numbers. -/
def dif (a b : Int) : Int := max (a - b) (-(a - b))
theorem dif_bd {a b hi : Int} (ha : 0 ≤ a ∧ a ≤ hi) (hb : 0 ≤ b ∧ b ≤ hi) : 0 ≤ dif a b ∧ dif a b ≤ hi := by unfold dif; omega
/-- Who is behind k in a ring of n. -/
def nextOf (k n : Nat) : Nat := (k + 1) % n
theorem nextOf_lt {k n : Nat} (h : k < n) : nextOf k n < n := Nat.mod_lt _ (by omega)
theorem nextOf_in {k n : Nat} (h : k + 1 < n) : nextOf k n = k + 1 := Nat.mod_eq_of_lt h
theorem nextOf_end {k n : Nat} (h : k + 1 = n) : nextOf k n = 0 := by unfold nextOf; rw [h]; exact Nat.mod_self n
/-- A step. -/
def rstep1 (zs : List Int) (k : Nat) : Int := dif (zs.getD k 0) (zs.getD (nextOf k zs.length) 0)
def rstep (zs : List Int) : List Int := (List.range zs.length).map (rstep1 zs)
theorem rstep_length (zs : List Int) : (rstep zs).length = zs.length := by simp [rstep]
theorem rstep_get (zs : List Int) (k : Nat) (hk : k < zs.length) : (rstep zs)[k]'(by rw [rstep_length]; exact hk) = rstep1 zs k := by simp [rstep]
theorem rget {zs : List Int} {k : Nat} (hk : k < zs.length) : zs.getD k 0 = zs[k] := by simp [List.getD, List.getElem?_eq_getElem hk]
theorem rstep1_eq (zs : List Int) (k : Nat) (hk : k < zs.length) : rstep1 zs k = dif zs[k] (zs[nextOf k zs.length]'(nextOf_lt hk)) := by
  unfold rstep1
  rw [rget hk, rget (nextOf_lt hk)]
theorem rstep_take_succ (zs : List Int) (k : Nat) (hk : k < zs.length) : (rstep zs).take (k + 1) = (rstep zs).take k ++ [rstep1 zs k] := by
  rw [List.take_succ_eq_append_getElem (by rw [rstep_length]; exact hk), rstep_get zs k hk]
theorem rstep_within {zs : List Int} {b : Int} (h : within 0 b zs = true) : within 0 b (rstep zs) = true := within_of fun k hk => by
  rw [rstep_length] at hk
  rw [rstep_get zs k hk, rstep1_eq zs k hk]
  exact dif_bd (within_get h k hk) (within_get h _ (nextOf_lt hk))
theorem rstep_good {zs : List Int} (h : rgood zs = true) : rgood (rstep zs) = true := by
  obtain ⟨h1, h2, h3⟩ := rgood_of h
  rw [rgood_in (by rw [rstep_length]; exact ⟨h1, h2⟩)]
  exact rstep_within h3

/-- The ring behind so many steps. -/
def rit (zs : List Int) : Nat → List Int
  | 0 => zs
  | t + 1 => rstep (rit zs t)
theorem rit_length (zs : List Int) (t : Nat) : (rit zs t).length = zs.length := by
  induction t with
  | zero => rfl
  | succ t ih => rw [rit, rstep_length, ih]
theorem rit_within {zs : List Int} {b : Int} (h : within 0 b zs = true) (t : Nat) : within 0 b (rit zs t) = true := by
  induction t with
  | zero => exact h
  | succ t ih => exact rstep_within ih
theorem rit_good {zs : List Int} (h : rgood zs = true) (t : Nat) : rgood (rit zs t) = true := by
  induction t with
  | zero => exact h
  | succ t ih => exact rstep_good ih
theorem rit_add (zs : List Int) (s t : Nat) : rit zs (s + t) = rit (rit zs s) t := by
  induction t with
  | zero => rfl
  | succ t ih => rw [Nat.add_succ, rit, ih, rit]

/-- What RingStep tells, what MirrorRing tells, what TurnRing tells. -/
def rstepR (zs : List Int) : List Int := if rgood zs then rstep zs else []
theorem rstepR_short (zs : List Int) (h : zs.length ≤ 1048576) : (rstepR zs).length ≤ 1048576 := by
  unfold rstepR; split
  · rw [rstep_length]; exact h
  · simp
def rmirR (zs : List Int) : List Int := if rgood zs then zs.reverse else []
theorem rmirR_short (zs : List Int) (h : zs.length ≤ 1048576) : (rmirR zs).length ≤ 1048576 := by
  unfold rmirR; split
  · rw [List.length_reverse]; exact h
  · simp
def rturnOk (zs : List Int) (b : Int) : Bool := rgood zs && decide (0 ≤ b ∧ b < zs.length)
def rturnR (zs : List Int) (b : Int) : List Int := if rturnOk zs b then zs.drop b.toNat ++ zs.take b.toNat else []
theorem rturnR_short (zs : List Int) (b : Int) (h : zs.length ≤ 1048576) : (rturnR zs b).length ≤ 1048576 := by
  unfold rturnR; split
  · rw [List.length_append, List.length_drop, List.length_take]; omega
  · simp
/-- Each number so many times as great, and more: what LiftRing and ScaleRing tell. -/
def rmap (t m : Int) (zs : List Int) : List Int := zs.map fun n => n * t + m
theorem rmap_length (t m : Int) (zs : List Int) : (rmap t m zs).length = zs.length := by simp [rmap]
theorem rmap_get (t m : Int) (zs : List Int) (k : Nat) (hk : k < zs.length) : (rmap t m zs)[k]'(by rw [rmap_length]; exact hk) = zs[k] * t + m := by simp [rmap]
theorem rmap_take_succ (t m : Int) (zs : List Int) (k : Nat) (hk : k < zs.length) : (rmap t m zs).take (k + 1) = (rmap t m zs).take k ++ [zs[k] * t + m] := by
  rw [List.take_succ_eq_append_getElem (by rw [rmap_length]; exact hk), rmap_get t m zs k hk]
def rmapOk (t m b : Int) (zs : List Int) : Bool := rgood zs && decide (0 ≤ b ∧ b ≤ 1000) && rgood (rmap t m zs)
def rmapR (t m b : Int) (zs : List Int) : List Int := if rmapOk t m b zs then rmap t m zs else []
theorem rmapR_short (t m b : Int) (zs : List Int) (h : zs.length ≤ 1048576) : (rmapR t m b zs).length ≤ 1048576 := by
  unfold rmapR; split
  · rw [rmap_length]; exact h
  · simp
def liftR (zs : List Int) (b : Int) : List Int := rmapR 1 b b zs
def liftOk (zs : List Int) (b : Int) : Bool := rmapOk 1 b b zs
theorem liftR_short (zs : List Int) (b : Int) (h : zs.length ≤ 1048576) : (liftR zs b).length ≤ 1048576 := rmapR_short _ _ _ zs h
def scaleR (zs : List Int) (b : Int) : List Int := rmapR b 0 b zs
def scaleOk (zs : List Int) (b : Int) : Bool := rmapOk b 0 b zs
theorem scaleR_short (zs : List Int) (b : Int) (h : zs.length ≤ 1048576) : (scaleR zs b).length ≤ 1048576 := rmapR_short _ _ _ zs h
end Go.Proofs.Ytkhcabgpbmhimaa
