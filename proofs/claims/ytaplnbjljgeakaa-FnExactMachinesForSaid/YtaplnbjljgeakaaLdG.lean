
/-
  GIVING JOBS OUT, PLAINLY: the first one of the least loads, plans in some order. No program is named here.
-/
import Derived.Test.YtaplnbjljgeakaaLdP
import Derived.Test.YtaplnbjljgeakaaRws
namespace Go.Proofs.Ytaplnbjljgeakaa

/-- The first one of the least ones of the first k. -/
def flAt (l : List Int) : Nat → Nat
  | 0 => 0
  | k + 1 => if l.getD k 0 < l.getD (flAt l k) 0 then k else flAt l k
theorem flAt_lt (l : List Int) (h : 0 < l.length) : ∀ k, k ≤ l.length → flAt l k < l.length
  | 0, _ => h
  | k + 1, hk => by
    unfold flAt
    split
    · omega
    · exact flAt_lt l h k (by omega)
theorem flAt_yes {l : List Int} {k : Nat} (h : l.getD k 0 < l.getD (flAt l k) 0) : flAt l (k + 1) = k := by
  rw [flAt, if_pos h]
theorem flAt_no {l : List Int} {k : Nat} (h : ¬ l.getD k 0 < l.getD (flAt l k) 0) : flAt l (k + 1) = flAt l k := by
  rw [flAt, if_neg h]
theorem flAt_one (l : List Int) : flAt l 1 = 0 := by
  show (if _ then _ else _) = _
  split <;> rfl
/-- The plan and the loads behind the first k jobs of an order. -/
def giveS (zs os : List Int) (m : Nat) : Nat → List Int × List Int
  | 0 => (List.replicate zs.length 0, List.replicate m 0)
  | k + 1 =>
    ((giveS zs os m k).1.set (os.getD k 0).toNat (flAt (giveS zs os m k).2 m),
      (giveS zs os m k).2.set (flAt (giveS zs os m k).2 m) ((giveS zs os m k).2.getD (flAt (giveS zs os m k).2 m) 0 + zs.getD (os.getD k 0).toNat 0))
theorem giveS_len (zs os : List Int) (m : Nat) : ∀ k, (giveS zs os m k).1.length = zs.length ∧ (giveS zs os m k).2.length = m
  | 0 => by simp [giveS]
  | k + 1 => by
    have := giveS_len zs os m k
    simp [giveS, this]
theorem giveS_bd {zs : List Int} (os : List Int) (m : Nat) (h : within 0 1000 zs = true) : ∀ k : Nat, within 0 (1000 * k) (giveS zs os m k).2 = true
  | 0 => by
    refine within_of fun i hi => ?_
    simp [giveS]
  | k + 1 => by
    have ih := giveS_bd os m h k
    have hz : 0 ≤ zs.getD (os.getD k 0).toNat 0 ∧ zs.getD (os.getD k 0).toNat 0 ≤ 1000 := by
      by_cases hk : (os.getD k 0).toNat < zs.length
      · rw [getD_at hk]; exact within_get h _ hk
      · rw [show zs.getD (os.getD k 0).toNat 0 = 0 from by rw [List.getD, List.getElem?_eq_none (by omega)]; rfl]; omega
    show within _ _ ((giveS zs os m k).2.set _ _) = true
    by_cases hi : flAt (giveS zs os m k).2 m < (giveS zs os m k).2.length
    · refine within_set (within_wide ih (by omega) (by omega)) _ _ ?_
      have := within_get ih _ hi
      rw [getD_at hi]
      omega
    · rw [List.set_eq_of_length_le (by omega)]
      exact within_wide ih (by omega) (by omega)
def giveP (zs os : List Int) (m : Nat) : List Int := (giveS zs os m os.length).1
theorem giveP_length (zs os : List Int) (m : Nat) : (giveP zs os m).length = zs.length := (giveS_len zs os m _).1
theorem giveS_step (zs os : List Int) (m k jb f : Nat) (p l : List Int) (h : giveS zs os m k = (p, l)) (hj : os.getD k 0 = (jb : Int)) (hf : flAt l m = f) (x y : Int) (hx : l.getD f 0 = x) (hy : zs.getD jb 0 = y) :
    giveS zs os m (k + 1) = (p.set jb (f : Int), l.set f (x + y)) := by
  show (_, _) = _
  rw [h, hj]
  simp only [Int.toNat_natCast, hf, hx, hy]
end Go.Proofs.Ytaplnbjljgeakaa
