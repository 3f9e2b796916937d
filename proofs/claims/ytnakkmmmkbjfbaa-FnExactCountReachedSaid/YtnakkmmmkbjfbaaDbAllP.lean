
/-
  ALL DOUBLINGS THAT CAN BE MADE, plainly. No program is named here.
-/
import Derived.Test.YtnakkmmmkbjfbaaRowP
import Derived.Test.YtnakkmmmkbjfbaaDb
namespace Go.Proofs.Ytnakkmmmkbjfbaa

/-- Those from f to the first j heaps. -/
def innD (zs : List Int) (f : Nat) : Nat → List Db
  | 0 => []
  | j + 1 => innD zs f j ++ (if canD zs (f : Int) (j : Int) then [⟨(f : Int), (j : Int)⟩] else [])
/-- Those from the first k heaps. -/
def outD (zs : List Int) : Nat → List Db
  | 0 => []
  | k + 1 => outD zs k ++ innD zs k zs.length
def allD (zs : List Int) : List Db := outD zs zs.length
theorem innD_len (zs : List Int) (f : Nat) : ∀ j, (innD zs f j).length ≤ j
  | 0 => by simp [innD]
  | j + 1 => by
    have := innD_len zs f j
    unfold innD
    split <;> simp <;> omega
theorem outD_len (zs : List Int) : ∀ k, (outD zs k).length ≤ k * zs.length
  | 0 => by simp [outD]
  | k + 1 => by
    have h1 := outD_len zs k
    have h2 := innD_len zs k zs.length
    unfold outD
    rw [List.length_append, Nat.succ_mul]
    omega
end Go.Proofs.Ytnakkmmmkbjfbaa
