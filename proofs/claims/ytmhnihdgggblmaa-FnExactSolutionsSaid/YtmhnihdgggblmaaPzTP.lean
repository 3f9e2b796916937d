
/-
  WHAT CLUES TELL OF HEAPS, PLAINLY; HIDDEN HEAPS IN ORDER.
-/
import Derived.Test.YtmhnihdgggblmaaPzP
import Derived.Test.YtmhnihdgggblmaaSpread
import Derived.Test.YtmhnihdgggblmaaStones
namespace Go.Proofs.Ytmhnihdgggblmaa
open Go.RowKit Go.Deep

/-- Hidden heaps. -/
def hidOk (zs : List Int) : Bool := decide (2 ≤ zs.length ∧ zs.length ≤ 4) && within 0 5 zs
theorem hidOk_of {zs : List Int} (h : hidOk zs = true) : (2 ≤ zs.length ∧ zs.length ≤ 4) ∧ within 0 5 zs = true := by
  unfold hidOk at h
  simpa using h
theorem hidOk_good {zs : List Int} (h : hidOk zs = true) : good zs = true := by
  obtain ⟨⟨h1, h2⟩, h3⟩ := hidOk_of h
  unfold good
  rw [within_wide h3 (Int.le_refl _) (by omega)]
  simp
  omega
theorem hidOk_get {zs : List Int} (h : hidOk zs = true) (k : Nat) (hk : k < zs.length) : 0 ≤ zs[k] ∧ zs[k] ≤ 5 := within_get (hidOk_of h).2 k hk

def cntOf (a : Int) : List Int → Int
  | [] => 0
  | x :: xs => (if x = a then 1 else 0) + cntOf a xs
theorem cntOf_append (a : Int) (xs ys : List Int) : cntOf a (xs ++ ys) = cntOf a xs + cntOf a ys := by
  induction xs with
  | nil => simp [cntOf]
  | cons x xs ih => simp only [List.cons_append, cntOf, ih]; omega
theorem cntOf_succ (a : Int) (zs : List Int) (k : Nat) (hk : k < zs.length) : cntOf a (zs.take (k + 1)) = cntOf a (zs.take k) + (if zs[k] = a then 1 else 0) := by
  rw [List.take_succ_eq_append_getElem hk, cntOf_append]; simp [cntOf]
theorem cntOf_bd (a : Int) (zs : List Int) : 0 ≤ cntOf a zs ∧ cntOf a zs ≤ zs.length := by
  induction zs with
  | nil => simp [cntOf]
  | cons x xs ih => simp only [cntOf, List.length_cons]; split <;> omega

/-- What a clue of a kind tells of heaps, with two numbers. -/
def told (k a b : Int) (zs : List Int) : Int :=
  if k = 0 then tot zs
  else if k = 1 then (if zs.getD b.toNat 0 < zs.getD a.toNat 0 then 1 else 0)
  else if k = 2 then cntOf a zs
  else if k = 3 then (if eqOk zs then gainN zs else 20)
  else if k = 4 then zs.getD a.toNat 0 + zs.getD b.toNat 0
  else up 0 zs
section
variable (a b : Int) (zs : List Int)
theorem told_0 : told 0 a b zs = tot zs := rfl
theorem told_1 : told 1 a b zs = (if zs.getD b.toNat 0 < zs.getD a.toNat 0 then 1 else 0) := rfl
theorem told_2 : told 2 a b zs = cntOf a zs := rfl
theorem told_3 : told 3 a b zs = (if eqOk zs then gainN zs else 20) := rfl
theorem told_4 : told 4 a b zs = zs.getD a.toNat 0 + zs.getD b.toNat 0 := rfl
theorem told_n {k : Int} (h0 : ¬ k = 0) (h1 : ¬ k = 1) (h2 : ¬ k = 2) (h3 : ¬ k = 3) (h4 : ¬ k = 4) : told k a b zs = up 0 zs := by simp [told, h0, h1, h2, h3, h4]
end
/-- The numbers of a clue are such that it can be told of. -/
def subOk (n : Nat) (k a b : Int) : Prop := (k = 1 ∨ k = 4) → (0 ≤ a ∧ a < n) ∧ 0 ≤ b ∧ b < n
theorem clueOk_sub {n : Nat} {c : Cl} (h : clueOk n c = true) : subOk n c.x0 c.x1 c.x2 := by
  rw [clueOk_eq] at h
  rintro (e | e)
  · rw [e, clueOk2_1] at h
    have := (Bool.and_eq_true _ _ ▸ h : _ ∧ _).1
    unfold pzTwo at this
    simp at this
    omega
  · rw [e, clueOk2_4] at h
    have := (Bool.and_eq_true _ _ ▸ h : _ ∧ _).1
    unfold pzTwo at this
    simp at this
    omega
/-- Heaps fit a clue. -/
def fitB (zs : List Int) (c : Cl) : Bool := decide (told c.x0 c.x1 c.x2 zs = c.x3)
def fitAll (cs : List Cl) (zs : List Int) : Bool := cs.all (fitB zs)
theorem fitAll_get {cs : List Cl} {zs : List Int} (h : fitAll cs zs = true) (k : Nat) (hk : k < cs.length) : fitB zs cs[k] = true := List.all_eq_true.mp h _ (List.getElem_mem hk)
theorem fitAll_of {cs : List Cl} {zs : List Int} (h : ∀ (k : Nat) (hk : k < cs.length), fitB zs cs[k] = true) : fitAll cs zs = true :=
  List.all_eq_true.mpr fun x hx => by obtain ⟨k, hk, rfl⟩ := List.getElem_of_mem hx; exact h k hk
theorem fitAll_not {cs : List Cl} {zs : List Int} (k : Nat) (hk : k < cs.length) (h : fitB zs cs[k] = false) : fitAll cs zs = false := by
  cases hc : fitAll cs zs
  · rfl
  · rw [fitAll_get hc k hk] at h; cases h
theorem up_first0 {zs : List Int} (h0 : 0 < zs.length) (h : within 0 5 zs = true) : up (zs.getD 0 0) zs = up 0 zs := by
  cases zs with
  | nil => simp at h0
  | cons x xs =>
    have := (within_get h 0 (by simp)).1
    simp at this
    show up (max x x) xs = up (max 0 x) xs
    rw [show max x x = x from by omega, show max 0 x = x from by omega]
theorem up_take0 (zs : List Int) (h : within 0 5 zs = true) (k : Nat) : 0 ≤ up 0 (zs.take k) ∧ up 0 (zs.take k) ≤ 5 := up_bd (within_take h k) 0 (by omega)
end Go.Proofs.Ytmhnihdgggblmaa
