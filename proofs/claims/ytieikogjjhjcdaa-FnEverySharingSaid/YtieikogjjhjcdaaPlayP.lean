
/-
  PLAIN FACTS ON MOVES AMONG HEAPS. No program is named here.
-/
import Derived.Test.YtieikogjjhjcdaaPlainB
namespace Go.Proofs.Ytieikogjjhjcdaa

/-- No stones are owed, and there are not many. -/
def calm (zs : List Int) : Prop := within 0 12000 zs = true ∧ tot zs ≤ 12000
theorem calm_of_good {zs : List Int} (h : good zs = true) : calm zs :=
  ⟨within_wide (good_of h).2.2 (by omega) (by omega), (good_tot h).2⟩
theorem calm_get {zs : List Int} (h : calm zs) (k : Nat) (hk : k < zs.length) : 0 ≤ zs[k] ∧ zs[k] ≤ 12000 := within_get h.1 k hk
/-- c more at i. -/
def bump (i : Nat) (c : Int) (zs : List Int) : List Int := zs.set i (zs.getD i 0 + c)
theorem bump_length (i : Nat) (c : Int) (zs : List Int) : (bump i c zs).length = zs.length := by simp [bump]
theorem bump_getD_ne (i j : Nat) (c : Int) (zs : List Int) (h : i ≠ j) : (bump i c zs).getD j 0 = zs.getD j 0 := by
  simp [bump, List.getD, List.getElem?_set_ne h]
theorem tot_set (zs : List Int) (i : Nat) (x : Int) (hi : i < zs.length) : tot (zs.set i x) = tot zs - zs[i] + x := by
  induction zs generalizing i with
  | nil => simp at hi
  | cons z zs ih =>
    cases i with
    | zero => simp [tot]; omega
    | succ i =>
      have := ih i (by simpa using hi)
      simp [tot, this]; omega
theorem tot_bump (zs : List Int) (i : Nat) (c : Int) (hi : i < zs.length) : tot (bump i c zs) = tot zs + c := by
  unfold bump
  rw [tot_set zs i _ hi]
  simp [List.getD, hi]; omega
/-- The stones behind a move. -/
def moved (i j : Nat) (c : Int) (zs : List Int) : List Int := bump j c (bump i (-c) zs)
theorem moved_length (i j : Nat) (c : Int) (zs : List Int) : (moved i j c zs).length = zs.length := by simp [moved, bump_length]
theorem nonneg_tot (zs : List Int) (h : ∀ (k : Nat) (_ : k < zs.length), 0 ≤ zs[k]) : 0 ≤ tot zs ∧ ∀ (k : Nat) (_ : k < zs.length), zs[k] ≤ tot zs := by
  induction zs with
  | nil => exact ⟨by simp [tot], fun k hk => by simp at hk⟩
  | cons z zs ih =>
    have h0 := h 0 (by simp)
    have h1 := ih (fun k hk => by have := h (k + 1) (by simpa using hk); simpa using this)
    simp at h0
    refine ⟨by simp [tot]; omega, fun k hk => ?_⟩
    cases k with
    | zero => simp [tot]; omega
    | succ k => have := h1.2 k (by simpa using hk); simp [tot]; omega
theorem moved_get (i j : Nat) (c : Int) (zs : List Int) (hij : i ≠ j) (hi : i < zs.length) (hj : j < zs.length) (k : Nat) (hk : k < zs.length) :
    (moved i j c zs).getD k 0 = if k = j then zs[k] + c else if k = i then zs[k] - c else zs[k] := by
  unfold moved
  by_cases h1 : k = j
  · subst h1
    simp only [bump, List.getD]
    simp [hk, List.getElem_set_ne hij]
  · rw [if_neg h1, bump_getD_ne _ _ _ _ (fun e => h1 e.symm)]
    by_cases h2 : k = i
    · subst h2
      simp [bump, List.getD, hk]; omega
    · rw [if_neg h2, bump_getD_ne _ _ _ _ (fun e => h2 e.symm)]
      simp [List.getD, hk]
theorem moved_eq (i j : Nat) (c : Int) (zs : List Int) (hij : i ≠ j) (hi : i < zs.length) (hj : j < zs.length) : moved i j c zs = (zs.set i (zs[i] - c)).set j (zs[j] + c) := by
  unfold moved
  show (bump i (-c) zs).set j ((bump i (-c) zs).getD j 0 + c) = _
  rw [bump_getD_ne _ _ _ _ hij]
  simp [bump, List.getD, hi, hj, Int.sub_eq_add_neg]
theorem calm_moved {zs : List Int} (h : calm zs) (i j : Nat) (c : Int) (hij : i ≠ j) (hi : i < zs.length) (hj : j < zs.length) (hc : 0 ≤ c) (hcz : c ≤ zs[i]) : calm (moved i j c zs) := by
  have ht : tot (moved i j c zs) = tot zs := by
    unfold moved
    rw [tot_bump _ _ _ (by rw [bump_length]; exact hj), tot_bump _ _ _ hi]; omega
  have hnn : ∀ (k : Nat) (_ : k < (moved i j c zs).length), 0 ≤ (moved i j c zs)[k] := by
    intro k hk
    have hk' : k < zs.length := by rw [moved_length] at hk; exact hk
    have e : (moved i j c zs)[k] = (moved i j c zs).getD k 0 := by simp [List.getD, hk]
    have hz := (calm_get h k hk').1
    rw [e, moved_get i j c zs hij hi hj k hk']
    split
    · omega
    · split
      · rename_i h2; subst h2; omega
      · exact hz
  have hb := nonneg_tot _ hnn
  refine ⟨within_of fun k hk => ⟨hnn k hk, ?_⟩, by rw [ht]; exact h.2⟩
  have := hb.2 k hk
  have := h.2
  omega

/-- Can the move be made? -/
def canMv (zs : List Int) (f t c : Int) : Bool := decide ((0 ≤ f ∧ f < zs.length) ∧ (0 ≤ t ∧ t < zs.length) ∧ f ≠ t ∧ 1 ≤ c ∧ c ≤ zs.getD f.toNat 0)
def movedR (zs : List Int) (f t c : Int) : List Int := if canMv zs f t c then moved f.toNat t.toNat c zs else []
theorem movedR_yes {zs : List Int} {f t c : Int} (h : canMv zs f t c = true) : movedR zs f t c = moved f.toNat t.toNat c zs := by simp [movedR, h]
theorem movedR_no {zs : List Int} {f t c : Int} (h : canMv zs f t c = false) : movedR zs f t c = [] := by simp [movedR, h]
theorem canMv_yes {zs : List Int} {f t c : Int} (h : (0 ≤ f ∧ f < zs.length) ∧ (0 ≤ t ∧ t < zs.length) ∧ f ≠ t ∧ 1 ≤ c ∧ c ≤ zs.getD f.toNat 0) : canMv zs f t c = true := by
  unfold canMv; simpa using h
theorem canMv_no {zs : List Int} {f t c : Int} (h : ¬ ((0 ≤ f ∧ f < zs.length) ∧ (0 ≤ t ∧ t < zs.length) ∧ f ≠ t ∧ 1 ≤ c ∧ c ≤ zs.getD f.toNat 0)) : canMv zs f t c = false := by
  unfold canMv; simpa using h
end Go.Proofs.Ytieikogjjhjcdaa
