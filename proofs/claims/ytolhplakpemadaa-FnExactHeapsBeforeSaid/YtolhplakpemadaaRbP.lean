
/-
  PLAIN FACTS FOR RINGS BEFORE: lists in order, none twice; ways around. No program is named here.
-/
import Derived.Test.YtolhplakpemadaaRiP
namespace Go.Proofs.Ytolhplakpemadaa

/-- Is a list ahead of another one? -/
def lexLt : List Int → List Int → Bool
  | [], [] => false
  | [], _ :: _ => true
  | _ :: _, [] => false
  | x :: xs, y :: ys => if x < y then true else if y < x then false else lexLt xs ys
theorem lexLt_irr : ∀ xs, lexLt xs xs = false
  | [] => rfl
  | x :: xs => by unfold lexLt; rw [if_neg (by omega), if_neg (by omega)]; exact lexLt_irr xs
theorem lexLt_trans : ∀ xs ys zs, lexLt xs ys = true → lexLt ys zs = true → lexLt xs zs = true
  | [], [], _, h, _ => by simp [lexLt] at h
  | [], _ :: _, [], _, h => by simp [lexLt] at h
  | [], _ :: _, _ :: _, _, _ => rfl
  | _ :: _, [], _, h, _ => by simp [lexLt] at h
  | _ :: _, _ :: _, [], _, h => by simp [lexLt] at h
  | x :: xs, y :: ys, z :: zs, h1, h2 => by
    unfold lexLt at h1 h2 ⊢
    have ih := lexLt_trans xs ys zs
    split at h1
    · split at h2
      · rw [if_pos (by omega)]
      · split at h2
        · cases h2
        · rw [if_pos (by omega)]
    · split at h1
      · cases h1
      · split at h2
        · rw [if_pos (by omega)]
        · split at h2
          · cases h2
          · rw [if_neg (by omega), if_neg (by omega)]
            exact ih h1 h2
theorem lexLt_total : ∀ xs ys, lexLt xs ys = false → lexLt ys xs = false → xs = ys
  | [], [], _, _ => rfl
  | [], _ :: _, h, _ => by simp [lexLt] at h
  | _ :: _, [], _, h => by simp [lexLt] at h
  | x :: xs, y :: ys, h1, h2 => by
    unfold lexLt at h1 h2
    split at h1
    · cases h1
    · split at h1
      · rw [if_pos (by assumption)] at h2; cases h2
      · rw [if_neg (by assumption), if_neg (by assumption)] at h2
        rw [lexLt_total xs ys h1 h2, show x = y by omega]
theorem lexLt_asymm {xs ys : List Int} (h : lexLt xs ys = true) : lexLt ys xs = false := by
  cases h2 : lexLt ys xs
  · rfl
  · have := lexLt_trans _ _ _ h h2
    rw [lexLt_irr] at this; cases this

/-- In order, none twice. -/
def InOrder (xss : List (List Int)) : Prop := xss.Pairwise fun a b => lexLt a b = true
/-- Lists in order that have the same members are the same. -/
theorem inOrder_same : ∀ xss yss : List (List Int), InOrder xss → InOrder yss → (∀ x, x ∈ xss ↔ x ∈ yss) → xss = yss
  | [], [], _, _, _ => rfl
  | [], y :: ys, _, _, h => absurd ((h y).2 (by simp)) (by simp)
  | x :: xs, [], _, _, h => absurd ((h x).1 (by simp)) (by simp)
  | x :: xs, y :: ys, h1, h2, h => by
    have hx := List.pairwise_cons.1 h1
    have hy := List.pairwise_cons.1 h2
    have e : x = y := by
      have a := (h x).1 (by simp)
      have b := (h y).2 (by simp)
      simp only [List.mem_cons] at a b
      rcases a with a | a
      · exact a
      · rcases b with b | b
        · exact b.symm
        · have c := hx.1 y b
          have d := hy.1 x a
          rw [lexLt_asymm c] at d; cases d
    subst e
    have := inOrder_same xs ys hx.2 hy.2 (fun z => by
      have hz := h z
      simp only [List.mem_cons] at hz
      constructor
      · intro hm
        rcases hz.1 (.inr hm) with rfl | h3
        · have := hx.1 z hm; rw [lexLt_irr] at this; cases this
        · exact h3
      · intro hm
        rcases hz.2 (.inr hm) with rfl | h3
        · have := hy.1 z hm; rw [lexLt_irr] at this; cases this
        · exact h3)
    rw [this]
/-- A list among those in order, where it is not there yet. -/
def insU : List (List Int) → List Int → List (List Int)
  | [], l => [l]
  | o :: os, l => if lexLt o l = true then o :: insU os l else if o = l then o :: os else l :: o :: os
theorem insU_mem : ∀ (xss : List (List Int)) (l x : List Int), x ∈ insU xss l ↔ x = l ∨ x ∈ xss
  | [], l, x => by simp [insU]
  | o :: os, l, x => by
    unfold insU
    split
    · rw [List.mem_cons, insU_mem os l x, List.mem_cons]
      constructor
      · rintro (h | h | h)
        · exact .inr (.inl h)
        · exact .inl h
        · exact .inr (.inr h)
      · rintro (h | h | h)
        · exact .inr (.inl h)
        · exact .inl h
        · exact .inr (.inr h)
    · split
      · rename_i he
        subst he
        simp only [List.mem_cons]
        constructor
        · exact .inr
        · rintro (h | h)
          · exact .inl h
          · exact h
      · simp only [List.mem_cons]
theorem insU_order : ∀ (xss : List (List Int)) (l : List Int), InOrder xss → InOrder (insU xss l)
  | [], l, _ => List.pairwise_singleton _ _
  | o :: os, l, h => by
    have ho := List.pairwise_cons.1 h
    unfold insU
    split
    · rename_i hlt
      refine List.pairwise_cons.2 ⟨fun x hx => ?_, insU_order os l ho.2⟩
      rcases (insU_mem os l x).1 hx with rfl | hx
      · exact hlt
      · exact ho.1 x hx
    · split
      · exact h
      · rename_i hnl hne
        refine List.pairwise_cons.2 ⟨fun x hx => ?_, h⟩
        have hlo : lexLt l o = true := by
          cases hh : lexLt l o
          · exact absurd (lexLt_total o l (by simpa using hnl) hh) hne
          · rfl
        rcases List.mem_cons.1 hx with rfl | hx
        · exact hlo
        · exact lexLt_trans _ _ _ hlo (ho.1 x hx)

/-- Where a way leads: by each number up or down, as a number's bits tell. -/
def wayEnd (zs : List Int) (s : Nat) : Nat → Int
  | 0 => 0
  | k + 1 => if s / 2 ^ k % 2 = 1 then wayEnd zs s k - zs.getD k 0 else wayEnd zs s k + zs.getD k 0
def wayL (zs : List Int) (s k : Nat) : List Int := (List.range (k + 1)).map (wayEnd zs s)
theorem wayL_zero (zs : List Int) (s : Nat) : wayL zs s 0 = [0] := rfl
theorem wayL_succ (zs : List Int) (s k : Nat) : wayL zs s (k + 1) = wayL zs s k ++ [wayEnd zs s (k + 1)] := by
  unfold wayL
  rw [List.range_succ, List.map_append]; rfl
theorem wayL_length (zs : List Int) (s k : Nat) : (wayL zs s k).length = k + 1 := by simp [wayL]
/-- A way hangs on its own bits alone. -/
theorem wayEnd_low (zs : List Int) (s t : Nat) : ∀ k, (∀ i, i < k → s / 2 ^ i % 2 = t / 2 ^ i % 2) → wayEnd zs s k = wayEnd zs t k
  | 0, _ => rfl
  | k + 1, h => by
    unfold wayEnd
    rw [wayEnd_low zs s t k (fun i hi => h i (by omega)), h k (by omega)]
theorem wayL_low (zs : List Int) (s t k : Nat) (h : ∀ i, i < k → s / 2 ^ i % 2 = t / 2 ^ i % 2) : wayL zs s k = wayL zs t k := by
  unfold wayL
  apply List.map_congr_left
  intro j hj
  have := List.mem_range.1 hj
  exact wayEnd_low zs s t j (fun i hi => h i (by omega))
/-- All ways of k numbers, as they are doubled. -/
def waysL (zs : List Int) : Nat → List (List Int)
  | 0 => [[0]]
  | k + 1 => (waysL zs k).flatMap fun way => (way ++ [way.getD k 0 + zs.getD k 0]) :: if zs.getD k 0 > 0 then [way ++ [way.getD k 0 - zs.getD k 0]] else []
theorem wayL_last (zs : List Int) (s k : Nat) : (wayL zs s k).getD k 0 = wayEnd zs s k := by
  simp [wayL, List.getD]
theorem waysL_mem (zs : List Int) (hz : ∀ k, 0 ≤ zs.getD k 0) : ∀ k (l : List Int), l ∈ waysL zs k ↔ ∃ s, s < 2 ^ k ∧ l = wayL zs s k
  | 0, l => by
    simp only [waysL, List.mem_singleton]
    constructor
    · rintro rfl; exact ⟨0, by simp, rfl⟩
    · rintro ⟨s, _, rfl⟩; rfl
  | k + 1, l => by
    have ih := waysL_mem zs hz k
    unfold waysL
    rw [List.mem_flatMap]
    have hp : 2 ^ (k + 1) = 2 * 2 ^ k := by rw [Nat.pow_succ, Nat.mul_comm]
    have hpos : 0 < 2 ^ k := Nat.two_pow_pos k
    constructor
    · rintro ⟨way, hw, hl⟩
      obtain ⟨s, hs, rfl⟩ := (ih way).1 hw
      rw [wayL_last] at hl
      have hbit0 : s / 2 ^ k % 2 = 0 := by rw [Nat.div_eq_of_lt hs]
      rcases List.mem_cons.1 hl with rfl | hl
      · refine ⟨s, by omega, ?_⟩
        rw [wayL_succ]
        congr 2
        show _ = if s / 2 ^ k % 2 = 1 then _ else _
        rw [if_neg (by omega)]
      · split at hl
        · rw [List.mem_singleton] at hl
          subst hl
          refine ⟨s + 2 ^ k, by omega, ?_⟩
          have hlow : ∀ i, i < k → s / 2 ^ i % 2 = (s + 2 ^ k) / 2 ^ i % 2 := fun i hi => by
            obtain ⟨d, rfl⟩ : ∃ d, k = i + (d + 1) := ⟨k - i - 1, by omega⟩
            rw [Nat.pow_add, Nat.add_mul_div_left _ _ (Nat.two_pow_pos i), Nat.pow_succ, Nat.mul_comm (2 ^ d) 2, Nat.add_mul_mod_self_left]
          rw [wayL_succ, ← wayL_low zs s (s + 2 ^ k) k hlow]
          congr 2
          show _ = if (s + 2 ^ k) / 2 ^ k % 2 = 1 then _ else _
          rw [if_pos (by rw [Nat.add_div_right _ hpos, Nat.div_eq_of_lt hs]), ← wayEnd_low zs s (s + 2 ^ k) k hlow]
        · simp at hl
    · rintro ⟨s, hs, rfl⟩
      have hlow : ∀ i, i < k → s / 2 ^ i % 2 = (s % 2 ^ k) / 2 ^ i % 2 := fun i hi => by
        obtain ⟨d, rfl⟩ : ∃ d, k = i + (d + 1) := ⟨k - i - 1, by omega⟩
        have e := Nat.div_add_mod s (2 ^ (i + (d + 1)))
        conv => lhs; rw [← e]
        rw [Nat.pow_add, Nat.mul_assoc, Nat.add_comm, Nat.add_mul_div_left _ _ (Nat.two_pow_pos i), Nat.pow_succ, Nat.mul_comm (2 ^ d) 2, Nat.mul_assoc, Nat.add_mul_mod_self_left]
      refine ⟨wayL zs (s % 2 ^ k) k, (ih _).2 ⟨_, Nat.mod_lt _ hpos, rfl⟩, ?_⟩
      rw [wayL_last, wayL_succ, wayL_low zs s _ k hlow, List.mem_cons]
      have e : wayEnd zs s (k + 1) = if s / 2 ^ k % 2 = 1 then wayEnd zs (s % 2 ^ k) k - zs.getD k 0 else wayEnd zs (s % 2 ^ k) k + zs.getD k 0 := by
        rw [← wayEnd_low zs s _ k hlow]; rfl
      rw [e]
      have h0 := hz k
      split
      · by_cases hg : zs.getD k 0 > 0
        · right; rw [if_pos hg]; simp
        · left; rw [show zs.getD k 0 = 0 by omega]; simp
      · left; rfl
end Go.Proofs.Ytolhplakpemadaa
