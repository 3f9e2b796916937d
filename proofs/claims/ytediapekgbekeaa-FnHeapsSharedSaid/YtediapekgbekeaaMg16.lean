import Derived.Test.YtediapekgbekeaaMg11
import Derived.Test.YtediapekgbekeaaMg14
import Derived.Test.YtediapekgbekeaaMg15

/-
  GROUPS OF HEAPS AND THE MOVES THAT MAKE THEM EQUAL, plainly: as many groups whose own stones are just theirs as there are heaps less moves. No program is named here.
-/
namespace Go.Proofs.Ytediapekgbekeaa

/-- The set of those below n that p tells. -/
def mask (p : Nat → Bool) : Nat → Nat
  | 0 => 0
  | n + 1 => (if p n then 2 ^ n else 0) + mask p n
theorem mask_lt (p : Nat → Bool) : ∀ n, mask p n < 2 ^ n
  | 0 => by simp [mask]
  | n + 1 => by
    have := mask_lt p n
    unfold mask
    rw [Nat.pow_succ]
    split <;> omega
theorem mask_bit (p : Nat → Bool) (k : Nat) : ∀ n, (mask p n).testBit k = (decide (k < n) && p k)
  | 0 => by simp [mask]
  | n + 1 => by
    have ih := mask_bit p k n
    have hl := mask_lt p n
    unfold mask
    by_cases hp : p n = true
    · rw [if_pos hp]
      rcases Nat.lt_trichotomy k n with h | h | h
      · rw [Nat.testBit_two_pow_add_gt h, ih]; simp [h, show k < n + 1 by omega]
      · subst h
        rw [Nat.testBit_two_pow_add_eq, ih]; simp [hp]
      · rw [Nat.testBit_lt_two_pow (Nat.lt_of_lt_of_le (show 2 ^ n + mask p n < 2 ^ (n + 1) by rw [Nat.pow_succ]; omega) (Nat.pow_le_pow_right (by omega) h))]
        simp [show ¬ k < n + 1 by omega]
    · rw [if_neg hp, Nat.zero_add, ih]
      by_cases h : k = n
      · subst h; simp [hp]
      · simp [show k < n + 1 ↔ k < n by omega]
theorem mask_small {p : Nat → Bool} {n : Nat} (h : n ≤ 8) : mask p n < 256 := Nat.lt_of_lt_of_le (mask_lt p n) (Nat.le_trans (Nat.pow_le_pow_right (by omega) h) (by omega))
/-- What those have together that p tells. -/
def ps (E : List Int) (p : Nat → Bool) : Nat → Int
  | 0 => 0
  | k + 1 => if p k then ps E p k + E.getD k 0 else ps E p k
theorem sm_ps (D : List Int) (s : Nat) : ∀ n, sm D s n = ps D (fun k => s.testBit k) n
  | 0 => rfl
  | n + 1 => by unfold sm ps; rw [sm_ps D s n]
theorem ps_congr {D : List Int} {p q : Nat → Bool} : ∀ n, (∀ k, k < n → p k = q k) → ps D p n = ps D q n
  | 0, _ => rfl
  | n + 1, h => by unfold ps; rw [ps_congr n (fun k hk => h k (by omega)), h n (by omega)]
theorem sm_mask (D : List Int) (p : Nat → Bool) (n : Nat) : sm D (mask p n) n = ps D p n := by
  rw [sm_ps]
  refine ps_congr n fun k hk => ?_
  rw [mask_bit]; simp [hk]
theorem ps_set (E : List Int) (p : Nat → Bool) (i : Nat) (v : Int) (hi : i < E.length) : ∀ n, ps (E.set i v) p n = ps E p n + if i < n ∧ p i = true then v - E.getD i 0 else 0
  | 0 => by simp [ps]
  | n + 1 => by
    unfold ps
    rw [ps_set E p i v hi n]
    by_cases e : i = n
    · subst e
      have h1 : (E.set i v).getD i 0 = v := by simp [List.getD, hi]
      rw [h1]
      by_cases hp : p i = true
      · rw [if_pos hp, if_pos hp, if_neg (by omega), if_pos ⟨by omega, hp⟩]; omega
      · rw [if_neg hp, if_neg hp, if_neg (fun h => hp h.2), if_neg (fun h => hp h.2)]
    · have h1 : (E.set i v).getD n 0 = E.getD n 0 := by simp [List.getD, List.getElem?_set_ne e]
      rw [h1]
      have h2 : (i < n + 1 ∧ p i = true) ↔ (i < n ∧ p i = true) := by
        constructor <;> intro h <;> exact ⟨by omega, h.2⟩
      simp only [h2]
      split <;> omega
theorem ps_moved {E : List Int} {i j : Nat} {c : Int} (p : Nat → Bool) (hij : i ≠ j) (hi : i < E.length) (hj : j < E.length) (hp : p i = p j) : ps (movedE i j c E) p E.length = ps E p E.length := by
  unfold movedE
  rw [ps_set _ p j _ (by simpa using hj), ps_set _ p i _ hi]
  have h1 : (E.set i (E.getD i 0 - c)).getD j 0 = E.getD j 0 := by simp [List.getD, List.getElem?_set_ne hij]
  rw [h1]
  by_cases h : p i = true
  · rw [if_pos ⟨hi, h⟩, if_pos ⟨hj, hp ▸ h⟩]; omega
  · rw [if_neg (fun e => h e.2), if_neg (fun e => h (hp ▸ e.2))]; omega
/-- Whether a label is used below n; how many of the labels below m are. -/
def used (lab : Nat → Nat) (n v : Nat) : Bool := (List.range n).any fun k => lab k == v
theorem used_iff {lab : Nat → Nat} {n v : Nat} : used lab n v = true ↔ ∃ k, k < n ∧ lab k = v := by
  unfold used; simp
def labs (lab : Nat → Nat) (n : Nat) : Nat → Int
  | 0 => 0
  | m + 1 => labs lab n m + if used lab n m then 1 else 0
theorem labs_id (n : Nat) : ∀ m, m ≤ n → labs (fun k => k) n m = m
  | 0, _ => rfl
  | m + 1, h => by
    unfold labs
    rw [labs_id n m (by omega), if_pos (used_iff.2 ⟨m, by omega, rfl⟩)]; omega
theorem labs_less {lab lab' : Nat → Nat} {n x : Nat} (h : ∀ v, v ≠ x → used lab n v = true → used lab' n v = true) : ∀ m, labs lab n m ≤ labs lab' n m + if x < m then 1 else 0
  | 0 => by simp [labs]
  | m + 1 => by
    have ih := labs_less h m
    unfold labs
    by_cases e : m = x
    · subst e
      rw [if_neg (by omega)] at ih
      rw [show (if m < m + 1 then (1 : Int) else 0) = 1 from if_pos (by omega)]
      split <;> split <;> omega
    · have h2 : (x < m + 1) ↔ (x < m) := by omega
      simp only [h2]
      by_cases hu : used lab n m = true
      · rw [if_pos hu, if_pos (h m e hu)]; omega
      · rw [if_neg hu]; split <;> omega
/-- The labels that moves leave. -/
theorem groups : ∀ (N : Nat) (E : List Int), (moves E).length = N → E.sum = 0 →
    ∃ lab : Nat → Nat, (∀ k, k < E.length → lab k < E.length) ∧ (∀ q : Nat → Bool, ps E (fun k => q (lab k)) E.length = 0) ∧ (E.length : Int) ≤ labs lab E.length E.length + N
  | N, E, hN, h0 => by
    cases hp : hasPos E
    · have hall : ∀ x ∈ E, x ≤ 0 := fun x hx => by
        unfold hasPos at hp
        have := List.any_eq_false.1 hp x hx
        simpa using this
      have hz := (sum_le_zero _ hall).2 h0
      refine ⟨fun k => k, fun k hk => hk, fun q => ?_, ?_⟩
      · have : ∀ n, n ≤ E.length → ps E q n = 0 := by
          intro n
          induction n with
          | zero => intro _; rfl
          | succ n ih =>
            intro hn
            unfold ps
            rw [ih (by omega), gd (show n < E.length by omega), hz _ (List.getElem_mem _)]; simp
        exact this _ (Nat.le_refl _)
      · rw [labs_id _ _ (Nat.le_refl _)]; omega
    · obtain ⟨hi, hj, h1, h2, hij⟩ := next_pair h0 hp
      have hm := moves_yes h0 hp
      have hl : (moves (movedE (fpos E) (fneg E) (amount E) E)).length < N := by rw [hm] at hN; simp at hN; omega
      obtain ⟨lab, g1, g2, g3⟩ := groups _ (movedE (fpos E) (fneg E) (amount E) E) rfl (by rw [movedE_sum hij hi hj]; exact h0)
      rw [movedE_length] at g1 g2 g3
      refine ⟨fun k => if lab k = lab (fneg E) then lab (fpos E) else lab k, fun k hk => ?_, fun q => ?_, ?_⟩
      · show (if _ then _ else _) < _
        split
        · exact g1 _ hi
        · exact g1 _ hk
      · rw [← ps_moved (c := amount E) _ hij hi hj (by
          show q (if lab (fpos E) = lab (fneg E) then lab (fpos E) else lab (fpos E)) = q (if lab (fneg E) = lab (fneg E) then lab (fpos E) else lab (fneg E))
          rw [if_pos rfl]; simp)]
        exact g2 fun v => q (if v = lab (fneg E) then lab (fpos E) else v)
      · have := labs_less (lab := lab) (lab' := fun k => if lab k = lab (fneg E) then lab (fpos E) else lab k) (n := E.length) (x := lab (fneg E)) (fun v hv hu => by
          obtain ⟨k, hk, e⟩ := used_iff.1 hu
          refine used_iff.2 ⟨k, hk, ?_⟩
          show (if lab k = lab (fneg E) then lab (fpos E) else lab k) = v
          rw [if_neg (by omega)]; exact e) E.length
        have h3 : (moves E).length = (moves (movedE (fpos E) (fneg E) (amount E) E)).length + 1 := by rw [hm]; rfl
        rw [hN] at h3
        have : (if lab (fneg E) < E.length then (1 : Int) else 0) ≤ 1 := by split <;> omega
        omega
  termination_by N => N

/-! # the table grows with the set -/
def subS (t s : Nat) : Prop := ∀ k, k < 8 → t.testBit k = true → s.testBit k = true
theorem pm_ge {T : Nat → Int} {s k : Nat} (hb : s.testBit k = true) : ∀ n, k < n → T (s - 2 ^ k) ≤ pm T s n
  | 0, h => by omega
  | n + 1, h => by
    unfold pm
    by_cases e : k = n
    · subst e; rw [if_pos hb]; omega
    · have := pm_ge (T := T) hb n (by omega)
      split <;> omega
theorem pm_le {T : Nat → Int} {s : Nat} {b : Int} (hb : 0 ≤ b) : ∀ n, (∀ k, k < n → s.testBit k = true → T (s - 2 ^ k) ≤ b) → pm T s n ≤ b
  | 0, _ => hb
  | n + 1, h => by
    have := pm_le (T := T) (s := s) hb n (fun k hk => h k (by omega))
    unfold pm
    split
    · rename_i e; have := h n (by omega) e; omega
    · exact this
theorem subS_less {t s k : Nat} (hs : s < 256) (hk : k < 8) (hb : s.testBit k = true) (hn : t.testBit k = false) (h : subS t s) : subS t (s - 2 ^ k) := by
  intro j hj ht
  have := d_bit ⟨s, hs⟩ ⟨k, hk⟩ ⟨j, hj⟩ hb
  simp only at this
  rw [this, h j hj ht]
  have : j ≠ k := fun e => by subst e; rw [ht] at hn; exact absurd hn (by simp)
  simp [this]
theorem bit_lt {s k n : Nat} (hs : s < 2 ^ n) (hb : s.testBit k = true) : k < n := by
  have h := bit_le hb
  exact (Nat.pow_lt_pow_iff_right (by omega : 1 < 2)).1 (Nat.lt_of_le_of_lt h hs)
theorem pow256 {s n : Nat} (h8 : n ≤ 8) (hs : s < 2 ^ n) : s < 256 := Nat.lt_of_lt_of_le hs (Nat.le_trans (Nat.pow_le_pow_right (by omega) h8) (by omega))
theorem pt_less (D : List Int) {n s k : Nat} (hs : s < 2 ^ n) (hb : s.testBit k = true) : pt D n (s - 2 ^ k) + (if sm D s n = 0 then 1 else 0) ≤ pt D n s := by
  have h1 := bit_le hb
  have h2 := Nat.two_pow_pos k
  have := pm_ge (T := pt D n) hb n (bit_lt hs hb)
  rw [pt_succ D n s (by omega)]
  omega
theorem pt_mono (D : List Int) {n : Nat} (h8 : n ≤ 8) : ∀ (s t : Nat), s < 2 ^ n → t < 2 ^ n → subS t s → pt D n t ≤ pt D n s := by
  intro s
  induction s using Nat.strongRecOn with
  | _ s ih =>
    intro t hs ht h
    have s256 := pow256 h8 hs
    have t256 := pow256 h8 ht
    by_cases hk : ∃ k, k < 8 ∧ s.testBit k = true ∧ t.testBit k = false
    · obtain ⟨k, hk, hb, hn⟩ := hk
      have h1 := bit_le hb
      have h2 := Nat.two_pow_pos k
      have := ih (s - 2 ^ k) (by omega) t (by omega) ht (subS_less s256 hk hb hn h)
      have := pt_less D hs hb
      split at this <;> omega
    · have : t = s := by
        refine Nat.eq_of_testBit_eq fun k => ?_
        by_cases hk8 : k < 8
        · cases ht1 : t.testBit k
          · cases hs1 : s.testBit k
            · rfl
            · exact absurd ⟨k, hk8, hs1, ht1⟩ hk
          · exact (h k hk8 ht1).symm
        · have e8 : (2 : Nat) ^ 8 ≤ 2 ^ k := Nat.pow_le_pow_right (by omega) (by omega)
          rw [Nat.testBit_lt_two_pow (show t < 2 ^ k by omega), Nat.testBit_lt_two_pow (show s < 2 ^ k by omega)]
      subst this
      exact Int.le_refl _
/-- Labels, one after the other. -/
theorem pt_labs {E : List Int} {n : Nat} (h8 : n ≤ 8) {lab : Nat → Nat} (h : ∀ q : Nat → Bool, ps E (fun k => q (lab k)) n = 0) : ∀ m, labs lab n m ≤ pt E n (mask (fun k => decide (lab k < m)) n)
  | 0 => by
    have := (pt_bd E n (mask (fun k => decide (lab k < 0)) n)).1
    exact this
  | m + 1 => by
    have ih := pt_labs h8 h m
    have l1 := mask_lt (fun k => decide (lab k < m)) n
    have l2 := mask_lt (fun k => decide (lab k < m + 1)) n
    have hsub : subS (mask (fun k => decide (lab k < m)) n) (mask (fun k => decide (lab k < m + 1)) n) := fun k _ hb => by
      rw [mask_bit] at hb ⊢
      simp at hb ⊢
      exact ⟨hb.1, by omega⟩
    unfold labs
    by_cases hu : used lab n m = true
    · rw [if_pos hu]
      obtain ⟨k, hk, e⟩ := used_iff.1 hu
      have hb : (mask (fun k => decide (lab k < m + 1)) n).testBit k = true := by rw [mask_bit]; simp [hk, e]
      have hn : (mask (fun k => decide (lab k < m)) n).testBit k = false := by rw [mask_bit]; simp [e]
      have h1 := bit_le hb
      have h2 := Nat.two_pow_pos k
      have := pt_mono E h8 _ _ (show mask (fun k => decide (lab k < m + 1)) n - 2 ^ k < 2 ^ n by omega) l1 (subS_less (pow256 h8 l2) (by omega) hb hn hsub)
      have hl := pt_less E l2 hb
      have hz : sm E (mask (fun k => decide (lab k < m + 1)) n) n = 0 := by rw [sm_mask]; exact h fun v => decide (v < m + 1)
      rw [if_pos hz] at hl
      omega
    · rw [if_neg hu]
      have := pt_mono E h8 _ _ l2 l1 hsub
      omega
theorem mask_all {p : Nat → Bool} : ∀ n, (∀ k, k < n → p k = true) → mask p n = 2 ^ n - 1
  | 0, _ => rfl
  | n + 1, h => by
    have := mask_all n (fun k hk => h k (by omega))
    have h2 := Nat.two_pow_pos n
    unfold mask
    rw [if_pos (h n (by omega)), this, Nat.pow_succ]; omega
theorem ones_get : ∀ k : Fin 8, (List.replicate 8 (1 : Int)).getD k.val 0 = 1 := by decide
/-- How many are in a set. -/
def cntS (s : Nat) (n : Nat) : Int := sm (List.replicate 8 1) s n
theorem cntS_nonneg (s : Nat) : ∀ n, n ≤ 8 → 0 ≤ cntS s n ∧ cntS s n ≤ n
  | 0, _ => by unfold cntS; simp [sm]
  | n + 1, h => by
    have ih := cntS_nonneg s n (by omega)
    unfold cntS at ih ⊢
    unfold sm
    have := ones_get ⟨n, by omega⟩
    simp only at this
    rw [this]
    split <;> omega
theorem pt_cnt (D : List Int) {n : Nat} (h8 : n ≤ 8) : ∀ s, s < 2 ^ n → pt D n s ≤ cntS s n := by
  intro s
  induction s using Nat.strongRecOn with
  | _ s ih =>
    intro hs
    have s256 := pow256 h8 hs
    by_cases h0 : s = 0
    · subst h0; rw [pt_zero]; exact (cntS_nonneg 0 n h8).1
    · have hex : ∃ k, s.testBit k = true := by
        apply Classical.byContradiction
        intro hno
        exact h0 (Nat.eq_of_testBit_eq fun k => by
          rw [Nat.zero_testBit]
          cases e : s.testBit k
          · rfl
          · exact absurd ⟨k, e⟩ hno)
      have hstep : ∀ k, k < n → s.testBit k = true → pt D n (s - 2 ^ k) ≤ cntS s n - 1 := fun k hk hb => by
        have h1 := bit_le hb
        have h2 := Nat.two_pow_pos k
        have := ih (s - 2 ^ k) (by omega) (by omega)
        have e := sm_less (List.replicate 8 1) s k s256 (by omega) hb n h8
        rw [if_pos hk] at e
        have := ones_get ⟨k, by omega⟩
        simp only at this
        unfold cntS at *
        omega
      obtain ⟨k, hb⟩ := hex
      have := hstep k (bit_lt hs hb) hb
      have h0' := (pt_bd D n (s - 2 ^ k)).1
      have := pm_le (T := pt D n) (s := s) (b := cntS s n - 1) (by omega) n hstep
      rw [pt_succ D n s (by omega)]
      split <;> omega
/-- THE FEWEST MOVES ARE NO MORE THAN THESE. -/
theorem few_moves {E : List Int} (h8 : E.length ≤ 8) (h0 : E.sum = 0) : 0 ≤ (E.length : Int) - pt E E.length (2 ^ E.length - 1) ∧ (E.length : Int) - pt E E.length (2 ^ E.length - 1) ≤ (moves E).length := by
  obtain ⟨lab, g1, g2, g3⟩ := groups _ E rfl h0
  have h1 := pt_labs h8 g2 E.length
  rw [mask_all E.length (fun k hk => by simpa using g1 k hk)] at h1
  have h2 := Nat.two_pow_pos E.length
  have h3 := pt_cnt E h8 (2 ^ E.length - 1) (by omega)
  have h4 := (cntS_nonneg (2 ^ E.length - 1) E.length h8).2
  omega
end Go.Proofs.Ytediapekgbekeaa
