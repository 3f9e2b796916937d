
/-
  PLAIN FACTS FOR CHAPTER 7: every ring comes again, soon. No program is named here.
-/
import Derived.Test.YtkhcabgpbmhimaaRiP
import Derived.Test.YtkhcabgpbmhimaaCycP
namespace Go.Proofs.Ytkhcabgpbmhimaa

theorem rit_told (zs : List Int) : Told (rit zs) := fun i j e => by
  show rstep (rit zs i) = rstep (rit zs j)
  rw [e]

/-- A ring told on and on. -/
def onR (zs : List Int) (j : Nat) : Int := zs.getD (j % zs.length) 0
theorem dif_zero_M {a b M : Int} (ha : a = 0 ∨ a = M) (hb : b = 0 ∨ b = M) (hM : 0 ≤ M) : dif a b = 0 ∨ dif a b = M := by
  unfold dif; rcases ha with rfl | rfl <;> rcases hb with rfl | rfl <;> omega
theorem onR_step (zs : List Int) (h0 : 0 < zs.length) (j : Nat) : onR (rstep zs) j = dif (onR zs j) (onR zs (j + 1)) := by
  unfold onR
  have hlt : j % zs.length < zs.length := Nat.mod_lt _ h0
  rw [rstep_length, rget (by rw [rstep_length]; exact hlt), rstep_get zs _ hlt]
  unfold rstep1 nextOf
  rw [show (j % zs.length + 1) % zs.length = (j + 1) % zs.length by rw [Nat.add_mod, Nat.mod_mod, ← Nat.add_mod]]
theorem onR_within {zs : List Int} {M : Int} (h : within 0 M zs = true) (h0 : 0 < zs.length) (j : Nat) : 0 ≤ onR zs j ∧ onR zs j ≤ M := by
  have hlt : j % zs.length < zs.length := Nat.mod_lt _ h0
  unfold onR
  rw [rget hlt]
  exact within_get h _ hlt
/-- Where the greatest number stays there are zeros and greatest numbers alone. -/
theorem stays {M : Int} (hM : 0 < M) (k : Nat) : ∀ (zs : List Int) (i : Nat), 0 < zs.length → within 0 M zs = true → onR (rit zs k) i = M →
    (∀ d, d ≤ k → onR zs (i + d) = 0 ∨ onR zs (i + d) = M) ∧ ∃ d, d ≤ k ∧ onR zs (i + d) = M := by
  induction k with
  | zero =>
    intro zs i h0 hw he
    refine ⟨fun d hd => .inr ?_, 0, Nat.le_refl _, he⟩
    rw [show d = 0 by omega]; exact he
  | succ k ih =>
    intro zs i h0 hw he
    have he' : onR (rit (rstep zs) k) i = M := by
      rw [show k + 1 = 1 + k by omega, rit_add] at he
      exact he
    obtain ⟨h1, d0, hd0, h2⟩ := ih (rstep zs) i (by rw [rstep_length]; exact h0) (rstep_within hw) he'
    have hs : ∀ d, onR (rstep zs) (i + d) = dif (onR zs (i + d)) (onR zs (i + d + 1)) := fun d => onR_step zs h0 (i + d)
    have hb : ∀ j, 0 ≤ onR zs j ∧ onR zs j ≤ M := fun j => onR_within hw h0 j
    -- the two that differ by M
    have h3 : (onR zs (i + d0) = 0 ∧ onR zs (i + d0 + 1) = M) ∨ (onR zs (i + d0) = M ∧ onR zs (i + d0 + 1) = 0) := by
      have a := hb (i + d0)
      have b := hb (i + d0 + 1)
      rw [hs] at h2
      unfold dif at h2
      omega
    have good_next : ∀ d, d ≤ k → (onR zs (i + d) = 0 ∨ onR zs (i + d) = M) → (onR zs (i + d + 1) = 0 ∨ onR zs (i + d + 1) = M) := by
      intro d hd hg
      have a := hb (i + d)
      have b := hb (i + d + 1)
      have c := h1 d hd
      rw [hs] at c
      unfold dif at c
      omega
    have good_last : ∀ d, d ≤ k → (onR zs (i + d + 1) = 0 ∨ onR zs (i + d + 1) = M) → (onR zs (i + d) = 0 ∨ onR zs (i + d) = M) := by
      intro d hd hg
      have a := hb (i + d)
      have b := hb (i + d + 1)
      have c := h1 d hd
      rw [hs] at c
      unfold dif at c
      omega
    have hup : ∀ e, d0 + e ≤ k + 1 → onR zs (i + (d0 + e)) = 0 ∨ onR zs (i + (d0 + e)) = M := by
      intro e
      induction e with
      | zero => intro _; rw [Nat.add_zero]; omega
      | succ e ihe => intro hle; exact good_next (d0 + e) (by omega) (ihe (by omega))
    have hdn : ∀ e, e ≤ d0 → onR zs (i + (d0 - e)) = 0 ∨ onR zs (i + (d0 - e)) = M := by
      intro e
      induction e with
      | zero => intro _; rw [Nat.sub_zero]; omega
      | succ e ihe =>
        intro hle
        refine good_last (d0 - (e + 1)) (by omega) ?_
        have := ihe (by omega)
        rw [show i + (d0 - e) = i + (d0 - (e + 1)) + 1 by omega] at this
        exact this
    refine ⟨fun d hd => ?_, ?_⟩
    · rcases Nat.lt_or_ge d d0 with h4 | h4
      · have := hdn (d0 - d) (by omega)
        rw [show d0 - (d0 - d) = d by omega] at this
        exact this
      · have := hup (d - d0) (by omega)
        rw [show d0 + (d - d0) = d by omega] at this
        exact this
    · rcases h3 with h3 | h3
      · exact ⟨d0 + 1, by omega, h3.2⟩
      · exact ⟨d0, by omega, h3.1⟩

/-- Zeros and greatest numbers alone. -/
def two (M : Int) (zs : List Int) : Bool := zs.all fun z => decide (z = 0 ∨ z = M)
theorem two_get {M : Int} {zs : List Int} (h : two M zs = true) (k : Nat) (hk : k < zs.length) : zs[k] = 0 ∨ zs[k] = M := by
  unfold two at h
  have := List.all_eq_true.1 h zs[k] (List.getElem_mem hk)
  simpa using this
theorem two_of {M : Int} {zs : List Int} (h : ∀ (k : Nat) (_ : k < zs.length), zs[k] = 0 ∨ zs[k] = M) : two M zs = true := by
  unfold two
  rw [List.all_eq_true]
  intro x hx
  obtain ⟨k, hk, rfl⟩ := List.getElem_of_mem hx
  simpa using h k hk
theorem two_step {M : Int} {zs : List Int} (hM : 0 ≤ M) (h : two M zs = true) : two M (rstep zs) = true := two_of fun k hk => by
  rw [rstep_length] at hk
  rw [rstep_get zs k hk, rstep1_eq zs k hk]
  exact dif_zero_M (two_get h k hk) (two_get h _ (nextOf_lt hk)) hM
theorem two_it {M : Int} {zs : List Int} (hM : 0 ≤ M) (h : two M zs = true) (t : Nat) : two M (rit zs t) = true := by
  induction t with
  | zero => exact h
  | succ t ih => exact two_step hM ih
/-- A code of such a ring. -/
def code (M : Int) : List Int → Nat
  | [] => 0
  | z :: zs => 2 * code M zs + if z = M then 1 else 0
theorem code_lt (M : Int) (zs : List Int) : code M zs < 2 ^ zs.length := by
  induction zs with
  | nil => simp [code]
  | cons z zs ih =>
    rw [code, List.length_cons, Nat.pow_succ]
    split <;> omega
theorem code_inj {M : Int} (hM : 0 < M) : ∀ {xs ys : List Int}, xs.length = ys.length → two M xs = true → two M ys = true → code M xs = code M ys → xs = ys
  | [], [], _, _, _, _ => rfl
  | [], _ :: _, h, _, _, _ => by simp at h
  | _ :: _, [], h, _, _, _ => by simp at h
  | x :: xs, y :: ys, h, h1, h2, e => by
    have hx := two_get h1 0 (by simp)
    have hy := two_get h2 0 (by simp)
    have h1' : two M xs = true := by unfold two at h1 ⊢; simp at h1 ⊢; exact h1.2
    have h2' : two M ys = true := by unfold two at h2 ⊢; simp at h2 ⊢; exact h2.2
    rw [code, code] at e
    simp only [List.getElem_cons_zero] at hx hy
    have hxy : x = y ∧ code M xs = code M ys := by
      split at e <;> split at e <;> omega
    rw [hxy.1, code_inj hM (by simpa using h) h1' h2' hxy.2]

theorem again_two {M : Int} (hM : 0 < M) {zs : List Int} (h10 : zs.length ≤ 10) (h : two M zs = true) : ∃ i j, i < j ∧ j ≤ 1024 ∧ rit zs i = rit zs j := by
  obtain ⟨i, j, hij, hj, e⟩ := pigeons 1024 (fun t => code M (rit zs t)) (fun t _ => by
    have h1 := code_lt M (rit zs t)
    have h2 : 2 ^ (rit zs t).length ≤ 2 ^ 10 := Nat.pow_le_pow_right (by omega) (by rw [rit_length]; exact h10)
    show code M (rit zs t) < 1024
    omega)
  exact ⟨i, j, hij, hj, code_inj hM (by rw [rit_length, rit_length]) (two_it (by omega) h i) (two_it (by omega) h j) e⟩
theorem two_of_on {M : Int} {zs : List Int} (i : Nat) (h : ∀ d, d ≤ zs.length - 1 → onR zs (i + d) = 0 ∨ onR zs (i + d) = M) : two M zs = true := two_of fun k hk => by
  -- k is (i + d) % n for some d < n
  have h0 : 0 < zs.length := by omega
  have h1 := h ((k + (zs.length - i % zs.length)) % zs.length) (by have := Nat.mod_lt (k + (zs.length - i % zs.length)) h0; omega)
  have h2 : onR zs (i + (k + (zs.length - i % zs.length)) % zs.length) = zs[k] := by
    unfold onR
    have hi := Nat.mod_lt i h0
    rw [show (i + (k + (zs.length - i % zs.length)) % zs.length) % zs.length = k by
      rw [Nat.add_mod, Nat.mod_mod, ← Nat.add_mod]
      have e1 := Nat.div_add_mod i zs.length
      rw [show i + (k + (zs.length - i % zs.length)) = k + zs.length * (i / zs.length + 1) by rw [Nat.mul_add]; omega, Nat.add_mul_mod_self_left, Nat.mod_eq_of_lt hk], rget hk]
  rw [h2] at h1
  exact h1
theorem again_bound (M : Nat) : ∀ zs : List Int, 2 ≤ zs.length → zs.length ≤ 10 → within 0 (M : Int) zs = true → ∃ i j, i < j ∧ j ≤ 1024 + 9 * M ∧ rit zs i = rit zs j := by
  induction M with
  | zero =>
    intro zs h2 h10 hw
    obtain ⟨i, j, h1, h3, h4⟩ := again_two (M := 1) (by omega) h10 (two_of fun k hk => by have := within_get hw k hk; omega)
    exact ⟨i, j, h1, by omega, h4⟩
  | succ M ih =>
    intro zs h2 h10 hw
    by_cases ht : two ((M + 1 : Nat) : Int) zs = true
    · obtain ⟨i, j, h1, h3, h4⟩ := again_two (by omega) h10 ht
      exact ⟨i, j, h1, by omega, h4⟩
    · have hw' : within 0 (M : Int) (rit zs (zs.length - 1)) = true := within_of fun k hk => by
        have h1 := within_get (rit_within hw (zs.length - 1)) k hk
        by_cases e : (rit zs (zs.length - 1))[k] = ((M + 1 : Nat) : Int)
        · exfalso
          apply ht
          have hk' : k < zs.length := by rw [rit_length] at hk; exact hk
          refine two_of_on k (stays (by omega) (zs.length - 1) zs k (by omega) hw ?_).1
          unfold onR
          rw [rit_length, Nat.mod_eq_of_lt hk', rget hk]
          exact e
        · omega
      obtain ⟨i, j, h1, h3, h4⟩ := ih _ (by rw [rit_length]; exact h2) (by rw [rit_length]; exact h10) hw'
      refine ⟨zs.length - 1 + i, zs.length - 1 + j, by omega, by omega, ?_⟩
      rw [rit_add, rit_add, h4]

/-- The lead and the period of a ring: the least ones. -/
def cycOk (zs : List Int) (x : Nat × Nat) : Bool := decide (1 ≤ x.2) && (rit zs (x.1 + x.2) == rit zs x.1)
theorem ring_cyc {zs : List Int} (h : rgood zs = true) : ∃ m p, m + p ≤ 10024 ∧ Cyc (rit zs) m p := by
  obtain ⟨h2, h10, hw⟩ := rgood_of h
  obtain ⟨i, j, hij, hj, e⟩ := again_bound 1000 zs h2 h10 hw
  obtain ⟨m, p, hm, hp, hc⟩ := Cyc.there (rit_told zs) (i := i) (q := j - i) (by omega) (by rw [show i + (j - i) = j by omega]; exact e.symm)
  exact ⟨m, p, by omega, hc⟩
end Go.Proofs.Ytkhcabgpbmhimaa
