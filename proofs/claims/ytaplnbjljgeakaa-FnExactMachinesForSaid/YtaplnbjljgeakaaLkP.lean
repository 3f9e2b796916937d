
/-
  BEST PLANS, PLAINLY: all plans in order, seen one after the other. No program is named here.
-/
import Derived.Test.YtaplnbjljgeakaaLdG
import Derived.Test.YtaplnbjljgeakaaLdC
namespace Go.Proofs.Ytaplnbjljgeakaa

/-- The best plans so far: their end, the first one, how many. -/
structure Bst where
  e : Int
  p : List Int
  c : Nat
def upd (S : Bst) (p : List Int) (e : Int) : Bst := if S.c = 0 ∨ e < S.e then ⟨e, p, 1⟩ else if e = S.e then ⟨S.e, S.p, S.c + 1⟩ else S
/-- All plans that go on with p, d jobs being left. -/
def lookF (zs : List Int) (M : Nat) : Nat → List Int → List Int → Bst → Bst
  | 0, p, l, S => upd S p (up 0 l)
  | d + 1, p, l, S => (List.range M).foldl (fun S (m : Nat) => lookF zs M d (p ++ [(m : Int)]) (addTo l m (zs.getD (zs.length - (d + 1)) 0)) S) S
/-- The first j machines of the next job. -/
def lookP (zs : List Int) (M d : Nat) (p l : List Int) (S : Bst) (j : Nat) : Bst := (List.range j).foldl (fun S (m : Nat) => lookF zs M d (p ++ [(m : Int)]) (addTo l m (zs.getD (zs.length - (d + 1)) 0)) S) S
theorem lookP_zero (zs : List Int) (M d : Nat) (p l : List Int) (S : Bst) : lookP zs M d p l S 0 = S := rfl
theorem lookP_succ (zs : List Int) (M d : Nat) (p l : List Int) (S : Bst) (j : Nat) : lookP zs M d p l S (j + 1) = lookF zs M d (p ++ [(j : Int)]) (addTo l j (zs.getD (zs.length - (d + 1)) 0)) (lookP zs M d p l S j) := by
  unfold lookP; rw [List.range_succ, List.foldl_append]; rfl
theorem lookP_all (zs : List Int) (M d : Nat) (p l : List Int) (S : Bst) : lookF zs M (d + 1) p l S = lookP zs M d p l S M := rfl

theorem up_ge (l : List Int) (b : Int) : b ≤ up b l := by
  induction l generalizing b with
  | nil => exact Int.le_refl _
  | cons x xs ih => have := ih (max b x); show b ≤ up (max b x) xs; omega
theorem up_mem {l : List Int} (b : Int) {x : Int} (h : x ∈ l) : x ≤ up b l := by
  induction l generalizing b with
  | nil => cases h
  | cons y ys ih =>
    show x ≤ up (max b y) ys
    rcases List.mem_cons.1 h with rfl | h
    · have := up_ge ys (max b x); omega
    · exact ih _ h
theorem up_le {l : List Int} {b t : Int} (hb : b ≤ t) (h : ∀ x ∈ l, x ≤ t) : up b l ≤ t := by
  induction l generalizing b with
  | nil => exact hb
  | cons y ys ih =>
    show up (max b y) ys ≤ t
    have := h y (by simp)
    exact ih (by omega) fun x hx => h x (by simp [hx])
theorem mem_addTo {l : List Int} {m : Nat} {z x : Int} (h : x ∈ addTo l m z) : x ∈ l ∨ x = l.getD m 0 + z := by
  unfold addTo at h
  rcases List.mem_or_eq_of_mem_set h with h | h
  · exact .inl h
  · exact .inr h
theorem up_addTo {l : List Int} {m : Nat} {z : Int} (hm : m < l.length) (hz : 0 ≤ z) : up 0 l ≤ up 0 (addTo l m z) ∧ l.getD m 0 + z ≤ up 0 (addTo l m z) ∧ ∀ t, up 0 l ≤ t → l.getD m 0 + z ≤ t → up 0 (addTo l m z) ≤ t := by
  have h2 : l.getD m 0 + z ≤ up 0 (addTo l m z) := by
    refine up_mem 0 ?_
    unfold addTo
    exact List.mem_set hm _
  refine ⟨?_, h2, fun t h0 h1 => ?_⟩
  · refine up_le (up_ge _ _) fun x hx => ?_
    obtain ⟨k, hk, rfl⟩ := List.getElem_of_mem hx
    by_cases e : k = m
    · subst e; rw [getD_at hk] at h2; omega
    · refine up_mem 0 ?_
      have : (addTo l m z)[k]'(by rw [addTo_length]; exact hk) = l[k] := by
        unfold addTo; rw [List.getElem_set_ne (by omega)]
      rw [← this]; exact List.getElem_mem _
  · refine up_le (Int.le_trans (up_ge _ _) h0) fun x hx => ?_
    rcases mem_addTo hx with hx | rfl
    · exact Int.le_trans (up_mem 0 hx) h0
    · exact h1
theorem vz {zs : List Int} (h : within 0 1000 zs = true) (k : Nat) : 0 ≤ zs.getD k 0 ∧ zs.getD k 0 ≤ 1000 := by
  by_cases hk : k < zs.length
  · rw [getD_at hk]; exact within_get h k hk
  · rw [List.getD, List.getElem?_eq_none (by omega)]; simp

/-- What ends later changes nothing. -/
theorem look_prune {zs : List Int} (hz : within 0 1000 zs = true) (M : Nat) : ∀ (d : Nat) (p l : List Int) (S : Bst), l.length = M → 0 < S.c → S.e < up 0 l → lookF zs M d p l S = S
  | 0, p, l, S, _, hc, h => by
    show upd S p (up 0 l) = S
    unfold upd
    rw [if_neg (by omega), if_neg (by omega)]
  | d + 1, p, l, S, hl, hc, h => by
    have key : ∀ j, j ≤ M → lookP zs M d p l S j = S := by
      intro j
      induction j with
      | zero => intro _; rfl
      | succ j ih =>
        intro hj
        rw [lookP_succ, ih (by omega)]
        have hu := up_addTo (l := l) (m := j) (by omega) (vz hz (zs.length - (d + 1))).1
        exact look_prune hz M d _ _ S (by rw [addTo_length]; exact hl) hc (by omega)
    rw [lookP_all]; exact key M (Nat.le_refl _)
/-- The end is never less than what all plans here have at least, nor are plans forgotten. -/
theorem look_low {zs : List Int} (hz : within 0 1000 zs = true) (M : Nat) (b : Int) : ∀ (d : Nat) (p l : List Int) (S : Bst), l.length = M → b ≤ up 0 l → (S.c = 0 ∨ b ≤ S.e) → ((lookF zs M d p l S).c = 0 ∨ b ≤ (lookF zs M d p l S).e) ∧ (S.c ≤ (lookF zs M d p l S).c ∨ 0 < (lookF zs M d p l S).c)
  | 0, p, l, S, _, hb, hs => by
    show ((upd S p (up 0 l)).c = 0 ∨ b ≤ (upd S p (up 0 l)).e) ∧ _
    show _ ∧ (S.c ≤ (upd S p (up 0 l)).c ∨ 0 < (upd S p (up 0 l)).c)
    unfold upd
    split
    · exact ⟨.inr hb, .inr (by simp)⟩
    · split
      · exact ⟨.inr (by simp; omega), .inr (by simp)⟩
      · exact ⟨hs, .inl (Nat.le_refl _)⟩
  | d + 1, p, l, S, hl, hb, hs => by
    have key : ∀ j, j ≤ M → ((lookP zs M d p l S j).c = 0 ∨ b ≤ (lookP zs M d p l S j).e) ∧ (S.c ≤ (lookP zs M d p l S j).c ∨ 0 < (lookP zs M d p l S j).c) := by
      intro j
      induction j with
      | zero => intro _; exact ⟨hs, .inl (Nat.le_refl _)⟩
      | succ j ih =>
        intro hj
        obtain ⟨i1, i2⟩ := ih (by omega)
        rw [lookP_succ]
        have hu := up_addTo (l := l) (m := j) (by omega) (vz hz (zs.length - (d + 1))).1
        obtain ⟨k1, k2⟩ := look_low hz M b d (p ++ [(j : Int)]) (addTo l j (zs.getD (zs.length - (d + 1)) 0)) (lookP zs M d p l S j) (by rw [addTo_length]; exact hl) (by omega) i1
        exact ⟨k1, by omega⟩
    rw [lookP_all]; exact key M (Nat.le_refl _)
/-- How many there are at most. -/
theorem look_few (zs : List Int) {M : Nat} (hM : M ≤ 4) (h1 : 1 ≤ M) : ∀ (d : Nat) (p l : List Int) (S : Bst), (lookF zs M d p l S).c ≤ S.c + M ^ d
  | 0, p, l, S => by
    show (upd S p (up 0 l)).c ≤ _
    unfold upd
    split
    · simp
    · split <;> simp
  | d + 1, p, l, S => by
    have key : ∀ j, (lookP zs M d p l S j).c ≤ S.c + j * M ^ d := by
      intro j
      induction j with
      | zero => simp [lookP_zero]
      | succ j ih =>
        rw [lookP_succ, Nat.add_mul, Nat.one_mul]
        have := look_few zs hM h1 d (p ++ [(j : Int)]) (addTo l j (zs.getD (zs.length - (d + 1)) 0)) (lookP zs M d p l S j)
        omega
    rw [lookP_all, Nat.pow_succ, Nat.mul_comm]; exact key M
/-- Where nothing was seen, the end does not matter. -/
theorem look_same (zs : List Int) {M : Nat} (h1 : 1 ≤ M) : ∀ (d : Nat) (p l : List Int) (S T : Bst), S.c = 0 → T.c = 0 → lookF zs M d p l S = lookF zs M d p l T
  | 0, p, l, S, T, hs, ht => by
    show upd S p _ = upd T p _
    unfold upd
    rw [if_pos (.inl hs), if_pos (.inl ht)]
  | d + 1, p, l, S, T, hs, ht => by
    have key : ∀ j, 1 ≤ j → lookP zs M d p l S j = lookP zs M d p l T j := by
      intro j hj
      induction j with
      | zero => omega
      | succ j ih =>
        rw [lookP_succ, lookP_succ]
        rcases Nat.eq_zero_or_pos j with rfl | hp
        · rw [lookP_zero, lookP_zero]; exact look_same zs h1 d _ _ S T hs ht
        · rw [ih hp]
    rw [lookP_all, lookP_all]; exact key M h1
theorem tot_addTo {l : List Int} {m : Nat} {z : Int} (hm : m < l.length) : tot (addTo l m z) = tot l + z := by
  unfold addTo
  rw [getD_at hm]
  induction l generalizing m with
  | nil => simp at hm
  | cons x xs ih =>
    cases m with
    | zero => simp [tot]; omega
    | succ m =>
      simp only [List.set_cons_succ, List.getElem_cons_succ, tot]
      rw [ih (by simpa using hm)]; omega
theorem get_le_tot {l : List Int} (h : ∀ x ∈ l, 0 ≤ x) {x : Int} (hx : x ∈ l) : x ≤ tot l ∧ 0 ≤ tot l := by
  induction l with
  | nil => cases hx
  | cons y ys ih =>
    have h0 : 0 ≤ tot ys := by
      clear ih hx
      have : ∀ l : List Int, (∀ x ∈ l, 0 ≤ x) → 0 ≤ tot l := by
        intro l hl
        induction l with
        | nil => exact Int.le_refl _
        | cons a ls ih2 => have h1 := hl a (by simp); have h2 := ih2 (fun x hx => hl x (by simp [hx])); simp only [tot]; omega
      exact this ys fun x hx => h x (by simp [hx])
    have hy := h y (by simp)
    rcases List.mem_cons.1 hx with rfl | hx
    · simp only [tot]; omega
    · have := ih (fun x hx => h x (by simp [hx])) hx
      simp only [tot]; omega
/-- A place in the search: d jobs are left, l are the loads by then. -/
structure At (zs : List Int) (M d : Nat) (p l : List Int) : Prop where
  hd : d ≤ zs.length
  pl : p.length = zs.length - d
  ll : l.length = M
  nn : ∀ x ∈ l, 0 ≤ x
  tl : tot l = tot (zs.take (zs.length - d))
theorem At.start (zs : List Int) (M : Nat) : At zs M zs.length [] (List.replicate M 0) := by
  refine ⟨Nat.le_refl _, by simp, by simp, fun x hx => ?_, ?_⟩
  · rw [List.eq_of_mem_replicate hx]; exact Int.le_refl _
  · rw [Nat.sub_self, List.take_zero]
    induction M with
    | zero => rfl
    | succ M ih =>
      rw [List.replicate_succ]
      show 0 + tot (List.replicate M 0) = 0
      rw [show tot (List.replicate M 0) = 0 from ih]; rfl
theorem At.next {zs : List Int} (hz : within 0 1000 zs = true) {M d : Nat} {p l : List Int} (h : At zs M (d + 1) p l) {j : Nat} (hj : j < M) :
    At zs M d (p ++ [(j : Int)]) (addTo l j (zs.getD (zs.length - (d + 1)) 0)) := by
  have h1 := h.hd
  have hv := vz hz (zs.length - (d + 1))
  have hjl : j < l.length := by rw [h.ll]; exact hj
  refine ⟨by omega, by rw [List.length_append, h.pl]; simp; omega, by rw [addTo_length]; exact h.ll, fun x hx => ?_, ?_⟩
  · rcases mem_addTo hx with hx | rfl
    · exact h.nn x hx
    · have := h.nn l[j] (List.getElem_mem hjl); rw [getD_at hjl]; omega
  · rw [tot_addTo hjl, h.tl, show zs.length - d = zs.length - (d + 1) + 1 by omega, tot_take_succ zs (zs.length - (d + 1)) (by omega), getD_at (by omega)]
theorem At.le_all {zs : List Int} (hz : within 0 1000 zs = true) {M d : Nat} {p l : List Int} (h : At zs M d p l) : up 0 l ≤ tot zs ∧ 0 ≤ tot zs := by
  have hsplit : tot zs = tot (zs.take (zs.length - d)) + tot (zs.drop (zs.length - d)) := by rw [← tot_append, List.take_append_drop]
  have hdrop : 0 ≤ tot (zs.drop (zs.length - d)) := by
    have : within 0 1000 (zs.drop (zs.length - d)) = true := by
      unfold within at *; rw [List.all_eq_true] at *; exact fun x hx => hz x (List.mem_of_mem_drop hx)
    have := (tot_bd _ _ _ this).1; omega
  have h0 : 0 ≤ tot l := by
    have := (tot_bd _ _ _ (within_take hz (zs.length - d))).1
    rw [h.tl]; omega
  have : up 0 l ≤ tot l := up_le h0 fun x hx => (get_le_tot h.nn hx).1
  rw [h.tl] at this h0
  omega

/-- What is told of the end: t as long as nothing was seen. -/
def Ok (t : Int) (S : Bst) : Prop := (S.c = 0 ∧ S.e = t) ∨ (0 < S.c ∧ 0 ≤ S.e ∧ S.e ≤ 9000)
theorem look_ok {zs : List Int} (hz : within 0 1000 zs = true) (ht : tot zs ≤ 9000) {t : Int} {M : Nat} : ∀ (d : Nat) (p l : List Int) (S : Bst), At zs M d p l → Ok t S → Ok t (lookF zs M d p l S)
  | 0, p, l, S, ha, hs => by
    have := ha.le_all hz
    have h0 := up_ge l 0
    show Ok t (upd S p (up 0 l))
    unfold upd
    split
    · exact .inr ⟨by simp, h0, by show up 0 l ≤ 9000; omega⟩
    · rename_i hn
      split
      · rcases hs with ⟨h1, _⟩ | ⟨h1, h2, h3⟩
        · exact absurd (.inl h1) hn
        · exact .inr ⟨by simp, h2, h3⟩
      · exact hs
  | d + 1, p, l, S, ha, hs => by
    have key : ∀ j, j ≤ M → Ok t (lookP zs M d p l S j) := by
      intro j
      induction j with
      | zero => intro _; exact hs
      | succ j ih =>
        intro hj
        rw [lookP_succ]
        exact look_ok hz ht d _ _ _ (ha.next hz (by omega)) (ih (by omega))
    rw [lookP_all]; exact key M (Nat.le_refl _)
theorem lookP_ok {zs : List Int} (hz : within 0 1000 zs = true) (ht : tot zs ≤ 9000) {t : Int} {M d : Nat} {p l : List Int} {S : Bst} (ha : At zs M (d + 1) p l) (hs : Ok t S) : ∀ j, j ≤ M → Ok t (lookP zs M d p l S j)
  | 0, _ => hs
  | j + 1, hj => by
    rw [lookP_succ]
    exact look_ok hz ht d _ _ _ (ha.next hz (by omega)) (lookP_ok hz ht ha hs j (by omega))
theorem lookP_few (zs : List Int) {M : Nat} (hM : M ≤ 4) (h1 : 1 ≤ M) (d : Nat) (p l : List Int) (S : Bst) : ∀ j, (lookP zs M d p l S j).c ≤ S.c + j * M ^ d
  | 0 => by simp [lookP_zero]
  | j + 1 => by
    rw [lookP_succ, Nat.add_mul, Nat.one_mul]
    have := look_few zs hM h1 d (p ++ [(j : Int)]) (addTo l j (zs.getD (zs.length - (d + 1)) 0)) (lookP zs M d p l S j)
    have := lookP_few zs hM h1 d p l S j
    omega
theorem upd_less {S : Bst} {p : List Int} {e : Int} (h : S.c = 0 ∨ e < S.e) : upd S p e = ⟨e, p, 1⟩ := by unfold upd; rw [if_pos h]
theorem upd_same {S : Bst} {p : List Int} {e : Int} (h : 0 < S.c) (he : e = S.e) : upd S p e = ⟨S.e, S.p, S.c + 1⟩ := by unfold upd; rw [if_neg (by omega), if_pos he]
end Go.Proofs.Ytaplnbjljgeakaa
