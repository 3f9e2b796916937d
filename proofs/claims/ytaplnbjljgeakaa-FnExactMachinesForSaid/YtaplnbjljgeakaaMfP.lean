
/-
  FEWEST MACHINES, PLAINLY: jobs into rooms; the program's search and the model's tell the same least number. No program is named here.
-/
import Derived.Test.YtaplnbjljgeakaaOrdP
namespace Go.Proofs.Ytaplnbjljgeakaa

/-- The jobs can be put into machines with so much time left. -/
def Can : List Int → List Int → Prop
  | [], _ => True
  | j :: J, l => ∃ i, i < l.length ∧ j ≤ l.getD i 0 ∧ Can J (l.set i (l.getD i 0 - j))
theorem set_perm (l : List Int) (i : Nat) (h : i < l.length) (y : Int) : (l.set i y).Perm (y :: (l.take i ++ l.drop (i + 1))) := by
  rw [List.set_eq_take_append_cons_drop, if_pos h]
  exact List.perm_middle
theorem self_perm (l : List Int) (i : Nat) (h : i < l.length) : l.Perm (l.getD i 0 :: (l.take i ++ l.drop (i + 1))) := by
  have e : l.getD i 0 = l[i] := by simp [List.getD, h]
  rw [e]
  conv => lhs; rw [← List.take_append_drop i l, List.drop_eq_getElem_cons h]
  exact List.perm_middle
theorem Can.perm : ∀ {J l l' : List Int}, l.Perm l' → Can J l → Can J l'
  | [], _, _, _, _ => trivial
  | j :: J, l, l', hp, ⟨i, hi, hj, hc⟩ => by
    have hx : l.getD i 0 ∈ l' := hp.mem_iff.1 (by rw [show l.getD i 0 = l[i] from by simp [List.getD, hi]]; exact List.getElem_mem hi)
    obtain ⟨i', hi', e⟩ := List.getElem_of_mem hx
    have e' : l'.getD i' 0 = l.getD i 0 := by rw [show l'.getD i' 0 = l'[i'] from by simp [List.getD, hi'], e]
    refine ⟨i', hi', by rw [e']; exact hj, Can.perm ?_ hc⟩
    rw [e']
    refine (set_perm l i hi _).trans (List.Perm.trans ?_ (set_perm l' i' hi' _).symm)
    refine List.Perm.cons _ ?_
    have h1 := (self_perm l i hi).symm.trans (hp.trans (self_perm l' i' hi'))
    rw [e'] at h1
    exact h1.cons_inv
theorem Can.swap {a b : Int} {J l : List Int} (ha : 0 ≤ a) (hb : 0 ≤ b) (h : Can (a :: b :: J) l) : Can (b :: a :: J) l := by
  obtain ⟨i, hi, h1, k, hk, h2, hc⟩ := h
  rw [List.length_set] at hk
  have g : ∀ (m n : Nat) (v : Int), n < l.length → (l.set m v).getD n 0 = if m = n then v else l.getD n 0 := fun m n v hn => by
    simp only [List.getD]
    by_cases e : m = n
    · subst e; rw [if_pos rfl, List.getElem?_set_self hn]; rfl
    · rw [if_neg e, List.getElem?_set_ne e]
  rw [g i k _ hk] at h2 hc
  by_cases e : i = k
  · subst e
    rw [if_pos rfl] at h2 hc
    refine ⟨i, hi, by omega, i, by rw [List.length_set]; exact hi, ?_, ?_⟩
    · rw [g i i _ hi, if_pos rfl]; omega
    · rw [g i i _ hi, if_pos rfl]
      rw [List.set_set] at hc ⊢
      rwa [show l.getD i 0 - b - a = l.getD i 0 - a - b by omega]
  · rw [if_neg e] at h2 hc
    refine ⟨k, hk, h2, i, by rw [List.length_set]; exact hi, ?_, ?_⟩
    · rw [g k i _ hi, if_neg (Ne.symm e)]; exact h1
    · rw [g k i _ hi, if_neg (Ne.symm e)]
      rw [List.set_comm _ _ (Ne.symm e)]
      exact hc
theorem Can.jobs {J J' : List Int} (hp : J.Perm J') : (∀ x ∈ J, 0 ≤ x) → ∀ {l}, Can J l → Can J' l := by
  induction hp with
  | nil => intro _ l h; exact h
  | cons x _ ih => intro hx l ⟨i, hi, h1, hc⟩; exact ⟨i, hi, h1, ih (fun y hy => hx y (List.mem_cons_of_mem _ hy)) hc⟩
  | swap x y _ => intro hx l h; exact Can.swap (hx _ (by simp)) (hx _ (by simp)) h
  | trans h1 _ ih1 ih2 => intro hx l h; exact ih2 (fun y hy => hx y (h1.mem_iff.2 hy)) (ih1 hx h)
/-- Machines with as much time left are alike: the first of them does. -/
theorem Can.first {j : Int} {J l : List Int} (h : Can (j :: J) l) : ∃ i, i < l.length ∧ j ≤ l.getD i 0 ∧ l.getD i 0 ∉ l.take i ∧ Can J (l.set i (l.getD i 0 - j)) := by
  obtain ⟨i, hi, h1, hc⟩ := h
  induction i using Nat.strongRecOn with
  | _ i ih =>
    by_cases hm : l.getD i 0 ∈ l.take i
    · obtain ⟨k, hk, e⟩ := List.getElem_of_mem hm
      rw [List.length_take] at hk
      rw [List.getElem_take] at e
      have hkl : k < l.length := by omega
      have e' : l.getD k 0 = l.getD i 0 := by rw [show l.getD k 0 = l[k] from by simp [List.getD, hkl], e]
      refine ih k (by omega) hkl (by rw [e']; exact h1) (Can.perm ?_ hc)
      rw [e']
      refine (set_perm l i hi _).trans (List.Perm.trans ?_ (set_perm l k hkl _).symm)
      refine List.Perm.cons _ ?_
      have h2 := (self_perm l i hi).symm.trans (self_perm l k hkl)
      rw [e'] at h2
      exact h2.cons_inv
    · exact ⟨i, hi, h1, hm, hc⟩
theorem Can.room (E : Int) : ∀ (J R : List Int) (r : Nat), (∀ x ∈ J, x ≤ E) → J.length ≤ r → Can J (R ++ List.replicate r E)
  | [], _, _, _, _ => trivial
  | j :: J, R, r, hE, hr => by
    obtain ⟨r, rfl⟩ : ∃ r', r = r' + 1 := ⟨r - 1, by simp at hr; omega⟩
    have hg : (R ++ List.replicate (r + 1) E).getD R.length 0 = E := by simp [List.getD, List.replicate_succ]
    refine ⟨R.length, by simp, by rw [hg]; exact hE j (by simp), ?_⟩
    rw [hg]
    have e : (R ++ List.replicate (r + 1) E).set R.length (E - j) = (R ++ [E - j]) ++ List.replicate r E := by
      rw [List.set_append_right _ _ (Nat.le_refl _), Nat.sub_self, List.replicate_succ, List.set_cons_zero, List.append_assoc]; rfl
    rw [e]
    exact Can.room E J _ r (fun x hx => hE x (by simp [hx])) (by simp at hr; omega)
/-- The program's search: the fewest so far, behind the jobs J with the loads l. -/
def giveF (E : Int) : List Int → List Int → Nat → Nat
  | [], l, S => min S l.length
  | j :: J, l, S => giveF E J (l ++ [j]) ((List.range l.length).foldl (fun S i => if E < l.getD i 0 + j then S else giveF E J (addTo l i j) S) S)
/-- .. behind the first k machines. -/
def mgvP (E : Int) (j : Int) (J l : List Int) (S : Nat) (k : Nat) : Nat := (List.range k).foldl (fun S i => if E < l.getD i 0 + j then S else giveF E J (addTo l i j) S) S
theorem mgvP_zero (E : Int) (j : Int) (J l : List Int) (S : Nat) : mgvP E j J l S 0 = S := rfl
theorem mgvP_succ (E : Int) (j : Int) (J l : List Int) (S k : Nat) : mgvP E j J l S (k + 1) = if E < l.getD k 0 + j then mgvP E j J l S k else giveF E J (addTo l k j) (mgvP E j J l S k) := by
  unfold mgvP; rw [List.range_succ, List.foldl_append]; rfl
theorem giveF_cons (E : Int) (j : Int) (J l : List Int) (S : Nat) : giveF E (j :: J) l S = giveF E J (l ++ [j]) (mgvP E j J l S l.length) := rfl
theorem giveF_nil (E : Int) (l : List Int) (S : Nat) : giveF E [] l S = min S l.length := rfl
/-- The time left in machines with the loads l, and k - l.length empty ones. -/
def roomsOf (E : Int) (l : List Int) (k : Nat) : List Int := l.map (E - ·) ++ List.replicate (k - l.length) E
theorem rooms_getD (E : Int) (l : List Int) (k i : Nat) (h : i < l.length) : (roomsOf E l k).getD i 0 = E - l.getD i 0 := by
  unfold roomsOf
  simp only [List.getD]
  rw [List.getElem?_append_left (by rw [List.length_map]; exact h), List.getElem?_map, List.getElem?_eq_getElem h]; rfl
theorem rooms_add (E : Int) (l : List Int) (k i : Nat) (j : Int) (h : i < l.length) : (roomsOf E l k).set i (E - l.getD i 0 - j) = roomsOf E (addTo l i j) k := by
  unfold roomsOf
  rw [List.set_append_left _ _ (by rw [List.length_map]; exact h), addTo_length]
  congr 1
  unfold addTo
  rw [List.map_set]
  congr 1
  omega
theorem giveF_le (E : Int) : ∀ (J l : List Int) (S k : Nat), (∀ x ∈ J, x ≤ E) → (giveF E J l S ≤ k ↔ S ≤ k ∨ (l.length ≤ k ∧ Can J (roomsOf E l k)))
  | [], l, S, k, _ => by
    rw [giveF_nil]
    simp only [Can, and_true]
    omega
  | j :: J, l, S, k, hE => by
    have hEJ : ∀ x ∈ J, x ≤ E := fun x hx => hE x (by simp [hx])
    have hj : j ≤ E := hE j (by simp)
    have key : ∀ n, n ≤ l.length → (mgvP E j J l S n ≤ k ↔ S ≤ k ∨ ∃ i, i < n ∧ l.getD i 0 + j ≤ E ∧ l.length ≤ k ∧ Can J (roomsOf E (addTo l i j) k)) := by
      intro n
      induction n with
      | zero => intro _; rw [mgvP_zero]; simp
      | succ n ih =>
        intro hn
        rw [mgvP_succ]
        split
        · rename_i hx
          rw [ih (by omega)]
          constructor
          · rintro (h | ⟨i, h1, h2⟩)
            · exact .inl h
            · exact .inr ⟨i, by omega, h2⟩
          · rintro (h | ⟨i, h1, h2, h3⟩)
            · exact .inl h
            · by_cases e : i = n
              · subst e; omega
              · exact .inr ⟨i, by omega, h2, h3⟩
        · rename_i hx
          rw [giveF_le E J _ _ k hEJ, ih (by omega), addTo_length]
          constructor
          · rintro ((h | ⟨i, h1, h2⟩) | h)
            · exact .inl h
            · exact .inr ⟨i, by omega, h2⟩
            · exact .inr ⟨n, by omega, by omega, h⟩
          · rintro (h | ⟨i, h1, h2, h3⟩)
            · exact .inl (.inl h)
            · by_cases e : i = n
              · subst e; exact .inr h3
              · exact .inl (.inr ⟨i, by omega, h2, h3⟩)
    rw [giveF_cons, giveF_le E J _ _ k hEJ, key _ (Nat.le_refl _), List.length_append, List.length_singleton]
    constructor
    · rintro ((h | ⟨i, h1, h2, h3, h4⟩) | ⟨h1, h2⟩)
      · exact .inl h
      · refine .inr ⟨h3, i, by unfold roomsOf; rw [List.length_append, List.length_map]; omega, by rw [rooms_getD E l k i h1]; omega, ?_⟩
        rw [rooms_getD E l k i h1, rooms_add E l k i j h1]; exact h4
      · obtain ⟨r, hr⟩ : ∃ r, k - l.length = r + 1 := ⟨k - l.length - 1, by omega⟩
        have hg : (roomsOf E l k).getD l.length 0 = E := by
          unfold roomsOf; rw [hr]; simp [List.getD, List.replicate_succ]
        refine .inr ⟨by omega, l.length, by unfold roomsOf; rw [List.length_append, List.length_map, List.length_replicate]; omega, by rw [hg]; exact hj, ?_⟩
        rw [hg]
        have e : (roomsOf E l k).set l.length (E - j) = roomsOf E (l ++ [j]) k := by
          unfold roomsOf
          rw [hr, List.set_append_right _ _ (by rw [List.length_map]; exact Nat.le_refl _), List.length_map, Nat.sub_self, List.replicate_succ, List.set_cons_zero, List.map_append, List.length_append, List.length_singleton, show k - (l.length + 1) = r by omega, List.append_assoc]; rfl
        rw [e]; exact h2
    · rintro (h | ⟨h1, i, hi, h2, h3⟩)
      · exact .inl (.inl h)
      · by_cases hil : i < l.length
        · rw [rooms_getD E l k i hil] at h2 h3
          rw [rooms_add E l k i j hil] at h3
          exact .inl (.inr ⟨i, hil, by omega, h1, h3⟩)
        · have hlen : i < k := by
            unfold roomsOf at hi; rw [List.length_append, List.length_map, List.length_replicate] at hi; omega
          obtain ⟨r, hr⟩ : ∃ r, k - l.length = r + 1 := ⟨k - l.length - 1, by omega⟩
          have hg : (roomsOf E l k).getD i 0 = E := by
            unfold roomsOf
            simp only [List.getD]
            rw [List.getElem?_append_right (by rw [List.length_map]; omega), List.length_map, List.getElem?_replicate, if_pos (by omega)]; rfl
          rw [hg] at h3
          refine .inr ⟨by omega, Can.perm ?_ h3⟩
          have hlr : (roomsOf E l k).length = k := by unfold roomsOf; rw [List.length_append, List.length_map, List.length_replicate]; omega
          have hgl : (roomsOf E l k).getD l.length 0 = E := by
            unfold roomsOf; rw [hr]; simp [List.getD, List.replicate_succ]
          have e : (roomsOf E l k).set l.length (E - j) = roomsOf E (l ++ [j]) k := by
            unfold roomsOf
            rw [hr, List.set_append_right _ _ (by rw [List.length_map]; exact Nat.le_refl _), List.length_map, Nat.sub_self, List.replicate_succ, List.set_cons_zero, List.map_append, List.length_append, List.length_singleton, show k - (l.length + 1) = r by omega, List.append_assoc]; rfl
          rw [← e]
          refine (set_perm _ i (by omega) _).trans (List.Perm.trans ?_ (set_perm _ l.length (by omega) _).symm)
          refine List.Perm.cons _ ?_
          have h4 := (self_perm (roomsOf E l k) i (by omega)).symm.trans (self_perm (roomsOf E l k) l.length (by omega))
          rw [hg, hgl] at h4
          exact h4.cons_inv
/-- The fewest machines. -/
def mfN (zs : List Int) (E : Int) : Nat := giveF E zs [] zs.length
theorem mfN_le {zs : List Int} {E : Int} (hE : ∀ x ∈ zs, x ≤ E) (k : Nat) : mfN zs E ≤ k ↔ Can zs (List.replicate k E) := by
  unfold mfN
  rw [giveF_le E zs [] zs.length k hE]
  have e : roomsOf E [] k = List.replicate k E := by unfold roomsOf; simp
  rw [e]
  constructor
  · rintro (h | ⟨_, h⟩)
    · have := Can.room E zs [] k hE h
      simpa using this
    · exact h
  · intro h; exact .inr ⟨by simp, h⟩
end Go.Proofs.Ytaplnbjljgeakaa
