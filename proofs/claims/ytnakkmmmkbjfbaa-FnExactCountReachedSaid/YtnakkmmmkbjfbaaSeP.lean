
/-
  THE SEARCH BY DOUBLINGS, plainly: a queue, levels, all lists of doublings; the first list of the fewest. No program is named here.
-/
import Derived.Test.YtnakkmmmkbjfbaaDbAllP
import Derived.Test.YtnakkmmmkbjfbaaDoubP
namespace Go.Proofs.Ytnakkmmmkbjfbaa

abbrev StP := List Int × List Db
def nx (zs : List Int) (d : Db) : List Int := dmade d.x0.toNat d.x1.toNat zs
/-- What a state leads to, each with its list. -/
def extD (p : StP) : List StP := (allD p.1).map fun d => (nx p.1 d, p.2 ++ [d])
def keysE (x : List Int) : List (List Int) := (allD x).map (nx x)
theorem extD_keys (p : StP) : (extD p).map Prod.fst = keysE p.1 := by simp [extD, keysE]
/-- Those that are not in S, each state once, at its first place. -/
def ddN (S : List (List Int)) : List StP → List StP
  | [] => []
  | p :: L => if p.1 ∈ S then ddN S L else p :: ddN (p.1 :: S) L
theorem ddN_in {S : List (List Int)} {p : StP} {L : List StP} (h : p.1 ∈ S) : ddN S (p :: L) = ddN S L := by rw [ddN, if_pos h]
theorem ddN_new {S : List (List Int)} {p : StP} {L : List StP} (h : p.1 ∉ S) : ddN S (p :: L) = p :: ddN (p.1 :: S) L := by rw [ddN, if_neg h]
theorem ddN_congr : ∀ (L : List StP) (S T : List (List Int)), (∀ x, x ∈ S ↔ x ∈ T) → ddN S L = ddN T L
  | [], _, _, _ => rfl
  | p :: L, S, T, h => by
    by_cases hp : p.1 ∈ S
    · rw [ddN_in hp, ddN_in ((h _).1 hp)]; exact ddN_congr L S T h
    · rw [ddN_new hp, ddN_new (fun e => hp ((h _).2 e)), ddN_congr L (p.1 :: S) (p.1 :: T) (fun x => by simp [h x])]
theorem ddN_append : ∀ (A B : List StP) (S : List (List Int)), ddN S (A ++ B) = ddN S A ++ ddN ((ddN S A).map Prod.fst ++ S) B
  | [], B, S => by simp [ddN]
  | p :: A, B, S => by
    by_cases hp : p.1 ∈ S
    · rw [List.cons_append, ddN_in hp, ddN_in hp]; exact ddN_append A B S
    · rw [List.cons_append, ddN_new hp, ddN_new hp, ddN_append A B (p.1 :: S), List.cons_append]
      congr 2
      refine ddN_congr _ _ _ fun x => ?_
      simp only [List.mem_append, List.map_cons, List.mem_cons]
      constructor
      · rintro (h | h | h)
        · exact .inl (.inr h)
        · exact .inl (.inl h)
        · exact .inr h
      · rintro ((h | h) | h)
        · exact .inr (.inl h)
        · exact .inl h
        · exact .inr (.inr h)
theorem ddN_mem : ∀ (L : List StP) (S : List (List Int)) (p : StP), p ∈ L → p.1 ∈ S ∨ p.1 ∈ (ddN S L).map Prod.fst
  | q :: L, S, p, h => by
    by_cases hq : q.1 ∈ S
    · rw [ddN_in hq]
      rcases List.mem_cons.1 h with rfl | h
      · exact .inl hq
      · exact ddN_mem L S p h
    · rw [ddN_new hq, List.map_cons]
      rcases List.mem_cons.1 h with rfl | h
      · exact .inr (List.mem_cons_self ..)
      · rcases ddN_mem L (q.1 :: S) p h with h1 | h1
        · rcases List.mem_cons.1 h1 with h1 | h1
          · exact .inr (by rw [h1]; exact List.mem_cons_self ..)
          · exact .inl h1
        · exact .inr (List.mem_cons_of_mem _ h1)
theorem ddN_sub : ∀ (L : List StP) (S : List (List Int)) (p : StP), p ∈ ddN S L → p ∈ L ∧ p.1 ∉ S
  | q :: L, S, p, h => by
    by_cases hq : q.1 ∈ S
    · rw [ddN_in hq] at h
      have := ddN_sub L S p h
      exact ⟨List.mem_cons_of_mem _ this.1, this.2⟩
    · rw [ddN_new hq] at h
      rcases List.mem_cons.1 h with rfl | h
      · exact ⟨List.mem_cons_self .., hq⟩
      · have := ddN_sub L (q.1 :: S) p h
        exact ⟨List.mem_cons_of_mem _ this.1, fun e => this.2 (List.mem_cons_of_mem _ e)⟩
theorem ddN_nodup : ∀ (L : List StP) (S : List (List Int)), ((ddN S L).map Prod.fst).Nodup
  | [], _ => by simp [ddN]
  | q :: L, S => by
    by_cases hq : q.1 ∈ S
    · rw [ddN_in hq]; exact ddN_nodup L S
    · rw [ddN_new hq, List.map_cons, List.nodup_cons]
      refine ⟨fun e => ?_, ddN_nodup L _⟩
      obtain ⟨p, hp, e⟩ := List.mem_map.1 e
      exact (ddN_sub L _ p hp).2 (by rw [e]; exact List.mem_cons_self ..)
theorem ddN_none : ∀ (L : List StP) (S : List (List Int)), (∀ p ∈ L, p.1 ∈ S) → ddN S L = []
  | [], _, _ => rfl
  | q :: L, S, h => by rw [ddN_in (h q (List.mem_cons_self ..))]; exact ddN_none L S fun p hp => h p (List.mem_cons_of_mem _ hp)
/-- Seen ones and repeated ones lead to nothing new. -/
theorem ddN_flat : ∀ (L : List StP) (S T : List (List Int)), (∀ x ∈ S, ∀ y ∈ keysE x, y ∈ T) → ddN T ((ddN S L).flatMap extD) = ddN T (L.flatMap extD)
  | [], _, _, _ => rfl
  | p :: L, S, T, h => by
    by_cases hp : p.1 ∈ S
    · rw [ddN_in hp, List.flatMap_cons, ddN_append, ddN_none (extD p) T (fun q hq => h _ hp _ (by rw [← extD_keys]; exact List.mem_map_of_mem hq))]
      exact ddN_flat L S T h
    · rw [ddN_new hp, List.flatMap_cons, List.flatMap_cons, ddN_append, ddN_append]
      congr 1
      refine ddN_flat L _ _ fun x hx y hy => ?_
      rcases List.mem_cons.1 hx with rfl | hx
      · rw [← extD_keys] at hy
        obtain ⟨q, hq, rfl⟩ := List.mem_map.1 hy
        rcases ddN_mem _ T q hq with h1 | h1
        · exact List.mem_append_right _ h1
        · exact List.mem_append_left _ h1
      · exact List.mem_append_right _ (h x hx y hy)
theorem find_ddN (pr : List Int → Bool) : ∀ (L : List StP) (S : List (List Int)), (∀ x ∈ S, pr x = false) → (ddN S L).find? (fun p => pr p.1) = L.find? (fun p => pr p.1)
  | [], _, _ => rfl
  | q :: L, S, h => by
    by_cases hq : q.1 ∈ S
    · rw [ddN_in hq, List.find?_cons, h _ hq]; exact find_ddN pr L S h
    · rw [ddN_new hq, List.find?_cons, List.find?_cons]
      cases hp : pr q.1
      · exact find_ddN pr L _ fun x hx => by
          rcases List.mem_cons.1 hx with rfl | hx
          · exact hp
          · exact h x hx
      · rfl

/-- The queue behind k steps of the search. -/
def Qn (zs : List Int) : Nat → List StP
  | 0 => [(zs, [])]
  | k + 1 => match (Qn zs k)[k]? with
    | some p => Qn zs k ++ ddN ((Qn zs k).map Prod.fst) (extD p)
    | none => Qn zs k
theorem Qn_some {zs : List Int} {k : Nat} {p : StP} (h : (Qn zs k)[k]? = some p) : Qn zs (k + 1) = Qn zs k ++ ddN ((Qn zs k).map Prod.fst) (extD p) := by rw [Qn, h]
theorem Qn_none {zs : List Int} {k : Nat} (h : (Qn zs k)[k]? = none) : Qn zs (k + 1) = Qn zs k := by rw [Qn, h]
theorem Qn_pre1 (zs : List Int) (k : Nat) : Qn zs k <+: Qn zs (k + 1) := by
  cases h : (Qn zs k)[k]? with
  | none => rw [Qn_none h]; exact List.prefix_rfl
  | some p => rw [Qn_some h]; exact List.prefix_append _ _
theorem Qn_pre (zs : List Int) (k : Nat) : ∀ j, Qn zs k <+: Qn zs (k + j)
  | 0 => List.prefix_rfl
  | j + 1 => (Qn_pre zs k j).trans (Qn_pre1 zs (k + j))
theorem Qn_stay {zs : List Int} {k : Nat} (h : (Qn zs k)[k]? = none) : ∀ j, Qn zs (k + j) = Qn zs k
  | 0 => rfl
  | j + 1 => by
    have ih := Qn_stay h j
    have h2 : (Qn zs (k + j))[k + j]? = none := by
      rw [ih]
      have := List.getElem?_eq_none_iff.1 h
      exact List.getElem?_eq_none_iff.2 (by omega)
    rw [show k + (j + 1) = k + j + 1 from rfl, Qn_none h2, ih]
/-- Levels: what just so many doublings lead to and fewer do not; what has been come to. -/
def Fn (zs : List Int) : Nat → List StP × List StP
  | 0 => ([(zs, [])], [(zs, [])])
  | n + 1 => (ddN ((Fn zs n).2.map Prod.fst) ((Fn zs n).1.flatMap extD), (Fn zs n).2 ++ ddN ((Fn zs n).2.map Prod.fst) ((Fn zs n).1.flatMap extD))
/-- All lists of so many doublings. -/
def Lv (zs : List Int) : Nat → List StP
  | 0 => [(zs, [])]
  | n + 1 => (Lv zs n).flatMap extD
/-- What has been come to ahead of a level. -/
def Sp (zs : List Int) : Nat → List StP
  | 0 => []
  | n + 1 => (Fn zs n).2
theorem Fn_seen (zs : List Int) : ∀ n, (Fn zs n).2 = Sp zs n ++ (Fn zs n).1
  | 0 => rfl
  | n + 1 => rfl
theorem closed (zs : List Int) : ∀ n, ∀ x ∈ (Sp zs n).map Prod.fst, ∀ y ∈ keysE x, y ∈ (Fn zs n).2.map Prod.fst
  | 0, x, h, _, _ => by simp [Sp] at h
  | n + 1, x, h, y, hy => by
    have hs : (Sp zs (n + 1)).map Prod.fst = (Fn zs n).2.map Prod.fst := rfl
    have hs2 : (Fn zs (n + 1)).2 = (Fn zs n).2 ++ (Fn zs (n + 1)).1 := rfl
    rw [hs, Fn_seen, List.map_append, List.mem_append] at h
    rw [hs2, List.map_append, List.mem_append]
    rcases h with h | h
    · exact .inl (closed zs n x h y hy)
    · obtain ⟨p, hp, rfl⟩ := List.mem_map.1 h
      rw [← extD_keys] at hy
      obtain ⟨q, hq, rfl⟩ := List.mem_map.1 hy
      rcases ddN_mem ((Fn zs n).1.flatMap extD) ((Fn zs n).2.map Prod.fst) q (List.mem_flatMap.2 ⟨p, hp, hq⟩) with h1 | h1
      · exact .inl h1
      · exact .inr h1
theorem Fn_Lv (zs : List Int) : ∀ n, (Fn zs n).1 = ddN ((Sp zs n).map Prod.fst) (Lv zs n)
  | 0 => by simp [Fn, Sp, Lv, ddN]
  | n + 1 => by
    show ddN ((Fn zs n).2.map Prod.fst) ((Fn zs n).1.flatMap extD) = ddN ((Fn zs n).2.map Prod.fst) ((Lv zs n).flatMap extD)
    rw [Fn_Lv zs n]
    exact ddN_flat _ _ _ (closed zs n)
theorem find_level (zs : List Int) (pr : List Int → Bool) (n : Nat) (h : ∀ p ∈ Sp zs n, pr p.1 = false) : (Fn zs n).1.find? (fun p => pr p.1) = (Lv zs n).find? (fun p => pr p.1) := by
  rw [Fn_Lv]
  refine find_ddN pr _ _ fun x hx => ?_
  obtain ⟨p, hp, rfl⟩ := List.mem_map.1 hx
  exact h p hp
/-- Within a level the queue grows by what its states lead to. -/
theorem Qn_in (zs : List Int) (n a : Nat) (hQ : Qn zs a = (Fn zs n).2) (ha : a + (Fn zs n).1.length = (Fn zs n).2.length) : ∀ i, i ≤ (Fn zs n).1.length →
    Qn zs (a + i) = (Fn zs n).2 ++ ddN ((Fn zs n).2.map Prod.fst) (((Fn zs n).1.take i).flatMap extD)
  | 0, _ => by simp [hQ, ddN]
  | i + 1, hi => by
    have ih := Qn_in zs n a hQ ha i (by omega)
    have hg : (Qn zs (a + i))[a + i]? = some ((Fn zs n).1[i]'(by omega)) := by
      have hs := Fn_seen zs n
      have hl : (Sp zs n).length = a := by rw [hs, List.length_append] at ha; omega
      rw [ih, hs, List.append_assoc, List.getElem?_append_right (by omega), hl, show a + i - a = i by omega, List.getElem?_append_left (by omega)]
      simp [show i < (Fn zs n).1.length by omega]
    rw [show a + (i + 1) = a + i + 1 from rfl, Qn_some hg, ih, List.take_succ_eq_append_getElem (by omega), List.flatMap_append, ddN_append, List.append_assoc]
    congr 2
    rw [List.flatMap_cons, List.flatMap_nil, List.append_nil]
    refine ddN_congr _ _ _ fun x => ?_
    rw [List.map_append, List.mem_append, List.mem_append]
    exact Or.comm
def aN (zs : List Int) : Nat → Nat
  | 0 => 0
  | n + 1 => aN zs n + (Fn zs n).1.length
theorem Qn_level (zs : List Int) : ∀ n, Qn zs (aN zs n) = (Fn zs n).2 ∧ aN zs n + (Fn zs n).1.length = (Fn zs n).2.length
  | 0 => ⟨rfl, rfl⟩
  | n + 1 => by
    obtain ⟨h1, h2⟩ := Qn_level zs n
    have h3 := Qn_in zs n _ h1 h2 _ (Nat.le_refl _)
    rw [List.take_length] at h3
    refine ⟨h3, ?_⟩
    have e : (Fn zs (n + 1)).2 = (Fn zs n).2 ++ (Fn zs (n + 1)).1 := rfl
    rw [e, List.length_append, aN, h2]
/-- Every queue is the beginning of what some level has come to. -/
theorem Qn_some_level (zs : List Int) (k : Nat) : ∃ n, Qn zs k <+: (Fn zs n).2 := by
  by_cases h : ∀ n, n < k → 0 < (Fn zs n).1.length
  · have ha : ∀ n, n ≤ k → n ≤ aN zs n := fun n => by
      induction n with
      | zero => intro _; exact Nat.zero_le _
      | succ n ih => intro hn; have := ih (by omega); have := h n (by omega); rw [aN]; omega
    refine ⟨k, ?_⟩
    rw [← (Qn_level zs k).1]
    have := Qn_pre zs k (aN zs k - k)
    rwa [show k + (aN zs k - k) = aN zs k by have := ha k (Nat.le_refl _); omega] at this
  · obtain ⟨n, hn⟩ := Classical.not_forall.1 h
    obtain ⟨hnk, h0⟩ := Classical.not_imp.1 hn
    obtain ⟨h1, h2⟩ := Qn_level zs n
    have hnone : (Qn zs (aN zs n))[aN zs n]? = none := List.getElem?_eq_none_iff.2 (by rw [h1]; omega)
    refine ⟨n, ?_⟩
    by_cases hk : k ≤ aN zs n
    · have := Qn_pre zs k (aN zs n - k)
      rw [show k + (aN zs n - k) = aN zs n by omega, h1] at this
      exact this
    · have := Qn_stay hnone (k - aN zs n)
      rw [show aN zs n + (k - aN zs n) = k by omega, h1] at this
      rw [this]; exact List.prefix_rfl
end Go.Proofs.Ytnakkmmmkbjfbaa
