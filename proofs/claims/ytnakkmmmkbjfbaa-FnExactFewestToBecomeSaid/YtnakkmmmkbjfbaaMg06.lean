import Derived.Test.YtnakkmmmkbjfbaaMg04
import Derived.Test.YtnakkmmmkbjfbaaMg05

/-
  ALL DOUBLINGS THAT CAN BE MADE, plainly. No program is named here.
-/
namespace Go.Proofs.Ytnakkmmmkbjfbaa

/-- Those from f to the first j heaps. -/
def innD (zs : List Int) (f : Nat) : Nat → List Db
  | 0 => []
  | j + 1 => innD zs f j ++ (if canD zs (f : Int) (j : Int) then [⟨(f : Int), (j : Int)⟩] else [])
/-- Those from the first k heaps. -/
def outD (zs : List Int) : Nat → List Db
  | 0 => []
  | k + 1 => outD zs k ++ innD zs k zs.length
def allD (zs : List Int) : List Db := outD zs zs.length
theorem innD_len (zs : List Int) (f : Nat) : ∀ j, (innD zs f j).length ≤ j
  | 0 => by simp [innD]
  | j + 1 => by
    have := innD_len zs f j
    unfold innD
    split <;> simp <;> omega
theorem outD_len (zs : List Int) : ∀ k, (outD zs k).length ≤ k * zs.length
  | 0 => by simp [outD]
  | k + 1 => by
    have h1 := outD_len zs k
    have h2 := innD_len zs k zs.length
    unfold outD
    rw [List.length_append, Nat.succ_mul]
    omega
end Go.Proofs.Ytnakkmmmkbjfbaa

/-
  PLAYS OF DOUBLINGS, plainly. No program is named here.
-/
namespace Go.Proofs.Ytnakkmmmkbjfbaa

def dplay (zs : List Int) : List Db → Option (List Int)
  | [] => some zs
  | d :: ds => if canD zs d.x0 d.x1 then dplay (dmade d.x0.toNat d.x1.toNat zs) ds else none
theorem dplay_append (zs : List Int) (a b : List Db) : dplay zs (a ++ b) = (dplay zs a).bind fun ys => dplay ys b := by
  induction a generalizing zs with
  | nil => simp [dplay]
  | cons m ms ih =>
    simp only [List.cons_append, dplay]
    split
    · exact ih _
    · rfl
theorem dplay_take_succ (zs : List Int) (ds : List Db) (k : Nat) (hk : k < ds.length) (ys : List Int) (h : dplay zs (ds.take k) = some ys) :
    dplay zs (ds.take (k + 1)) = if canD ys ds[k].x0 ds[k].x1 then some (dmade ds[k].x0.toNat ds[k].x1.toNat ys) else none := by
  rw [List.take_succ_eq_append_getElem hk, dplay_append, h]
  simp [dplay]
theorem dplay_stuck (zs : List Int) (ds : List Db) (k : Nat) (h : dplay zs (ds.take k) = none) : dplay zs ds = none := by
  have := dplay_append zs (ds.take k) (ds.drop k)
  rw [List.take_append_drop, h] at this
  simpa using this
theorem canD_ix {zs : List Int} {f t : Int} (h : canD zs f t = true) : ∃ i j : Nat, f = (i : Int) ∧ t = (j : Int) ∧ ∃ (hi : i < zs.length) (hj : j < zs.length), i ≠ j ∧ 0 < zs[j] ∧ zs[j] ≤ zs[i] := by
  have hb := canD_bd h
  obtain ⟨i, rfl⟩ := Int.eq_ofNat_of_zero_le hb.1
  obtain ⟨j, rfl⟩ := Int.eq_ofNat_of_zero_le hb.2.2.1
  have hi : i < zs.length := by omega
  have hj : j < zs.length := by omega
  have h6 := hb.2.2.2.2.2
  rw [Int.toNat_natCast, Int.toNat_natCast, getD_get hi, getD_get hj] at h6
  exact ⟨i, j, rfl, rfl, hi, hj, by omega, h6.1, h6.2⟩
theorem small_canD {zs : List Int} (h : small zs) {f t : Int} (hc : canD zs f t = true) : small (dmade f.toNat t.toNat zs) := by
  obtain ⟨i, j, rfl, rfl, hi, hj, hij, _, hle⟩ := canD_ix hc
  exact dmade_small h hi hj hij hle
theorem dplay_small (zs : List Int) (ds : List Db) (ys : List Int) (h : small zs) (hp : dplay zs ds = some ys) : small ys ∧ ys.length = zs.length := by
  induction ds generalizing zs with
  | nil => simp [dplay] at hp; subst hp; exact ⟨h, rfl⟩
  | cons m ms ih =>
    simp only [dplay] at hp
    split at hp
    · rename_i hc
      have := ih _ (small_canD h hc) hp
      rw [dmade_length] at this
      exact this
    · cases hp
/-- What is told of a play. -/
def dplayOk (zs : List Int) (ds : List Db) : Bool := few zs && decide (ds.length ≤ 100) && (dplay zs ds).isSome
def dplayL (zs : List Int) (ds : List Db) : List Int := if dplayOk zs ds then (dplay zs ds).getD [] else []
theorem dplayOk_bad {zs : List Int} {ds : List Db} (h : few zs = false) : dplayOk zs ds = false := by simp [dplayOk, h]
theorem dplayOk_long {zs : List Int} {ds : List Db} (h : ¬ ds.length ≤ 100) : dplayOk zs ds = false := by simp [dplayOk]; omega
theorem dplayOk_stuck {zs : List Int} {ds : List Db} (h : dplay zs ds = none) : dplayOk zs ds = false := by simp [dplayOk, h]
theorem dplayOk_yes {zs : List Int} {ds : List Db} {ys : List Int} (hg : few zs = true) (hl : ds.length ≤ 100) (h : dplay zs ds = some ys) : dplayOk zs ds = true := by simp [dplayOk, h, hg, hl]
theorem dplayL_no {zs : List Int} {ds : List Db} (h : dplayOk zs ds = false) : dplayL zs ds = [] := by simp [dplayL, h]
theorem dplayL_yes {zs : List Int} {ds : List Db} {ys : List Int} (h : dplayOk zs ds = true) (hp : dplay zs ds = some ys) : dplayL zs ds = ys := by simp [dplayL, h, hp]
theorem dplayL_short (zs : List Int) (ds : List Db) : (dplayL zs ds).length ≤ 1048576 := by
  cases h : dplayOk zs ds
  · rw [dplayL_no h]; simp
  · have h' := h
    unfold dplayOk at h'
    simp at h'
    obtain ⟨⟨hg, _⟩, hp⟩ := h'
    obtain ⟨ys, hys⟩ := Option.isSome_iff_exists.1 hp
    have hf := few_small hg
    rw [dplayL_yes h hys, (dplay_small _ _ _ hf.1 hys).2]
    omega
theorem dplayOk_one {zs : List Int} (hg : few zs = true) (d : Db) : dplayOk zs [d] = canD zs d.x0 d.x1 := by
  unfold dplayOk
  rw [hg]
  simp only [dplay]
  cases canD zs d.x0 d.x1 <;> simp
theorem dplayL_one {zs : List Int} (hg : few zs = true) (d : Db) : dplayL zs [d] = if canD zs d.x0 d.x1 then dmade d.x0.toNat d.x1.toNat zs else [] := by
  unfold dplayL
  rw [dplayOk_one hg]
  simp only [dplay]
  cases canD zs d.x0 d.x1 <;> simp
/-- What is told of one. -/
def canV (zs : List Int) (d : Db) : Bool := few zs && canD zs d.x0 d.x1
end Go.Proofs.Ytnakkmmmkbjfbaa

/-
  THE SEARCH BY DOUBLINGS, plainly: a queue, levels, all lists of doublings; the first list of the fewest. No program is named here.
-/
namespace Go.Proofs.Ytnakkmmmkbjfbaa

abbrev StP := List Int × List Db
def nx (zs : List Int) (d : Db) : List Int := dmade d.x0.toNat d.x1.toNat zs
/-- What a state leads to, each with its list. -/
def extD (p : StP) : List StP := (allD p.1).map fun d => (nx p.1 d, p.2 ++ [d])
def keysE (x : List Int) : List (List Int) := (allD x).map (nx x)
theorem extD_keys (p : StP) : (extD p).map Prod.fst = keysE p.1 := by simp [extD, keysE]
/-- Those that are not in S, each state once, at its first place. -/
def ddN (S : List (List Int)) : List StP → List StP
  | [] => []
  | p :: L => if p.1 ∈ S then ddN S L else p :: ddN (p.1 :: S) L
theorem ddN_in {S : List (List Int)} {p : StP} {L : List StP} (h : p.1 ∈ S) : ddN S (p :: L) = ddN S L := by rw [ddN, if_pos h]
theorem ddN_new {S : List (List Int)} {p : StP} {L : List StP} (h : p.1 ∉ S) : ddN S (p :: L) = p :: ddN (p.1 :: S) L := by rw [ddN, if_neg h]
theorem ddN_congr : ∀ (L : List StP) (S T : List (List Int)), (∀ x, x ∈ S ↔ x ∈ T) → ddN S L = ddN T L
  | [], _, _, _ => rfl
  | p :: L, S, T, h => by
    by_cases hp : p.1 ∈ S
    · rw [ddN_in hp, ddN_in ((h _).1 hp)]; exact ddN_congr L S T h
    · rw [ddN_new hp, ddN_new (fun e => hp ((h _).2 e)), ddN_congr L (p.1 :: S) (p.1 :: T) (fun x => by simp [h x])]
theorem ddN_append : ∀ (A B : List StP) (S : List (List Int)), ddN S (A ++ B) = ddN S A ++ ddN ((ddN S A).map Prod.fst ++ S) B
  | [], B, S => by simp [ddN]
  | p :: A, B, S => by
    by_cases hp : p.1 ∈ S
    · rw [List.cons_append, ddN_in hp, ddN_in hp]; exact ddN_append A B S
    · rw [List.cons_append, ddN_new hp, ddN_new hp, ddN_append A B (p.1 :: S), List.cons_append]
      congr 2
      refine ddN_congr _ _ _ fun x => ?_
      simp only [List.mem_append, List.map_cons, List.mem_cons]
      constructor
      · rintro (h | h | h)
        · exact .inl (.inr h)
        · exact .inl (.inl h)
        · exact .inr h
      · rintro ((h | h) | h)
        · exact .inr (.inl h)
        · exact .inl h
        · exact .inr (.inr h)
theorem ddN_mem : ∀ (L : List StP) (S : List (List Int)) (p : StP), p ∈ L → p.1 ∈ S ∨ p.1 ∈ (ddN S L).map Prod.fst
  | q :: L, S, p, h => by
    by_cases hq : q.1 ∈ S
    · rw [ddN_in hq]
      rcases List.mem_cons.1 h with rfl | h
      · exact .inl hq
      · exact ddN_mem L S p h
    · rw [ddN_new hq, List.map_cons]
      rcases List.mem_cons.1 h with rfl | h
      · exact .inr (List.mem_cons_self ..)
      · rcases ddN_mem L (q.1 :: S) p h with h1 | h1
        · rcases List.mem_cons.1 h1 with h1 | h1
          · exact .inr (by rw [h1]; exact List.mem_cons_self ..)
          · exact .inl h1
        · exact .inr (List.mem_cons_of_mem _ h1)
theorem ddN_sub : ∀ (L : List StP) (S : List (List Int)) (p : StP), p ∈ ddN S L → p ∈ L ∧ p.1 ∉ S
  | q :: L, S, p, h => by
    by_cases hq : q.1 ∈ S
    · rw [ddN_in hq] at h
      have := ddN_sub L S p h
      exact ⟨List.mem_cons_of_mem _ this.1, this.2⟩
    · rw [ddN_new hq] at h
      rcases List.mem_cons.1 h with rfl | h
      · exact ⟨List.mem_cons_self .., hq⟩
      · have := ddN_sub L (q.1 :: S) p h
        exact ⟨List.mem_cons_of_mem _ this.1, fun e => this.2 (List.mem_cons_of_mem _ e)⟩
theorem ddN_nodup : ∀ (L : List StP) (S : List (List Int)), ((ddN S L).map Prod.fst).Nodup
  | [], _ => by simp [ddN]
  | q :: L, S => by
    by_cases hq : q.1 ∈ S
    · rw [ddN_in hq]; exact ddN_nodup L S
    · rw [ddN_new hq, List.map_cons, List.nodup_cons]
      refine ⟨fun e => ?_, ddN_nodup L _⟩
      obtain ⟨p, hp, e⟩ := List.mem_map.1 e
      exact (ddN_sub L _ p hp).2 (by rw [e]; exact List.mem_cons_self ..)
theorem ddN_none : ∀ (L : List StP) (S : List (List Int)), (∀ p ∈ L, p.1 ∈ S) → ddN S L = []
  | [], _, _ => rfl
  | q :: L, S, h => by rw [ddN_in (h q (List.mem_cons_self ..))]; exact ddN_none L S fun p hp => h p (List.mem_cons_of_mem _ hp)
/-- Seen ones and repeated ones lead to nothing new. -/
theorem ddN_flat : ∀ (L : List StP) (S T : List (List Int)), (∀ x ∈ S, ∀ y ∈ keysE x, y ∈ T) → ddN T ((ddN S L).flatMap extD) = ddN T (L.flatMap extD)
  | [], _, _, _ => rfl
  | p :: L, S, T, h => by
    by_cases hp : p.1 ∈ S
    · rw [ddN_in hp, List.flatMap_cons, ddN_append, ddN_none (extD p) T (fun q hq => h _ hp _ (by rw [← extD_keys]; exact List.mem_map_of_mem hq))]
      exact ddN_flat L S T h
    · rw [ddN_new hp, List.flatMap_cons, List.flatMap_cons, ddN_append, ddN_append]
      congr 1
      refine ddN_flat L _ _ fun x hx y hy => ?_
      rcases List.mem_cons.1 hx with rfl | hx
      · rw [← extD_keys] at hy
        obtain ⟨q, hq, rfl⟩ := List.mem_map.1 hy
        rcases ddN_mem _ T q hq with h1 | h1
        · exact List.mem_append_right _ h1
        · exact List.mem_append_left _ h1
      · exact List.mem_append_right _ (h x hx y hy)
theorem find_ddN (pr : List Int → Bool) : ∀ (L : List StP) (S : List (List Int)), (∀ x ∈ S, pr x = false) → (ddN S L).find? (fun p => pr p.1) = L.find? (fun p => pr p.1)
  | [], _, _ => rfl
  | q :: L, S, h => by
    by_cases hq : q.1 ∈ S
    · rw [ddN_in hq, List.find?_cons, h _ hq]; exact find_ddN pr L S h
    · rw [ddN_new hq, List.find?_cons, List.find?_cons]
      cases hp : pr q.1
      · exact find_ddN pr L _ fun x hx => by
          rcases List.mem_cons.1 hx with rfl | hx
          · exact hp
          · exact h x hx
      · rfl

/-- The queue behind k steps of the search. -/
def Qn (zs : List Int) : Nat → List StP
  | 0 => [(zs, [])]
  | k + 1 => match (Qn zs k)[k]? with
    | some p => Qn zs k ++ ddN ((Qn zs k).map Prod.fst) (extD p)
    | none => Qn zs k
theorem Qn_some {zs : List Int} {k : Nat} {p : StP} (h : (Qn zs k)[k]? = some p) : Qn zs (k + 1) = Qn zs k ++ ddN ((Qn zs k).map Prod.fst) (extD p) := by rw [Qn, h]
theorem Qn_none {zs : List Int} {k : Nat} (h : (Qn zs k)[k]? = none) : Qn zs (k + 1) = Qn zs k := by rw [Qn, h]
theorem Qn_pre1 (zs : List Int) (k : Nat) : Qn zs k <+: Qn zs (k + 1) := by
  cases h : (Qn zs k)[k]? with
  | none => rw [Qn_none h]; exact List.prefix_rfl
  | some p => rw [Qn_some h]; exact List.prefix_append _ _
theorem Qn_pre (zs : List Int) (k : Nat) : ∀ j, Qn zs k <+: Qn zs (k + j)
  | 0 => List.prefix_rfl
  | j + 1 => (Qn_pre zs k j).trans (Qn_pre1 zs (k + j))
theorem Qn_stay {zs : List Int} {k : Nat} (h : (Qn zs k)[k]? = none) : ∀ j, Qn zs (k + j) = Qn zs k
  | 0 => rfl
  | j + 1 => by
    have ih := Qn_stay h j
    have h2 : (Qn zs (k + j))[k + j]? = none := by
      rw [ih]
      have := List.getElem?_eq_none_iff.1 h
      exact List.getElem?_eq_none_iff.2 (by omega)
    rw [show k + (j + 1) = k + j + 1 from rfl, Qn_none h2, ih]
/-- Levels: what just so many doublings lead to and fewer do not; what has been come to. -/
def Fn (zs : List Int) : Nat → List StP × List StP
  | 0 => ([(zs, [])], [(zs, [])])
  | n + 1 => (ddN ((Fn zs n).2.map Prod.fst) ((Fn zs n).1.flatMap extD), (Fn zs n).2 ++ ddN ((Fn zs n).2.map Prod.fst) ((Fn zs n).1.flatMap extD))
/-- All lists of so many doublings. -/
def Lv (zs : List Int) : Nat → List StP
  | 0 => [(zs, [])]
  | n + 1 => (Lv zs n).flatMap extD
/-- What has been come to ahead of a level. -/
def Sp (zs : List Int) : Nat → List StP
  | 0 => []
  | n + 1 => (Fn zs n).2
theorem Fn_seen (zs : List Int) : ∀ n, (Fn zs n).2 = Sp zs n ++ (Fn zs n).1
  | 0 => rfl
  | n + 1 => rfl
theorem closed (zs : List Int) : ∀ n, ∀ x ∈ (Sp zs n).map Prod.fst, ∀ y ∈ keysE x, y ∈ (Fn zs n).2.map Prod.fst
  | 0, x, h, _, _ => by simp [Sp] at h
  | n + 1, x, h, y, hy => by
    have hs : (Sp zs (n + 1)).map Prod.fst = (Fn zs n).2.map Prod.fst := rfl
    have hs2 : (Fn zs (n + 1)).2 = (Fn zs n).2 ++ (Fn zs (n + 1)).1 := rfl
    rw [hs, Fn_seen, List.map_append, List.mem_append] at h
    rw [hs2, List.map_append, List.mem_append]
    rcases h with h | h
    · exact .inl (closed zs n x h y hy)
    · obtain ⟨p, hp, rfl⟩ := List.mem_map.1 h
      rw [← extD_keys] at hy
      obtain ⟨q, hq, rfl⟩ := List.mem_map.1 hy
      rcases ddN_mem ((Fn zs n).1.flatMap extD) ((Fn zs n).2.map Prod.fst) q (List.mem_flatMap.2 ⟨p, hp, hq⟩) with h1 | h1
      · exact .inl h1
      · exact .inr h1
theorem Fn_Lv (zs : List Int) : ∀ n, (Fn zs n).1 = ddN ((Sp zs n).map Prod.fst) (Lv zs n)
  | 0 => by simp [Fn, Sp, Lv, ddN]
  | n + 1 => by
    show ddN ((Fn zs n).2.map Prod.fst) ((Fn zs n).1.flatMap extD) = ddN ((Fn zs n).2.map Prod.fst) ((Lv zs n).flatMap extD)
    rw [Fn_Lv zs n]
    exact ddN_flat _ _ _ (closed zs n)
theorem find_level (zs : List Int) (pr : List Int → Bool) (n : Nat) (h : ∀ p ∈ Sp zs n, pr p.1 = false) : (Fn zs n).1.find? (fun p => pr p.1) = (Lv zs n).find? (fun p => pr p.1) := by
  rw [Fn_Lv]
  refine find_ddN pr _ _ fun x hx => ?_
  obtain ⟨p, hp, rfl⟩ := List.mem_map.1 hx
  exact h p hp
/-- Within a level the queue grows by what its states lead to. -/
theorem Qn_in (zs : List Int) (n a : Nat) (hQ : Qn zs a = (Fn zs n).2) (ha : a + (Fn zs n).1.length = (Fn zs n).2.length) : ∀ i, i ≤ (Fn zs n).1.length →
    Qn zs (a + i) = (Fn zs n).2 ++ ddN ((Fn zs n).2.map Prod.fst) (((Fn zs n).1.take i).flatMap extD)
  | 0, _ => by simp [hQ, ddN]
  | i + 1, hi => by
    have ih := Qn_in zs n a hQ ha i (by omega)
    have hg : (Qn zs (a + i))[a + i]? = some ((Fn zs n).1[i]'(by omega)) := by
      have hs := Fn_seen zs n
      have hl : (Sp zs n).length = a := by rw [hs, List.length_append] at ha; omega
      rw [ih, hs, List.append_assoc, List.getElem?_append_right (by omega), hl, show a + i - a = i by omega, List.getElem?_append_left (by omega)]
      simp [show i < (Fn zs n).1.length by omega]
    rw [show a + (i + 1) = a + i + 1 from rfl, Qn_some hg, ih, List.take_succ_eq_append_getElem (by omega), List.flatMap_append, ddN_append, List.append_assoc]
    congr 2
    rw [List.flatMap_cons, List.flatMap_nil, List.append_nil]
    refine ddN_congr _ _ _ fun x => ?_
    rw [List.map_append, List.mem_append, List.mem_append]
    exact Or.comm
def aN (zs : List Int) : Nat → Nat
  | 0 => 0
  | n + 1 => aN zs n + (Fn zs n).1.length
theorem Qn_level (zs : List Int) : ∀ n, Qn zs (aN zs n) = (Fn zs n).2 ∧ aN zs n + (Fn zs n).1.length = (Fn zs n).2.length
  | 0 => ⟨rfl, rfl⟩
  | n + 1 => by
    obtain ⟨h1, h2⟩ := Qn_level zs n
    have h3 := Qn_in zs n _ h1 h2 _ (Nat.le_refl _)
    rw [List.take_length] at h3
    refine ⟨h3, ?_⟩
    have e : (Fn zs (n + 1)).2 = (Fn zs n).2 ++ (Fn zs (n + 1)).1 := rfl
    rw [e, List.length_append, aN, h2]
/-- Every queue is the beginning of what some level has come to. -/
theorem Qn_some_level (zs : List Int) (k : Nat) : ∃ n, Qn zs k <+: (Fn zs n).2 := by
  by_cases h : ∀ n, n < k → 0 < (Fn zs n).1.length
  · have ha : ∀ n, n ≤ k → n ≤ aN zs n := fun n => by
      induction n with
      | zero => intro _; exact Nat.zero_le _
      | succ n ih => intro hn; have := ih (by omega); have := h n (by omega); rw [aN]; omega
    refine ⟨k, ?_⟩
    rw [← (Qn_level zs k).1]
    have := Qn_pre zs k (aN zs k - k)
    rwa [show k + (aN zs k - k) = aN zs k by have := ha k (Nat.le_refl _); omega] at this
  · obtain ⟨n, hn⟩ := Classical.not_forall.1 h
    obtain ⟨hnk, h0⟩ := Classical.not_imp.1 hn
    obtain ⟨h1, h2⟩ := Qn_level zs n
    have hnone : (Qn zs (aN zs n))[aN zs n]? = none := List.getElem?_eq_none_iff.2 (by rw [h1]; omega)
    refine ⟨n, ?_⟩
    by_cases hk : k ≤ aN zs n
    · have := Qn_pre zs k (aN zs n - k)
      rw [show k + (aN zs n - k) = aN zs n by omega, h1] at this
      exact this
    · have := Qn_stay hnone (k - aN zs n)
      rw [show aN zs n + (k - aN zs n) = k by omega, h1] at this
      rw [this]; exact List.prefix_rfl
end Go.Proofs.Ytnakkmmmkbjfbaa

/-
  THE SEARCH BY DOUBLINGS, plainly: the first one of a kind; the fewest; how it is found step by step; how many there can be. No program is named here.
-/
namespace Go.Proofs.Ytnakkmmmkbjfbaa

theorem Fn_mono (zs : List Int) : ∀ {m n : Nat}, m < n → ∀ p ∈ (Fn zs m).2, p ∈ Sp zs n
  | m, 0, h, _, _ => absurd h (by omega)
  | m, n + 1, h, p, hp => by
    show p ∈ (Fn zs n).2
    by_cases e : m = n
    · subst e; exact hp
    · rw [Fn_seen]; exact List.mem_append_left _ (Fn_mono zs (show m < n by omega) p hp)
theorem Lv_len (zs : List Int) : ∀ (n : Nat) (p : StP), p ∈ Lv zs n → p.2.length = n
  | 0, p, h => by simp [Lv] at h; subst h; rfl
  | n + 1, p, h => by
    obtain ⟨q, hq, h⟩ := List.mem_flatMap.1 h
    obtain ⟨d, _, rfl⟩ := List.mem_map.1 h
    simp [Lv_len zs n q hq]
theorem ex_big : ∃ n : Nat, n = 2825761 := ⟨_, rfl⟩
noncomputable def BIGN : Nat := Classical.choose ex_big
theorem BIGN_eq : BIGN = 2825761 := Classical.choose_spec ex_big
/-- All that the search comes to. -/
noncomputable def Qf (zs : List Int) : List StP := Qn zs BIGN
def isP (pr : List Int → Bool) (p : StP) : Bool := pr p.1
theorem find_none {pr : List Int → Bool} {L : List StP} (h : L.find? (isP pr) = none) : ∀ p ∈ L, pr p.1 = false := fun p hp => by
  have := List.find?_eq_none.1 h p hp
  simpa [isP] using this
theorem none_find {pr : List Int → Bool} {L : List StP} (h : ∀ p ∈ L, pr p.1 = false) : L.find? (isP pr) = none := List.find?_eq_none.2 fun p hp => by simp [isP, h p hp]
theorem find_lev (zs : List Int) (pr : List Int → Bool) (n : Nat) (h : ∀ p ∈ Sp zs n, pr p.1 = false) : (Fn zs n).1.find? (isP pr) = (Lv zs n).find? (isP pr) := find_level zs pr n h
theorem first_lev (zs : List Int) (pr : List Int → Bool) (q : StP) : ∀ n0, (Fn zs n0).2.find? (isP pr) = some q → ∃ n, (∀ p ∈ Sp zs n, pr p.1 = false) ∧ (Fn zs n).1.find? (isP pr) = some q
  | n0, h => by
    rw [Fn_seen, List.find?_append] at h
    cases hs : (Sp zs n0).find? (isP pr) with
    | none => rw [hs, Option.none_or] at h; exact ⟨n0, find_none hs, h⟩
    | some r =>
      rw [hs, Option.some_or] at h
      cases n0 with
      | zero => simp [Sp] at hs
      | succ m => exact first_lev zs pr q m (hs.trans h)
theorem first_of (zs : List Int) (pr : List Int → Bool) (q : StP) (k : Nat) (h : (Qn zs k).find? (isP pr) = some q) : (Lv zs q.2.length).find? (isP pr) = some q ∧ ∀ m, m < q.2.length → (Lv zs m).find? (isP pr) = none := by
  obtain ⟨n0, t, ht⟩ := Qn_some_level zs k
  have h1 : (Fn zs n0).2.find? (isP pr) = some q := by rw [← ht, List.find?_append, h, Option.some_or]
  obtain ⟨n, hn, hf⟩ := first_lev zs pr q n0 h1
  rw [find_lev zs pr n hn] at hf
  have hl := Lv_len zs n q (List.mem_of_find?_eq_some hf)
  subst hl
  refine ⟨hf, fun m hm => ?_⟩
  have hsp : ∀ p ∈ Sp zs m, pr p.1 = false := fun p hp => hn p (Fn_mono zs hm p (by rw [Fn_seen]; exact List.mem_append_left _ hp))
  rw [← find_lev zs pr m hsp]
  exact none_find fun p hp => hn p (Fn_mono zs hm p (by rw [Fn_seen]; exact List.mem_append_right _ hp))
theorem none_of (zs : List Int) (pr : List Int → Bool) (hall : ∀ n, (Fn zs n).2 <+: Qf zs) (h : (Qf zs).find? (isP pr) = none) (m : Nat) : (Lv zs m).find? (isP pr) = none := by
  have h1 := find_none h
  have h2 : ∀ p ∈ (Fn zs m).2, pr p.1 = false := fun p hp => h1 p ((hall m).subset hp)
  rw [← find_lev zs pr m (fun p hp => h2 p (by rw [Fn_seen]; exact List.mem_append_left _ hp))]
  exact none_find fun p hp => h2 p (by rw [Fn_seen]; exact List.mem_append_right _ hp)

/-! ### from the front -/
def LvG (p : StP) : Nat → List StP
  | 0 => [p]
  | n + 1 => (extD p).flatMap fun q => LvG q n
theorem LvG_back : ∀ (n : Nat) (p : StP), (LvG p n).flatMap extD = LvG p (n + 1)
  | 0, p => by simp [LvG]
  | n + 1, p => by
    show ((extD p).flatMap fun q => LvG q n).flatMap extD = (extD p).flatMap fun q => LvG q (n + 1)
    rw [List.flatMap_assoc]
    congr 1
    funext q
    exact LvG_back n q
theorem Lv_eq (zs : List Int) : ∀ n, Lv zs n = LvG (zs, []) n
  | 0 => rfl
  | n + 1 => by rw [← LvG_back, ← Lv_eq zs n]; rfl
theorem LvG_pre (ds : List Db) : ∀ (n : Nat) (x : List Int) (es : List Db), LvG (x, ds ++ es) n = (LvG (x, es) n).map fun p => (p.1, ds ++ p.2)
  | 0, x, es => rfl
  | n + 1, x, es => by
    show (extD (x, ds ++ es)).flatMap (fun q => LvG q n) = ((extD (x, es)).flatMap fun q => LvG q n).map _
    unfold extD
    rw [List.map_flatMap, List.flatMap_map, List.flatMap_map]
    congr 1
    funext d
    show LvG (nx x d, ds ++ es ++ [d]) n = _
    rw [List.append_assoc, LvG_pre ds n]
theorem Lv_front (x : List Int) (n : Nat) : Lv x (n + 1) = (allD x).flatMap fun d => (Lv (nx x d) n).map fun p => (p.1, d :: p.2) := by
  rw [Lv_eq]
  show (extD (x, [])).flatMap (fun q => LvG q n) = _
  unfold extD
  rw [List.flatMap_map]
  congr 1
  funext d
  show LvG (nx x d, [] ++ [d]) n = _
  have := LvG_pre [d] n (nx x d) []
  rw [List.append_nil] at this
  rw [List.nil_append, this, Lv_eq]
  rfl
theorem greedy_list (pr : List Int → Bool) (n : Nat) (x y : List Int) (ds : List Db) : ∀ L : List Db, (L.flatMap fun d => (Lv (nx x d) n).map fun p => (p.1, d :: p.2)).find? (isP pr) = some (y, ds) →
    ∃ (i : Nat) (d : Db) (es : List Db), L[i]? = some d ∧ (∀ (j : Nat) (e : Db), j < i → L[j]? = some e → (Lv (nx x e) n).find? (isP pr) = none) ∧ ds = d :: es ∧ (Lv (nx x d) n).find? (isP pr) = some (y, es)
  | [], h => by simp at h
  | d :: L, h => by
    rw [List.flatMap_cons, List.find?_append, List.find?_map] at h
    have hc : (isP pr ∘ fun p : StP => (p.1, d :: p.2)) = isP pr := rfl
    rw [hc] at h
    cases hf : (Lv (nx x d) n).find? (isP pr) with
    | some q =>
      rw [hf] at h
      simp at h
      refine ⟨0, d, q.2, rfl, fun j _ hj => absurd hj (by omega), h.2.symm, ?_⟩
      rw [hf, ← h.1]
    | none =>
      rw [hf, Option.map_none, Option.none_or] at h
      obtain ⟨i, d', es, h1, h2, h3, h4⟩ := greedy_list pr n x y ds L h
      refine ⟨i + 1, d', es, h1, fun j e hj he => ?_, h3, h4⟩
      cases j with
      | zero => simp at he; subst he; exact hf
      | succ j => exact h2 j e (by omega) (by simpa using he)
theorem Lv_has_succ {x : List Int} {d : Db} (hd : d ∈ allD x) {n : Nat} {pr : List Int → Bool} (h : (Lv (nx x d) n).find? (isP pr) ≠ none) : (Lv x (n + 1)).find? (isP pr) ≠ none := by
  intro e
  apply h
  rw [Lv_front] at e
  refine none_find fun p hp => ?_
  exact find_none e (p.1, d :: p.2) (List.mem_flatMap.2 ⟨d, hd, List.mem_map.2 ⟨p, hp, rfl⟩⟩)

/-! ### the fewest -/
def fewOf (L : List StP) (pr : List Int → Bool) : Int := match L.find? (isP pr) with
  | some q => (q.2.length : Int)
  | none => -1
def wayOf (L : List StP) (pr : List Int → Bool) : List Db := match L.find? (isP pr) with
  | some q => q.2
  | none => []
theorem fewOf_some {L : List StP} {pr : List Int → Bool} {q : StP} (h : L.find? (isP pr) = some q) : fewOf L pr = (q.2.length : Int) ∧ wayOf L pr = q.2 := by unfold fewOf wayOf; rw [h]; exact ⟨rfl, rfl⟩
theorem fewOf_none {L : List StP} {pr : List Int → Bool} (h : L.find? (isP pr) = none) : fewOf L pr = -1 ∧ wayOf L pr = [] := by unfold fewOf wayOf; rw [h]; exact ⟨rfl, rfl⟩
/-- The least number of doublings to one of a kind; or -1. -/
noncomputable def fewQ (zs : List Int) (pr : List Int → Bool) : Int := fewOf (Qf zs) pr
noncomputable def wayQ (zs : List Int) (pr : List Int → Bool) : List Db := wayOf (Qf zs) pr
theorem fewQ_some {zs : List Int} {pr : List Int → Bool} {q : StP} (h : (Qf zs).find? (isP pr) = some q) : fewQ zs pr = (q.2.length : Int) ∧ wayQ zs pr = q.2 := fewOf_some h
theorem fewQ_none {zs : List Int} {pr : List Int → Bool} (h : (Qf zs).find? (isP pr) = none) : fewQ zs pr = -1 ∧ wayQ zs pr = [] := fewOf_none h
theorem fewQ_at {zs : List Int} {pr : List Int → Bool} {n : Nat} (h : fewQ zs pr = (n : Int)) : ∃ y, (Lv zs n).find? (isP pr) = some (y, wayQ zs pr) ∧ ∀ m, m < n → (Lv zs m).find? (isP pr) = none := by
  cases hf : (Qf zs).find? (isP pr) with
  | none => rw [(fewQ_none hf).1] at h; omega
  | some q =>
    have e := (fewQ_some hf).1
    have hl : q.2.length = n := by omega
    subst hl
    obtain ⟨h1, h2⟩ := first_of zs pr q BIGN hf
    exact ⟨q.1, by rw [h1, (fewQ_some hf).2], h2⟩
theorem fewQ_is {zs : List Int} {pr : List Int → Bool} (hall : ∀ n, (Fn zs n).2 <+: Qf zs) {n : Nat} (h : (Lv zs n).find? (isP pr) ≠ none) (hm : ∀ m, m < n → (Lv zs m).find? (isP pr) = none) : fewQ zs pr = (n : Int) := by
  cases hf : (Qf zs).find? (isP pr) with
  | none => exact absurd (none_of zs pr hall hf n) h
  | some q =>
    obtain ⟨h1, h2⟩ := first_of zs pr q BIGN hf
    rw [(fewQ_some hf).1]
    by_cases e : q.2.length < n
    · rw [hm _ e] at h1; cases h1
    · by_cases e2 : n < q.2.length
      · exact absurd (h2 n e2) h
      · have : q.2.length = n := by omega
        rw [this]
/-- One step of the first list of the fewest doublings. -/
theorem fewQ_step {x : List Int} {pr : List Int → Bool} {n : Nat} (hall : ∀ d ∈ allD x, ∀ m, (Fn (nx x d) m).2 <+: Qf (nx x d)) (h : fewQ x pr = ((n + 1 : Nat) : Int)) :
    ∃ (i : Nat) (d : Db), (allD x)[i]? = some d ∧ fewQ (nx x d) pr = (n : Int) ∧ wayQ x pr = d :: wayQ (nx x d) pr ∧ ∀ (j : Nat) (e : Db), j < i → (allD x)[j]? = some e → fewQ (nx x e) pr ≠ (n : Int) := by
  obtain ⟨y, h1, h2⟩ := fewQ_at h
  have h1' := h1
  rw [Lv_front] at h1
  obtain ⟨i, d, es, g1, g2, g3, g4⟩ := greedy_list pr n x y _ _ h1
  have low : ∀ d ∈ allD x, ∀ m, m < n → (Lv (nx x d) m).find? (isP pr) = none := fun d hd m hm => by
    by_cases e : (Lv (nx x d) m).find? (isP pr) = none
    · exact e
    · exact absurd (h2 (m + 1) (by omega)) (Lv_has_succ hd e)
  have hd : d ∈ allD x := List.mem_of_getElem? g1
  have hfd := fewQ_is (hall d hd) (show (Lv (nx x d) n).find? (isP pr) ≠ none by rw [g4]; simp) (low d hd)
  obtain ⟨y2, k1, _⟩ := fewQ_at hfd
  rw [g4] at k1
  injection k1 with k1
  injection k1 with _ k1
  refine ⟨i, d, g1, hfd, by rw [g3, k1], fun j e hj he hfe => ?_⟩
  obtain ⟨y3, k3, _⟩ := fewQ_at hfe
  rw [g2 j e hj he] at k3
  cases k3

/-! ### how many -/
def numD (zs : List Int) : Nat := zs.foldl (fun n x => n * 41 + x.toNat) 0
theorem foldl_num : ∀ (zs : List Int) (a : Nat), (∀ x ∈ zs, 0 ≤ x ∧ x ≤ 40) → zs.foldl (fun n x => n * 41 + x.toNat) a < (a + 1) * 41 ^ zs.length
  | [], a, _ => by simp
  | z :: zs, a, h => by
    have h1 := h z (List.mem_cons_self ..)
    have ih := foldl_num zs (a * 41 + z.toNat) fun x hx => h x (List.mem_cons_of_mem _ hx)
    rw [List.foldl_cons, List.length_cons, Nat.pow_succ]
    refine Nat.lt_of_lt_of_le ih ?_
    rw [show (a + 1) * (41 ^ zs.length * 41) = (a + 1) * 41 * 41 ^ zs.length by rw [Nat.mul_assoc, Nat.mul_comm (41 ^ zs.length) 41]]
    exact Nat.mul_le_mul_right _ (by omega)
theorem numD_lt {zs : List Int} (h : ∀ x ∈ zs, 0 ≤ x ∧ x ≤ 40) : numD zs < 41 ^ zs.length := by unfold numD; have := foldl_num zs 0 h; simpa using this
theorem foldl_inj : ∀ (xs ys : List Int) (a b : Nat), xs.length = ys.length → (∀ x ∈ xs, 0 ≤ x ∧ x ≤ 40) → (∀ x ∈ ys, 0 ≤ x ∧ x ≤ 40) →
    xs.foldl (fun n x => n * 41 + x.toNat) a = ys.foldl (fun n x => n * 41 + x.toNat) b → a = b ∧ xs = ys
  | [], [], a, b, _, _, _, h => ⟨h, rfl⟩
  | x :: xs, y :: ys, a, b, hl, hx, hy, h => by
    obtain ⟨h1, h2⟩ := foldl_inj xs ys _ _ (by simpa using hl) (fun z hz => hx z (List.mem_cons_of_mem _ hz)) (fun z hz => hy z (List.mem_cons_of_mem _ hz)) h
    have a1 := hx x (List.mem_cons_self ..)
    have b1 := hy y (List.mem_cons_self ..)
    have h1' : a * 41 + x.toNat = b * 41 + y.toNat := h1
    have e : x = y := by omega
    exact ⟨by omega, by rw [e, h2]⟩
  | [], _ :: _, _, _, hl, _, _, _ => by simp at hl
  | _ :: _, [], _, _, hl, _, _, _ => by simp at hl
theorem numD_inj {xs ys : List Int} (hl : xs.length = ys.length) (hx : ∀ x ∈ xs, 0 ≤ x ∧ x ≤ 40) (hy : ∀ x ∈ ys, 0 ≤ x ∧ x ≤ 40) (h : numD xs = numD ys) : xs = ys := (foldl_inj xs ys 0 0 hl hx hy h).2
theorem small_all {zs : List Int} (h : small zs) : ∀ x ∈ zs, 0 ≤ x ∧ x ≤ 40 := fun x hx => by
  obtain ⟨k, hk, rfl⟩ := List.getElem_of_mem hx
  exact small_get h k hk
theorem filter_count (n : Nat) : ∀ l : List Nat, l.length = (l.filter fun x => x != n).length + l.count n
  | [] => rfl
  | x :: l => by
    have ih := filter_count n l
    by_cases e : x = n
    · subst e; simp [List.filter_cons, List.count_cons]; omega
    · simp [List.filter_cons, List.count_cons, e]; omega
theorem nodup_small : ∀ (n : Nat) (l : List Nat), l.Nodup → (∀ x ∈ l, x < n) → l.length ≤ n
  | 0, [], _, _ => Nat.le_refl _
  | 0, x :: _, _, h => absurd (h x (List.mem_cons_self ..)) (by omega)
  | n + 1, l, hd, h => by
    have h1 := nodup_small n (l.filter fun x => x != n) (hd.filter _) fun x hx => by
      obtain ⟨a, b⟩ := List.mem_filter.1 hx
      have := h x a
      have : x ≠ n := by simpa using b
      omega
    have hc : l.count n ≤ 1 := List.nodup_iff_count.1 hd n
    have := filter_count n l
    omega
end Go.Proofs.Ytnakkmmmkbjfbaa

/-
  THE SEARCH BY DOUBLINGS, plainly: what is kept along the queue. No program is named here.
-/
namespace Go.Proofs.Ytnakkmmmkbjfbaa

theorem innD_can (zs : List Int) (f : Nat) : ∀ (j : Nat) (d : Db), d ∈ innD zs f j → canD zs d.x0 d.x1 = true
  | 0, d, h => by simp [innD] at h
  | j + 1, d, h => by
    rw [innD, List.mem_append] at h
    rcases h with h | h
    · exact innD_can zs f j d h
    · split at h
      · rename_i hc; simp at h; subst h; exact hc
      · simp at h
theorem outD_can (zs : List Int) : ∀ (k : Nat) (d : Db), d ∈ outD zs k → canD zs d.x0 d.x1 = true
  | 0, d, h => by simp [outD] at h
  | k + 1, d, h => by
    rw [outD, List.mem_append] at h
    rcases h with h | h
    · exact outD_can zs k d h
    · exact innD_can zs k _ d h
theorem allD_can {zs : List Int} {d : Db} (h : d ∈ allD zs) : canD zs d.x0 d.x1 = true := outD_can zs _ d h
/-- A doubling that can be made, by its two places. -/
theorem allD_ix {zs : List Int} {d : Db} (h : d ∈ allD zs) : ∃ i j : Nat, d = ⟨(i : Int), (j : Int)⟩ ∧ i < zs.length ∧ j < zs.length ∧ i ≠ j ∧ 0 < zs.getD j 0 ∧ zs.getD j 0 ≤ zs.getD i 0 ∧ nx zs d = dmade i j zs := by
  obtain ⟨i, j, h1, h2, hi, hj, h3, h4, h5⟩ := canD_ix (allD_can h)
  refine ⟨i, j, ?_, hi, hj, h3, by rw [getD_get hj]; exact h4, by rw [getD_get hj, getD_get hi]; exact h5, ?_⟩
  · cases d; simp only at h1 h2; rw [h1, h2]
  · unfold nx; rw [h1, h2]; rfl
theorem nx_small {zs : List Int} {d : Db} (hs : small zs) (h : d ∈ allD zs) : small (nx zs d) ∧ (nx zs d).length = zs.length ∧ (nx zs d).sum = zs.sum := by
  obtain ⟨i, j, _, hi, hj, hij, _, hle, e⟩ := allD_ix h
  rw [e]
  exact ⟨dmade_small hs hi hj hij (by rw [getD_get hj, getD_get hi] at hle; exact hle), dmade_length i j zs, dmade_sum hi hj hij⟩

/-- What is kept along the queue. -/
structure QOk (zs : List Int) (Q : List StP) : Prop where
  nodup : (Q.map Prod.fst).Nodup
  state : ∀ p ∈ Q, small p.1 ∧ p.1.length = zs.length ∧ p.1.sum = zs.sum
  from_ : ∀ p ∈ Q, p = (zs, []) ∨ ∃ q ∈ Q, ∃ d ∈ allD q.1, p = (nx q.1 d, q.2 ++ [d])
theorem Qn_ok {zs : List Int} (hs : small zs) : ∀ k, QOk zs (Qn zs k)
  | 0 => ⟨by simp [Qn], fun p hp => by simp [Qn] at hp; subst hp; exact ⟨hs, rfl, rfl⟩, fun p hp => by simp [Qn] at hp; exact .inl hp⟩
  | k + 1 => by
    have ih := Qn_ok hs k
    cases h : (Qn zs k)[k]? with
    | none => rw [Qn_none h]; exact ih
    | some p =>
      rw [Qn_some h]
      have hp : p ∈ Qn zs k := List.mem_of_getElem? h
      refine ⟨?_, fun q hq => ?_, fun q hq => ?_⟩
      · rw [List.map_append, List.nodup_append]
        refine ⟨ih.nodup, ddN_nodup _ _, fun x hx y hy e => ?_⟩
        subst e
        obtain ⟨q, hq, rfl⟩ := List.mem_map.1 hy
        exact (ddN_sub _ _ q hq).2 hx
      · rcases List.mem_append.1 hq with hq | hq
        · exact ih.state q hq
        · obtain ⟨d, hd, rfl⟩ := List.mem_map.1 (ddN_sub _ _ q hq).1
          obtain ⟨a, b, c⟩ := nx_small (ih.state p hp).1 hd
          exact ⟨a, by rw [b]; exact (ih.state p hp).2.1, by rw [c]; exact (ih.state p hp).2.2⟩
      · rcases List.mem_append.1 hq with hq | hq
        · rcases ih.from_ q hq with h1 | ⟨r, hr, d, hd, e⟩
          · exact .inl h1
          · exact .inr ⟨r, List.mem_append_left _ hr, d, hd, e⟩
        · obtain ⟨d, hd, rfl⟩ := List.mem_map.1 (ddN_sub _ _ q hq).1
          exact .inr ⟨p, List.mem_append_left _ hp, d, hd, rfl⟩
theorem heads_inj {x y : List Int} {n : Nat} (hx : x.length = n + 1) (hy : y.length = n + 1) (hs : x.sum = y.sum) (h : x.take n = y.take n) : x = y := by
  have ex : x = x.take n ++ [x.getD n 0] := by
    rw [show x.getD n 0 = x[n]'(by omega) from by simp [List.getD, show n < x.length by omega], ← List.take_succ_eq_append_getElem (by omega), List.take_of_length_le (by omega)]
  have ey : y = y.take n ++ [y.getD n 0] := by
    rw [show y.getD n 0 = y[n]'(by omega) from by simp [List.getD, show n < y.length by omega], ← List.take_succ_eq_append_getElem (by omega), List.take_of_length_le (by omega)]
  rw [ex, ey, List.sum_append, List.sum_append, h] at hs
  have : x.getD n 0 = y.getD n 0 := by simpa using hs
  rw [ex, ey, h, this]
theorem nodup_nums {zs : List Int} {n : Nat} : ∀ (L : List (List Int)), L.Nodup → (∀ x ∈ L, small x ∧ x.length = n + 1 ∧ x.sum = zs.sum) → (L.map fun x => numD (x.take n)).Nodup
  | [], _, _ => by simp
  | x :: L, hd, h => by
    rw [List.nodup_cons] at hd
    rw [List.map_cons, List.nodup_cons]
    refine ⟨fun e => ?_, nodup_nums L hd.2 fun y hy => h y (List.mem_cons_of_mem _ hy)⟩
    obtain ⟨y, hy, e⟩ := List.mem_map.1 e
    have hx := h x (List.mem_cons_self ..)
    have hy' := h y (List.mem_cons_of_mem _ hy)
    have he : y.take n = x.take n := numD_inj (by rw [List.length_take, List.length_take]; omega) (fun z hz => small_all hy'.1 z (List.mem_of_mem_take hz)) (fun z hz => small_all hx.1 z (List.mem_of_mem_take hz)) e
    have : y = x := heads_inj hy'.2.1 hx.2.1 (by rw [hy'.2.2, hx.2.2]) he
    exact hd.1 (this ▸ hy)
theorem Qn_len {zs : List Int} (hs : small zs) (h1 : 1 ≤ zs.length) (h4 : zs.length ≤ 4) (k : Nat) : (Qn zs k).length ≤ 68921 := by
  have ok := Qn_ok hs k
  obtain ⟨n, hn⟩ : ∃ n, zs.length = n + 1 := ⟨zs.length - 1, by omega⟩
  have hst : ∀ x ∈ (Qn zs k).map Prod.fst, small x ∧ x.length = n + 1 ∧ x.sum = zs.sum := fun x hx => by
    obtain ⟨p, hp, rfl⟩ := List.mem_map.1 hx
    rw [← hn]
    exact ok.state p hp
  have h41 : 41 ^ n ≤ 68921 := Nat.le_trans (Nat.pow_le_pow_right (by omega) (show n ≤ 3 by omega)) (by decide)
  have := nodup_small (41 ^ n) (((Qn zs k).map Prod.fst).map fun x => numD (x.take n)) (nodup_nums _ ok.nodup hst) fun m hm => by
    obtain ⟨x, hx, rfl⟩ := List.mem_map.1 hm
    have h := hst x hx
    have := numD_lt (zs := x.take n) (fun z hz => small_all h.1 z (List.mem_of_mem_take hz))
    rwa [List.length_take, h.2.1, Nat.min_eq_left (by omega)] at this
  rw [List.length_map, List.length_map] at this
  omega
theorem Qf_none {zs : List Int} (hs : small zs) (h1 : 1 ≤ zs.length) (h4 : zs.length ≤ 4) : (Qn zs BIGN)[BIGN]? = none :=
  List.getElem?_eq_none_iff.2 (Nat.le_trans (Qn_len hs h1 h4 _) (by rw [BIGN_eq]; omega))
theorem Qn_Qf {zs : List Int} (hs : small zs) (h1 : 1 ≤ zs.length) (h4 : zs.length ≤ 4) (k : Nat) : Qn zs k <+: Qf zs := by
  by_cases h : k ≤ BIGN
  · have := Qn_pre zs k (BIGN - k)
    rwa [show k + (BIGN - k) = BIGN by omega] at this
  · have := Qn_stay (Qf_none hs h1 h4) (k - BIGN)
    rw [show BIGN + (k - BIGN) = k by omega] at this
    rw [this]; exact List.prefix_rfl
theorem Qf_at {zs : List Int} (hs : small zs) (h1 : 1 ≤ zs.length) (h4 : zs.length ≤ 4) {k : Nat} (h : (Qn zs k)[k]? = none) : Qn zs k = Qf zs := by
  by_cases hk : k ≤ BIGN
  · have := Qn_stay h (BIGN - k)
    rw [show k + (BIGN - k) = BIGN by omega] at this
    exact this.symm
  · have := Qn_stay (Qf_none hs h1 h4) (k - BIGN)
    rwa [show BIGN + (k - BIGN) = k by omega] at this
theorem Fn_Qf {zs : List Int} (hs : small zs) (h1 : 1 ≤ zs.length) (h4 : zs.length ≤ 4) (n : Nat) : (Fn zs n).2 <+: Qf zs := by rw [← (Qn_level zs n).1]; exact Qn_Qf hs h1 h4 _
/-- The search stops at the first one of the kind. -/
theorem stop_at {zs : List Int} (hs : small zs) (h1 : 1 ≤ zs.length) (h4 : zs.length ≤ 4) {pr : List Int → Bool} {k : Nat} {p : StP} (hp : (Qn zs k)[k]? = some p) (hpr : pr p.1 = true)
    (hno : ∀ (j : Nat) (q : StP), j < k → (Qn zs k)[j]? = some q → pr q.1 = false) : (Qf zs).find? (isP pr) = some p := by
  obtain ⟨t, ht⟩ := Qn_Qf hs h1 h4 k
  obtain ⟨hk, e⟩ := List.getElem?_eq_some_iff.1 hp
  have hd : Qn zs k = (Qn zs k).take k ++ p :: (Qn zs k).drop (k + 1) := by
    rw [← e, ← List.drop_eq_getElem_cons hk, List.take_append_drop]
  rw [← ht, hd, List.append_assoc, List.find?_append, none_find (fun q hq => ?_), Option.none_or]
  · rw [List.cons_append, List.find?_cons]
    simp [isP, hpr]
  · obtain ⟨j, hj, rfl⟩ := List.getElem_of_mem hq
    rw [List.length_take] at hj
    exact hno j _ (by omega) (by rw [List.getElem_take]; exact List.getElem?_eq_getElem (by omega))
theorem stop_none {zs : List Int} (hs : small zs) (h1 : 1 ≤ zs.length) (h4 : zs.length ≤ 4) {pr : List Int → Bool} {k : Nat} (h : (Qn zs k)[k]? = none)
    (hno : ∀ (j : Nat) (q : StP), j < k → (Qn zs k)[j]? = some q → pr q.1 = false) : (Qf zs).find? (isP pr) = none := by
  rw [← Qf_at hs h1 h4 h]
  refine none_find fun q hq => ?_
  obtain ⟨j, hj, rfl⟩ := List.getElem_of_mem hq
  have := List.getElem?_eq_none_iff.1 h
  exact hno j _ (by omega) (List.getElem?_eq_getElem hj)
/-- The queue within a step: the first i doublings taken. -/
def Qi (zs : List Int) (k : Nat) (p : StP) (i : Nat) : List StP := Qn zs k ++ ddN ((Qn zs k).map Prod.fst) ((extD p).take i)
theorem Qi_zero (zs : List Int) (k : Nat) (p : StP) : Qi zs k p 0 = Qn zs k := by simp [Qi, ddN]
theorem extD_len (p : StP) : (extD p).length = (allD p.1).length := by simp [extD]
theorem Qi_end {zs : List Int} {k : Nat} {p : StP} (h : (Qn zs k)[k]? = some p) : Qi zs k p (allD p.1).length = Qn zs (k + 1) := by
  rw [Qi, List.take_of_length_le (by rw [extD_len]; exact Nat.le_refl _), Qn_some h]
theorem Qi_pre {zs : List Int} {k : Nat} {p : StP} (h : (Qn zs k)[k]? = some p) (i : Nat) : Qi zs k p i <+: Qn zs (k + 1) := by
  rw [Qn_some h, Qi]
  have := ddN_append ((extD p).take i) ((extD p).drop i) ((Qn zs k).map Prod.fst)
  rw [List.take_append_drop] at this
  rw [this, ← List.append_assoc]
  exact List.prefix_append _ _
theorem Qi_at {zs : List Int} {k : Nat} {p : StP} (h : (Qn zs k)[k]? = some p) (i : Nat) : (Qi zs k p i)[k]? = some p := by
  rw [Qi, List.getElem?_append_left (List.getElem?_eq_some_iff.1 h).1, h]
theorem Qi_succ {zs : List Int} {k : Nat} {p : StP} {i : Nat} {d : Db} (hd : (allD p.1)[i]? = some d) :
    Qi zs k p (i + 1) = if nx p.1 d ∈ (Qi zs k p i).map Prod.fst then Qi zs k p i else Qi zs k p i ++ [(nx p.1 d, p.2 ++ [d])] := by
  obtain ⟨hi, hd⟩ := List.getElem?_eq_some_iff.1 hd
  have ht : (extD p).take (i + 1) = (extD p).take i ++ [(nx p.1 d, p.2 ++ [d])] := by
    rw [List.take_succ_eq_append_getElem (by rw [extD_len]; exact hi)]
    simp [extD, hd]
  have hc : ddN ((ddN ((Qn zs k).map Prod.fst) ((extD p).take i)).map Prod.fst ++ (Qn zs k).map Prod.fst) [(nx p.1 d, p.2 ++ [d])] = ddN ((Qi zs k p i).map Prod.fst) [(nx p.1 d, p.2 ++ [d])] := by
    refine ddN_congr _ _ _ fun x => ?_
    rw [Qi, List.map_append, List.mem_append, List.mem_append]
    exact Or.comm
  rw [Qi, ht, ddN_append, hc, ← List.append_assoc]
  show Qi zs k p i ++ _ = _
  by_cases h : nx p.1 d ∈ (Qi zs k p i).map Prod.fst
  · rw [if_pos h, ddN_in h, ddN, List.append_nil]
  · rw [if_neg h, ddN_new h, ddN]
theorem Qi_state {zs : List Int} (hs : small zs) {k : Nat} {p : StP} (h : (Qn zs k)[k]? = some p) (i : Nat) : ∀ q ∈ Qi zs k p i, small q.1 ∧ q.1.length = zs.length ∧ q.1.sum = zs.sum :=
  fun q hq => (Qn_ok hs (k + 1)).state q ((Qi_pre h i).subset hq)
theorem Qi_len {zs : List Int} (hs : small zs) (h1 : 1 ≤ zs.length) (h4 : zs.length ≤ 4) {k : Nat} {p : StP} (h : (Qn zs k)[k]? = some p) (i : Nat) : (Qi zs k p i).length ≤ 68921 :=
  Nat.le_trans (Qi_pre h i).length_le (Qn_len hs h1 h4 (k + 1))
def numsOf (Q : List StP) : List Nat := Q.map fun p => numD p.1
theorem numsOf_mem {zs : List Int} {Q : List StP} (hQ : ∀ q ∈ Q, small q.1 ∧ q.1.length = zs.length ∧ q.1.sum = zs.sum) {y : List Int} (hy : small y ∧ y.length = zs.length ∧ y.sum = zs.sum) : numD y ∈ numsOf Q ↔ y ∈ Q.map Prod.fst := by
  unfold numsOf
  rw [List.mem_map, List.mem_map]
  constructor
  · rintro ⟨q, hq, e⟩
    exact ⟨q, hq, numD_inj (by rw [(hQ q hq).2.1, hy.2.1]) (small_all (hQ q hq).1) (small_all hy.1) e⟩
  · rintro ⟨q, hq, rfl⟩
    exact ⟨q, hq, rfl⟩
theorem Qn_plen (zs : List Int) : ∀ (k i : Nat) (p : StP), (Qn zs k)[i]? = some p → p.2.length ≤ i
  | 0, i, p, h => by
    cases i with
    | zero => simp [Qn] at h; subst h; exact Nat.le_refl _
    | succ i => simp [Qn] at h
  | k + 1, i, p, h => by
    cases hk : (Qn zs k)[k]? with
    | none => rw [Qn_none hk] at h; exact Qn_plen zs k i p h
    | some q =>
      rw [Qn_some hk] at h
      have hkl := (List.getElem?_eq_some_iff.1 hk).1
      by_cases hi : i < (Qn zs k).length
      · rw [List.getElem?_append_left hi] at h; exact Qn_plen zs k i p h
      · rw [List.getElem?_append_right (by omega)] at h
        obtain ⟨d, _, rfl⟩ := List.mem_map.1 (ddN_sub _ _ p (List.mem_of_getElem? h)).1
        have := Qn_plen zs k k q hk
        simp
        omega
/-- The row before a doubling. -/
theorem halved_back {zs : List Int} {i j : Nat} (hi : i < zs.length) (hj : j < zs.length) (hij : i ≠ j) :
    ((dmade i j zs).set j ((dmade i j zs).getD j 0 / 2)).set i (((dmade i j zs).set j ((dmade i j zs).getD j 0 / 2)).getD i 0 + ((dmade i j zs).set j ((dmade i j zs).getD j 0 / 2)).getD j 0) = zs := by
  have e1 : (dmade i j zs).getD j 0 / 2 = zs.getD j 0 := by
    unfold dmade
    rw [getD_get (by simpa using hj)]
    simp
  rw [e1]
  have e2 : (dmade i j zs).set j (zs.getD j 0) = zs.set i (zs.getD i 0 - zs.getD j 0) := by
    unfold dmade
    rw [List.set_set]
    apply List.ext_getElem
    · simp
    · intro k h1 h2
      by_cases e : j = k
      · subst e; simp [List.getElem_set, hij, List.getD, hj]
      · simp [List.getElem_set, e]
  rw [e2]
  have e3 : (zs.set i (zs.getD i 0 - zs.getD j 0)).getD i 0 = zs.getD i 0 - zs.getD j 0 := by simp [List.getD, hi]
  have e4 : (zs.set i (zs.getD i 0 - zs.getD j 0)).getD j 0 = zs.getD j 0 := by simp [List.getD, List.getElem?_set_ne hij]
  rw [e3, e4, List.set_set, show zs.getD i 0 - zs.getD j 0 + zs.getD j 0 = zs.getD i 0 by omega, getD_get hi, List.set_getElem_self]
end Go.Proofs.Ytnakkmmmkbjfbaa
