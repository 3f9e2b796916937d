
/-
  THE SEARCH BY DOUBLINGS, plainly: what is kept along the queue. No program is named here.
-/
import Derived.Test.YtnakkmmmkbjfbaaSeQ
namespace Go.Proofs.Ytnakkmmmkbjfbaa

theorem innD_can (zs : List Int) (f : Nat) : ∀ (j : Nat) (d : Db), d ∈ innD zs f j → canD zs d.x0 d.x1 = true
  | 0, d, h => by simp [innD] at h
  | j + 1, d, h => by
    rw [innD, List.mem_append] at h
    rcases h with h | h
    · exact innD_can zs f j d h
    · split at h
      · rename_i hc; simp at h; subst h; exact hc
      · simp at h
theorem outD_can (zs : List Int) : ∀ (k : Nat) (d : Db), d ∈ outD zs k → canD zs d.x0 d.x1 = true
  | 0, d, h => by simp [outD] at h
  | k + 1, d, h => by
    rw [outD, List.mem_append] at h
    rcases h with h | h
    · exact outD_can zs k d h
    · exact innD_can zs k _ d h
theorem allD_can {zs : List Int} {d : Db} (h : d ∈ allD zs) : canD zs d.x0 d.x1 = true := outD_can zs _ d h
/-- A doubling that can be made, by its two places. -/
theorem allD_ix {zs : List Int} {d : Db} (h : d ∈ allD zs) : ∃ i j : Nat, d = ⟨(i : Int), (j : Int)⟩ ∧ i < zs.length ∧ j < zs.length ∧ i ≠ j ∧ 0 < zs.getD j 0 ∧ zs.getD j 0 ≤ zs.getD i 0 ∧ nx zs d = dmade i j zs := by
  obtain ⟨i, j, h1, h2, hi, hj, h3, h4, h5⟩ := canD_ix (allD_can h)
  refine ⟨i, j, ?_, hi, hj, h3, by rw [getD_get hj]; exact h4, by rw [getD_get hj, getD_get hi]; exact h5, ?_⟩
  · cases d; simp only at h1 h2; rw [h1, h2]
  · unfold nx; rw [h1, h2]; rfl
theorem nx_small {zs : List Int} {d : Db} (hs : small zs) (h : d ∈ allD zs) : small (nx zs d) ∧ (nx zs d).length = zs.length ∧ (nx zs d).sum = zs.sum := by
  obtain ⟨i, j, _, hi, hj, hij, _, hle, e⟩ := allD_ix h
  rw [e]
  exact ⟨dmade_small hs hi hj hij (by rw [getD_get hj, getD_get hi] at hle; exact hle), dmade_length i j zs, dmade_sum hi hj hij⟩

/-- What is kept along the queue. -/
structure QOk (zs : List Int) (Q : List StP) : Prop where
  nodup : (Q.map Prod.fst).Nodup
  state : ∀ p ∈ Q, small p.1 ∧ p.1.length = zs.length ∧ p.1.sum = zs.sum
  from_ : ∀ p ∈ Q, p = (zs, []) ∨ ∃ q ∈ Q, ∃ d ∈ allD q.1, p = (nx q.1 d, q.2 ++ [d])
theorem Qn_ok {zs : List Int} (hs : small zs) : ∀ k, QOk zs (Qn zs k)
  | 0 => ⟨by simp [Qn], fun p hp => by simp [Qn] at hp; subst hp; exact ⟨hs, rfl, rfl⟩, fun p hp => by simp [Qn] at hp; exact .inl hp⟩
  | k + 1 => by
    have ih := Qn_ok hs k
    cases h : (Qn zs k)[k]? with
    | none => rw [Qn_none h]; exact ih
    | some p =>
      rw [Qn_some h]
      have hp : p ∈ Qn zs k := List.mem_of_getElem? h
      refine ⟨?_, fun q hq => ?_, fun q hq => ?_⟩
      · rw [List.map_append, List.nodup_append]
        refine ⟨ih.nodup, ddN_nodup _ _, fun x hx y hy e => ?_⟩
        subst e
        obtain ⟨q, hq, rfl⟩ := List.mem_map.1 hy
        exact (ddN_sub _ _ q hq).2 hx
      · rcases List.mem_append.1 hq with hq | hq
        · exact ih.state q hq
        · obtain ⟨d, hd, rfl⟩ := List.mem_map.1 (ddN_sub _ _ q hq).1
          obtain ⟨a, b, c⟩ := nx_small (ih.state p hp).1 hd
          exact ⟨a, by rw [b]; exact (ih.state p hp).2.1, by rw [c]; exact (ih.state p hp).2.2⟩
      · rcases List.mem_append.1 hq with hq | hq
        · rcases ih.from_ q hq with h1 | ⟨r, hr, d, hd, e⟩
          · exact .inl h1
          · exact .inr ⟨r, List.mem_append_left _ hr, d, hd, e⟩
        · obtain ⟨d, hd, rfl⟩ := List.mem_map.1 (ddN_sub _ _ q hq).1
          exact .inr ⟨p, List.mem_append_left _ hp, d, hd, rfl⟩
theorem heads_inj {x y : List Int} {n : Nat} (hx : x.length = n + 1) (hy : y.length = n + 1) (hs : x.sum = y.sum) (h : x.take n = y.take n) : x = y := by
  have ex : x = x.take n ++ [x.getD n 0] := by
    rw [show x.getD n 0 = x[n]'(by omega) from by simp [List.getD, show n < x.length by omega], ← List.take_succ_eq_append_getElem (by omega), List.take_of_length_le (by omega)]
  have ey : y = y.take n ++ [y.getD n 0] := by
    rw [show y.getD n 0 = y[n]'(by omega) from by simp [List.getD, show n < y.length by omega], ← List.take_succ_eq_append_getElem (by omega), List.take_of_length_le (by omega)]
  rw [ex, ey, List.sum_append, List.sum_append, h] at hs
  have : x.getD n 0 = y.getD n 0 := by simpa using hs
  rw [ex, ey, h, this]
theorem nodup_nums {zs : List Int} {n : Nat} : ∀ (L : List (List Int)), L.Nodup → (∀ x ∈ L, small x ∧ x.length = n + 1 ∧ x.sum = zs.sum) → (L.map fun x => numD (x.take n)).Nodup
  | [], _, _ => by simp
  | x :: L, hd, h => by
    rw [List.nodup_cons] at hd
    rw [List.map_cons, List.nodup_cons]
    refine ⟨fun e => ?_, nodup_nums L hd.2 fun y hy => h y (List.mem_cons_of_mem _ hy)⟩
    obtain ⟨y, hy, e⟩ := List.mem_map.1 e
    have hx := h x (List.mem_cons_self ..)
    have hy' := h y (List.mem_cons_of_mem _ hy)
    have he : y.take n = x.take n := numD_inj (by rw [List.length_take, List.length_take]; omega) (fun z hz => small_all hy'.1 z (List.mem_of_mem_take hz)) (fun z hz => small_all hx.1 z (List.mem_of_mem_take hz)) e
    have : y = x := heads_inj hy'.2.1 hx.2.1 (by rw [hy'.2.2, hx.2.2]) he
    exact hd.1 (this ▸ hy)
theorem Qn_len {zs : List Int} (hs : small zs) (h1 : 1 ≤ zs.length) (h4 : zs.length ≤ 4) (k : Nat) : (Qn zs k).length ≤ 68921 := by
  have ok := Qn_ok hs k
  obtain ⟨n, hn⟩ : ∃ n, zs.length = n + 1 := ⟨zs.length - 1, by omega⟩
  have hst : ∀ x ∈ (Qn zs k).map Prod.fst, small x ∧ x.length = n + 1 ∧ x.sum = zs.sum := fun x hx => by
    obtain ⟨p, hp, rfl⟩ := List.mem_map.1 hx
    rw [← hn]
    exact ok.state p hp
  have h41 : 41 ^ n ≤ 68921 := Nat.le_trans (Nat.pow_le_pow_right (by omega) (show n ≤ 3 by omega)) (by decide)
  have := nodup_small (41 ^ n) (((Qn zs k).map Prod.fst).map fun x => numD (x.take n)) (nodup_nums _ ok.nodup hst) fun m hm => by
    obtain ⟨x, hx, rfl⟩ := List.mem_map.1 hm
    have h := hst x hx
    have := numD_lt (zs := x.take n) (fun z hz => small_all h.1 z (List.mem_of_mem_take hz))
    rwa [List.length_take, h.2.1, Nat.min_eq_left (by omega)] at this
  rw [List.length_map, List.length_map] at this
  omega
theorem Qf_none {zs : List Int} (hs : small zs) (h1 : 1 ≤ zs.length) (h4 : zs.length ≤ 4) : (Qn zs BIGN)[BIGN]? = none :=
  List.getElem?_eq_none_iff.2 (Nat.le_trans (Qn_len hs h1 h4 _) (by rw [BIGN_eq]; omega))
theorem Qn_Qf {zs : List Int} (hs : small zs) (h1 : 1 ≤ zs.length) (h4 : zs.length ≤ 4) (k : Nat) : Qn zs k <+: Qf zs := by
  by_cases h : k ≤ BIGN
  · have := Qn_pre zs k (BIGN - k)
    rwa [show k + (BIGN - k) = BIGN by omega] at this
  · have := Qn_stay (Qf_none hs h1 h4) (k - BIGN)
    rw [show BIGN + (k - BIGN) = k by omega] at this
    rw [this]; exact List.prefix_rfl
theorem Qf_at {zs : List Int} (hs : small zs) (h1 : 1 ≤ zs.length) (h4 : zs.length ≤ 4) {k : Nat} (h : (Qn zs k)[k]? = none) : Qn zs k = Qf zs := by
  by_cases hk : k ≤ BIGN
  · have := Qn_stay h (BIGN - k)
    rw [show k + (BIGN - k) = BIGN by omega] at this
    exact this.symm
  · have := Qn_stay (Qf_none hs h1 h4) (k - BIGN)
    rwa [show BIGN + (k - BIGN) = k by omega] at this
theorem Fn_Qf {zs : List Int} (hs : small zs) (h1 : 1 ≤ zs.length) (h4 : zs.length ≤ 4) (n : Nat) : (Fn zs n).2 <+: Qf zs := by rw [← (Qn_level zs n).1]; exact Qn_Qf hs h1 h4 _
/-- The search stops at the first one of the kind. -/
theorem stop_at {zs : List Int} (hs : small zs) (h1 : 1 ≤ zs.length) (h4 : zs.length ≤ 4) {pr : List Int → Bool} {k : Nat} {p : StP} (hp : (Qn zs k)[k]? = some p) (hpr : pr p.1 = true)
    (hno : ∀ (j : Nat) (q : StP), j < k → (Qn zs k)[j]? = some q → pr q.1 = false) : (Qf zs).find? (isP pr) = some p := by
  obtain ⟨t, ht⟩ := Qn_Qf hs h1 h4 k
  obtain ⟨hk, e⟩ := List.getElem?_eq_some_iff.1 hp
  have hd : Qn zs k = (Qn zs k).take k ++ p :: (Qn zs k).drop (k + 1) := by
    rw [← e, ← List.drop_eq_getElem_cons hk, List.take_append_drop]
  rw [← ht, hd, List.append_assoc, List.find?_append, none_find (fun q hq => ?_), Option.none_or]
  · rw [List.cons_append, List.find?_cons]
    simp [isP, hpr]
  · obtain ⟨j, hj, rfl⟩ := List.getElem_of_mem hq
    rw [List.length_take] at hj
    exact hno j _ (by omega) (by rw [List.getElem_take]; exact List.getElem?_eq_getElem (by omega))
theorem stop_none {zs : List Int} (hs : small zs) (h1 : 1 ≤ zs.length) (h4 : zs.length ≤ 4) {pr : List Int → Bool} {k : Nat} (h : (Qn zs k)[k]? = none)
    (hno : ∀ (j : Nat) (q : StP), j < k → (Qn zs k)[j]? = some q → pr q.1 = false) : (Qf zs).find? (isP pr) = none := by
  rw [← Qf_at hs h1 h4 h]
  refine none_find fun q hq => ?_
  obtain ⟨j, hj, rfl⟩ := List.getElem_of_mem hq
  have := List.getElem?_eq_none_iff.1 h
  exact hno j _ (by omega) (List.getElem?_eq_getElem hj)
/-- The queue within a step: the first i doublings taken. -/
def Qi (zs : List Int) (k : Nat) (p : StP) (i : Nat) : List StP := Qn zs k ++ ddN ((Qn zs k).map Prod.fst) ((extD p).take i)
theorem Qi_zero (zs : List Int) (k : Nat) (p : StP) : Qi zs k p 0 = Qn zs k := by simp [Qi, ddN]
theorem extD_len (p : StP) : (extD p).length = (allD p.1).length := by simp [extD]
theorem Qi_end {zs : List Int} {k : Nat} {p : StP} (h : (Qn zs k)[k]? = some p) : Qi zs k p (allD p.1).length = Qn zs (k + 1) := by
  rw [Qi, List.take_of_length_le (by rw [extD_len]; exact Nat.le_refl _), Qn_some h]
theorem Qi_pre {zs : List Int} {k : Nat} {p : StP} (h : (Qn zs k)[k]? = some p) (i : Nat) : Qi zs k p i <+: Qn zs (k + 1) := by
  rw [Qn_some h, Qi]
  have := ddN_append ((extD p).take i) ((extD p).drop i) ((Qn zs k).map Prod.fst)
  rw [List.take_append_drop] at this
  rw [this, ← List.append_assoc]
  exact List.prefix_append _ _
theorem Qi_at {zs : List Int} {k : Nat} {p : StP} (h : (Qn zs k)[k]? = some p) (i : Nat) : (Qi zs k p i)[k]? = some p := by
  rw [Qi, List.getElem?_append_left (List.getElem?_eq_some_iff.1 h).1, h]
theorem Qi_succ {zs : List Int} {k : Nat} {p : StP} {i : Nat} {d : Db} (hd : (allD p.1)[i]? = some d) :
    Qi zs k p (i + 1) = if nx p.1 d ∈ (Qi zs k p i).map Prod.fst then Qi zs k p i else Qi zs k p i ++ [(nx p.1 d, p.2 ++ [d])] := by
  obtain ⟨hi, hd⟩ := List.getElem?_eq_some_iff.1 hd
  have ht : (extD p).take (i + 1) = (extD p).take i ++ [(nx p.1 d, p.2 ++ [d])] := by
    rw [List.take_succ_eq_append_getElem (by rw [extD_len]; exact hi)]
    simp [extD, hd]
  have hc : ddN ((ddN ((Qn zs k).map Prod.fst) ((extD p).take i)).map Prod.fst ++ (Qn zs k).map Prod.fst) [(nx p.1 d, p.2 ++ [d])] = ddN ((Qi zs k p i).map Prod.fst) [(nx p.1 d, p.2 ++ [d])] := by
    refine ddN_congr _ _ _ fun x => ?_
    rw [Qi, List.map_append, List.mem_append, List.mem_append]
    exact Or.comm
  rw [Qi, ht, ddN_append, hc, ← List.append_assoc]
  show Qi zs k p i ++ _ = _
  by_cases h : nx p.1 d ∈ (Qi zs k p i).map Prod.fst
  · rw [if_pos h, ddN_in h, ddN, List.append_nil]
  · rw [if_neg h, ddN_new h, ddN]
theorem Qi_state {zs : List Int} (hs : small zs) {k : Nat} {p : StP} (h : (Qn zs k)[k]? = some p) (i : Nat) : ∀ q ∈ Qi zs k p i, small q.1 ∧ q.1.length = zs.length ∧ q.1.sum = zs.sum :=
  fun q hq => (Qn_ok hs (k + 1)).state q ((Qi_pre h i).subset hq)
theorem Qi_len {zs : List Int} (hs : small zs) (h1 : 1 ≤ zs.length) (h4 : zs.length ≤ 4) {k : Nat} {p : StP} (h : (Qn zs k)[k]? = some p) (i : Nat) : (Qi zs k p i).length ≤ 68921 :=
  Nat.le_trans (Qi_pre h i).length_le (Qn_len hs h1 h4 (k + 1))
def numsOf (Q : List StP) : List Nat := Q.map fun p => numD p.1
theorem numsOf_mem {zs : List Int} {Q : List StP} (hQ : ∀ q ∈ Q, small q.1 ∧ q.1.length = zs.length ∧ q.1.sum = zs.sum) {y : List Int} (hy : small y ∧ y.length = zs.length ∧ y.sum = zs.sum) : numD y ∈ numsOf Q ↔ y ∈ Q.map Prod.fst := by
  unfold numsOf
  rw [List.mem_map, List.mem_map]
  constructor
  · rintro ⟨q, hq, e⟩
    exact ⟨q, hq, numD_inj (by rw [(hQ q hq).2.1, hy.2.1]) (small_all (hQ q hq).1) (small_all hy.1) e⟩
  · rintro ⟨q, hq, rfl⟩
    exact ⟨q, hq, rfl⟩
theorem Qn_plen (zs : List Int) : ∀ (k i : Nat) (p : StP), (Qn zs k)[i]? = some p → p.2.length ≤ i
  | 0, i, p, h => by
    cases i with
    | zero => simp [Qn] at h; subst h; exact Nat.le_refl _
    | succ i => simp [Qn] at h
  | k + 1, i, p, h => by
    cases hk : (Qn zs k)[k]? with
    | none => rw [Qn_none hk] at h; exact Qn_plen zs k i p h
    | some q =>
      rw [Qn_some hk] at h
      have hkl := (List.getElem?_eq_some_iff.1 hk).1
      by_cases hi : i < (Qn zs k).length
      · rw [List.getElem?_append_left hi] at h; exact Qn_plen zs k i p h
      · rw [List.getElem?_append_right (by omega)] at h
        obtain ⟨d, _, rfl⟩ := List.mem_map.1 (ddN_sub _ _ p (List.mem_of_getElem? h)).1
        have := Qn_plen zs k k q hk
        simp
        omega
/-- The row before a doubling. -/
theorem halved_back {zs : List Int} {i j : Nat} (hi : i < zs.length) (hj : j < zs.length) (hij : i ≠ j) :
    ((dmade i j zs).set j ((dmade i j zs).getD j 0 / 2)).set i (((dmade i j zs).set j ((dmade i j zs).getD j 0 / 2)).getD i 0 + ((dmade i j zs).set j ((dmade i j zs).getD j 0 / 2)).getD j 0) = zs := by
  have e1 : (dmade i j zs).getD j 0 / 2 = zs.getD j 0 := by
    unfold dmade
    rw [getD_get (by simpa using hj)]
    simp
  rw [e1]
  have e2 : (dmade i j zs).set j (zs.getD j 0) = zs.set i (zs.getD i 0 - zs.getD j 0) := by
    unfold dmade
    rw [List.set_set]
    apply List.ext_getElem
    · simp
    · intro k h1 h2
      by_cases e : j = k
      · subst e; simp [List.getElem_set, hij, List.getD, hj]
      · simp [List.getElem_set, e]
  rw [e2]
  have e3 : (zs.set i (zs.getD i 0 - zs.getD j 0)).getD i 0 = zs.getD i 0 - zs.getD j 0 := by simp [List.getD, hi]
  have e4 : (zs.set i (zs.getD i 0 - zs.getD j 0)).getD j 0 = zs.getD j 0 := by simp [List.getD, List.getElem?_set_ne hij]
  rw [e3, e4, List.set_set, show zs.getD i 0 - zs.getD j 0 + zs.getD j 0 = zs.getD i 0 by omega, getD_get hi, List.set_getElem_self]
end Go.Proofs.Ytnakkmmmkbjfbaa
