
/-
  THE SEARCH BY DOUBLINGS, plainly: the first one of a kind; the fewest; how it is found step by step; how many there can be. No program is named here.
-/
import Derived.Test.YtnakkmmmkbjfbaaSeP
namespace Go.Proofs.Ytnakkmmmkbjfbaa

theorem Fn_mono (zs : List Int) : ∀ {m n : Nat}, m < n → ∀ p ∈ (Fn zs m).2, p ∈ Sp zs n
  | m, 0, h, _, _ => absurd h (by omega)
  | m, n + 1, h, p, hp => by
    show p ∈ (Fn zs n).2
    by_cases e : m = n
    · subst e; exact hp
    · rw [Fn_seen]; exact List.mem_append_left _ (Fn_mono zs (show m < n by omega) p hp)
theorem Lv_len (zs : List Int) : ∀ (n : Nat) (p : StP), p ∈ Lv zs n → p.2.length = n
  | 0, p, h => by simp [Lv] at h; subst h; rfl
  | n + 1, p, h => by
    obtain ⟨q, hq, h⟩ := List.mem_flatMap.1 h
    obtain ⟨d, _, rfl⟩ := List.mem_map.1 h
    simp [Lv_len zs n q hq]
theorem ex_big : ∃ n : Nat, n = 2825761 := ⟨_, rfl⟩
noncomputable def BIGN : Nat := Classical.choose ex_big
theorem BIGN_eq : BIGN = 2825761 := Classical.choose_spec ex_big
/-- All that the search comes to. -/
noncomputable def Qf (zs : List Int) : List StP := Qn zs BIGN
def isP (pr : List Int → Bool) (p : StP) : Bool := pr p.1
theorem find_none {pr : List Int → Bool} {L : List StP} (h : L.find? (isP pr) = none) : ∀ p ∈ L, pr p.1 = false := fun p hp => by
  have := List.find?_eq_none.1 h p hp
  simpa [isP] using this
theorem none_find {pr : List Int → Bool} {L : List StP} (h : ∀ p ∈ L, pr p.1 = false) : L.find? (isP pr) = none := List.find?_eq_none.2 fun p hp => by simp [isP, h p hp]
theorem find_lev (zs : List Int) (pr : List Int → Bool) (n : Nat) (h : ∀ p ∈ Sp zs n, pr p.1 = false) : (Fn zs n).1.find? (isP pr) = (Lv zs n).find? (isP pr) := find_level zs pr n h
theorem first_lev (zs : List Int) (pr : List Int → Bool) (q : StP) : ∀ n0, (Fn zs n0).2.find? (isP pr) = some q → ∃ n, (∀ p ∈ Sp zs n, pr p.1 = false) ∧ (Fn zs n).1.find? (isP pr) = some q
  | n0, h => by
    rw [Fn_seen, List.find?_append] at h
    cases hs : (Sp zs n0).find? (isP pr) with
    | none => rw [hs, Option.none_or] at h; exact ⟨n0, find_none hs, h⟩
    | some r =>
      rw [hs, Option.some_or] at h
      cases n0 with
      | zero => simp [Sp] at hs
      | succ m => exact first_lev zs pr q m (hs.trans h)
theorem first_of (zs : List Int) (pr : List Int → Bool) (q : StP) (k : Nat) (h : (Qn zs k).find? (isP pr) = some q) : (Lv zs q.2.length).find? (isP pr) = some q ∧ ∀ m, m < q.2.length → (Lv zs m).find? (isP pr) = none := by
  obtain ⟨n0, t, ht⟩ := Qn_some_level zs k
  have h1 : (Fn zs n0).2.find? (isP pr) = some q := by rw [← ht, List.find?_append, h, Option.some_or]
  obtain ⟨n, hn, hf⟩ := first_lev zs pr q n0 h1
  rw [find_lev zs pr n hn] at hf
  have hl := Lv_len zs n q (List.mem_of_find?_eq_some hf)
  subst hl
  refine ⟨hf, fun m hm => ?_⟩
  have hsp : ∀ p ∈ Sp zs m, pr p.1 = false := fun p hp => hn p (Fn_mono zs hm p (by rw [Fn_seen]; exact List.mem_append_left _ hp))
  rw [← find_lev zs pr m hsp]
  exact none_find fun p hp => hn p (Fn_mono zs hm p (by rw [Fn_seen]; exact List.mem_append_right _ hp))
theorem none_of (zs : List Int) (pr : List Int → Bool) (hall : ∀ n, (Fn zs n).2 <+: Qf zs) (h : (Qf zs).find? (isP pr) = none) (m : Nat) : (Lv zs m).find? (isP pr) = none := by
  have h1 := find_none h
  have h2 : ∀ p ∈ (Fn zs m).2, pr p.1 = false := fun p hp => h1 p ((hall m).subset hp)
  rw [← find_lev zs pr m (fun p hp => h2 p (by rw [Fn_seen]; exact List.mem_append_left _ hp))]
  exact none_find fun p hp => h2 p (by rw [Fn_seen]; exact List.mem_append_right _ hp)

/-! ### from the front -/
def LvG (p : StP) : Nat → List StP
  | 0 => [p]
  | n + 1 => (extD p).flatMap fun q => LvG q n
theorem LvG_back : ∀ (n : Nat) (p : StP), (LvG p n).flatMap extD = LvG p (n + 1)
  | 0, p => by simp [LvG]
  | n + 1, p => by
    show ((extD p).flatMap fun q => LvG q n).flatMap extD = (extD p).flatMap fun q => LvG q (n + 1)
    rw [List.flatMap_assoc]
    congr 1
    funext q
    exact LvG_back n q
theorem Lv_eq (zs : List Int) : ∀ n, Lv zs n = LvG (zs, []) n
  | 0 => rfl
  | n + 1 => by rw [← LvG_back, ← Lv_eq zs n]; rfl
theorem LvG_pre (ds : List Db) : ∀ (n : Nat) (x : List Int) (es : List Db), LvG (x, ds ++ es) n = (LvG (x, es) n).map fun p => (p.1, ds ++ p.2)
  | 0, x, es => rfl
  | n + 1, x, es => by
    show (extD (x, ds ++ es)).flatMap (fun q => LvG q n) = ((extD (x, es)).flatMap fun q => LvG q n).map _
    unfold extD
    rw [List.map_flatMap, List.flatMap_map, List.flatMap_map]
    congr 1
    funext d
    show LvG (nx x d, ds ++ es ++ [d]) n = _
    rw [List.append_assoc, LvG_pre ds n]
theorem Lv_front (x : List Int) (n : Nat) : Lv x (n + 1) = (allD x).flatMap fun d => (Lv (nx x d) n).map fun p => (p.1, d :: p.2) := by
  rw [Lv_eq]
  show (extD (x, [])).flatMap (fun q => LvG q n) = _
  unfold extD
  rw [List.flatMap_map]
  congr 1
  funext d
  show LvG (nx x d, [] ++ [d]) n = _
  have := LvG_pre [d] n (nx x d) []
  rw [List.append_nil] at this
  rw [List.nil_append, this, Lv_eq]
  rfl
theorem greedy_list (pr : List Int → Bool) (n : Nat) (x y : List Int) (ds : List Db) : ∀ L : List Db, (L.flatMap fun d => (Lv (nx x d) n).map fun p => (p.1, d :: p.2)).find? (isP pr) = some (y, ds) →
    ∃ (i : Nat) (d : Db) (es : List Db), L[i]? = some d ∧ (∀ (j : Nat) (e : Db), j < i → L[j]? = some e → (Lv (nx x e) n).find? (isP pr) = none) ∧ ds = d :: es ∧ (Lv (nx x d) n).find? (isP pr) = some (y, es)
  | [], h => by simp at h
  | d :: L, h => by
    rw [List.flatMap_cons, List.find?_append, List.find?_map] at h
    have hc : (isP pr ∘ fun p : StP => (p.1, d :: p.2)) = isP pr := rfl
    rw [hc] at h
    cases hf : (Lv (nx x d) n).find? (isP pr) with
    | some q =>
      rw [hf] at h
      simp at h
      refine ⟨0, d, q.2, rfl, fun j _ hj => absurd hj (by omega), h.2.symm, ?_⟩
      rw [hf, ← h.1]
    | none =>
      rw [hf, Option.map_none, Option.none_or] at h
      obtain ⟨i, d', es, h1, h2, h3, h4⟩ := greedy_list pr n x y ds L h
      refine ⟨i + 1, d', es, h1, fun j e hj he => ?_, h3, h4⟩
      cases j with
      | zero => simp at he; subst he; exact hf
      | succ j => exact h2 j e (by omega) (by simpa using he)
theorem Lv_has_succ {x : List Int} {d : Db} (hd : d ∈ allD x) {n : Nat} {pr : List Int → Bool} (h : (Lv (nx x d) n).find? (isP pr) ≠ none) : (Lv x (n + 1)).find? (isP pr) ≠ none := by
  intro e
  apply h
  rw [Lv_front] at e
  refine none_find fun p hp => ?_
  exact find_none e (p.1, d :: p.2) (List.mem_flatMap.2 ⟨d, hd, List.mem_map.2 ⟨p, hp, rfl⟩⟩)

/-! ### the fewest -/
def fewOf (L : List StP) (pr : List Int → Bool) : Int := match L.find? (isP pr) with
  | some q => (q.2.length : Int)
  | none => -1
def wayOf (L : List StP) (pr : List Int → Bool) : List Db := match L.find? (isP pr) with
  | some q => q.2
  | none => []
theorem fewOf_some {L : List StP} {pr : List Int → Bool} {q : StP} (h : L.find? (isP pr) = some q) : fewOf L pr = (q.2.length : Int) ∧ wayOf L pr = q.2 := by unfold fewOf wayOf; rw [h]; exact ⟨rfl, rfl⟩
theorem fewOf_none {L : List StP} {pr : List Int → Bool} (h : L.find? (isP pr) = none) : fewOf L pr = -1 ∧ wayOf L pr = [] := by unfold fewOf wayOf; rw [h]; exact ⟨rfl, rfl⟩
/-- The least number of doublings to one of a kind; or -1. -/
noncomputable def fewQ (zs : List Int) (pr : List Int → Bool) : Int := fewOf (Qf zs) pr
noncomputable def wayQ (zs : List Int) (pr : List Int → Bool) : List Db := wayOf (Qf zs) pr
theorem fewQ_some {zs : List Int} {pr : List Int → Bool} {q : StP} (h : (Qf zs).find? (isP pr) = some q) : fewQ zs pr = (q.2.length : Int) ∧ wayQ zs pr = q.2 := fewOf_some h
theorem fewQ_none {zs : List Int} {pr : List Int → Bool} (h : (Qf zs).find? (isP pr) = none) : fewQ zs pr = -1 ∧ wayQ zs pr = [] := fewOf_none h
theorem fewQ_at {zs : List Int} {pr : List Int → Bool} {n : Nat} (h : fewQ zs pr = (n : Int)) : ∃ y, (Lv zs n).find? (isP pr) = some (y, wayQ zs pr) ∧ ∀ m, m < n → (Lv zs m).find? (isP pr) = none := by
  cases hf : (Qf zs).find? (isP pr) with
  | none => rw [(fewQ_none hf).1] at h; omega
  | some q =>
    have e := (fewQ_some hf).1
    have hl : q.2.length = n := by omega
    subst hl
    obtain ⟨h1, h2⟩ := first_of zs pr q BIGN hf
    exact ⟨q.1, by rw [h1, (fewQ_some hf).2], h2⟩
theorem fewQ_is {zs : List Int} {pr : List Int → Bool} (hall : ∀ n, (Fn zs n).2 <+: Qf zs) {n : Nat} (h : (Lv zs n).find? (isP pr) ≠ none) (hm : ∀ m, m < n → (Lv zs m).find? (isP pr) = none) : fewQ zs pr = (n : Int) := by
  cases hf : (Qf zs).find? (isP pr) with
  | none => exact absurd (none_of zs pr hall hf n) h
  | some q =>
    obtain ⟨h1, h2⟩ := first_of zs pr q BIGN hf
    rw [(fewQ_some hf).1]
    by_cases e : q.2.length < n
    · rw [hm _ e] at h1; cases h1
    · by_cases e2 : n < q.2.length
      · exact absurd (h2 n e2) h
      · have : q.2.length = n := by omega
        rw [this]
/-- One step of the first list of the fewest doublings. -/
theorem fewQ_step {x : List Int} {pr : List Int → Bool} {n : Nat} (hall : ∀ d ∈ allD x, ∀ m, (Fn (nx x d) m).2 <+: Qf (nx x d)) (h : fewQ x pr = ((n + 1 : Nat) : Int)) :
    ∃ (i : Nat) (d : Db), (allD x)[i]? = some d ∧ fewQ (nx x d) pr = (n : Int) ∧ wayQ x pr = d :: wayQ (nx x d) pr ∧ ∀ (j : Nat) (e : Db), j < i → (allD x)[j]? = some e → fewQ (nx x e) pr ≠ (n : Int) := by
  obtain ⟨y, h1, h2⟩ := fewQ_at h
  have h1' := h1
  rw [Lv_front] at h1
  obtain ⟨i, d, es, g1, g2, g3, g4⟩ := greedy_list pr n x y _ _ h1
  have low : ∀ d ∈ allD x, ∀ m, m < n → (Lv (nx x d) m).find? (isP pr) = none := fun d hd m hm => by
    by_cases e : (Lv (nx x d) m).find? (isP pr) = none
    · exact e
    · exact absurd (h2 (m + 1) (by omega)) (Lv_has_succ hd e)
  have hd : d ∈ allD x := List.mem_of_getElem? g1
  have hfd := fewQ_is (hall d hd) (show (Lv (nx x d) n).find? (isP pr) ≠ none by rw [g4]; simp) (low d hd)
  obtain ⟨y2, k1, _⟩ := fewQ_at hfd
  rw [g4] at k1
  injection k1 with k1
  injection k1 with _ k1
  refine ⟨i, d, g1, hfd, by rw [g3, k1], fun j e hj he hfe => ?_⟩
  obtain ⟨y3, k3, _⟩ := fewQ_at hfe
  rw [g2 j e hj he] at k3
  cases k3

/-! ### how many -/
def numD (zs : List Int) : Nat := zs.foldl (fun n x => n * 41 + x.toNat) 0
theorem foldl_num : ∀ (zs : List Int) (a : Nat), (∀ x ∈ zs, 0 ≤ x ∧ x ≤ 40) → zs.foldl (fun n x => n * 41 + x.toNat) a < (a + 1) * 41 ^ zs.length
  | [], a, _ => by simp
  | z :: zs, a, h => by
    have h1 := h z (List.mem_cons_self ..)
    have ih := foldl_num zs (a * 41 + z.toNat) fun x hx => h x (List.mem_cons_of_mem _ hx)
    rw [List.foldl_cons, List.length_cons, Nat.pow_succ]
    refine Nat.lt_of_lt_of_le ih ?_
    rw [show (a + 1) * (41 ^ zs.length * 41) = (a + 1) * 41 * 41 ^ zs.length by rw [Nat.mul_assoc, Nat.mul_comm (41 ^ zs.length) 41]]
    exact Nat.mul_le_mul_right _ (by omega)
theorem numD_lt {zs : List Int} (h : ∀ x ∈ zs, 0 ≤ x ∧ x ≤ 40) : numD zs < 41 ^ zs.length := by unfold numD; have := foldl_num zs 0 h; simpa using this
theorem foldl_inj : ∀ (xs ys : List Int) (a b : Nat), xs.length = ys.length → (∀ x ∈ xs, 0 ≤ x ∧ x ≤ 40) → (∀ x ∈ ys, 0 ≤ x ∧ x ≤ 40) →
    xs.foldl (fun n x => n * 41 + x.toNat) a = ys.foldl (fun n x => n * 41 + x.toNat) b → a = b ∧ xs = ys
  | [], [], a, b, _, _, _, h => ⟨h, rfl⟩
  | x :: xs, y :: ys, a, b, hl, hx, hy, h => by
    obtain ⟨h1, h2⟩ := foldl_inj xs ys _ _ (by simpa using hl) (fun z hz => hx z (List.mem_cons_of_mem _ hz)) (fun z hz => hy z (List.mem_cons_of_mem _ hz)) h
    have a1 := hx x (List.mem_cons_self ..)
    have b1 := hy y (List.mem_cons_self ..)
    have h1' : a * 41 + x.toNat = b * 41 + y.toNat := h1
    have e : x = y := by omega
    exact ⟨by omega, by rw [e, h2]⟩
  | [], _ :: _, _, _, hl, _, _, _ => by simp at hl
  | _ :: _, [], _, _, hl, _, _, _ => by simp at hl
theorem numD_inj {xs ys : List Int} (hl : xs.length = ys.length) (hx : ∀ x ∈ xs, 0 ≤ x ∧ x ≤ 40) (hy : ∀ x ∈ ys, 0 ≤ x ∧ x ≤ 40) (h : numD xs = numD ys) : xs = ys := (foldl_inj xs ys 0 0 hl hx hy h).2
theorem small_all {zs : List Int} (h : small zs) : ∀ x ∈ zs, 0 ≤ x ∧ x ≤ 40 := fun x hx => by
  obtain ⟨k, hk, rfl⟩ := List.getElem_of_mem hx
  exact small_get h k hk
theorem filter_count (n : Nat) : ∀ l : List Nat, l.length = (l.filter fun x => x != n).length + l.count n
  | [] => rfl
  | x :: l => by
    have ih := filter_count n l
    by_cases e : x = n
    · subst e; simp [List.filter_cons, List.count_cons]; omega
    · simp [List.filter_cons, List.count_cons, e]; omega
theorem nodup_small : ∀ (n : Nat) (l : List Nat), l.Nodup → (∀ x ∈ l, x < n) → l.length ≤ n
  | 0, [], _, _ => Nat.le_refl _
  | 0, x :: _, _, h => absurd (h x (List.mem_cons_self ..)) (by omega)
  | n + 1, l, hd, h => by
    have h1 := nodup_small n (l.filter fun x => x != n) (hd.filter _) fun x hx => by
      obtain ⟨a, b⟩ := List.mem_filter.1 hx
      have := h x a
      have : x ≠ n := by simpa using b
      omega
    have hc : l.count n ≤ 1 := List.nodup_iff_count.1 hd n
    have := filter_count n l
    omega
end Go.Proofs.Ytnakkmmmkbjfbaa
