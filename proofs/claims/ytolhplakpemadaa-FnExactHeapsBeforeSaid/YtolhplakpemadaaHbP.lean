
/-
  HEAPS BEFORE A DOUBLING, plainly. No program is named here.
-/
import Derived.Test.YtolhplakpemadaaRbQ
import Derived.Test.YtolhplakpemadaaRowP
import Derived.Test.YtolhplakpemadaaAllDbl
namespace Go.Proofs.Ytolhplakpemadaa

/-- Where a list is put into an ordered one, from the end. -/
def posK (xss : List (List Int)) (l : List Int) : Nat → Nat
  | 0 => 0
  | k + 1 => if lexLt l (xss.getD k []) then posK xss l k else k + 1
theorem posK_le (xss : List (List Int)) (l : List Int) : ∀ k, posK xss l k ≤ k
  | 0 => Nat.le_refl _
  | k + 1 => by
    unfold posK
    split
    · have := posK_le xss l k; omega
    · exact Nat.le_refl _
theorem posK_gt (xss : List (List Int)) (l : List Int) : ∀ k j, posK xss l k ≤ j → j < k → lexLt l (xss.getD j []) = true
  | 0, j, _, h => by omega
  | k + 1, j, h1, h2 => by
    unfold posK at h1
    split at h1
    · rename_i hx
      by_cases e : j = k
      · subst e; exact hx
      · exact posK_gt xss l k j h1 (by omega)
    · omega
theorem posK_at (xss : List (List Int)) (l : List Int) : ∀ k j, posK xss l k = j + 1 → lexLt l (xss.getD j []) = false
  | 0, j, h => by simp [posK] at h
  | k + 1, j, h => by
    unfold posK at h
    split at h
    · exact posK_at xss l k j h
    · rename_i hx
      obtain rfl : k = j := by omega
      exact Bool.eq_false_iff.2 hx
def posD (xss : List (List Int)) (l : List Int) : Nat := posK xss l xss.length
def insD (xss : List (List Int)) (l : List Int) : List (List Int) := xss.take (posD xss l) ++ (l :: xss.drop (posD xss l))
theorem insD_mem (xss : List (List Int)) (l x : List Int) : x ∈ insD xss l ↔ x = l ∨ x ∈ xss := by
  unfold insD
  rw [List.mem_append, List.mem_cons]
  constructor
  · rintro (h | h | h)
    · exact .inr (List.mem_of_mem_take h)
    · exact .inl h
    · exact .inr (List.mem_of_mem_drop h)
  · rintro (h | h)
    · exact .inr (.inl h)
    · rw [← List.take_append_drop (posD xss l) xss, List.mem_append] at h
      rcases h with h | h
      · exact .inl h
      · exact .inr (.inr h)
theorem insD_length (xss : List (List Int)) (l : List Int) : (insD xss l).length = xss.length + 1 := by
  have := posK_le xss l xss.length
  unfold insD posD
  rw [List.length_append, List.length_take, List.length_cons, List.length_drop]; omega
theorem insD_order (xss : List (List Int)) (l : List Int) (h : InOrder xss) (hl : l ∉ xss) : InOrder (insD xss l) := by
  have hP := posK_le xss l xss.length
  have hp := h
  unfold InOrder at hp
  rw [← List.take_append_drop (posD xss l) xss] at hp
  obtain ⟨p1, p2, p3⟩ := List.pairwise_append.1 hp
  have hafter : ∀ y ∈ xss.drop (posD xss l), lexLt l y = true := fun y hy => by
    obtain ⟨k, hk, rfl⟩ := List.getElem_of_mem hy
    rw [List.length_drop] at hk
    rw [List.getElem_drop]
    have := posK_gt xss l xss.length (posD xss l + k) (by unfold posD; omega) (by omega)
    rwa [show xss.getD (posD xss l + k) [] = xss[posD xss l + k] from by simp [List.getD, show posD xss l + k < xss.length by omega]] at this
  have hbefore : ∀ y ∈ xss.take (posD xss l), lexLt y l = true := fun y hy => by
    obtain ⟨k, hk, rfl⟩ := List.getElem_of_mem hy
    rw [List.length_take] at hk
    rw [List.getElem_take]
    obtain ⟨j, hj⟩ : ∃ j, posD xss l = j + 1 := ⟨posD xss l - 1, by omega⟩
    have hjl : j < xss.length := by unfold posD at hj; omega
    have h1 := posK_at xss l xss.length j hj
    rw [show xss.getD j [] = xss[j] from by simp [List.getD, hjl]] at h1
    have h2 : lexLt xss[j] l = true := by
      cases h3 : lexLt xss[j] l
      · exact absurd (lexLt_total _ _ h3 h1) (fun e => hl (e ▸ List.getElem_mem hjl))
      · rfl
    by_cases e : k = j
    · subst e; exact h2
    · exact lexLt_trans _ _ _ (List.pairwise_iff_getElem.1 h k j (by omega) hjl (by omega)) h2
  unfold insD
  exact List.pairwise_append.2 ⟨p1, List.pairwise_cons.2 ⟨hafter, p2⟩, fun y hy z hz => by
    rcases List.mem_cons.1 hz with rfl | hz
    · exact hbefore y hy
    · exact lexLt_trans _ _ _ (hbefore y hy) (hafter z hz)⟩
/-- It is none of those that stand there. -/
theorem insD_new (xss : List (List Int)) (l : List Int) (hl : l ∉ xss) (j : Nat) (hj : posD xss l = j + 1) : xss.getD j [] ≠ l := fun e => by
  have := posK_le xss l xss.length
  unfold posD at hj
  have hjl : j < xss.length := by omega
  exact hl (by rw [← e, show xss.getD j [] = xss[j] from by simp [List.getD, hjl]]; exact List.getElem_mem hjl)

/-- The heaps before a doubling. -/
def earl (zs : List Int) (f t : Nat) : List Int := (zs.set f (zs.getD f 0 + zs.getD t 0 / 2)).set t (zs.getD t 0 / 2)
def okE (zs : List Int) (f t : Nat) : Bool := decide (f < zs.length ∧ t < zs.length ∧ f ≠ t ∧ zs.getD t 0 ≠ 0 ∧ zs.getD t 0 % 2 = 0)
theorem okE_of {zs : List Int} {f t : Nat} (h : okE zs f t = true) : f < zs.length ∧ t < zs.length ∧ f ≠ t ∧ zs.getD t 0 ≠ 0 ∧ zs.getD t 0 % 2 = 0 := of_decide_eq_true h
theorem earl_length (zs : List Int) (f t : Nat) : (earl zs f t).length = zs.length := by simp [earl]
theorem earl_getD {zs : List Int} {f t : Nat} (hf : f < zs.length) (ht : t < zs.length) (k : Nat) :
    (earl zs f t).getD k 0 = if k = t then zs.getD t 0 / 2 else if k = f then zs.getD f 0 + zs.getD t 0 / 2 else zs.getD k 0 := by
  unfold earl
  by_cases h1 : k = t
  · subst h1; simp [List.getD, ht]
  · rw [if_neg h1]
    by_cases h2 : k = f
    · subst h2; simp [List.getD, hf, List.getElem_set, Ne.symm h1]
    · simp [List.getD, List.getElem?_set_ne (Ne.symm h1), List.getElem?_set_ne (Ne.symm h2), h2]
theorem earl_inj {zs : List Int} (hs : small zs) {f t f' t' : Nat} (h : okE zs f t = true) (h' : okE zs f' t' = true) (e : earl zs f t = earl zs f' t') : f = f' ∧ t = t' := by
  obtain ⟨hf, ht, hft, hz, hm⟩ := okE_of h
  obtain ⟨hf', ht', hft', hz', hm'⟩ := okE_of h'
  have p1 := (small_get hs t ht).1
  have p2 := (small_get hs t' ht').1
  rw [← getD_get ht] at p1
  rw [← getD_get ht'] at p2
  have htt : t = t' := by
    apply Classical.byContradiction
    intro hne
    have e1 := congrArg (fun l => l.getD t 0) e
    simp only [earl_getD hf ht, earl_getD hf' ht'] at e1
    rw [if_pos trivial, if_neg hne] at e1
    split at e1
    · rename_i hh; rw [← hh] at e1; omega
    · omega
  subst htt
  refine ⟨?_, rfl⟩
  apply Classical.byContradiction
  intro hne
  have e1 := congrArg (fun l => l.getD f 0) e
  simp only [earl_getD hf ht, earl_getD hf' ht'] at e1
  rw [if_neg hft, if_pos trivial, if_neg hft, if_neg hne] at e1
  omega
/-- The model's way: from, then to. -/
def hbI (zs : List Int) (f : Nat) : Nat → List (List Int) → List (List Int)
  | 0, acc => acc
  | t + 1, acc => if okE zs f t then insD (hbI zs f t acc) (earl zs f t) else hbI zs f t acc
def hbO (zs : List Int) : Nat → List (List Int)
  | 0 => []
  | f + 1 => hbI zs f zs.length (hbO zs f)
theorem hbI_mem (zs : List Int) (f : Nat) (acc : List (List Int)) (x : List Int) : ∀ t, x ∈ hbI zs f t acc ↔ x ∈ acc ∨ ∃ t', t' < t ∧ okE zs f t' = true ∧ x = earl zs f t'
  | 0 => by simp [hbI]
  | t + 1 => by
    unfold hbI
    split
    · rename_i hok
      rw [insD_mem, hbI_mem zs f acc x t]
      constructor
      · rintro (h | h | ⟨t', h1, h2, h3⟩)
        · exact .inr ⟨t, by omega, hok, h⟩
        · exact .inl h
        · exact .inr ⟨t', by omega, h2, h3⟩
      · rintro (h | ⟨t', h1, h2, h3⟩)
        · exact .inr (.inl h)
        · by_cases e : t' = t
          · subst e; exact .inl h3
          · exact .inr (.inr ⟨t', by omega, h2, h3⟩)
    · rename_i hok
      rw [hbI_mem zs f acc x t]
      constructor
      · rintro (h | ⟨t', h1, h2, h3⟩)
        · exact .inl h
        · exact .inr ⟨t', by omega, h2, h3⟩
      · rintro (h | ⟨t', h1, h2, h3⟩)
        · exact .inl h
        · by_cases e : t' = t
          · subst e; exact absurd h2 hok
          · exact .inr ⟨t', by omega, h2, h3⟩
theorem hbO_mem (zs : List Int) (x : List Int) : ∀ k, x ∈ hbO zs k ↔ ∃ f, f < k ∧ ∃ t, okE zs f t = true ∧ x = earl zs f t
  | 0 => by simp [hbO]
  | k + 1 => by
    unfold hbO
    rw [hbI_mem, hbO_mem zs x k]
    constructor
    · rintro (⟨f, h1, t, h2, h3⟩ | ⟨t, h1, h2, h3⟩)
      · exact ⟨f, by omega, t, h2, h3⟩
      · exact ⟨k, by omega, t, h2, h3⟩
    · rintro ⟨f, h1, t, h2, h3⟩
      by_cases e : f = k
      · subst e; exact .inr ⟨t, (okE_of h2).2.1, h2, h3⟩
      · exact .inl ⟨f, by omega, t, h2, h3⟩
theorem hbI_new {zs : List Int} (hs : small zs) (f t : Nat) (hok : okE zs f t = true) : earl zs f t ∉ hbI zs f t (hbO zs f) := fun h => by
  rw [hbI_mem, hbO_mem] at h
  rcases h with ⟨f', h1, t', h2, h3⟩ | ⟨t', h1, h2, h3⟩
  · have := (earl_inj hs hok h2 h3).1; omega
  · have := (earl_inj hs hok h2 h3).2; omega
theorem hbI_order {zs : List Int} (hs : small zs) (f : Nat) (h : InOrder (hbO zs f)) : ∀ t, InOrder (hbI zs f t (hbO zs f))
  | 0 => h
  | t + 1 => by
    have ih := hbI_order hs f h t
    unfold hbI
    split
    · rename_i hok
      exact insD_order _ _ ih (hbI_new hs f t hok)
    · exact ih
theorem hbO_order {zs : List Int} (hs : small zs) : ∀ k, InOrder (hbO zs k)
  | 0 => .nil
  | k + 1 => hbI_order hs k (hbO_order hs k) zs.length
theorem hbI_len (zs : List Int) (f : Nat) (acc : List (List Int)) : ∀ t, (hbI zs f t acc).length ≤ acc.length + t
  | 0 => by simp [hbI]
  | t + 1 => by
    have := hbI_len zs f acc t
    unfold hbI
    split
    · rw [insD_length]; omega
    · omega
theorem hbO_len (zs : List Int) : ∀ k, (hbO zs k).length ≤ k * zs.length
  | 0 => by simp [hbO]
  | k + 1 => by
    have h1 := hbO_len zs k
    have h2 := hbI_len zs k (hbO zs k) zs.length
    unfold hbO
    rw [Nat.succ_mul]; omega
theorem hbO_rows {zs : List Int} {k : Nat} : ∀ x ∈ hbO zs k, x.length = zs.length := fun x hx => by
  rw [hbO_mem] at hx
  obtain ⟨f, _, t, _, rfl⟩ := hx
  exact earl_length _ _ _
theorem hbI_rows {zs : List Int} {f t : Nat} : ∀ x ∈ hbI zs f t (hbO zs f), x.length = zs.length := fun x hx => by
  rw [hbI_mem] at hx
  rcases hx with hx | ⟨t', _, _, rfl⟩
  · exact hbO_rows x hx
  · exact earl_length _ _ _
/-- The program's way: all doublings. -/
def hbP (zs : List Int) (ds : List Db) : List (List Int) := ds.filterMap fun d => if okE zs d.x0.toNat d.x1.toNat then some (earl zs d.x0.toNat d.x1.toNat) else none
theorem all12_in : all12.Pairwise (fun a b => ¬ (a.x0 = b.x0 ∧ a.x1 = b.x1)) ∧ (∀ d ∈ all12, 0 ≤ d.x0 ∧ 0 ≤ d.x1) ∧ ∀ (f t : Fin 4), f ≠ t → ∃ d ∈ all12, d.x0 = (f.val : Int) ∧ d.x1 = (t.val : Int) := by
  refine ⟨by decide, by decide, by decide⟩
theorem hbP_mem {zs : List Int} (hn : zs.length ≤ 4) (x : List Int) : x ∈ hbP zs all12 ↔ x ∈ hbO zs zs.length := by
  rw [hbO_mem]
  unfold hbP
  rw [List.mem_filterMap]
  constructor
  · rintro ⟨d, _, h⟩
    split at h
    · rename_i hok
      injection h with h
      exact ⟨d.x0.toNat, (okE_of hok).1, d.x1.toNat, hok, h.symm⟩
    · cases h
  · rintro ⟨f, h1, t, h2, rfl⟩
    obtain ⟨hf, ht, hne, _, _⟩ := okE_of h2
    obtain ⟨d, hd, e1, e2⟩ := all12_in.2.2 ⟨f, by omega⟩ ⟨t, by omega⟩ (by intro e; exact hne (by injection e))
    refine ⟨d, hd, ?_⟩
    have e1' : d.x0.toNat = f := by rw [e1]; rfl
    have e2' : d.x1.toNat = t := by rw [e2]; rfl
    rw [e1', e2', if_pos h2]
theorem hbP_once {zs : List Int} (hs : small zs) : (hbP zs all12).Nodup := by
  unfold hbP List.Nodup
  refine List.Pairwise.filterMap _ ?_ (all12_in.1.imp_of_mem (R := fun a b => ¬ (a.x0 = b.x0 ∧ a.x1 = b.x1)) (S := fun a b => (a ∈ all12 ∧ b ∈ all12) ∧ ¬ (a.x0 = b.x0 ∧ a.x1 = b.x1)) fun ha hb h => ⟨⟨ha, hb⟩, h⟩)
  intro a b ⟨⟨ha, hb⟩, hab⟩ x hx y hy e
  subst e
  split at hx
  · rename_i h1
    split at hy
    · rename_i h2
      injection hx with hx
      injection hy with hy
      have := earl_inj hs h1 h2 (hx.trans hy.symm)
      have a0 := all12_in.2.1 a ha
      have b0 := all12_in.2.1 b hb
      exact hab ⟨by omega, by omega⟩
    · cases hy
  · cases hx
theorem sorted_hb {zs : List Int} (hs : small zs) (hn : zs.length ≤ 4) (L : List (List Int)) (hp : L.Perm (hbP zs all12)) (hso : L.Pairwise fun x y => ¬ cmpL y x < 0) : L = hbO zs zs.length := by
  have hnd : L.Nodup := hp.nodup_iff.2 (hbP_once hs)
  refine inOrder_same _ _ ?_ (hbO_order hs _) (fun x => by rw [hp.mem_iff, hbP_mem hn])
  refine (hso.and hnd).imp ?_
  rintro x y ⟨h3, h4⟩
  apply lexLt_cmp
  have h5 := cmpL_neg x y
  rcases (show cmpL x y < 0 ∨ cmpL x y = 0 by omega) with h | h
  · exact h
  · exact absurd (cmpL_zero x y h) h4
/-- What is told. -/
def hbR (zs : List Int) : List (List Int) := if few zs then hbO zs zs.length else []
end Go.Proofs.Ytolhplakpemadaa
