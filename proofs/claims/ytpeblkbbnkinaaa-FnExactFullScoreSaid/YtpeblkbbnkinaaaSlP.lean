
/-
  SPLITS OF HEAPS, plainly: heaps, rules, which splits can be made, the heaps behind one, plays. No program is named here.
-/
import Derived.Test.YtpeblkbbnkinaaaWords
import Derived.Test.YtpeblkbbnkinaaaPlain
import Derived.Test.YtpeblkbbnkinaaaSp
namespace Go.Proofs.Ytpeblkbbnkinaaa
set_option linter.unusedVariables false

/-- Heaps of a game. -/
def sgood (zs : List Int) : Bool := decide (1 ≤ zs.length ∧ zs.length ≤ 8) && within 1 60 zs
theorem sgood_of {zs : List Int} (h : sgood zs = true) : 1 ≤ zs.length ∧ zs.length ≤ 8 ∧ within 1 60 zs = true := by
  unfold sgood at h
  simp at h
  exact ⟨by omega, h.1.2, h.2⟩
def srule (r : Int) : Bool := decide (0 ≤ r ∧ r ≤ 2)
theorem srule_of {r : Int} (h : srule r = true) : 0 ≤ r ∧ r ≤ 2 := by unfold srule at h; simpa using h
def sask (r : Int) (zs : List Int) : Bool := srule r && sgood zs
/-- A heap can be split so. -/
def scan (r h p : Int) : Bool := decide (1 ≤ p ∧ 2 * p ≤ h ∧ (r = 0 → 2 * p ≠ h) ∧ (r = 2 → 2 ≤ p))
theorem scan_of {r h p : Int} (h' : scan r h p = true) : 1 ≤ p ∧ 2 * p ≤ h ∧ (r = 0 → 2 * p ≠ h) ∧ (r = 2 → 2 ≤ p) := of_decide_eq_true h'
/-- The split of a heap with an index can be made. -/
def smay (r : Int) (zs : List Int) (i p : Int) : Bool := decide (0 ≤ i ∧ i < zs.length) && scan r (zs.getD i.toNat 0) p
theorem smay_of {r i p : Int} {zs : List Int} (h : smay r zs i p = true) : 0 ≤ i ∧ i < zs.length ∧ scan r (zs.getD i.toNat 0) p = true := by
  unfold smay at h
  simp at h
  exact ⟨h.1.1, h.1.2, by simpa using h.2⟩
theorem smay_out {r i p : Int} {zs : List Int} (h : ¬ (0 ≤ i ∧ i < zs.length)) : smay r zs i p = false := by
  unfold smay; rw [decide_eq_false h]; rfl
theorem smay_in {r i p : Int} {zs : List Int} (h : 0 ≤ i ∧ i < zs.length) : smay r zs i p = scan r (zs.getD i.toNat 0) p := by
  unfold smay; rw [decide_eq_true h]; rfl
/-- The heaps behind it. -/
def smade (i : Nat) (p : Int) (zs : List Int) : List Int := (zs ++ [p]).set i (zs.getD i 0 - p)
theorem smade_length (i : Nat) (p : Int) (zs : List Int) : (smade i p zs).length = zs.length + 1 := by simp [smade]
/-- Numbers of stones as they are on the way. -/
def sbd (zs : List Int) : Prop := within 1 60 zs = true
theorem smade_bd {r i p : Int} {zs : List Int} (hz : within 1 60 zs = true) (h : smay r zs i p = true) : within 1 60 (smade i.toNat p zs) = true := by
  obtain ⟨h1, h2, h3⟩ := smay_of h
  have h4 := scan_of h3
  have hi : i.toNat < zs.length := by omega
  have h5 := within_get hz i.toNat hi
  have e : zs.getD i.toNat 0 = zs[i.toNat] := by simp [List.getD, hi]
  rw [e] at h4
  refine within_of fun k hk => ?_
  rw [smade_length] at hk
  have e2 : (smade i.toNat p zs)[k]'(by rw [smade_length]; exact hk) = if i.toNat = k then zs[i.toNat] - p else (zs ++ [p])[k]'(by simp; omega) := by
    unfold smade
    simp only [List.getElem_set, e]
  rw [e2]
  split
  · omega
  · by_cases hkz : k < zs.length
    · rw [List.getElem_append_left hkz]; exact within_get hz k hkz
    · rw [List.getElem_append_right (by omega)]
      simp
      omega
/-- Plays: the heaps behind splits, and the sum of products of both parts. -/
def splay (r : Int) (zs : List Int) : List Sp → Option (List Int)
  | [] => some zs
  | d :: ds => if smay r zs d.x0 d.x1 then splay r (smade d.x0.toNat d.x1 zs) ds else none
/-- The product of both parts of a split. -/
def sprod (zs : List Int) (d : Sp) : Int := d.x1 * (zs.getD d.x0.toNat 0 - d.x1)
def ssum (r : Int) (zs : List Int) : List Sp → Int
  | [] => 0
  | d :: ds => sprod zs d + ssum r (smade d.x0.toNat d.x1 zs) ds
theorem splay_append (r : Int) (zs : List Int) (a b : List Sp) : splay r zs (a ++ b) = (splay r zs a).bind fun ys => splay r ys b := by
  induction a generalizing zs with
  | nil => simp [splay]
  | cons m ms ih =>
    simp only [List.cons_append, splay]
    split
    · exact ih _
    · rfl
theorem splay_take_succ (r : Int) (zs : List Int) (ds : List Sp) (k : Nat) (hk : k < ds.length) (ys : List Int) (h : splay r zs (ds.take k) = some ys) :
    splay r zs (ds.take (k + 1)) = if smay r ys ds[k].x0 ds[k].x1 then some (smade ds[k].x0.toNat ds[k].x1 ys) else none := by
  rw [List.take_succ_eq_append_getElem hk, splay_append, h]
  simp [splay]
theorem splay_stuck (r : Int) (zs : List Int) (ds : List Sp) (k : Nat) (h : splay r zs (ds.take k) = none) : splay r zs ds = none := by
  have := splay_append r zs (ds.take k) (ds.drop k)
  rw [List.take_append_drop, h] at this
  simpa using this
theorem splay_bd (r : Int) (zs : List Int) (ds : List Sp) (ys : List Int) (h : within 1 60 zs = true) (hp : splay r zs ds = some ys) : within 1 60 ys = true ∧ ys.length = zs.length + ds.length := by
  induction ds generalizing zs with
  | nil => simp [splay] at hp; subst hp; exact ⟨h, by simp⟩
  | cons m ms ih =>
    simp only [splay] at hp
    split at hp
    · rename_i hc
      have := ih _ (smade_bd h hc) hp
      rw [smade_length] at this
      exact ⟨this.1, by rw [this.2]; simp; omega⟩
    · cases hp
theorem ssum_append (r : Int) (zs ys : List Int) (a b : List Sp) (h : splay r zs a = some ys) : ssum r zs (a ++ b) = ssum r zs a + ssum r ys b := by
  induction a generalizing zs with
  | nil => simp [splay] at h; subst h; simp [ssum]
  | cons m ms ih =>
    simp only [splay] at h
    split at h
    · simp only [List.cons_append, ssum, ih _ h]; omega
    · cases h
theorem ssum_take_succ (r : Int) (zs ys : List Int) (ds : List Sp) (k : Nat) (hk : k < ds.length) (h : splay r zs (ds.take k) = some ys) :
    ssum r zs (ds.take (k + 1)) = ssum r zs (ds.take k) + sprod ys ds[k] := by
  rw [List.take_succ_eq_append_getElem hk, ssum_append r zs ys _ _ h]
  simp [ssum]
/-- What is told of a play. -/
def splayOk (r : Int) (zs : List Int) (ds : List Sp) : Bool := sask r zs && decide (ds.length ≤ 60) && (splay r zs ds).isSome
def splayL (r : Int) (zs : List Int) (ds : List Sp) : List Int := if splayOk r zs ds then (splay r zs ds).getD [] else []
theorem splayOk_bad {r : Int} {zs : List Int} {ds : List Sp} (h : sask r zs = false) : splayOk r zs ds = false := by simp [splayOk, h]
theorem splayOk_long {r : Int} {zs : List Int} {ds : List Sp} (h : ¬ ds.length ≤ 60) : splayOk r zs ds = false := by simp [splayOk]; omega
theorem splayOk_stuck {r : Int} {zs : List Int} {ds : List Sp} (h : splay r zs ds = none) : splayOk r zs ds = false := by simp [splayOk, h]
theorem splayOk_yes {r : Int} {zs : List Int} {ds : List Sp} {ys : List Int} (hg : sask r zs = true) (hl : ds.length ≤ 60) (h : splay r zs ds = some ys) : splayOk r zs ds = true := by simp [splayOk, h, hg, hl]
theorem splayL_no {r : Int} {zs : List Int} {ds : List Sp} (h : splayOk r zs ds = false) : splayL r zs ds = [] := by simp [splayL, h]
theorem splayL_yes {r : Int} {zs : List Int} {ds : List Sp} {ys : List Int} (h : splayOk r zs ds = true) (hp : splay r zs ds = some ys) : splayL r zs ds = ys := by simp [splayL, h, hp]
theorem sask_of {r : Int} {zs : List Int} (h : sask r zs = true) : srule r = true ∧ sgood zs = true := by unfold sask at h; simpa using h
theorem splayOk_of {r : Int} {zs : List Int} {ds : List Sp} (h : splayOk r zs ds = true) : sask r zs = true ∧ ds.length ≤ 60 ∧ ∃ ys, splay r zs ds = some ys := by
  unfold splayOk at h
  simp at h
  exact ⟨h.1.1, h.1.2, Option.isSome_iff_exists.1 h.2⟩
theorem splayL_short (r : Int) (zs : List Int) (ds : List Sp) : (splayL r zs ds).length ≤ 68 := by
  cases h : splayOk r zs ds
  · rw [splayL_no h]; simp
  · obtain ⟨h1, h2, ys, hys⟩ := splayOk_of h
    have hg := sgood_of (sask_of h1).2
    rw [splayL_yes h hys, (splay_bd _ _ _ _ hg.2.2 hys).2]
    omega
theorem splayOk_one {r : Int} {zs : List Int} (hg : sask r zs = true) (d : Sp) : splayOk r zs [d] = smay r zs d.x0 d.x1 := by
  unfold splayOk
  rw [hg]
  simp only [splay]
  cases smay r zs d.x0 d.x1 <;> simp
theorem splayL_one {r : Int} {zs : List Int} (hg : sask r zs = true) (d : Sp) : splayL r zs [d] = if smay r zs d.x0 d.x1 then smade d.x0.toNat d.x1 zs else [] := by
  unfold splayL
  rw [splayOk_one hg]
  simp only [splay]
  cases smay r zs d.x0 d.x1 <;> simp
/-- Pairs of stones: n (n - 1) / 2. -/
def spairs (n : Int) : Int := n * (n - 1) / 2
theorem spairs_split (a b : Int) : spairs (a + b) = spairs a + spairs b + a * b := by
  have h2 : ∀ n : Int, n * (n - 1) % 2 = 0 := fun n => by
    rcases Int.emod_two_eq n with h | h
    · rw [Int.mul_emod, h]; simp
    · rw [Int.mul_emod, Int.sub_emod, h]; simp
  have e : (a + b) * (a + b - 1) = a * (a - 1) + b * (b - 1) + 2 * (a * b) := by
    rw [Int.mul_sub, Int.mul_sub, Int.mul_sub, Int.add_mul, Int.mul_add, Int.mul_add, Int.mul_comm b a]; omega
  have ha := h2 a
  have hb := h2 b
  unfold spairs
  rw [e]
  generalize a * (a - 1) = x at *
  generalize b * (b - 1) = y at *
  generalize a * b = z at *
  omega
def spairsAll (zs : List Int) : Int := tot (zs.map spairs)
theorem tot_set (zs : List Int) (i : Nat) (h : i < zs.length) (v : Int) : tot (zs.set i v) = tot zs - zs[i] + v := by
  induction zs generalizing i with
  | nil => simp at h
  | cons x xs ih =>
    cases i with
    | zero => simp [tot]; omega
    | succ i =>
      have := ih i (by simpa using h)
      simp [tot, this]; omega
theorem spairsAll_made {zs : List Int} {i : Nat} {p : Int} (h : i < zs.length) : spairsAll (smade i p zs) = spairsAll zs - p * (zs.getD i 0 - p) := by
  have e : zs.getD i 0 = zs[i] := by simp [List.getD, h]
  have e2 : ((zs ++ [p]).map spairs)[i]'(by simp; omega) = spairs zs[i] := by
    simp only [List.getElem_map]
    rw [List.getElem_append_left h]
  unfold spairsAll smade
  rw [List.map_set, tot_set _ _ (by simp; omega), e2, List.map_append, tot_append, e]
  simp only [List.map_cons, List.map_nil, tot]
  have hs := spairs_split (zs[i] - p) p
  rw [show zs[i] - p + p = zs[i] from by omega, Int.mul_comm (zs[i] - p) p] at hs
  omega
theorem spairsAll_play (r : Int) (zs : List Int) (ds : List Sp) (ys : List Int) (hp : splay r zs ds = some ys) : ssum r zs ds = spairsAll zs - spairsAll ys := by
  induction ds generalizing zs with
  | nil => simp [splay] at hp; subst hp; simp [ssum]
  | cons m ms ih =>
    simp only [splay] at hp
    split at hp
    · rename_i hc
      have h1 := ih _ hp
      obtain ⟨h2, h3, _⟩ := smay_of hc
      have h4 := spairsAll_made (zs := zs) (i := m.x0.toNat) (p := m.x1) (by omega)
      simp only [ssum, h1, h4, sprod]; omega
    · cases hp
end Go.Proofs.Ytpeblkbbnkinaaa
