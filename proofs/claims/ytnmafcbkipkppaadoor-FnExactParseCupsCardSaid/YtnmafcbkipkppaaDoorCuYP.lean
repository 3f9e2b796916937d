
/-
  TEXTS OF CUPS READ BACK, plainly: what the program tells, and that the model tells the same.
-/
import Derived.Test.YtnmafcbkipkppaaDoorSep45
import Derived.Test.YtnmafcbkipkppaaDoorSep47
import Derived.Test.YtnmafcbkipkppaaDoorRdc
import Derived.Test.YtnmafcbkipkppaaDoorCuS
namespace Go.Proofs.YtnmafcbkipkppaaDoor
open Go.RowKit
set_option linter.unusedVariables false

def partsOf (a : List UInt8) : List Int := (sp45 a).map rdc
/-- What the program reads of both pieces. -/
def ycG (a b : List UInt8) : Option (List Int × Int) := match spI45 a 6, pn b with
  | some zs, some u => if cuOk zs u then some (zs, u) else none
  | _, _ => none
def ycP (l : List UInt8) : Option (List Int × Int) := ycG (Lib.cut l [47]).1 (Lib.cut l [47]).2.1
def ycOk (l : List UInt8) : Bool := (ycP l).isSome
def ycL (l : List UInt8) : List Int := ((ycP l).getD ([], 0)).1
def ycU (l : List UInt8) : Int := ((ycP l).getD ([], 0)).2
theorem yc_none {l : List UInt8} (h : ycP l = none) : ycL l = [] ∧ ycU l = 0 ∧ ycOk l = false := by unfold ycOk ycU ycL; rw [h]; exact ⟨rfl, rfl, rfl⟩
theorem yc_some {l : List UInt8} {u : Int} {zs : List Int} (h : ycP l = some (zs, u)) : ycL l = zs ∧ ycU l = u ∧ ycOk l = true := by unfold ycOk ycU ycL; rw [h]; exact ⟨rfl, rfl, rfl⟩
theorem cu_small {zs : List Int} {u : Int} (h : cuOk zs u = true) : zs.length ≤ 6 ∧ (1 ≤ u ∧ u < 10000000) ∧ ∀ z ∈ zs, 0 ≤ z ∧ z < 10000000000 := by
  obtain ⟨_, h6, hu, hw, _⟩ := cuOk_of h
  have hub := isU_bd hu
  refine ⟨h6, by omega, fun z hz => ?_⟩
  have := within_toNat hw z hz
  omega
theorem ycG_some {a b : List UInt8} {zs : List Int} {u : Int} (h : ycG a b = some (zs, u)) : cuOk zs u = true ∧ partsOf a = zs ∧ rdc b = u := by
  unfold ycG at h
  cases hp : spI45 a 6 with
  | none => rw [hp] at h; cases h
  | some ns =>
    cases hq : pn b with
    | none => rw [hp, hq] at h; cases h
    | some v =>
      rw [hp, hq] at h
      simp only at h
      split at h
      · rename_i ho
        injection h with h
        injection h with h1 h2
        subst h1 h2
        obtain ⟨h6, hu, hz⟩ := cu_small ho
        unfold spI45 at hp
        split at hp
        · exact ⟨ho, rdc_of_pnAll hp (fun n hn => (hz n hn).2), (rdc_of_pn (by omega) hq).2⟩
        · cases hp
      · cases h
theorem ycG_of {a b : List UInt8} (h : cuOk (partsOf a) (rdc b) = true) : ycG a b = some (partsOf a, rdc b) := by
  obtain ⟨h6, hu, hz⟩ := cu_small h
  obtain ⟨v, hv⟩ := Int.eq_ofNat_of_zero_le (show 0 ≤ rdc b by omega)
  have hp := pn_of_rdc (w := b) (v := v) (by omega) hv
  have hl : (sp45 a).length ≤ 6 := by unfold partsOf at h6; rwa [List.length_map] at h6
  have hq : spI45 a 6 = some (partsOf a) := by
    unfold spI45
    rw [if_pos hl]
    refine pnAll_of_rdc (fun w hw => hz _ ?_)
    unfold partsOf
    exact List.mem_map.2 ⟨w, hw, rfl⟩
  unfold ycG
  rw [hp, hq]
  rw [hv] at h ⊢
  simp [h]
theorem cut_of47 {p r : List UInt8} (h : (47 : UInt8) ∉ p) : Lib.cut (p ++ 47 :: r) [47] = (p, r, true) := by
  unfold Lib.cut
  rw [index_at47 p r h, if_pos (by omega)]
  have e1 : ((p.length : Int)).toNat = p.length := by omega
  rw [e1, List.take_left, show p.length + ([47] : List UInt8).length = (p ++ [47]).length by simp, show p ++ 47 :: r = (p ++ [47]) ++ r by simp, List.drop_left]
theorem cut_not47 {l : List UInt8} (h : (47 : UInt8) ∉ l) : Lib.cut l [47] = (l, [], false) := by
  unfold Lib.cut
  rw [index_no47 l h, if_neg (by omega)]
theorem rdc_facts {w : List UInt8} (h : 0 ≤ rdc w) : w.length ≤ 10 ∧ ((0 : Int) ≤ rdc w ∧ rdc w < 10000000000 → (47 : UInt8) ∉ w) := by
  refine ⟨?_, fun hb hm => ?_⟩
  · unfold rdc at h
    split at h
    · rename_i hw; exact hw.1.2
    · omega
  · obtain ⟨v, hv⟩ := Int.eq_ofNat_of_zero_le h
    have ht := rdc_text (w := w) (v := v) hv
    rw [ht] at hm
    have := decDigits_byte 9 v (by omega) _ hm
    simp at this
theorem lens_ten : ∀ (ws : List (List UInt8)), (∀ w ∈ ws, w.length ≤ 10) → lens ws ≤ 11 * ws.length
  | [], _ => by simp [lens]
  | w :: ws, h => by
    have h1 := h w List.mem_cons_self
    have h2 := lens_ten ws (fun x hx => h x (List.mem_cons_of_mem _ hx))
    rw [lens, List.length_cons]; omega
theorem ycP_parts {l : List UInt8} {zs : List Int} {u : Int} (h : ycP l = some (zs, u)) : l.length ≤ 80 ∧ (sp47 l).length = 2 := by
  by_cases hm : (47 : UInt8) ∈ l
  · obtain ⟨p, r, rfl, hp⟩ := List.eq_append_cons_of_mem hm
    unfold ycP at h
    rw [cut_of47 hp] at h
    dsimp only at h
    obtain ⟨ho, h1, h2⟩ := ycG_some h
    subst h1 h2
    obtain ⟨h6, hu, hz⟩ := cu_small ho
    have hr := rdc_facts (w := r) (by omega)
    have hl : ∀ w ∈ sp45 p, w.length ≤ 10 := fun w hw => (rdc_facts (w := w) ((hz _ (by unfold partsOf; exact List.mem_map.2 ⟨w, hw, rfl⟩)).1)).1
    have h3 := lens_ten _ hl
    have h4 := spc_lens45 p []
    unfold partsOf at h6
    rw [List.length_map] at h6
    unfold sp45 at h3 h6
    rw [h4] at h3
    simp at h3
    refine ⟨by simp; omega, ?_⟩
    rw [sp_length47]
    have c1 := List.count_eq_zero.2 hp
    have c2 := List.count_eq_zero.2 (hr.2 ⟨by omega, by omega⟩)
    rw [List.count_append, List.count_cons_self, c1, c2]
  · unfold ycP at h
    rw [cut_not47 hm] at h
    dsimp only at h
    obtain ⟨ho, _, h2⟩ := ycG_some h
    have hu := (cu_small ho).2.1
    have : rdc [] = -1 := by decide
    omega
theorem yc_long {l : List UInt8} (h : 80 < l.length) : ycP l = none := by
  cases hp : ycP l with
  | none => rfl
  | some x => obtain ⟨u, cs⟩ := x; have := (ycP_parts hp).1; omega
theorem yc_not2 {l : List UInt8} (h : (sp47 l).length ≠ 2) : ycP l = none := by
  cases hp : ycP l with
  | none => rfl
  | some x => obtain ⟨u, cs⟩ := x; exact absurd (ycP_parts hp).2 h
theorem cut_two47 {l a b : List UInt8} (h : sp47 l = [a, b]) : Lib.cut l [47] = (a, b, true) := by
  have hc := sp_length47 l
  rw [h] at hc
  have hm : (47 : UInt8) ∈ l := List.count_pos_iff.1 (by simp at hc; omega)
  obtain ⟨p, r, rfl, hp⟩ := List.eq_append_cons_of_mem hm
  unfold sp47 at h
  rw [spc_hit47 p [] r hp] at h
  simp only [List.nil_append, List.cons.injEq] at h
  obtain ⟨rfl, h2⟩ := h
  have hj := join_spc47 r []
  rw [h2] at hj
  have : b = r := by simpa [Lib.join_one] using hj
  subst this
  exact cut_of47 hp
/-- The model's way of telling it. -/
theorem yc_two {l a b : List UInt8} (h : sp47 l = [a, b]) : ycP l = if cuOk (partsOf a) (rdc b) then some (partsOf a, rdc b) else none := by
  unfold ycP
  rw [cut_two47 h]
  simp only
  cases h1 : cuOk (partsOf a) (rdc b)
  · rw [if_neg (by simp)]
    cases hp : ycG a b with
    | none => rfl
    | some x =>
      obtain ⟨zs, u⟩ := x
      obtain ⟨h2, h3, h4⟩ := ycG_some hp
      subst h3 h4
      rw [h2] at h1; cases h1
  · rw [if_pos rfl]
    exact ycG_of h1
end Go.Proofs.YtnmafcbkipkppaaDoor
