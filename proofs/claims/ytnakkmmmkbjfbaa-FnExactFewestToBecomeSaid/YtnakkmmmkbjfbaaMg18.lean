import Derived.Test.YtnakkmmmkbjfbaaMg01
import Derived.Test.YtnakkmmmkbjfbaaMg03
import Derived.StillTailTactics

/-
  A NUMBER IN A LIST, BOTH WAYS: the model's l1Has, slices.Index, slices.Contains.
-/
namespace Go.Proofs.Ytnakkmmmkbjfbaa
open Go.RowKit Go.Deep
set_option linter.unusedVariables false

def inL (zs : List Int) (x : Int) : Bool := decide (x ∈ zs)
theorem inL_yes {zs : List Int} {x : Int} (h : x ∈ zs) : inL zs x = true := decide_eq_true h
theorem inL_no {zs : List Int} {x : Int} (h : x ∉ zs) : inL zs x = false := decide_eq_false h
theorem not_in {zs : List Int} {x : Int} (h : ∀ (j : Nat) (_ : j < zs.length), zs[j] ≠ x) : x ∉ zs := fun hx => by
  obtain ⟨j, hj, e⟩ := List.getElem_of_mem hx
  exact h j hj e

theorem l1Has_in (A : Option Addr) (n c B : Nat) (zs : List Int) (x : Int) (w : World) (hr : Ints w B A n zs) (hn : n ≤ 1000000) :
    Calls Try.prog 39 #[.slice A n c, .int .i64 x] w fun e w' => e = .returned (.bool (inL zs x)) ∧ w = w' := by
  obtain rfl := hr.len
  go_enter Try.func39, Try.ntmps39
  go_wp2
  go_loop [9] (fun i => ∃ k : Nat, k ≤ zs.length ∧ i = .int .i64 k ∧ Hid (∀ (j : Nat) (_ : j < zs.length), j < k → zs[j] ≠ x))
    (fun i => zs.length - (intOf i).toNat)
  case atStart => exact ⟨0, Nat.zero_le _, rfl, hide (fun j _ hj => by omega)⟩
  case round =>
    obtain ⟨k, hk, rfl, HA⟩ := hrel
    by_cases hlt : k < zs.length
    · obtain ⟨ad, rfl, hab, hcell⟩ := hr.at_ hlt
      rw [show zs.getD k 0 = zs[k] from by simp [List.getD, List.getElem?_eq_getElem hlt]] at hcell
      by_cases h1 : zs[k] = x
      · have HE := hide (inL_yes (zs := zs) (x := x) (by rw [← h1]; exact List.getElem_mem hlt))
        rw [h1] at hcell
        clear h1
        go_wp2
        go_ret
        exact ⟨by rw [HE.out]; rfl, rfl⟩
      · have HS := hide (show ∀ (j : Nat) (_ : j < zs.length), j < k + 1 → zs[j] ≠ x from fun j hj hjk => by
          by_cases e : j = k
          · subst e; exact h1
          · exact HA.out j hj (by omega))
        generalize zs[k] = a at *
        go_wp2
        go_round
        case rel => exact ⟨k + 1, by omega, by go_num, HS⟩
        case measure => simp [intOf]; omega
    · have HE := hide (inL_no (zs := zs) (x := x) (not_in fun j hj => HA.out j hj (by omega)))
      go_wp2
      go_ret
      exact ⟨by rw [HE.out]; rfl, rfl⟩

/-- slices.Index: where it is, or a number less than 0. -/
theorem Index_in (A : Option Addr) (n c B : Nat) (zs : List Int) (x : Int) (w : World) (hr : Ints w B A n zs) (hn : n ≤ 1000000) :
    Calls Try.prog 50 #[.slice A n c, .int .i64 x] w fun e w' => ∃ r : Int, e = .returned (.int .i64 r) ∧ inL zs x = decide (0 ≤ r) ∧ w = w' := by
  obtain rfl := hr.len
  go_enter Try.func50, Try.ntmps50
  go_wp2
  go_loop [8] (fun i => ∃ k : Nat, k ≤ zs.length ∧ i = .int .i64 k ∧ Hid (∀ (j : Nat) (_ : j < zs.length), j < k → zs[j] ≠ x))
    (fun i => zs.length - (intOf i).toNat)
  case atStart => exact ⟨0, Nat.zero_le _, rfl, hide (fun j _ hj => by omega)⟩
  case round =>
    obtain ⟨k, hk, rfl, HA⟩ := hrel
    by_cases hlt : k < zs.length
    · obtain ⟨ad, rfl, hab, hcell⟩ := hr.at_ hlt
      rw [show zs.getD k 0 = zs[k] from by simp [List.getD, List.getElem?_eq_getElem hlt]] at hcell
      by_cases h1 : zs[k] = x
      · have HE := hide (inL_yes (zs := zs) (x := x) (by rw [← h1]; exact List.getElem_mem hlt))
        rw [h1] at hcell
        clear h1
        go_wp2
        go_ret
        exact ⟨(k : Int), rfl, by rw [HE.out]; simp, rfl⟩
      · have HS := hide (show ∀ (j : Nat) (_ : j < zs.length), j < k + 1 → zs[j] ≠ x from fun j hj hjk => by
          by_cases e : j = k
          · subst e; exact h1
          · exact HA.out j hj (by omega))
        have h1' : ¬ (x = zs[k]) := fun h => h1 h.symm
        generalize zs[k] = a at *
        go_wp2
        go_round
        case rel => exact ⟨k + 1, by omega, by go_num, HS⟩
        case measure => simp [intOf]; omega
    · have HE := hide (inL_no (zs := zs) (x := x) (not_in fun j hj => HA.out j hj (by omega)))
      go_wp2
      go_ret
      exact ⟨-1, rfl, by rw [HE.out]; simp, rfl⟩

/-- slices.Contains. -/
theorem Contains_in (A : Option Addr) (n c B : Nat) (zs : List Int) (x : Int) (w : World) (hr : Ints w B A n zs) (hn : n ≤ 1000000) :
    Calls Try.prog 44 #[.slice A n c, .int .i64 x] w fun e w' => e = .returned (.bool (inL zs x)) ∧ w = w' := by
  have HI := hide (Index_in A n c B zs x w hr hn)
  generalize inL zs x = b at *
  go_enter Try.func44, Try.ntmps44
  go_wp2_with fail
  refine HI.out.mono ?_; rintro e w' ⟨r, rfl, hr2, rfl⟩
  have HR := hide hr2
  clear hr2
  go_wp2_with fail
  go_ret
  exact ⟨by rw [HR.out]; rfl, rfl⟩
end Go.Proofs.Ytnakkmmmkbjfbaa

/-
  LISTS OF LISTS OF NUMBERS: what they read as, lists of the call's own, marks; eqIntSS, markIntSS, heldIntSS.
-/
namespace Go.Proofs.Ytnakkmmmkbjfbaa
open Go.RowKit Go.Deep
set_option linter.unusedVariables false

/-- The slice values vs, which read as the lists zss, below block B. -/
def IntVs (w : World) (B : Nat) (vs : List Value) (zss : List (List Int)) : Prop :=
  vs.length = zss.length ∧ ∀ k, k < zss.length → ∃ A c, vs.getD k undef = .slice A (zss.getD k []).length c ∧ Ints w B A (zss.getD k []).length (zss.getD k [])
/-- The slice value '.slice A n c' holds the slice values vs. -/
def Vals (w : World) (B : Nat) (A : Option Addr) (n : Nat) (vs : List Value) : Prop :=
  vs.length = n ∧ (0 < n → ∃ ad, A = some ad ∧ ad.block < B ∧ ∀ k, k < n → w.cell? (ad.add k) = some (vs.getD k undef))
section
variable {w w' : World} {B B' n : Nat} {A : Option Addr} {vs : List Value} {zss : List (List Int)}
theorem Vals.at_ {k : Nat} (h : Vals w B A n vs) (hk : k < n) : ∃ ad, A = some ad ∧ ad.block < B ∧ w.cell? (ad.add k) = some (vs.getD k undef) := by
  obtain ⟨ad, e, hb, hc⟩ := h.2 (by omega)
  exact ⟨ad, e, hb, hc k hk⟩
theorem Vals.below {C : Nat} (h : Vals w B A n vs) (hb : Below C w w') (hC : B ≤ C) : Vals w' B A n vs :=
  ⟨h.1, fun hn => by
    obtain ⟨ad, e, hB, hc⟩ := h.2 hn
    exact ⟨ad, e, hB, fun k hk => (hb.cell (p := ad.add k) (by rw [block_of_add]; omega)).trans (hc k hk)⟩⟩
theorem Vals.more (h : Vals w B A n vs) (hB : B ≤ B') : Vals w B' A n vs := ⟨h.1, fun hn => by
    obtain ⟨ad, e, hb, hc⟩ := h.2 hn
    exact ⟨ad, e, by omega, hc⟩⟩
theorem IntVs.below {C : Nat} (h : IntVs w B vs zss) (hb : Below C w w') (hC : B ≤ C) : IntVs w' B vs zss :=
  ⟨h.1, fun k hk => by
    obtain ⟨A, c, e, hr⟩ := h.2 k hk
    exact ⟨A, c, e, hr.below hb hC⟩⟩
theorem IntVs.more (h : IntVs w B vs zss) (hB : B ≤ B') : IntVs w B' vs zss := ⟨h.1, fun k hk => by
    obtain ⟨A, c, e, hr⟩ := h.2 k hk
    exact ⟨A, c, e, hr.more hB⟩⟩
end

/-- A list of lists that a call has made itself: the list's own row, each one's own row, no two in one block. -/
def OwnVs (w : World) (base : Nat) (v : Value) (vs : List Value) (zss : List (List Int)) : Prop :=
  vs.length = zss.length ∧ w.ownsRow base 22 1 v vs.length vs ∧ (∀ k, k < zss.length → Own w base 3 (vs.getD k undef) (zss.getD k [])) ∧
  (∀ i j, i < j → j < zss.length → ∀ b, (vs.getD i undef).ownBlock = some b → (vs.getD j undef).ownBlock ≠ some b) ∧ (∀ i, i < zss.length → ∀ b, (vs.getD i undef).ownBlock = some b → v.ownBlock ≠ some b)
section
variable {w w' : World} {base : Nat} {v : Value} {vs : List Value} {zss : List (List Int)} {A : Option Addr} {n c : Nat}
theorem OwnVs.nil (w : World) (base : Nat) : OwnVs w base (.slice none 0 0) [] [] := ⟨rfl, World.ownsRow_nil _ _ _ _, fun _ h => absurd h (by simp), fun _ _ _ h => absurd h (by simp), fun _ h => absurd h (by simp)⟩
theorem Own.keepB {e : TypeId} {u : Value} {zs : List Int} (h : Own w base e u zs) (hk : ∀ g, u.ownBlock = some g → g < w.heap.size → w'.heap[g]? = w.heap[g]?) : Own w' base e u zs := by
  refine ⟨h.1, ?_⟩
  rcases h.2 with h2 | ⟨g, cap, cur, hv, hb, hg, r⟩
  · exact .inl h2
  · obtain ⟨hlt, _⟩ := Array.getElem?_eq_some_iff.1 hg
    exact .inr ⟨g, cap, cur, hv, hb, (hk g (by rw [hv]; rfl) hlt).trans hg, r⟩
theorem OwnVs.keep (h : OwnVs w base v vs zss) (hk : ∀ g, base ≤ g → g < w.heap.size → w'.heap[g]? = w.heap[g]?) : OwnVs w' base v vs zss := by
  obtain ⟨h1, h2, h3, h4, h5⟩ := h
  refine ⟨h1, ⟨h2.1, ?_⟩, fun k hk' => (h3 k hk').keep hk, h4, h5⟩
  rcases h2.2 with h2 | ⟨g, cap, cur, hv, hb, hg, r⟩
  · exact .inl h2
  · obtain ⟨hlt, _⟩ := Array.getElem?_eq_some_iff.1 hg
    exact .inr ⟨g, cap, cur, hv, hb, (hk g hb hlt).trans hg, r⟩
theorem OwnVs.below (h : OwnVs w base v vs zss) (hb : Below w.heap.size w w') : OwnVs w' base v vs zss := h.keep fun g _ hg => hb.block g hg
theorem OwnVs.less {base' : Nat} (h : OwnVs w base v vs zss) (hb : base' ≤ base) : OwnVs w base' v vs zss := by
  obtain ⟨h1, h2, h3, h4, h5⟩ := h
  refine ⟨h1, ⟨h2.1, ?_⟩, fun k hk' => (h3 k hk').less hb, h4, h5⟩
  rcases h2.2 with h2 | ⟨g, cap, cur, hv, hb', r⟩
  · exact .inl h2
  · exact .inr ⟨g, cap, cur, hv, by omega, r⟩
theorem OwnVs.form (h : OwnVs w base v vs zss) : (v = .slice none 0 0 ∧ zss = []) ∨ ∃ g c, v = .slice (some ⟨g, 0, none⟩) zss.length c ∧ base ≤ g ∧ g < w.heap.size ∧ zss.length ≤ c ∧ c ≤ maxLen := by
  obtain ⟨h1, h2, _⟩ := h
  rcases h2.2 with ⟨rfl, h0⟩ | ⟨g, cap, cur, rfl, hb, hg, hn, hm, _⟩
  · exact .inl ⟨rfl, List.eq_nil_of_length_eq_zero (by omega)⟩
  · obtain ⟨hlt, _⟩ := Array.getElem?_eq_some_iff.1 hg
    exact .inr ⟨g, cap, by rw [h1], hb, hlt, by omega, hm⟩
theorem OwnVs.shape (h : OwnVs w base v vs zss) : ∃ A c, v = .slice A zss.length c ∧ zss.length ≤ c ∧ c ≤ maxLen := by
  rcases h.form with ⟨rfl, rfl⟩ | ⟨g, c, rfl, _, _, h1, h2⟩
  · exact ⟨none, 0, rfl, Nat.le_refl _, Nat.zero_le _⟩
  · exact ⟨_, c, rfl, h1, h2⟩
theorem OwnVs.vals (h : OwnVs w base (.slice A n c) vs zss) : Vals w w.heap.size A zss.length vs := by
  obtain ⟨h1, h2, _⟩ := h
  refine ⟨h1, fun hn => ?_⟩
  rcases h2.2 with ⟨_, h0⟩ | ⟨g, cap, cur, he, hb, hg, hnc, hm, hs, ht⟩
  · omega
  · injection he with hA hn' hc'
    obtain ⟨hlt, _⟩ := Array.getElem?_eq_some_iff.1 hg
    refine ⟨_, hA, hlt, fun k hk => ?_⟩
    rw [add_head]
    subst hA; subst hn'; subst hc'
    have := World.ownsRow.cellAt h2 k (by omega)
    rw [this, List.getElem?_eq_getElem (by omega)]
    simp [List.getD, List.getElem?_eq_getElem (show k < vs.length by omega)]
theorem OwnVs.ints (h : OwnVs w base v vs zss) : IntVs w w.heap.size vs zss := by
  obtain ⟨h1, _, h3, _⟩ := h
  refine ⟨h1, fun k hk => ?_⟩
  have ho := h3 k hk
  obtain ⟨A', c', e, _, _⟩ := ho.shape
  rw [e] at ho
  exact ⟨A', c', e, ho.ints⟩
end

/-- The marks of all. -/
def marksSS : Int → List (List Int) → List (List Int)
  | _, [] => []
  | k, z :: zs => marks k z.length :: marksSS (k + (z.length : Int)) zs
/-- How many there are together, of the first k lists. -/
def sizeSS (zss : List (List Int)) : Nat := (zss.map List.length).sum
theorem sizeSS_succ (zss : List (List Int)) (k : Nat) (hk : k < zss.length) : sizeSS (zss.take (k + 1)) = sizeSS (zss.take k) + (zss.getD k []).length := by
  unfold sizeSS
  rw [List.take_succ_eq_append_getElem hk, List.map_append, List.sum_append]
  simp [List.getD, List.getElem?_eq_getElem hk]
theorem sizeSS_le (zss : List (List Int)) (k : Nat) : sizeSS (zss.take k) ≤ sizeSS zss := by
  unfold sizeSS
  have := List.take_append_drop k zss
  conv => rhs; rw [← this]
  rw [List.map_append, List.sum_append]
  omega
theorem sizeSS_one (zss : List (List Int)) (k : Nat) (hk : k < zss.length) : (zss.getD k []).length ≤ sizeSS zss := by
  have := sizeSS_succ zss k hk
  have := sizeSS_le zss (k + 1)
  omega
theorem marksSS_length : ∀ (k0 : Int) (zss : List (List Int)), (marksSS k0 zss).length = zss.length
  | _, [] => rfl
  | k0, z :: zs => by rw [marksSS, List.length_cons, List.length_cons, marksSS_length]
theorem marksSS_getD : ∀ (k0 : Int) (zss : List (List Int)) (k : Nat), k < zss.length → (marksSS k0 zss).getD k [] = marks (k0 + (sizeSS (zss.take k) : Int)) (zss.getD k []).length
  | _, [], k, h => by simp at h
  | k0, z :: zs, 0, _ => by simp [marksSS, sizeSS]
  | k0, z :: zs, k + 1, h => by
    have ih := marksSS_getD (k0 + (z.length : Int)) zs k (by simpa using h)
    rw [marksSS]
    show (marksSS (k0 + (z.length : Int)) zs).getD k [] = _
    rw [ih]
    have e : (sizeSS ((z :: zs).take (k + 1)) : Int) = (z.length : Int) + (sizeSS (zs.take k) : Int) := by simp [sizeSS]
    rw [e, show (z :: zs).getD (k + 1) [] = zs.getD k [] from rfl, Int.add_assoc]
/-- The first j lists are marked. -/
def mixSS (k0 : Int) (j : Nat) (zss : List (List Int)) : List (List Int) := (marksSS k0 zss).take j ++ zss.drop j
theorem mixSS_length (k0 : Int) (j : Nat) (zss : List (List Int)) (h : j ≤ zss.length) : (mixSS k0 j zss).length = zss.length := by
  unfold mixSS
  rw [List.length_append, List.length_take, marksSS_length, List.length_drop]; omega
theorem mixSS_zero (k0 : Int) (zss : List (List Int)) : mixSS k0 0 zss = zss := by simp [mixSS]
theorem mixSS_all (k0 : Int) (zss : List (List Int)) : mixSS k0 zss.length zss = marksSS k0 zss := by
  unfold mixSS
  rw [List.take_of_length_le (by rw [marksSS_length]; exact Nat.le_refl _)]; simp
theorem mixSS_lt (k0 : Int) (j k : Nat) (zss : List (List Int)) (hk : k < j) (h : j ≤ zss.length) : (mixSS k0 j zss).getD k [] = (marksSS k0 zss).getD k [] := by
  unfold mixSS
  simp only [List.getD]
  rw [List.getElem?_append_left (by rw [List.length_take, marksSS_length]; omega), List.getElem?_take]
  simp [hk]
theorem mixSS_ge (k0 : Int) (j k : Nat) (zss : List (List Int)) (hk : j ≤ k) (h : k < zss.length) : (mixSS k0 j zss).getD k [] = zss.getD k [] := by
  unfold mixSS
  simp only [List.getD]
  rw [List.getElem?_append_right (by rw [List.length_take, marksSS_length]; omega), List.length_take, marksSS_length, List.getElem?_drop]
  congr 2
  omega
/-- A list of the call's own, one of its lists turned. -/
theorem OwnVs.turned {w w' : World} {base : Nat} {v : Value} {vs : List Value} {zss zss' : List (List Int)} (h : OwnVs w base v vs zss) (j : Nat) (hj : j < zss.length) (hl : zss'.length = zss.length)
    (hsame : ∀ k, k < zss.length → k ≠ j → zss'.getD k [] = zss.getD k []) (hrow : Own w' base 3 (vs.getD j undef) (zss'.getD j []))
    (hoth : ∀ g, g < w.heap.size → (vs.getD j undef).ownBlock ≠ some g → w'.heap[g]? = w.heap[g]?) : OwnVs w' base v vs zss' := by
  obtain ⟨h1, h2, h3, h4, h5⟩ := h
  refine ⟨by omega, ⟨h2.1, ?_⟩, fun k hk => ?_, fun i j' hij hj' => h4 i j' hij (by omega), fun i hi => h5 i (by omega)⟩
  · rcases h2.2 with h6 | ⟨g, cap, cur, hv, hb, hg, r⟩
    · exact .inl h6
    · obtain ⟨hlt, _⟩ := Array.getElem?_eq_some_iff.1 hg
      refine .inr ⟨g, cap, cur, hv, hb, (hoth g hlt (fun e => ?_)).trans hg, r⟩
      exact h5 j hj g e (by rw [hv]; rfl)
  · by_cases e : k = j
    · subst e; exact hrow
    · rw [hsame k (by omega) e]
      refine (h3 k (by omega)).keepB fun g hg hlt => hoth g hlt (fun e2 => ?_)
      rcases Nat.lt_or_ge k j with h7 | h7
      · exact h4 k j h7 hj g hg e2
      · exact h4 j k (by omega) (by omega) g e2 hg

/-- WHAT markIntSS LEAVES. -/
def MarkedSS (base : Nat) (v : Value) (vs : List Value) (zss : List (List Int)) (k0 : Int) (w : World) (e : Ending) (w' : World) : Prop :=
  e = .returned (.int .i64 (k0 + (sizeSS zss : Int))) ∧ OwnVs w' base v vs (marksSS k0 zss) ∧ Below base w w'

end Go.Proofs.Ytnakkmmmkbjfbaa
