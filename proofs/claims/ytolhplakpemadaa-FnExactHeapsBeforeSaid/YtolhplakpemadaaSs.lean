
/-
  LISTS OF LISTS OF NUMBERS: what they read as, lists of the call's own, marks; eqIntSS, markIntSS, heldIntSS.
-/
import Derived.Test.YtolhplakpemadaaMark
import Derived.StillTailTactics
namespace Go.Proofs.Ytolhplakpemadaa
open Go.RowKit Go.Deep
set_option linter.unusedVariables false

/-- The slice values vs, which read as the lists zss, below block B. -/
def IntVs (w : World) (B : Nat) (vs : List Value) (zss : List (List Int)) : Prop :=
  vs.length = zss.length ∧ ∀ k, k < zss.length → ∃ A c, vs.getD k undef = .slice A (zss.getD k []).length c ∧ Ints w B A (zss.getD k []).length (zss.getD k [])
/-- The slice value '.slice A n c' holds the slice values vs. -/
def Vals (w : World) (B : Nat) (A : Option Addr) (n : Nat) (vs : List Value) : Prop :=
  vs.length = n ∧ (0 < n → ∃ ad, A = some ad ∧ ad.block < B ∧ ∀ k, k < n → w.cell? (ad.add k) = some (vs.getD k undef))
section
variable {w w' : World} {B B' n : Nat} {A : Option Addr} {vs : List Value} {zss : List (List Int)}
theorem Vals.at_ {k : Nat} (h : Vals w B A n vs) (hk : k < n) : ∃ ad, A = some ad ∧ ad.block < B ∧ w.cell? (ad.add k) = some (vs.getD k undef) := by
  obtain ⟨ad, e, hb, hc⟩ := h.2 (by omega)
  exact ⟨ad, e, hb, hc k hk⟩
theorem Vals.below {C : Nat} (h : Vals w B A n vs) (hb : Below C w w') (hC : B ≤ C) : Vals w' B A n vs :=
  ⟨h.1, fun hn => by
    obtain ⟨ad, e, hB, hc⟩ := h.2 hn
    exact ⟨ad, e, hB, fun k hk => (hb.cell (p := ad.add k) (by rw [block_of_add]; omega)).trans (hc k hk)⟩⟩
theorem Vals.more (h : Vals w B A n vs) (hB : B ≤ B') : Vals w B' A n vs := ⟨h.1, fun hn => by
    obtain ⟨ad, e, hb, hc⟩ := h.2 hn
    exact ⟨ad, e, by omega, hc⟩⟩
theorem IntVs.below {C : Nat} (h : IntVs w B vs zss) (hb : Below C w w') (hC : B ≤ C) : IntVs w' B vs zss :=
  ⟨h.1, fun k hk => by
    obtain ⟨A, c, e, hr⟩ := h.2 k hk
    exact ⟨A, c, e, hr.below hb hC⟩⟩
theorem IntVs.more (h : IntVs w B vs zss) (hB : B ≤ B') : IntVs w B' vs zss := ⟨h.1, fun k hk => by
    obtain ⟨A, c, e, hr⟩ := h.2 k hk
    exact ⟨A, c, e, hr.more hB⟩⟩
end

/-- A list of lists that a call has made itself: the list's own row, each one's own row, no two in one block. -/
def OwnVs (w : World) (base : Nat) (v : Value) (vs : List Value) (zss : List (List Int)) : Prop :=
  vs.length = zss.length ∧ w.ownsRow base 22 1 v vs.length vs ∧ (∀ k, k < zss.length → Own w base 3 (vs.getD k undef) (zss.getD k [])) ∧
  (∀ i j, i < j → j < zss.length → ∀ b, (vs.getD i undef).ownBlock = some b → (vs.getD j undef).ownBlock ≠ some b) ∧ (∀ i, i < zss.length → ∀ b, (vs.getD i undef).ownBlock = some b → v.ownBlock ≠ some b)
section
variable {w w' : World} {base : Nat} {v : Value} {vs : List Value} {zss : List (List Int)} {A : Option Addr} {n c : Nat}
theorem OwnVs.nil (w : World) (base : Nat) : OwnVs w base (.slice none 0 0) [] [] := ⟨rfl, World.ownsRow_nil _ _ _ _, fun _ h => absurd h (by simp), fun _ _ _ h => absurd h (by simp), fun _ h => absurd h (by simp)⟩
theorem Own.keepB {e : TypeId} {u : Value} {zs : List Int} (h : Own w base e u zs) (hk : ∀ g, u.ownBlock = some g → g < w.heap.size → w'.heap[g]? = w.heap[g]?) : Own w' base e u zs := by
  refine ⟨h.1, ?_⟩
  rcases h.2 with h2 | ⟨g, cap, cur, hv, hb, hg, r⟩
  · exact .inl h2
  · obtain ⟨hlt, _⟩ := Array.getElem?_eq_some_iff.1 hg
    exact .inr ⟨g, cap, cur, hv, hb, (hk g (by rw [hv]; rfl) hlt).trans hg, r⟩
theorem OwnVs.keep (h : OwnVs w base v vs zss) (hk : ∀ g, base ≤ g → g < w.heap.size → w'.heap[g]? = w.heap[g]?) : OwnVs w' base v vs zss := by
  obtain ⟨h1, h2, h3, h4, h5⟩ := h
  refine ⟨h1, ⟨h2.1, ?_⟩, fun k hk' => (h3 k hk').keep hk, h4, h5⟩
  rcases h2.2 with h2 | ⟨g, cap, cur, hv, hb, hg, r⟩
  · exact .inl h2
  · obtain ⟨hlt, _⟩ := Array.getElem?_eq_some_iff.1 hg
    exact .inr ⟨g, cap, cur, hv, hb, (hk g hb hlt).trans hg, r⟩
theorem OwnVs.below (h : OwnVs w base v vs zss) (hb : Below w.heap.size w w') : OwnVs w' base v vs zss := h.keep fun g _ hg => hb.block g hg
theorem OwnVs.less {base' : Nat} (h : OwnVs w base v vs zss) (hb : base' ≤ base) : OwnVs w base' v vs zss := by
  obtain ⟨h1, h2, h3, h4, h5⟩ := h
  refine ⟨h1, ⟨h2.1, ?_⟩, fun k hk' => (h3 k hk').less hb, h4, h5⟩
  rcases h2.2 with h2 | ⟨g, cap, cur, hv, hb', r⟩
  · exact .inl h2
  · exact .inr ⟨g, cap, cur, hv, by omega, r⟩
theorem OwnVs.form (h : OwnVs w base v vs zss) : (v = .slice none 0 0 ∧ zss = []) ∨ ∃ g c, v = .slice (some ⟨g, 0, none⟩) zss.length c ∧ base ≤ g ∧ g < w.heap.size ∧ zss.length ≤ c ∧ c ≤ maxLen := by
  obtain ⟨h1, h2, _⟩ := h
  rcases h2.2 with ⟨rfl, h0⟩ | ⟨g, cap, cur, rfl, hb, hg, hn, hm, _⟩
  · exact .inl ⟨rfl, List.eq_nil_of_length_eq_zero (by omega)⟩
  · obtain ⟨hlt, _⟩ := Array.getElem?_eq_some_iff.1 hg
    exact .inr ⟨g, cap, by rw [h1], hb, hlt, by omega, hm⟩
theorem OwnVs.shape (h : OwnVs w base v vs zss) : ∃ A c, v = .slice A zss.length c ∧ zss.length ≤ c ∧ c ≤ maxLen := by
  rcases h.form with ⟨rfl, rfl⟩ | ⟨g, c, rfl, _, _, h1, h2⟩
  · exact ⟨none, 0, rfl, Nat.le_refl _, Nat.zero_le _⟩
  · exact ⟨_, c, rfl, h1, h2⟩
theorem OwnVs.vals (h : OwnVs w base (.slice A n c) vs zss) : Vals w w.heap.size A zss.length vs := by
  obtain ⟨h1, h2, _⟩ := h
  refine ⟨h1, fun hn => ?_⟩
  rcases h2.2 with ⟨_, h0⟩ | ⟨g, cap, cur, he, hb, hg, hnc, hm, hs, ht⟩
  · omega
  · injection he with hA hn' hc'
    obtain ⟨hlt, _⟩ := Array.getElem?_eq_some_iff.1 hg
    refine ⟨_, hA, hlt, fun k hk => ?_⟩
    rw [add_head]
    subst hA; subst hn'; subst hc'
    have := World.ownsRow.cellAt h2 k (by omega)
    rw [this, List.getElem?_eq_getElem (by omega)]
    simp [List.getD, List.getElem?_eq_getElem (show k < vs.length by omega)]
theorem OwnVs.ints (h : OwnVs w base v vs zss) : IntVs w w.heap.size vs zss := by
  obtain ⟨h1, _, h3, _⟩ := h
  refine ⟨h1, fun k hk => ?_⟩
  have ho := h3 k hk
  obtain ⟨A', c', e, _, _⟩ := ho.shape
  rw [e] at ho
  exact ⟨A', c', e, ho.ints⟩
end

set_option maxRecDepth 100000 in
/-- The same lists: true. -/
theorem eqIntSS_same (A A' : Option Addr) (n c c' B : Nat) (vs vs' : List Value) (zss : List (List Int)) (w : World) (h : Vals w B A n vs) (hr : IntVs w B vs zss) (h' : Vals w B A' n vs') (hr' : IntVs w B vs' zss) (hB : B ≤ w.heap.size) (hn : n ≤ 17592186044416)
    (hz : ∀ k, k < zss.length → (zss.getD k []).length ≤ 17592186044416) :
    Calls Try.prog 7 #[.slice A n c, .slice A' n c'] w fun e w' => e = .returned (.bool true) ∧ Below w.heap.size w w' := by
  obtain rfl : zss.length = n := (h.1.symm.trans hr.1).symm
  have hne : ((zss.length : Int) != (zss.length : Int)) = false := by simp
  have HV := hide h
  have HV' := hide h'
  have HR := hide hr
  have HR' := hide hr'
  have HZ := hide hz
  clear h h' hr hr' hz
  go_enter Try.func7, Try.ntmps7
  go_wp2_with fail
  go_loopw [5] (fun i wr => ∃ k : Nat, k ≤ zss.length ∧ i = .int .i64 k ∧ Below w.heap.size w wr)
    (fun i _ => zss.length - (intOf i).toNat)
  case atStart => exact ⟨0, Nat.zero_le _, rfl, Below.refl _ _⟩
  case round =>
    obtain ⟨k, hk, rfl, hb⟩ := hrel
    have BB := hide hb
    have hsz := hb.size
    clear hb
    by_cases hlt : k < zss.length
    · obtain ⟨ad, rfl, hab, hcell⟩ := (HV.out.below BB.out hB).at_ hlt
      obtain ⟨ad', rfl, hab', hcell'⟩ := (HV'.out.below BB.out hB).at_ hlt
      obtain ⟨A1, c1, e1, r1⟩ := (HR.out.below BB.out hB).2 k (by omega)
      obtain ⟨A2, c2, e2, r2⟩ := (HR'.out.below BB.out hB).2 k (by omega)
      rw [e1] at hcell
      rw [e2] at hcell'
      have hzk := HZ.out k (by omega)
      have HE := hide (fun (W : World) (hb : Below wr.heap.size wr W) => eqIntS_same A1 A2 (zss.getD k []).length c1 c2 B B (zss.getD k []) W (r1.below hb (by omega)) (r2.below hb (by omega)) (by have := hb.size; omega) (by have := hb.size; omega) hzk)
      clear e1 e2 r1 r2 hzk
      generalize (zss.getD k []).length = L at *
      go_wp2_with fail
      go_still_tail 8, (by kernel_rfl)
      change wpList _ _ _ _ _ wr.drew
      go_wp2_with fail
      refine (HE.out wr.drew (Below.refl _ _).drew).mono ?_; rintro e w2 ⟨rfl, hb2⟩
      have B2 := hide (BB.out.trans (((Below.refl wr.heap.size wr).drew.trans hb2).mono hsz))
      clear hb2
      go_wp2_with fail
      go_roundw
      case rel => exact ⟨k + 1, by omega, by go_num, B2.out⟩
      case measure => simp [intOf]; omega
    · go_wp2_with fail
      go_ret
      exact ⟨rfl, BB.out⟩

/-- The marks of all. -/
def marksSS : Int → List (List Int) → List (List Int)
  | _, [] => []
  | k, z :: zs => marks k z.length :: marksSS (k + (z.length : Int)) zs
/-- How many there are together, of the first k lists. -/
def sizeSS (zss : List (List Int)) : Nat := (zss.map List.length).sum
theorem sizeSS_succ (zss : List (List Int)) (k : Nat) (hk : k < zss.length) : sizeSS (zss.take (k + 1)) = sizeSS (zss.take k) + (zss.getD k []).length := by
  unfold sizeSS
  rw [List.take_succ_eq_append_getElem hk, List.map_append, List.sum_append]
  simp [List.getD, List.getElem?_eq_getElem hk]
theorem sizeSS_le (zss : List (List Int)) (k : Nat) : sizeSS (zss.take k) ≤ sizeSS zss := by
  unfold sizeSS
  have := List.take_append_drop k zss
  conv => rhs; rw [← this]
  rw [List.map_append, List.sum_append]
  omega
theorem sizeSS_one (zss : List (List Int)) (k : Nat) (hk : k < zss.length) : (zss.getD k []).length ≤ sizeSS zss := by
  have := sizeSS_succ zss k hk
  have := sizeSS_le zss (k + 1)
  omega
theorem marksSS_length : ∀ (k0 : Int) (zss : List (List Int)), (marksSS k0 zss).length = zss.length
  | _, [] => rfl
  | k0, z :: zs => by rw [marksSS, List.length_cons, List.length_cons, marksSS_length]
theorem marksSS_getD : ∀ (k0 : Int) (zss : List (List Int)) (k : Nat), k < zss.length → (marksSS k0 zss).getD k [] = marks (k0 + (sizeSS (zss.take k) : Int)) (zss.getD k []).length
  | _, [], k, h => by simp at h
  | k0, z :: zs, 0, _ => by simp [marksSS, sizeSS]
  | k0, z :: zs, k + 1, h => by
    have ih := marksSS_getD (k0 + (z.length : Int)) zs k (by simpa using h)
    rw [marksSS]
    show (marksSS (k0 + (z.length : Int)) zs).getD k [] = _
    rw [ih]
    have e : (sizeSS ((z :: zs).take (k + 1)) : Int) = (z.length : Int) + (sizeSS (zs.take k) : Int) := by simp [sizeSS]
    rw [e, show (z :: zs).getD (k + 1) [] = zs.getD k [] from rfl, Int.add_assoc]
/-- The first j lists are marked. -/
def mixSS (k0 : Int) (j : Nat) (zss : List (List Int)) : List (List Int) := (marksSS k0 zss).take j ++ zss.drop j
theorem mixSS_length (k0 : Int) (j : Nat) (zss : List (List Int)) (h : j ≤ zss.length) : (mixSS k0 j zss).length = zss.length := by
  unfold mixSS
  rw [List.length_append, List.length_take, marksSS_length, List.length_drop]; omega
theorem mixSS_zero (k0 : Int) (zss : List (List Int)) : mixSS k0 0 zss = zss := by simp [mixSS]
theorem mixSS_all (k0 : Int) (zss : List (List Int)) : mixSS k0 zss.length zss = marksSS k0 zss := by
  unfold mixSS
  rw [List.take_of_length_le (by rw [marksSS_length]; exact Nat.le_refl _)]; simp
theorem mixSS_lt (k0 : Int) (j k : Nat) (zss : List (List Int)) (hk : k < j) (h : j ≤ zss.length) : (mixSS k0 j zss).getD k [] = (marksSS k0 zss).getD k [] := by
  unfold mixSS
  simp only [List.getD]
  rw [List.getElem?_append_left (by rw [List.length_take, marksSS_length]; omega), List.getElem?_take]
  simp [hk]
theorem mixSS_ge (k0 : Int) (j k : Nat) (zss : List (List Int)) (hk : j ≤ k) (h : k < zss.length) : (mixSS k0 j zss).getD k [] = zss.getD k [] := by
  unfold mixSS
  simp only [List.getD]
  rw [List.getElem?_append_right (by rw [List.length_take, marksSS_length]; omega), List.length_take, marksSS_length, List.getElem?_drop]
  congr 2
  omega
/-- A list of the call's own, one of its lists turned. -/
theorem OwnVs.turned {w w' : World} {base : Nat} {v : Value} {vs : List Value} {zss zss' : List (List Int)} (h : OwnVs w base v vs zss) (j : Nat) (hj : j < zss.length) (hl : zss'.length = zss.length)
    (hsame : ∀ k, k < zss.length → k ≠ j → zss'.getD k [] = zss.getD k []) (hrow : Own w' base 3 (vs.getD j undef) (zss'.getD j []))
    (hoth : ∀ g, g < w.heap.size → (vs.getD j undef).ownBlock ≠ some g → w'.heap[g]? = w.heap[g]?) : OwnVs w' base v vs zss' := by
  obtain ⟨h1, h2, h3, h4, h5⟩ := h
  refine ⟨by omega, ⟨h2.1, ?_⟩, fun k hk => ?_, fun i j' hij hj' => h4 i j' hij (by omega), fun i hi => h5 i (by omega)⟩
  · rcases h2.2 with h6 | ⟨g, cap, cur, hv, hb, hg, r⟩
    · exact .inl h6
    · obtain ⟨hlt, _⟩ := Array.getElem?_eq_some_iff.1 hg
      refine .inr ⟨g, cap, cur, hv, hb, (hoth g hlt (fun e => ?_)).trans hg, r⟩
      exact h5 j hj g e (by rw [hv]; rfl)
  · by_cases e : k = j
    · subst e; exact hrow
    · rw [hsame k (by omega) e]
      refine (h3 k (by omega)).keepB fun g hg hlt => hoth g hlt (fun e2 => ?_)
      rcases Nat.lt_or_ge k j with h7 | h7
      · exact h4 k j h7 hj g hg e2
      · exact h4 j k (by omega) (by omega) g e2 hg

/-- WHAT markIntSS LEAVES. -/
def MarkedSS (base : Nat) (v : Value) (vs : List Value) (zss : List (List Int)) (k0 : Int) (w : World) (e : Ending) (w' : World) : Prop :=
  e = .returned (.int .i64 (k0 + (sizeSS zss : Int))) ∧ OwnVs w' base v vs (marksSS k0 zss) ∧ Below base w w'

set_option maxRecDepth 100000 in
set_option maxHeartbeats 1000000 in
theorem markIntSS_any (base : Nat) (A : Option Addr) (n c : Nat) (vs : List Value) (zss : List (List Int)) (k0 : Int) (w : World) (hown : OwnVs w base (.slice A n c) vs zss) (hlen : zss.length = n) (hn : sizeSS zss ≤ 1048576) (hk0 : 0 ≤ k0) (hk1 : k0 ≤ 10000000) (hbs : base ≤ w.heap.size) (hcap : n ≤ 17592186044416) :
    Calls Try.prog 10 #[.slice A n c, .int .i64 k0] w (MarkedSS base (.slice A n c) vs zss k0 w) := by
  subst hlen
  have hz : ∀ k, k < zss.length → (zss.getD k []).length ≤ 1048576 := fun k hk => by
    have := sizeSS_succ zss k hk
    have := sizeSS_le zss (k + 1)
    omega
  have HZ := hide hz
  have HS := hide (fun k (hk : k < zss.length) => sizeSS_succ zss k hk)
  have HL := hide (fun k => sizeSS_le zss k)
  have HM := hide hown
  have H0 := hide (show sizeSS (zss.take 0) = 0 by simp [sizeSS])
  have HF := hide (show sizeSS (zss.take zss.length) = sizeSS zss by rw [List.take_length])
  clear hz hown
  go_enter Try.func10, Try.ntmps10
  go_wp2_with fail
  go_loopw [1, 5] (fun kv i wr => ∃ j : Nat, j ≤ zss.length ∧ i = .int .i64 j ∧ kv = .int .i64 (k0 + (sizeSS (zss.take j) : Int)) ∧ OwnVs wr base (.slice A zss.length c) vs (mixSS k0 j zss) ∧ Below base w wr)
    (fun _ i _ => zss.length - (intOf i).toNat)
  case atStart => exact ⟨0, Nat.zero_le _, rfl, by rw [H0.out]; simp, by rw [mixSS_zero]; exact HM.out, Below.refl _ _⟩
  case round =>
    obtain ⟨j, hj, rfl, rfl, ho, hb⟩ := hrel
    have BB := hide hb
    have OO := hide ho
    clear hb ho
    by_cases hlt : j < zss.length
    · have hmx := mixSS_length k0 j zss hj
      have hv := OO.out.vals
      rw [hmx] at hv
      obtain ⟨ad, rfl, hab, hcell⟩ := hv.at_ hlt
      have hrow := OO.out.2.2.1 j (by omega)
      rw [mixSS_ge k0 j j zss (Nat.le_refl _) hlt] at hrow
      obtain ⟨A1, c1, e1, _, _⟩ := hrow.shape
      have hzj := HZ.out j hlt
      have hs1 := HL.out j
      have HSj := hide (HS.out j hlt)
      rw [e1] at hcell hrow
      have E1 := hide e1
      have HMj := hide (markIntS_any base A1 (zss.getD j []).length c1 (zss.getD j []) (k0 + (sizeSS (zss.take j) : Int)) wr hrow rfl hzj (by omega) (by omega))
      have HNX : Hid (∀ w2, Own w2 base 3 (.slice A1 (zss.getD j []).length c1) (marks (k0 + (sizeSS (zss.take j) : Int)) (zss.getD j []).length) → (∀ h, h < wr.heap.size → (∀ ad, A1 = some ad → h ≠ ad.block) → w2.heap[h]? = wr.heap[h]?) →
          OwnVs w2 base (.slice (some ad) zss.length c) vs (mixSS k0 (j + 1) zss)) := hide fun w2 h2 h3 => by
        refine OO.out.turned j (by omega) (by rw [mixSS_length _ _ _ hlt, hmx]) (fun k hk hne => ?_) ?_ (fun g hg hne => h3 g hg (fun ad' he h4 => hne (by rw [E1.out, he, h4]; rfl)))
        · rw [hmx] at hk
          rcases Nat.lt_or_ge k j with h7 | h7
          · rw [mixSS_lt _ _ _ _ (by omega) hlt, mixSS_lt _ _ _ _ h7 hj]
          · rw [mixSS_ge _ _ _ _ (by omega) hk, mixSS_ge _ _ _ _ h7 hk]
        · rw [mixSS_lt _ _ _ _ (by omega) hlt, marksSS_getD _ _ _ hlt, E1.out]
          exact h2
      clear hv hrow e1 hmx
      generalize sizeSS (zss.take j) = sj at *
      generalize (zss.getD j []).length = L at *
      go_wp2_with fail
      refine HMj.out.mono ?_; rintro e w2 ⟨rfl, h2, hb2, h3⟩
      have O2 := hide (HNX.out w2 h2 h3)
      have B2 := hide (BB.out.trans hb2)
      clear h2 h3 hb2
      go_wp2_with fail
      go_roundw
      case rel => exact ⟨j + 1, by omega, by go_num, by rw [HSj.out]; congr 1; omega, O2.out, B2.out⟩
      case measure => simp [intOf]; omega
    · obtain rfl : j = zss.length := by omega
      go_wp2_with fail
      go_ret
      exact ⟨by rw [← HF.out]; rfl, by have := OO.out; rw [mixSS_all] at this; exact this, BB.out⟩

set_option maxRecDepth 100000 in
/-- The marks are there. -/
theorem heldIntSS_any (A : Option Addr) (n c B : Nat) (vs : List Value) (zss : List (List Int)) (k0 : Int) (w : World) (h : Vals w B A n vs) (hr : IntVs w B vs (marksSS k0 zss)) (hlen : zss.length = n) (hcap : n ≤ 17592186044416) (hn : sizeSS zss ≤ 1048576) (hk0 : 0 ≤ k0) (hk1 : k0 ≤ 10000000) :
    Calls Try.prog 11 #[.slice A n c, .int .i64 k0] w fun e w' => e = .returned (.int .i64 (k0 + (sizeSS zss : Int))) ∧ w = w' := by
  subst hlen
  have hz : ∀ k, k < zss.length → (zss.getD k []).length ≤ 1048576 := fun k hk => by
    have := sizeSS_succ zss k hk
    have := sizeSS_le zss (k + 1)
    omega
  have HZ := hide hz
  have HS := hide (fun k (hk : k < zss.length) => sizeSS_succ zss k hk)
  have HL := hide (fun k => sizeSS_le zss k)
  have HV := hide h
  have HR := hide hr
  have H0 := hide (show sizeSS (zss.take 0) = 0 by simp [sizeSS])
  have HF := hide (show sizeSS (zss.take zss.length) = sizeSS zss by rw [List.take_length])
  clear hz h hr
  go_enter Try.func11, Try.ntmps11
  go_wp2_with fail
  go_loop [1, 5] (fun kv i => ∃ j : Nat, j ≤ zss.length ∧ i = .int .i64 j ∧ kv = .int .i64 (k0 + (sizeSS (zss.take j) : Int)))
    (fun _ i => zss.length - (intOf i).toNat)
  case atStart => exact ⟨0, Nat.zero_le _, rfl, by rw [H0.out]; simp⟩
  case round =>
    obtain ⟨j, hj, rfl, rfl⟩ := hrel
    by_cases hlt : j < zss.length
    · obtain ⟨ad, rfl, hab, hcell⟩ := HV.out.at_ hlt
      obtain ⟨A1, c1, e1, r1⟩ := HR.out.2 j (by rw [marksSS_length]; exact hlt)
      rw [marksSS_getD _ _ _ hlt, marks_length] at r1
      rw [marksSS_getD _ _ _ hlt, marks_length] at e1
      have hzj := HZ.out j hlt
      have hs1 := HL.out j
      have HSj := hide (HS.out j hlt)
      rw [e1] at hcell
      have HMj := hide (heldIntS_any A1 (zss.getD j []).length c1 B (k0 + (sizeSS (zss.take j) : Int)) w r1 hzj (by omega) (by omega))
      clear e1 r1
      generalize sizeSS (zss.take j) = sj at *
      generalize (zss.getD j []).length = L at *
      go_wp2_with fail
      refine HMj.out.mono ?_; rintro e w2 ⟨rfl, rfl⟩
      go_wp2_with fail
      go_round
      case rel => exact ⟨j + 1, by omega, by go_num, by rw [HSj.out]; congr 1; omega⟩
      case measure => simp [intOf]; omega
    · obtain rfl : j = zss.length := by omega
      go_wp2_with fail
      go_ret
      exact ⟨by rw [← HF.out]; rfl, rfl⟩
end Go.Proofs.Ytolhplakpemadaa
