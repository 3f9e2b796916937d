
/-
  TEXTS OF PUZZLES READ BACK, plainly: what the program tells, and that the model tells the same.
-/
import Derived.Test.YtmjlfmlbmegheaaDoorSep44
import Derived.Test.YtmjlfmlbmegheaaDoorSep46
import Derived.Test.YtmjlfmlbmegheaaDoorSep104
import Derived.Test.YtmjlfmlbmegheaaDoorPzX
namespace Go.Proofs.YtmjlfmlbmegheaaDoor
open Go.RowKit
set_option linter.unusedVariables false

/-- The four numbers of a word as a clue. -/
def clOf (w : List UInt8) : Cl := ⟨rd ((sp46 w).getD 0 []), rd ((sp46 w).getD 1 []), rd ((sp46 w).getD 2 []), rd ((sp46 w).getD 3 [])⟩
def four46 (w : List UInt8) : Bool := decide ((sp46 w).length = 4)
theorem four_lists {w : List UInt8} (h : four46 w = true) : ∃ a b c d, sp46 w = [a, b, c, d] := by
  have h' : (sp46 w).length = 4 := of_decide_eq_true h
  match hq : sp46 w, h' with
  | [a, b, c, d], _ => exact ⟨a, b, c, d, rfl⟩
theorem clOf_four {w a b c d : List UInt8} (h : sp46 w = [a, b, c, d]) : clOf w = ⟨rd a, rd b, rd c, rd d⟩ := by unfold clOf; rw [h]; rfl
/-- What the program reads of a word. -/
def pCI (ns : List Int) : Option Cl := match ns with
  | [a, b, c, d] => some ⟨a, b, c, d⟩
  | _ => none
def pC (w : List UInt8) : Option Cl := (spI46 w 4).bind pCI
def pCAll : List (List UInt8) → Option (List Cl)
  | [] => some []
  | w :: ws => match pC w with
    | none => none
    | some d => match pCAll ws with
      | none => none
      | some ds => some (d :: ds)
theorem rd_dtxt {a : List UInt8} (h : 0 ≤ rd a) : dtxt (rd a) = a := by
  obtain ⟨v, hv⟩ := Int.eq_ofNat_of_zero_le h
  have := rd_text (w := a) (v := v) hv
  unfold dtxt
  rw [hv, Int.toNat_natCast]; exact this.symm
theorem pC_of {w : List UInt8} (h1 : four46 w = true) (h2 : small (clOf w)) : pC w = some (clOf w) ∧ clW (clOf w) = w := by
  obtain ⟨a, b, c, d, e⟩ := four_lists h1
  rw [clOf_four e] at h2 ⊢
  obtain ⟨⟨a0, a1⟩, ⟨b0, b1⟩, ⟨c0, c1⟩, d0, d1⟩ := h2
  simp only at a0 a1 b0 b1 c0 c1 d0 d1
  have hp : spI46 w 4 = some [rd a, rd b, rd c, rd d] := by
    unfold spI46
    rw [e, if_pos (by simp)]
    exact pnAll_of_rd (by simp; omega)
  refine ⟨by unfold pC; rw [hp]; rfl, ?_⟩
  have hj := join_sp46 w
  rw [e] at hj
  unfold clW
  simp only [List.map_cons, List.map_nil]
  rw [rd_dtxt a0, rd_dtxt b0, rd_dtxt c0, rd_dtxt d0]
  exact hj
theorem of_pC {w : List UInt8} {d : Cl} (h : pC w = some d) (hs : small d) : four46 w = true ∧ clOf w = d := by
  unfold pC at h
  cases hp : spI46 w 4 with
  | none => rw [hp] at h; cases h
  | some ns =>
    rw [hp] at h
    have h' : pCI ns = some d := h
    match ns, h' with
    | [x, y, z, t], h' =>
      injection h' with h'
      subst h'
      obtain ⟨⟨a0, a1⟩, ⟨b0, b1⟩, ⟨c0, c1⟩, d0, d1⟩ := hs
      simp only at a0 a1 b0 b1 c0 c1 d0 d1
      unfold spI46 at hp
      split at hp
      · have hl := pnAll_length hp
        have h4 : four46 w = true := by unfold four46; exact decide_eq_true (by simp at hl; omega)
        obtain ⟨a, b, c, d, e⟩ := four_lists h4
        have hr := rd_of_pnAll hp (by simp; omega)
        rw [e] at hr
        simp only [List.map_cons, List.map_nil, List.cons.injEq, and_true] at hr
        refine ⟨h4, ?_⟩
        rw [clOf_four e, hr.1, hr.2.1, hr.2.2.1, hr.2.2.2]
      · cases hp
theorem pCAll_of : ∀ (ws : List (List UInt8)), ws.all four46 = true → (∀ d ∈ ws.map clOf, small d) → pCAll ws = some (ws.map clOf) ∧ (ws.map clOf).map clW = ws
  | [], _, _ => ⟨rfl, rfl⟩
  | w :: ws, h1, h2 => by
    rw [List.all_cons, Bool.and_eq_true] at h1
    have i1 := pC_of h1.1 (h2 _ (by simp))
    have i2 := pCAll_of ws h1.2 (fun d hd => h2 d (by simp only [List.map_cons, List.mem_cons]; exact .inr hd))
    refine ⟨by unfold pCAll; rw [i1.1, i2.1]; rfl, by rw [List.map_cons, List.map_cons, i1.2, i2.2]⟩
theorem of_pCAll : ∀ (ws : List (List UInt8)) (cs : List Cl), pCAll ws = some cs → (∀ d ∈ cs, small d) → ws.all four46 = true ∧ ws.map clOf = cs
  | [], cs, h, _ => by
    simp [pCAll] at h; subst h; exact ⟨rfl, rfl⟩
  | w :: ws, cs, h, hs => by
    unfold pCAll at h
    cases hp : pC w with
    | none => rw [hp] at h; cases h
    | some d =>
      rw [hp] at h
      cases hq : pCAll ws with
      | none => rw [hq] at h; cases h
      | some ds =>
        rw [hq] at h
        injection h with h
        subst h
        have i1 := of_pC hp (hs d (by simp))
        have i2 := of_pCAll ws ds hq (fun x hx => hs x (by simp [hx]))
        exact ⟨by rw [List.all_cons, i1.1, i2.1]; rfl, by rw [List.map_cons, i1.2, i2.2]⟩
theorem pCAll_length : ∀ (ws : List (List UInt8)) (cs : List Cl), pCAll ws = some cs → cs.length = ws.length
  | [], cs, h => by simp [pCAll] at h; subst h; rfl
  | w :: ws, cs, h => by
    unfold pCAll at h
    cases hp : pC w with
    | none => rw [hp] at h; cases h
    | some d =>
      rw [hp] at h
      cases hq : pCAll ws with
      | none => rw [hq] at h; cases h
      | some ds =>
        rw [hq] at h
        injection h with h
        subst h
        simp [pCAll_length ws ds hq]
/-- The clues of a text. -/
def pCs (b : List UInt8) : Option (List Cl) := if b.isEmpty then some [] else if (sp44 b).length ≤ 6 then pCAll (sp44 b) else none
def clsOf (b : List UInt8) : List Cl := if b.isEmpty then [] else (sp44 b).map clOf
def fourAll (b : List UInt8) : Bool := b.isEmpty || (sp44 b).all four46
theorem pz_small {u : Int} {cs : List Cl} (ho : pzOk u cs = true) : ∀ d ∈ cs, small d := fun d hd => by
  obtain ⟨k, hk, rfl⟩ := List.getElem_of_mem hd
  exact puzzle_small ho k hk
theorem pCs_of {u : Int} {b : List UInt8} (h1 : fourAll b = true) (h2 : pzOk u (clsOf b) = true) : pCs b = some (clsOf b) ∧ clT (clsOf b) = b := by
  have hs := pz_small h2
  have hl := (pzOk_parts h2).2.1
  unfold pCs clsOf fourAll at *
  cases he : b.isEmpty
  · rw [he] at h1 hs hl
    simp only [Bool.false_or, Bool.false_eq_true, if_false] at h1 hs hl ⊢
    have i := pCAll_of _ h1 hs
    rw [List.length_map] at hl
    refine ⟨by rw [if_pos hl, i.1], ?_⟩
    unfold clT
    rw [i.2, join_sp44]
  · have : b = [] := by simpa using he
    subst this
    exact ⟨rfl, rfl⟩
theorem of_pCs {u : Int} {b : List UInt8} {cs : List Cl} (h1 : pCs b = some cs) (h2 : pzOk u cs = true) : fourAll b = true ∧ clsOf b = cs := by
  have hs := pz_small h2
  unfold pCs clsOf fourAll at *
  cases he : b.isEmpty
  · rw [he] at h1
    simp only [Bool.false_or, Bool.false_eq_true, if_false] at h1 ⊢
    split at h1
    · exact of_pCAll _ _ h1 hs
    · cases h1
  · rw [he] at h1
    simp only [if_true, Option.some.injEq] at h1
    subst h1
    exact ⟨rfl, rfl⟩

/-- What the program reads of a text. -/
def pyG (a b : List UInt8) (f : Bool) : Option (Int × List Cl) := match pn a, pCs b with
  | some u, some cs => if f && pzOk u cs then some (u, cs) else none
  | _, _ => none
def pyP (l : List UInt8) : Option (Int × List Cl) := pyG (Lib.cut l [104]).1 (Lib.cut l [104]).2.1 (Lib.cut l [104]).2.2
def pyOk (l : List UInt8) : Bool := (pyP l).isSome
def pyU (l : List UInt8) : Int := ((pyP l).getD (0, [])).1
def pyL (l : List UInt8) : List Cl := ((pyP l).getD (0, [])).2
theorem py_none {l : List UInt8} (h : pyP l = none) : pyOk l = false ∧ pyU l = 0 ∧ pyL l = [] := by unfold pyOk pyU pyL; rw [h]; exact ⟨rfl, rfl, rfl⟩
theorem py_some {l : List UInt8} {u : Int} {cs : List Cl} (h : pyP l = some (u, cs)) : pyOk l = true ∧ pyU l = u ∧ pyL l = cs := by unfold pyOk pyU pyL; rw [h]; exact ⟨rfl, rfl, rfl⟩
theorem pyG_some {a b : List UInt8} {f : Bool} {u : Int} {cs : List Cl} (h : pyG a b f = some (u, cs)) : f = true ∧ pzOk u cs = true ∧ rd a = u ∧ fourAll b = true ∧ clsOf b = cs := by
  unfold pyG at h
  cases hp : pn a with
  | none => rw [hp] at h; cases h
  | some v =>
    cases hq : pCs b with
    | none => rw [hp, hq] at h; cases h
    | some ds =>
      rw [hp, hq] at h
      simp only at h
      split at h
      · rename_i hf
        simp only [Bool.and_eq_true] at hf
        injection h with h
        injection h with h1 h2
        subst h1 h2
        have hb := pzOk_parts hf.2
        have i := of_pCs hq hf.2
        exact ⟨hf.1, hf.2, (rd_of_pn (by omega) hp).2, i.1, i.2⟩
      · cases h
theorem pyG_of {a b : List UInt8} (h1 : fourAll b = true) (h2 : pzOk (rd a) (clsOf b) = true) : pyG a b true = some (rd a, clsOf b) := by
  have hb := pzOk_parts h2
  obtain ⟨v, hv⟩ := Int.eq_ofNat_of_zero_le (show 0 ≤ rd a by omega)
  have i := pCs_of h1 h2
  have hp := pn_of_rd (w := a) (v := v) (by omega) hv
  unfold pyG
  rw [hp, i.1]
  rw [hv] at h2 ⊢
  simp [h2]
theorem cut_of {p r : List UInt8} (h : (104 : UInt8) ∉ p) : Lib.cut (p ++ 104 :: r) [104] = (p, r, true) := by
  unfold Lib.cut
  rw [index_at104 p r h, if_pos (by omega)]
  have e1 : ((p.length : Int)).toNat = p.length := by omega
  rw [e1, List.take_left, show p.length + ([104] : List UInt8).length = (p ++ [104]).length by simp, show p ++ 104 :: r = (p ++ [104]) ++ r by simp, List.drop_left]
theorem cut_not {l : List UInt8} (h : (104 : UInt8) ∉ l) : Lib.cut l [104] = (l, [], false) := by
  unfold Lib.cut
  rw [index_no104 l h, if_neg (by omega)]
theorem not_dtxt {x : Int} (h : 0 ≤ x ∧ x < 100) : (104 : UInt8) ∉ dtxt x := fun hm => by
  have := decDigits_byte 1 x.toNat (by omega) _ hm
  simp at this
theorem not_clW {d : Cl} (h : small d) : (104 : UInt8) ∉ clW d := by
  obtain ⟨h0, h1, h2, h3⟩ := h
  rw [clW_eq]
  simp [not_dtxt h0, not_dtxt h1, not_dtxt h2, not_dtxt h3]
theorem not_clT (ds : List Cl) (h : ∀ (k : Nat) (_ : k < ds.length), small ds[k]) : ∀ k, k ≤ ds.length → (104 : UInt8) ∉ clT (ds.take k)
  | 0, _ => by simp [clT, Lib.join_nil]
  | k + 1, hk => by
    have hd := not_clW (h k (by omega))
    rcases Nat.eq_zero_or_pos k with rfl | hp
    · rw [clT_zero ds (by omega)]; exact hd
    · have := not_clT ds h k (by omega)
      rw [clT_succ ds k hp (by omega)]
      simp [this, hd]
/-- A text that is read has one 'h' and is short. -/
theorem pyP_parts {l : List UInt8} {u : Int} {cs : List Cl} (h : pyP l = some (u, cs)) : l.length ≤ 120 ∧ ∃ a b, sp104 l = [a, b] ∧ pzOk (rd a) (clsOf b) = true ∧ fourAll b = true ∧ u = rd a ∧ cs = clsOf b ∧ pzTx (rd a) (clsOf b) = l := by
  by_cases hm : (104 : UInt8) ∈ l
  · obtain ⟨p, r, rfl, hp⟩ := List.eq_append_cons_of_mem hm
    unfold pyP at h
    rw [cut_of hp] at h
    dsimp only at h
    obtain ⟨_, ho, h1, h2, h3⟩ := pyG_some h
    subst h1 h3
    have hb := pzOk_parts ho
    have i := pCs_of h2 ho
    have hu := rd_dtxt (a := p) (by omega)
    have hl1 := dtxt2_len (x := rd p) (by omega)
    have hl2 := clT_len (clsOf r) (puzzle_small ho) (clsOf r).length (Nat.le_refl _)
    have hn := not_clT (clsOf r) (puzzle_small ho) (clsOf r).length (Nat.le_refl _)
    rw [clT_all, i.2] at hl2 hn
    rw [hu] at hl1
    refine ⟨by simp; omega, p, r, ?_, ho, h2, rfl, rfl, ?_⟩
    · unfold sp104
      rw [spc_hit104 p [] r hp, spc_none104 r [] hn]
      simp
    · unfold pzTx
      rw [hu, i.2]; simp
  · unfold pyP at h
    rw [cut_not hm] at h
    have := (pyG_some h).1
    cases this
theorem py_long {l : List UInt8} (h : 120 < l.length) : pyP l = none := by
  cases hp : pyP l with
  | none => rfl
  | some x => obtain ⟨u, cs⟩ := x; have := (pyP_parts hp).1; omega
theorem py_not2 {l : List UInt8} (h : (sp104 l).length ≠ 2) : pyP l = none := by
  cases hp : pyP l with
  | none => rfl
  | some x =>
    obtain ⟨u, cs⟩ := x
    obtain ⟨_, a, b, e, _⟩ := pyP_parts hp
    rw [e] at h; exact absurd rfl h
theorem cut_two {l a b : List UInt8} (h : sp104 l = [a, b]) : Lib.cut l [104] = (a, b, true) := by
  have hc := sp_length104 l
  rw [h] at hc
  have hm : (104 : UInt8) ∈ l := List.count_pos_iff.1 (by simp at hc; omega)
  obtain ⟨p, r, rfl, hp⟩ := List.eq_append_cons_of_mem hm
  unfold sp104 at h
  rw [spc_hit104 p [] r hp] at h
  simp only [List.nil_append, List.cons.injEq] at h
  obtain ⟨rfl, h2⟩ := h
  have hj := join_spc104 r []
  rw [h2] at hj
  have : b = r := by simpa [Lib.join_one] using hj
  subst this
  exact cut_of hp
/-- The model's way of telling it. -/
theorem py_two {l a b : List UInt8} (h : sp104 l = [a, b]) : pyP l = if fourAll b && pzOk (rd a) (clsOf b) then some (rd a, clsOf b) else none := by
  unfold pyP
  rw [cut_two h]
  simp only
  cases h1 : fourAll b && pzOk (rd a) (clsOf b)
  · rw [if_neg (by simp)]
    cases hp : pyG a b true with
    | none => rfl
    | some x =>
      obtain ⟨u, cs⟩ := x
      obtain ⟨_, h2, h3, h4, h5⟩ := pyG_some hp
      subst h3 h5
      rw [h4, h2] at h1; cases h1
  · rw [if_pos rfl]
    simp only [Bool.and_eq_true] at h1
    exact pyG_of h1.1 h1.2
end Go.Proofs.YtmjlfmlbmegheaaDoor
