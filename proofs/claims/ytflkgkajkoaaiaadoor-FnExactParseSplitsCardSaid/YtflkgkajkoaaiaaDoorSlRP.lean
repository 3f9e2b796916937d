
/-
  TEXTS OF SPLITS READ BACK, plainly. No program is named here.
-/
import Derived.Test.YtflkgkajkoaaiaaDoorSep44
import Derived.Test.YtflkgkajkoaaiaaDoorSep58
import Derived.Test.YtflkgkajkoaaiaaDoorSlT
namespace Go.Proofs.YtflkgkajkoaaiaaDoor
open Go.RowKit
set_option linter.unusedVariables false

/-- Both numbers of a word as a split. -/
def spOf (w : List UInt8) : Sp := ⟨rd ((sp58 w).getD 0 []), rd ((sp58 w).getD 1 [])⟩
def two58 (w : List UInt8) : Bool := decide ((sp58 w).length = 2)
def twoAllS (ws : List (List UInt8)) : Bool := ws.all two58
/-- What the program reads of a word. -/
def pS (w : List UInt8) : Option Sp := if two58 w then (if sok (spOf w).x0 (spOf w).x1 then some (spOf w) else none) else none
def pSAll : List (List UInt8) → Option (List Sp)
  | [] => some []
  | w :: ws => match pS w with
    | none => none
    | some d => match pSAll ws with
      | none => none
      | some ds => some (d :: ds)
theorem pS_some {w : List UInt8} (h1 : two58 w = true) (h2 : sok (spOf w).x0 (spOf w).x1 = true) : pS w = some (spOf w) := by
  unfold pS; rw [if_pos h1, if_pos h2]
theorem pS_none1 {w : List UInt8} (h1 : two58 w = false) : pS w = none := by unfold pS; rw [h1]; rfl
theorem pS_none2 {w : List UInt8} (h2 : sok (spOf w).x0 (spOf w).x1 = false) : pS w = none := by
  unfold pS; rw [h2]; cases two58 w <;> rfl
theorem pS_cases (w : List UInt8) : (pS w = none ∧ (two58 w && sok (spOf w).x0 (spOf w).x1) = false) ∨ (two58 w = true ∧ sok (spOf w).x0 (spOf w).x1 = true ∧ pS w = some (spOf w)) := by
  cases h1 : two58 w
  · exact .inl ⟨pS_none1 h1, rfl⟩
  · cases h2 : sok (spOf w).x0 (spOf w).x1
    · exact .inl ⟨pS_none2 h2, rfl⟩
    · exact .inr ⟨rfl, rfl, pS_some h1 h2⟩
theorem pSAll_cases : ∀ (ws : List (List UInt8)), (pSAll ws = some (ws.map spOf) ∧ twoAllS ws = true ∧ spGoodL (ws.map spOf) = true) ∨ (pSAll ws = none ∧ (twoAllS ws && spGoodL (ws.map spOf)) = false)
  | [] => .inl ⟨rfl, rfl, rfl⟩
  | w :: ws => by
    have ht : twoAllS (w :: ws) = (two58 w && twoAllS ws) := rfl
    have hg : spGoodL ((w :: ws).map spOf) = (sok (spOf w).x0 (spOf w).x1 && spGoodL (ws.map spOf)) := rfl
    rcases pS_cases w with ⟨h, h'⟩ | ⟨h1, h2, h3⟩
    · refine .inr ⟨by unfold pSAll; rw [h], ?_⟩
      rw [ht, hg]
      cases h1 : two58 w
      · rfl
      · rw [h1, Bool.true_and] at h'
        rw [h']; simp
    · rcases pSAll_cases ws with ⟨h4, h5, h6⟩ | ⟨h4, h5⟩
      · refine .inl ⟨?_, ?_, ?_⟩
        · unfold pSAll; rw [h3, h4]; rfl
        · rw [ht, h5, h1]; rfl
        · rw [hg, h6, h2]; rfl
      · refine .inr ⟨by unfold pSAll; rw [h3, h4], ?_⟩
        rw [ht, hg, h2, h1]
        simpa using h5

/-- What the program's numbers tell of a word of two. -/
theorem two_lists {w : List UInt8} (h : two58 w = true) : ∃ a b, sp58 w = [a, b] := by
  have h' : (sp58 w).length = 2 := of_decide_eq_true h
  match hq : sp58 w, h' with
  | [a, b], _ => exact ⟨a, b, rfl⟩
theorem spOf_two {w a b : List UInt8} (h : sp58 w = [a, b]) : spOf w = ⟨rd a, rd b⟩ := by unfold spOf; rw [h]; rfl
theorem dtxt_rd {a : List UInt8} (h : 0 ≤ rd a) : dtxt (rd a) = a := by
  obtain ⟨v, hv⟩ := Int.eq_ofNat_of_zero_le h
  have := rd_text (w := a) (v := v) hv
  unfold dtxt
  rw [hv, Int.toNat_natCast]; exact this.symm
theorem spW_back {w : List UInt8} (h1 : two58 w = true) (h2 : sok (spOf w).x0 (spOf w).x1 = true) : spW (spOf w) = w := by
  obtain ⟨a, b, e⟩ := two_lists h1
  have hb := sok_of h2
  rw [spOf_two e] at hb ⊢
  simp only at hb
  unfold spW
  have ea := dtxt_rd (a := a) (by omega)
  have eb := dtxt_rd (a := b) (by omega)
  show dtxt (rd a) ++ [58] ++ dtxt (rd b) = w
  rw [ea, eb]
  have hj := join_sp58 w
  rw [e] at hj
  rw [← hj]
  simp [Lib.join_cons, Lib.joinTail]
theorem mapS_back : ∀ {ws : List (List UInt8)}, twoAllS ws = true → spGoodL (ws.map spOf) = true → (ws.map spOf).map spW = ws
  | [], _, _ => rfl
  | w :: ws, h1, h2 => by
    have ht : (two58 w && twoAllS ws) = true := h1
    have hg : (sok (spOf w).x0 (spOf w).x1 && spGoodL (ws.map spOf)) = true := h2
    simp only [Bool.and_eq_true] at ht hg
    rw [List.map_cons, List.map_cons, spW_back ht.1 hg.1, mapS_back ht.2 hg.2]
/-- The text of what was read is the text. -/
theorem spT_back (l : List UInt8) (h1 : twoAllS (sp44 l) = true) (h2 : spGoodL ((sp44 l).map spOf) = true) : spT ((sp44 l).map spOf) = l := by
  unfold spT
  rw [mapS_back h1 h2, join_sp44]
theorem dtxt_two {x : Int} (h : x < 100) : (dtxt x).length ≤ 2 := decDigits_len 1 x.toNat (by omega)
theorem spW_len5 {d : Sp} (h : sok d.x0 d.x1 = true) : (spW d).length ≤ 5 := by
  have hb := sok_of h
  have h0 := dtxt_two (x := d.x0) (by omega)
  have h1 := dtxt_two (x := d.x1) (by omega)
  unfold spW
  rw [List.length_append, List.length_append]
  simp; omega
theorem lensS : ∀ (ws : List (List UInt8)), twoAllS ws = true → spGoodL (ws.map spOf) = true → lens ws ≤ 6 * ws.length
  | [], _, _ => by simp [lens]
  | w :: ws, h1, h2 => by
    have ht : (two58 w && twoAllS ws) = true := h1
    have hg : (sok (spOf w).x0 (spOf w).x1 && spGoodL (ws.map spOf)) = true := h2
    simp only [Bool.and_eq_true] at ht hg
    have ih := lensS ws ht.2 hg.2
    have hl := spW_len5 hg.1
    rw [spW_back ht.1 hg.1] at hl
    rw [lens, List.length_cons]; omega
theorem ps_short (l : List UInt8) (h1 : twoAllS (sp44 l) = true) (h3 : spGoodL ((sp44 l).map spOf) = true) (h2 : (sp44 l).length ≤ 60) : l.length ≤ 360 := by
  have e := spc_lens44 l []
  have h4 := lensS _ h1 h3
  unfold sp44 at h1 h2 h4
  rw [e] at h4
  simp at h4
  omega
/-- What both give: the splits, where the text is one of at most 60. -/
def psOk (l : List UInt8) : Bool := l.isEmpty || (decide ((sp44 l).length ≤ 60) && (twoAllS (sp44 l) && spGoodL ((sp44 l).map spOf)))
def psL (l : List UInt8) : List Sp := if psOk l then (if l.isEmpty then [] else (sp44 l).map spOf) else []

/-- The program's numbers of a word, against the model's. -/
theorem pS_of_pn {w : List UInt8} {ns : List Int} (h : spI58 w 2 = some ns) : (ns.length = 2 → ∃ a b, ns = [a, b] ∧ two58 w = true ∧ (sok a b = true → spOf w = ⟨a, b⟩) ∧ (sok a b = false → sok (spOf w).x0 (spOf w).x1 = false)) ∧ (¬ ns.length = 2 → two58 w = false) := by
  unfold spI58 at h
  split at h
  · have hl := pnAll_length h
    refine ⟨fun h2 => ?_, fun h2 => by unfold two58; exact decide_eq_false (by omega)⟩
    have ht : two58 w = true := by unfold two58; exact decide_eq_true (by omega)
    obtain ⟨p, q, e⟩ := two_lists ht
    rw [e] at h
    unfold pnAll at h
    cases hp : pn p with
    | none => rw [hp] at h; cases h
    | some a =>
      rw [hp] at h
      unfold pnAll at h
      cases hq : pn q with
      | none => rw [hq] at h; cases h
      | some b =>
        rw [hq] at h
        simp only [pnAll] at h
        injection h with h
        refine ⟨a, b, h.symm, ht, fun hs => ?_, fun hs => ?_⟩
        · have hb := sok_of hs
          rw [spOf_two e, (rd_of_pn (by omega) hp).2, (rd_of_pn (by omega) hq).2]
        · cases hs2 : sok (spOf w).x0 (spOf w).x1
          · rfl
          · rw [spOf_two e] at hs2
            have hb := sok_of hs2
            obtain ⟨u, hu⟩ := Int.eq_ofNat_of_zero_le (show 0 ≤ rd p by have := hb.1; exact this)
            obtain ⟨v, hv⟩ := Int.eq_ofNat_of_zero_le (show 0 ≤ rd q by have := hb.2.2.1; simp only at this; omega)
            simp only at hb
            have e1 := pn_of_rd (w := p) (v := u) (by omega) hu
            have e2 := pn_of_rd (w := q) (v := v) (by omega) hv
            rw [hp] at e1
            rw [hq] at e2
            injection e1 with e1
            injection e2 with e2
            rw [hu, hv, ← e1, ← e2, hs] at hs2
            cases hs2
  · cases h
theorem pS_no_pn {w : List UInt8} (h : spI58 w 2 = none) : pS w = none := by
  rcases pS_cases w with h1 | ⟨h1, h2, _⟩
  · exact h1.1
  · obtain ⟨p, q, e⟩ := two_lists h1
    rw [spOf_two e] at h2
    have hb := sok_of h2
    simp only at hb
    obtain ⟨u, hu⟩ := Int.eq_ofNat_of_zero_le (show 0 ≤ rd p by omega)
    obtain ⟨v, hv⟩ := Int.eq_ofNat_of_zero_le (show 0 ≤ rd q by omega)
    have e1 := pn_of_rd (w := p) (v := u) (by omega) hu
    have e2 := pn_of_rd (w := q) (v := v) (by omega) hv
    have hl : (sp58 w).length ≤ 2 := by rw [e]; simp
    unfold spI58 at h
    rw [if_pos hl, e] at h
    simp [pnAll, e1, e2] at h
end Go.Proofs.YtflkgkajkoaaiaaDoor
