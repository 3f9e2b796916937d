import Derived.Test.YtnakkmmmkbjfbaaMg09
import Derived.Test.YtnakkmmmkbjfbaaMg24
import Derived.Test.YtnakkmmmkbjfbaaMg02
import Derived.Test.YtnakkmmmkbjfbaaMg01
import Derived.WalkLawsBesides
import Derived.Test.YtnakkmmmkbjfbaaMg23

/-
  SIZES, WHAT IS OVER, FLOWS, BOTH WAYS: l1Most, l1Abs, sizeOf, hpSize, sumOfSizes, hpOver, hpFlows, LineFlows.
-/
namespace Go.Proofs.Ytnakkmmmkbjfbaa
open Go.RowKit Go.Deep

/-- WHAT A CALL LEAVES THAT MAKES A LIST OF ITS OWN: the value of a slice whose numbers are zs, in new memory; nothing that was there has turned. -/
def Made (zs : List Int) (w : World) (e : Ending) (w' : World) : Prop :=
  ∃ A c, e = .returned (.slice A zs.length c) ∧ zs.length ≤ c ∧ c ≤ maxLen ∧ Own w' w.heap.size 3 (.slice A zs.length c) zs ∧ Below w.heap.size w w'

/-- THE SAME BESIDE A BOOL. -/
def MadeR (zs : List Int) (b : Bool) (w : World) (e : Ending) (w' : World) : Prop :=
  ∃ A c, e = .returned (.tuple #[.slice A zs.length c, .bool b]) ∧ zs.length ≤ c ∧ c ≤ maxLen ∧ Own w' w.heap.size 3 (.slice A zs.length c) zs ∧ Below w.heap.size w w'
theorem madeR_none {w w' : World} (h : Below w.heap.size w w') : MadeR [] false w (.returned (.tuple #[.slice none 0 0, .bool false])) w' :=
  ⟨none, 0, rfl, Nat.le_refl _, Nat.zero_le _, Own.nil _ _ _, h⟩
theorem madeR_below {zs : List Int} {b : Bool} {w w1 w2 : World} {e : Ending} (h : Below w.heap.size w w1) (h2 : MadeR zs b w1 e w2) : MadeR zs b w e w2 := by
  obtain ⟨A, c, he, h3, h4, hown, hb⟩ := h2
  exact ⟨A, c, he, h3, h4, hown.less h.size, below_next h hb⟩

end Go.Proofs.Ytnakkmmmkbjfbaa

/-
  CANDIES, BOTH WAYS, THE SECOND PART: the model's cyStep, l1Same, cyRest; slices.Min, slices.Max, isLevel, isAtRest; MadeEven, IsResting.
-/
namespace Go.Proofs.Ytnakkmmmkbjfbaa
open Go.RowKit Go.Deep

theorem calm_evens {zs : List Int} {b : Int} (hb : b ≤ 999999) (h : within 0 b zs = true) : calm (evens zs) = true := within_of fun k hk => by
  have := within_get (evens_within h) k hk
  omega

theorem beq_false_at {zs ys : List Int} (k : Nat) (h1 : k < zs.length) (h2 : k < ys.length) (h : ¬ zs[k] = ys[k]) : (zs == ys) = false := by
  cases hc : zs == ys
  · rfl
  · have e : zs = ys := by simpa using hc
    subst e
    exact absurd rfl h
theorem beq_false_len {zs ys : List Int} (h : zs.length ≠ ys.length) : (zs == ys) = false := by
  cases hc : zs == ys
  · rfl
  · have e : zs = ys := by simpa using hc
    subst e
    exact absurd rfl h
theorem beq_true_of {zs ys : List Int} (hl : zs.length = ys.length) (h : ∀ (k : Nat) (h1 : k < zs.length) (h2 : k < ys.length), zs[k] = ys[k]) : (zs == ys) = true := by
  have e : zs = ys := List.ext_getElem hl h
  simp [e]

/-- The model's l1Same. -/
theorem l1Same_any (A A' : Option Addr) (n n' c c' B B' : Nat) (zs ys : List Int) (w : World) (hr : Ints w B A n zs) (hr' : Ints w B' A' n' ys) (hB : B ≤ w.heap.size) (hB' : B' ≤ w.heap.size) (hn : n ≤ 17592186044416) (hn' : n' ≤ 17592186044416) :
    Calls Try.prog 34 #[.slice A n c, .slice A' n' c'] w fun e w' => e = .returned (.bool (zs == ys)) ∧ Below w.heap.size w w' := by
  obtain rfl := hr.len
  obtain rfl := hr'.len
  by_cases hl : zs.length = ys.length
  · have hne : ((zs.length : Int) != (ys.length : Int)) = false := by simp; omega
    go_enter Try.func34, Try.ntmps34
    go_wp2_with fail
    go_loopw [13] (fun i wr => ∃ k : Nat, k ≤ zs.length ∧ i = .int .i64 k ∧ (∀ (j : Nat) (h1 : j < zs.length) (h2 : j < ys.length), j < k → zs[j] = ys[j]) ∧ Below w.heap.size w wr)
      (fun i _ => zs.length - (intOf i).toNat)
    case atStart => exact ⟨0, Nat.zero_le _, rfl, fun _ _ _ h => absurd h (by omega), Below.refl _ _⟩
    case round =>
      obtain ⟨k, hk, rfl, hall, hb⟩ := hrel
      have Hall := hide hall
      clear hall
      by_cases hlt : k < zs.length
      · have hlt' : k < ys.length := by omega
        obtain ⟨ad, rfl, hab, hcell⟩ := (hr.below hb hB).at_ hlt
        obtain ⟨ad', rfl, hab', hcell'⟩ := (hr'.below hb hB').at_ hlt'
        rw [getD_get hlt] at hcell
        rw [getD_get hlt'] at hcell'
        by_cases he : zs[k] = ys[k]
        · have hnee : (zs[k] != ys[k]) = false := by simp [he]
          have HE := hide (show ∀ (j : Nat) (h1 : j < zs.length) (h2 : j < ys.length), j < k + 1 → zs[j] = ys[j] from
            fun j h1 h2 hj => if e : j = k then by subst e; exact he else Hall.out j h1 h2 (by omega))
          clear he
          generalize zs[k] = z at *
          generalize ys[k] = y at *
          go_wp2_with fail
          go_quiet (fail)
          go_wp2
          go_roundw
          case rel => exact ⟨k + 1, by omega, by go_num, HE.out, below_drewN hb _⟩
          case measure => simp [intOf]; omega
        · have HF := hide (beq_false_at k hlt hlt' he)
          have hnee : (zs[k] != ys[k]) = true := by simpa using he
          clear he
          generalize zs[k] = z at *
          generalize ys[k] = y at *
          go_wp2_with fail
          go_quiet (fail)
          go_wp2
          go_ret
          exact ⟨by rw [HF.out]; rfl, below_drewN hb _⟩
      · go_wp2
        go_ret
        exact ⟨by rw [beq_true_of hl (fun k h1 h2 => Hall.out k h1 h2 (by omega))]; rfl, hb⟩
  · have hne : ((zs.length : Int) != (ys.length : Int)) = true := by simp; omega
    have HF := hide (beq_false_len hl)
    clear hl
    go_enter Try.func34, Try.ntmps34
    go_wp2_with fail
    go_ret
    exact ⟨by rw [HF.out]; rfl, Below.refl _ _⟩

theorem level_eq (zs : List Int) : (mn zs == mx zs) = level zs := rfl
/-- What MadeEven tells. -/
def evenR (zs : List Int) : List Int := if cgood zs then evens zs else []
theorem evenR_short (zs : List Int) (h : zs.length ≤ 1048576) : (evenR zs).length ≤ 1048576 := by
  unfold evenR; split
  · rw [evens_length]; exact h
  · simp
theorem good_wide {zs : List Int} (h : cgood zs = true) : within 0 999999 zs = true := within_wide (cgood_of h).2.2 (by omega) (by omega)
theorem made1_R {zs ys : List Int} {w w' : World} {e : Ending} (hl : ys = zs) (h : Made1 zs w e w') : ∃ A c, e = .returned (.slice A ys.length c) ∧ ys.length ≤ c ∧ c ≤ maxLen ∧ Own w' w.heap.size 3 (.slice A ys.length c) ys ∧ Below w.heap.size w w' := by
  subst hl
  obtain ⟨g, c, rfl, _, _, h1, h2, h3, h4⟩ := h
  exact ⟨_, c, rfl, h1, h2, h3, h4⟩

/-- Are they candies at rest? -/
def restR (zs : List Int) : Bool := cgood zs && atRest zs

end Go.Proofs.Ytnakkmmmkbjfbaa
