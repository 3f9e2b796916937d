
/-
  THE MODEL'S LOSSES, AND WHO CAN FIRE.
-/
import Derived.Test.YtcfofofhdbnlaaaLnS
import Derived.RegionTactic
namespace Go.Proofs.Ytcfofofhdbnlaaa
open Go.RowKit Go.Deep
set_option linter.unusedVariables false

/-- What is lost. -/
def lostOf (ts : List Int) : Int := ts.getD 0 0 + ts.getD (ts.length - 1) 0

theorem chLost_any (A : Option Addr) (n c B : Nat) (ts : List Int) (w : World) (hr : Ints w B A n ts) (h0 : 0 < n) (hn : n ≤ 1000000) (ht : ∀ j : Nat, 0 ≤ ts.getD j 0 ∧ ts.getD j 0 ≤ 1000000000) :
    Calls Try.prog 22 #[.slice A n c] w fun e w' => e = .returned (.int .i64 (lostOf ts)) ∧ Below w.heap.size w w' := by
  obtain rfl := hr.len
  have HL := hide (show lostOf ts = ts.getD 0 0 + ts.getD (ts.length - 1) 0 from rfl)
  obtain ⟨ad, rfl, hab, hc0⟩ := hr.at_ h0
  obtain ⟨ad2, had2, _, hc1⟩ := hr.at_ (show ts.length - 1 < ts.length by omega)
  obtain rfl : ad2 = ad := by injection had2 with h; exact h.symm
  rw [show ad2.add 0 = ad2 from by simp [Addr.add]] at hc0
  have ht0 := ht 0
  have ht1 := ht (ts.length - 1)
  have hk : (ts.length : Int) - 1 = ((ts.length - 1 : Nat) : Int) := by omega
  have hkb : ((ts.length - 1 : Nat) : Int) < (ts.length : Int) := by omega
  clear ht had2 hr
  generalize ts.getD 0 0 = a at *
  generalize ts.getD (ts.length - 1) 0 = b at *
  go_enter Try.func22, Try.ntmps22
  go_wp2_with fail
  go_region
  all_goals
    go_wp2_with fail
    go_ret
    exact ⟨by rw [HL.out]; rfl, (Below.refl _ _).drew⟩

/-- Who can fire. -/
def readyL (zs : List Int) : List Int := zs.map fun z => if 1 < z then 1 else 0
theorem readyL_length (zs : List Int) : (readyL zs).length = zs.length := by simp [readyL]
theorem readyL_take_succ (zs : List Int) (k : Nat) (h : k < zs.length) : (readyL zs).take (k + 1) = (readyL zs).take k ++ [if 1 < zs[k] then 1 else 0] := by
  rw [List.take_succ_eq_append_getElem (by rw [readyL_length]; exact h)]
  simp [readyL]
theorem readyL_getD (zs : List Int) (j : Nat) : (readyL zs).getD j 0 = if 1 < zs.getD j 0 then 1 else 0 := by
  by_cases hj : j < zs.length
  · rw [getD_ge (by rw [readyL_length]; exact hj), getD_ge hj]; simp [readyL]
  · rw [getD_over _ _ (by rw [readyL_length]; omega), getD_over _ _ (by omega)]; rfl
theorem readyL_upto (zs : List Int) : upto (readyL zs) 1 := fun j => by rw [readyL_getD]; split <;> omega

set_option maxRecDepth 100000 in
theorem chReady_any (A : Option Addr) (n c B : Nat) (zs : List Int) (w : World) (hr : Ints w B A n zs) (hB : B ≤ w.heap.size) (h0 : 0 < n) (hn : n < 1000000) :
    Calls Try.prog 27 #[.slice A n c] w (Made1 (readyL zs) w) := by
  obtain rfl := hr.len
  have HE := hide (readyL_length zs)
  go_enter Try.func27, Try.ntmps27
  go_wp2_with fail
  go_loopw [3, 8] (fun v i wr => ∃ k : Nat, k ≤ zs.length ∧ i = .int .i64 k ∧ Own wr w.heap.size 3 v ((readyL zs).take k) ∧ Below w.heap.size w wr)
    (fun _ i _ => zs.length - (intOf i).toNat)
  case atStart => exact ⟨0, Nat.zero_le _, rfl, Own.nil _ _ _, Below.refl _ _⟩
  case round =>
    obtain ⟨k, hk, rfl, hown, hb⟩ := hrel
    have hsz := hb.size
    have hll : ((readyL zs).take k).length < 1000000 := by rw [List.length_take, HE.out]; omega
    by_cases hlt : k < zs.length
    · have Hs := hide (readyL_take_succ zs k hlt)
      obtain ⟨ad, rfl, hab, hcell⟩ := (hr.below hb hB).at_ hlt
      rw [getD_ge hlt] at hcell
      generalize zs[k] = z at *
      by_cases h1 : 1 < z
      · rw [if_pos h1] at Hs
        go_wp2_with (at_builtin; refine wpList_app_int rfl _ _ 22 3 rfl Try.underlying22 infoInt w.heap.size _ _ rfl hown _ _ rfl hsz hll ?_; intro v' w' hown' hb')
        go_roundw
        case rel => exact ⟨k + 1, by omega, by go_num, by rw [Hs.out]; exact hown', hb.trans hb'⟩
        case measure => simp [intOf]; omega
      · rw [if_neg h1] at Hs
        go_wp2_with (at_builtin; refine wpList_app_int rfl _ _ 22 3 rfl Try.underlying22 infoInt w.heap.size _ _ rfl hown _ _ rfl hsz hll ?_; intro v' w' hown' hb')
        go_roundw
        case rel => exact ⟨k + 1, by omega, by go_num, by rw [Hs.out]; exact hown', hb.trans hb'⟩
        case measure => simp [intOf]; omega
    · go_wp2_with fail
      go_ret
      rw [List.take_of_length_le (by rw [HE.out]; omega)] at hown
      exact made1_of (by rw [HE.out]; exact h0) hown hb
end Go.Proofs.Ytcfofofhdbnlaaa
