
/-
  THE MODEL'S FIRINGS: chOnce, chFire, chLost, chReady.
-/
import Derived.Test.YtcfofofhdbnlaaaLnQ
import Derived.Test.YtcfofofhdbnlaaaCh
import Derived.Test.YtcfofofhdbnlaaaCopy
import Derived.Test.YtcfofofhdbnlaaaMark
import Derived.Test.YtcfofofhdbnlaaaFlows
namespace Go.Proofs.Ytcfofofhdbnlaaa
open Go.RowKit Go.Deep
set_option linter.unusedVariables false

theorem chOnce_any (n p : Nat) (w : World) (hp : p < n) (hn : n ≤ 20) :
    Calls Try.prog 20 #[.int .i64 n, .int .i64 p] w (Made1 (once n p) w) := by
  have HL := hide (once_length n p)
  have hmk := run_make_row' (P := Try.prog) 22 3 (.int .i64 0) 8 Try.underlying22 infoInt rfl .i64 .i64 n (by omega) (by omega)
  have hrow := World.rowIs_made w (.int .i64 0) n 3
  have hold := hrow.cell hp
  have hfz := hrow.frozen p
  have hb1 : Below w.heap.size w (w.alloc (.cells (madeCells #[.int .i64 0] n) 3)) := (Below.refl _ _).alloc (Nat.le_refl _) _
  have HB := hide (hb1.setCell (p := (⟨w.heap.size, p, none⟩ : Addr)) (Nat.le_refl _) (.int .i64 1))
  have HS := hide (hrow.set p (.int .i64 1))
  have hpi : (p : Int) < (n : Int) := by omega
  have HE := hide (show (w.alloc (.cells (madeCells #[.int .i64 0] n) 3)).setCell ⟨w.heap.size, p, none⟩ (.int .i64 1) = w.alloc (.cells ((madeCells #[.int .i64 0] n).setIfInBounds p (.int .i64 1)) 3) from by simp [go_sem])
  clear hrow hb1
  go_enter Try.func20, Try.ntmps20
  go_wp2_with fail
  go_ret
  have hrow' : Row ((w.alloc (.cells (madeCells #[.int .i64 0] n) 3)).setCell ⟨w.heap.size, p, none⟩ (.int .i64 1)) w.heap.size 3 (once n p) := by
    unfold Row
    rw [HL.out]
    refine HS.out.congr (fun i hi => ?_)
    unfold once
    rw [getD_set _ _ _ _ (by rw [noF_length]; exact hp), noF_getD]
    by_cases e : i = p
    · subst e; simp
    · rw [if_neg e, if_neg (Ne.symm e)]
  have ho := Own.of_row (base := w.heap.size) hrow' (Nat.le_refl _) (by rw [HL.out]; unfold maxLen; omega)
  have hB := HB.out
  rw [HE.out] at ho hB
  exact ⟨w.heap.size, n, by rw [HL.out]; rfl, Nat.le_refl _, by simp, by rw [HL.out]; exact Nat.le_refl _, by unfold maxLen; omega, by rw [HL.out] at ho; rw [HL.out]; exact ho, hB⟩

theorem chipsOf_take_succ (zs ts : List Int) (k : Nat) (h : k < zs.length) : (chipsOf zs ts).take (k + 1) = (chipsOf zs ts).take k ++ [rowAt zs ts (k + 1)] := by
  rw [List.take_succ_eq_append_getElem (by rw [chipsOf_length]; exact h)]
  congr 2
  have := chipsOf_get zs ts k h
  rw [List.getElem?_eq_getElem (by rw [chipsOf_length]; exact h)] at this
  exact Option.some.inj this

set_option maxRecDepth 100000 in
theorem chFire_any (A A' : Option Addr) (n c c' B B' : Nat) (zs ts : List Int) (w : World) (hr : Ints w B A n zs) (hr' : Ints w B' A' n ts) (hB : B ≤ w.heap.size) (hB' : B' ≤ w.heap.size) (h0 : 0 < n) (h20 : n ≤ 20)
    (hz : ∀ j : Nat, -1000000000 ≤ zs.getD j 0 ∧ zs.getD j 0 ≤ 1000000000) (ht : ∀ j : Nat, 0 ≤ ts.getD j 0 ∧ ts.getD j 0 ≤ 1000000000) :
    Calls Try.prog 21 #[.slice A n c, .slice A' n c'] w (Made1 (chipsOf zs ts) w) := by
  obtain rfl := hr.len
  have htl := hr'.len
  have HTL := hide htl
  have HL := hide (chipsOf_length zs ts)
  have HZ := hide hz
  have HT := hide ht
  clear hz ht htl
  go_enter Try.func21, Try.ntmps21
  go_wp2_with fail
  go_loopw [5, 10] (fun v i wr => ∃ k : Nat, k ≤ zs.length ∧ i = .int .i64 k ∧ Own wr w.heap.size 3 v ((chipsOf zs ts).take k) ∧ Below w.heap.size w wr)
    (fun _ i _ => zs.length - (intOf i).toNat)
  case atStart => exact ⟨0, Nat.zero_le _, rfl, Own.nil _ _ _, Below.refl _ _⟩
  case round =>
    obtain ⟨k, hk, rfl, hown, hb⟩ := hrel
    have hsz := hb.size
    have hll : ((chipsOf zs ts).take k).length < 1000000 := by rw [List.length_take, HL.out]; omega
    by_cases hlt : k < zs.length
    · have Hs := hide (chipsOf_take_succ zs ts k hlt)
      have HV := hide (rowAt_succ zs ts k)
      have hrb := hr.below hb hB
      have htb := hr'.below hb hB'
      obtain ⟨ad, rfl, hab, hcell⟩ := hrb.at_ hlt
      obtain ⟨ad', rfl, _, hc1⟩ := htb.at_ hlt
      have hz0 := HZ.out k
      have ht0 := HT.out k
      have htp := HT.out (k + 1)
      have htm := HT.out (k - 1)
      by_cases h1 : k = 0
      · have HM := hide (show (0 :: ts : List Int).getD k 0 = 0 from by rw [h1]; rfl)
        have hk0 : ¬ (0 < (k : Int)) := by omega
        by_cases h2 : k + 1 < zs.length
        · obtain ⟨ad2, had2, _, hc2⟩ := htb.at_ h2
          obtain rfl : ad2 = ad' := by injection had2 with h; exact h.symm
          rw [show ad2.add (k + 1) = ⟨ad2.block, ad2.off + (k + 1), none⟩ from by simp [Addr.add]] at hc2
          have hki : (k : Int) + 1 < (zs.length : Int) := by omega
          clear had2
          clear hrb htb h1
          generalize zs.getD k 0 = z at *
          generalize ts.getD k 0 = t0 at *
          generalize ts.getD (k + 1) 0 = t1 at *
          have HX := hide (show z - 2 * t0 + t1 + 0 = z - 2 * t0 + t1 from by omega)
          go_wp2_with (at_builtin; refine wpList_app_int rfl _ _ 22 3 rfl Try.underlying22 infoInt w.heap.size _ _ rfl hown _ _ rfl hsz hll ?_; intro v' w' hown' hb')
          go_roundw
          case rel => exact ⟨k + 1, by omega, by go_num, by rw [Hs.out, HV.out, HM.out, HX.out]; exact hown', hb.trans hb'⟩
          case measure => simp [intOf]; omega
        · have HN := hide (show ts.getD (k + 1) 0 = 0 from getD_over _ _ (by rw [HTL.out]; omega))
          have hki : ¬ ((k : Int) + 1 < (zs.length : Int)) := by omega
          rw [HN.out] at HV
          clear hrb htb h1
          generalize zs.getD k 0 = z at *
          generalize ts.getD k 0 = t0 at *
          have HX := hide (show z - 2 * t0 + 0 + 0 = z - 2 * t0 from by omega)
          go_wp2_with (at_builtin; refine wpList_app_int rfl _ _ 22 3 rfl Try.underlying22 infoInt w.heap.size _ _ rfl hown _ _ rfl hsz hll ?_; intro v' w' hown' hb')
          go_roundw
          case rel => exact ⟨k + 1, by omega, by go_num, by rw [Hs.out, HV.out, HM.out, HX.out]; exact hown', hb.trans hb'⟩
          case measure => simp [intOf]; omega
      · have HM := hide (show (0 :: ts : List Int).getD k 0 = ts.getD (k - 1) 0 from by
          obtain ⟨j, rfl⟩ : ∃ j, k = j + 1 := ⟨k - 1, by omega⟩
          rw [getD_cons0]; rfl)
        have hk0 : 0 < (k : Int) := by omega
        by_cases h2 : k + 1 < zs.length
        · obtain ⟨ad2, had2, _, hc2⟩ := htb.at_ h2
          obtain rfl : ad2 = ad' := by injection had2 with h; exact h.symm
          rw [show ad2.add (k + 1) = ⟨ad2.block, ad2.off + (k + 1), none⟩ from by simp [Addr.add]] at hc2
          have hki : (k : Int) + 1 < (zs.length : Int) := by omega
          clear had2
          obtain ⟨ad3, had3, _, hc3⟩ := htb.at_ (show k - 1 < zs.length by omega)
          obtain rfl : ad3 = ad2 := by injection had3 with h; exact h.symm
          have hkm : (k : Int) - 1 = ((k - 1 : Nat) : Int) := by omega
          clear had3
          clear hrb htb h1
          generalize zs.getD k 0 = z at *
          generalize ts.getD k 0 = t0 at *
          generalize ts.getD (k + 1) 0 = t1 at *
          generalize ts.getD (k - 1) 0 = tm at *
          have HX := hide (show z - 2 * t0 + t1 + tm = z - 2 * t0 + tm + t1 from by omega)
          go_wp2_with (at_builtin; refine wpList_app_int rfl _ _ 22 3 rfl Try.underlying22 infoInt w.heap.size _ _ rfl hown _ _ rfl hsz hll ?_; intro v' w' hown' hb')
          go_roundw
          case rel => exact ⟨k + 1, by omega, by go_num, by rw [Hs.out, HV.out, HM.out, HX.out]; exact hown', hb.trans hb'⟩
          case measure => simp [intOf]; omega
        · have HN := hide (show ts.getD (k + 1) 0 = 0 from getD_over _ _ (by rw [HTL.out]; omega))
          have hki : ¬ ((k : Int) + 1 < (zs.length : Int)) := by omega
          rw [HN.out] at HV
          obtain ⟨ad3, had3, _, hc3⟩ := htb.at_ (show k - 1 < zs.length by omega)
          obtain rfl : ad3 = ad' := by injection had3 with h; exact h.symm
          have hkm : (k : Int) - 1 = ((k - 1 : Nat) : Int) := by omega
          clear had3
          clear hrb htb h1
          generalize zs.getD k 0 = z at *
          generalize ts.getD k 0 = t0 at *
          generalize ts.getD (k - 1) 0 = tm at *
          have HX := hide (show z - 2 * t0 + 0 + tm = z - 2 * t0 + tm from by omega)
          go_wp2_with (at_builtin; refine wpList_app_int rfl _ _ 22 3 rfl Try.underlying22 infoInt w.heap.size _ _ rfl hown _ _ rfl hsz hll ?_; intro v' w' hown' hb')
          go_roundw
          case rel => exact ⟨k + 1, by omega, by go_num, by rw [Hs.out, HV.out, HM.out, HX.out]; exact hown', hb.trans hb'⟩
          case measure => simp [intOf]; omega
    · go_wp2_with fail
      go_ret
      rw [List.take_of_length_le (by rw [HL.out]; omega)] at hown
      exact made1_of (by rw [HL.out]; exact h0) hown hb
end Go.Proofs.Ytcfofofhdbnlaaa
