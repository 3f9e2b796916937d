
/-
  THE RING BEHIND SO MANY STEPS, THE PROGRAM's WAY: ringWalk.after.
-/
import Derived.Test.YtkhcabgpbmhimaaWkP
namespace Go.Proofs.Ytkhcabgpbmhimaa
open Go.RowKit Go.Deep
set_option linter.unusedVariables false

/-- Where the steps stand. -/
def AftRel (b5 : Nat) (zs : List Int) (t : Nat) (w : World) (i : Value) (wr : World) : Prop :=
  ∃ k : Nat, k ≤ t ∧ i = .int .i64 k ∧ ArrAt wr b5 43 (pad10 (rit zs k)) ∧ ArrAt wr w.heap.size 43 zero10 ∧ Below w.heap.size w wr

set_option maxRecDepth 100000 in
set_option maxHeartbeats 4000000 in
theorem after_any (b bd bs : Nat) (zs ag : List Int) (l p0 : Int) (t : Nat) (w : World) (hg : rgood zs = true) (ht : t ≤ 1000000000)
    (hW : WkAt w b zs.length (stepF bd bs) (pad10 zs) ag l p0) (hS : StepAt w bd bs zs.length) :
    Calls Try.prog 34 #[.pointer (some ⟨b, 0, none⟩), .int .i64 (t : Int)] w
      fun e w' => e = .returned (aggA (pad10 (rit zs t))) ∧ Below w.heap.size w w' := by
  have HW := hide hW
  have HS := hide hS
  have hbw := hW.lt
  have HG := hide hg
  have HP := hide (pad10_len (zs := zs) (rgood_of hg).2.1)
  have HPt := hide (fun t => pad10_len (zs := rit zs t) (by rw [rit_length]; exact (rgood_of hg).2.1))
  have hzl := hide zero10_len
  clear hW hS hg
  go_enter Try.func34, Try.ntmps34
  go_wp2_with (first
    | (with_reducible refine wpList_arr_new (o := ⟨some 4, _, _, _, _, _⟩) rfl rfl ?_; intro w1 hA1 hb1 hs1; have A1 := hide hA1; have B1 := hide hb1; have W1 := hide (HW.out.next hb1); clear hA1 hb1 hs1)
    | (with_reducible refine wpList_wk_load rfl (.tmp 8) rfl b 2 (pad10 zs) rfl HP.out W1.out.start ?_)
    | (with_reducible refine wpList_arr_new (o := ⟨some 5, _, _, _, _, _⟩) rfl rfl ?_; intro w2 hA2 hb2 hs2; have N2 := hide hA2; have A2 := hide (A1.out.next hb2); have B2 := hide (B1.out.trans (hb2.mono B1.out.size)); clear hA2 hb2 hs2)
    | (with_reducible refine wpList_arr_store rfl (.tmp 5) (.tmp 9) rfl w1.heap.size _ _ (pad10 zs) rfl rfl HP.out hzl.out N2.out ?_; intro w3 hN3 ho3; have N3 := hide hN3; have A3 := hide (A2.out.same (ho3.rest w.heap.size (Nat.ne_of_lt A1.out.lt))); have B3 := hide (B2.out.trans (ho3.below.mono B1.out.size)); clear hN3 ho3))
  have hlt1 := A1.out.lt
  go_simp
  go_loopw [11] (AftRel w1.heap.size zs t w) (fun i _ => t - (intOf i).toNat)
  case atStart => exact ⟨0, Nat.zero_le _, rfl, N3.out, A3.out, B3.out⟩
  case round =>
    clear A1 B1 W1 A2 B2 N2 A3 B3 N3
    obtain ⟨k, hk, rfl, hN, hA, hB⟩ := hrel
    have NN := hide hN
    have AA := hide hA
    have BB := hide hB
    have hsz := hB.size
    clear hN hA hB
    by_cases hlt : k < t
    · have S8 := hide (HS.out.next BB.out)
      have hf8 : wr.cell? ⟨b, 1, none⟩ = some (.func (.func 33) #[] #[.pointer (some ⟨bd, 0, none⟩), .pointer (some ⟨bs, 0, none⟩)]) := (HW.out.next BB.out).cF
      have hcut := ring_cut_all w1.heap.size 0
      have HD := hide (step_row w1.heap.size bd bs zs k wr.drew HG.out S8.out NN.out)
      go_wp2_with fail
      go_still_tail 5, (by kernel_rfl)
      change wpList _ _ _ _ _ wr.drew
      go_wp2_with fail
      refine HD.out.mono ?_; rintro e w9 ⟨rfl, hb9⟩
      have hb9' : Below wr.heap.size wr w9 := (Below.refl _ _).drew.trans hb9
      have N9 := hide (NN.out.next hb9')
      have A9 := hide (AA.out.next hb9')
      have B9 := hide (BB.out.trans (hb9'.mono hsz))
      clear hb9 hb9' hf8 hcut
      go_wp2_with (with_reducible refine wpList_arr_store rfl (.tmp 5) (.tmp 18) rfl w1.heap.size _ _ (pad10 (rit zs (k + 1))) rfl rfl (HPt.out _) (HPt.out _) N9.out ?_; intro w10 hN10 ho10; have N10 := hide hN10; have A10 := hide (A9.out.same (ho10.rest w.heap.size (Nat.ne_of_lt hlt1))); have B10 := hide (B9.out.trans (ho10.below.mono (Nat.le_of_lt hlt1))); clear hN10 ho10)
      go_simp
      go_roundw
      case rel => exact ⟨k + 1, by omega, by go_num, N10.out, A10.out, B10.out⟩
      case measure => simp [intOf]; omega
    · obtain rfl : k = t := by omega
      go_wp2_with (first
        | (with_reducible refine wpList_arr_load rfl (.tmp 5) rfl w1.heap.size _ (pad10 (rit zs k)) rfl (HPt.out _) NN.out ?_)
        | (with_reducible refine wpList_arr_store rfl (.tmp 4) (.tmp 20) rfl w.heap.size _ _ (pad10 (rit zs k)) rfl rfl (HPt.out _) hzl.out AA.out ?_; intro w5 hL5 ho5))
      exact bodyPost_ret (results_arr1 rfl _ _ _ _ _ rfl (HPt.out _) hL5) rfl ⟨rfl, BB.out.trans ho5.below⟩
end Go.Proofs.Ytkhcabgpbmhimaa
