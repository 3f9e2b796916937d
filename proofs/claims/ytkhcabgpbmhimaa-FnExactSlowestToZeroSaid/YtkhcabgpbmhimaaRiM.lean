
/-
  RINGS, THE MODEL's WAY: riStep, riPlay, RingStep.
-/
import Derived.Test.YtkhcabgpbmhimaaRi
import Derived.Test.YtkhcabgpbmhimaaRiQ
import Derived.Test.YtkhcabgpbmhimaaFlows
namespace Go.Proofs.Ytkhcabgpbmhimaa
open Go.RowKit Go.Deep

theorem dif_size (a b : Int) : size1 (a - b) = dif a b := by unfold size1 dif; split <;> omega
theorem nextOf_int (k n : Nat) : ((k : Int) + 1) % (n : Int) = ((nextOf k n : Nat) : Int) := by
  unfold nextOf
  rw [Int.natCast_emod]
  congr 1

/-- The model's riStep. -/
theorem riStep_any (A : Option Addr) (n c B : Nat) (zs : List Int) (w : World) (hr : Ints w B A n zs) (hB : B ≤ w.heap.size) (h0 : 0 < n) (hn : n < 1000000) (hc : within 0 1000 zs = true) :
    Calls Try.prog 15 #[.slice A n c] w (Made1 (rstep zs) w) := by
  obtain rfl := hr.len
  have HE := hide (rstep_length zs)
  have HC := hide hc
  clear hc
  go_enter Try.func15, Try.ntmps15
  go_wp2_with fail
  go_loopw [3, 8] (fun v i wr => ∃ k : Nat, k ≤ zs.length ∧ i = .int .i64 k ∧ Own wr w.heap.size 3 v ((rstep zs).take k) ∧ Below w.heap.size w wr)
    (fun _ i _ => zs.length - (intOf i).toNat)
  case atStart => exact ⟨0, Nat.zero_le _, rfl, Own.nil _ _ _, Below.refl _ _⟩
  case round =>
    obtain ⟨k, hk, rfl, hown, hb⟩ := hrel
    have hsz := hb.size
    have hll : ((rstep zs).take k).length < 1000000 := by rw [List.length_take, HE.out]; omega
    by_cases hlt : k < zs.length
    · have hl := nextOf_lt hlt
      have Hs := hide (rstep_take_succ zs k hlt)
      have HV := hide (rstep1_eq zs k hlt)
      have hcz := within_get HC.out k hlt
      have hcl := within_get HC.out (nextOf k zs.length) hl
      have hmod := nextOf_int k zs.length
      have hrb := hr.below hb hB
      obtain ⟨ad, rfl, hab, hcell⟩ := hrb.at_ hlt
      obtain ⟨ad', had, _, hcell'⟩ := hrb.at_ hl
      obtain rfl : ad' = ad := by injection had with h; exact h.symm
      clear had hrb
      rw [rget hlt] at hcell
      rw [rget hl] at hcell'
      have HD := hide (dif_size zs[k] (zs[nextOf k zs.length]'hl))
      generalize zs[nextOf k zs.length] = zl at *
      generalize zs[k] = zk at *
      generalize nextOf k zs.length = l at *
      go_wp2_with fail
      refine (l1Abs_any _ (by omega) (by omega) _).mono ?_; rintro e w' ⟨rfl, rfl⟩; rw [HD.out]
      generalize dif zk zl = dz at *
      go_wp2_with (at_builtin; refine wpList_app_int rfl _ _ 22 3 rfl Try.underlying22 infoInt w.heap.size _ _ rfl hown _ _ rfl hsz hll ?_; intro v' w' hown' hb')
      go_roundw
      case rel => exact ⟨k + 1, by omega, by go_num, by rw [Hs.out, HV.out]; exact hown', hb.trans hb'⟩
      case measure => simp [intOf]; omega
    · go_wp2_with fail
      go_ret
      rw [List.take_of_length_le (by rw [HE.out]; omega)] at hown
      exact made1_of (by rw [HE.out]; exact h0) hown hb

/-- The model's riPlay. -/
theorem riPlay_any (A : Option Addr) (n c B : Nat) (zs : List Int) (t : Nat) (w : World) (hr : Ints w B A n zs) (hB : B ≤ w.heap.size) (h0 : 0 < n) (hn : n < 1000000) (hc : within 0 1000 zs = true) (ht : t ≤ 1000000000) :
    Calls Try.prog 16 #[.slice A n c, .int .i64 t] w (Made1 (rit zs t) w) := by
  obtain rfl := hr.len
  have HL := hide (fun j => rit_length zs j)
  have HC := hide (fun j => rit_within hc j)
  go_enter Try.func16, Try.ntmps16
  go_wp2_with fail
  refine (l1Own_any _ _ _ _ _ _ hr hB h0 hn).mono ?_
  rintro e w1 ⟨g, c1, rfl, hg1, hg2, hc1, hc2, hown1, hb1⟩
  have hs1 := hb1.size
  go_wp2_with fail
  go_loopw [1, 5] (fun i v wr => ∃ j : Nat, j ≤ t ∧ i = .int .i64 ((t - j : Nat) : Int) ∧ Own wr w.heap.size 3 v (rit zs j) ∧ Below w.heap.size w wr)
    (fun i _ _ => (intOf i).toNat)
  case atStart => exact ⟨0, Nat.zero_le _, rfl, hown1, hb1⟩
  case round =>
    clear hb1 hown1 hs1
    obtain ⟨j, hj, rfl, hown, hb⟩ := hrel
    have hsz := hb.size
    obtain ⟨A', c', rfl, hc1', hc2'⟩ := hown.shape
    have hi := hown.ints
    have hi' := (HL.out j) ▸ hi
    by_cases hlt : j < t
    · obtain ⟨q, hq⟩ : ∃ q, q = t - j := ⟨_, rfl⟩
      have hq1 : 0 < q := by omega
      have hq2 : q ≤ 1000000000 := by omega
      rw [← hq]
      have hqq : t - (j + 1) = q - 1 := by omega
      have HQ := hide hqq
      have HQ0 := hide hq
      clear hq hqq
      have HS := hide (riStep_any A' (rit zs j).length c' _ (rit zs j) wr hi (Nat.le_refl _) (by rw [HL.out]; exact h0) (by rw [HL.out]; exact hn) (HC.out j))
      go_wp2_with fail
      refine HS.out.mono ?_
      rintro e w2 ⟨g2, c2, rfl, _, _, _, _, hown2, hb2⟩
      go_wp2_with fail
      go_roundw
      case rel => exact ⟨j + 1, by omega, by rw [HQ.out]; congr 1; omega, hown2.less hsz, below_next hb hb2⟩
      case measure => simp [intOf]; omega
    · obtain rfl : j = t := by omega
      rw [Nat.sub_self]
      go_wp2_with fail
      go_ret
      exact made1_of (by rw [HL.out]; exact h0) hown hb

end Go.Proofs.Ytkhcabgpbmhimaa
