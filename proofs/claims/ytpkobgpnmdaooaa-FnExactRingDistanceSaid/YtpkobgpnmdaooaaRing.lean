
/-
  FLOWS AROUND A RING, THE MODEL's: hpRing, RingFlows, RingDistance.
-/
import Derived.Test.YtpkobgpnmdaooaaFlows
import Derived.Test.YtpkobgpnmdaooaaMedian
import Derived.Test.YtpkobgpnmdaooaaCopy
namespace Go.Proofs.Ytpkobgpnmdaooaa
open Go.RowKit Go.Deep

theorem quiet_below {P : Program} {f : FuncId} {args : Array Value} {w : World} {v : Value} (h : ∀ W : World, W.heap = w.heap → Calls P f args W fun e w' => e = .returned v ∧ W = w') (n : Nat) :
    Calls P f args (w.drewN n) fun e w'' => e = .returned v ∧ ∃ m, w'' = w.drewN m :=
  (h (w.drewN n) rfl).mono fun _ _ ⟨he, hm⟩ => ⟨he, n, hm.symm⟩

/-- The model's hpRing. -/
theorem hpRing_any (A : Option Addr) (n c B : Nat) (zs : List Int) (w : World) (hr : Ints w B A n zs) (hB : B ≤ w.heap.size) (hg : good zs = true) :
    Calls Try.prog 15 #[.slice A n c] w (Made (ringFlows zs) w) := by
  obtain rfl := hr.len
  have hle := (good_of hg).2.1
  have hle1 := (good_of hg).1
  have HL := hide (ringLine_length hg)
  have HW := hide (ringLine_within hg)
  have HFL := hide (flows_length zs)
  have HLdef := hide (show flows zs ++ [0] = ringLine zs from rfl)
  have HR := hide (show ringFlows zs = shift (off (ringLine zs)) (ringLine zs) from rfl)
  have HOff := hide (show off (ringLine zs) = sel (ringLine zs) 0 (ringLine zs) from rfl)
  rw [HR.out]
  generalize ringLine zs = L at *
  have hL0 : 0 < L.length := by rw [HL.out]; omega
  have hL12 : L.length ≤ 12 := by rw [HL.out]; omega
  go_enter Try.func15, Try.ntmps15
  go_wp2_with fail
  refine (hpFlows_any _ _ _ _ _ _ hr hB hg).mono ?_
  clear hg
  rintro e w1 ⟨A1, c1, rfl, hc1, hc2, hown1, hb1⟩
  have s1 := hb1.size
  have hll : (flows zs).length < 1000000 := by rw [HFL.out]; omega
  go_wp2_with (at_builtin; refine wpList_app_int rfl _ _ 22 3 rfl Try.underlying22 infoInt w.heap.size _ _ rfl hown1 _ _ rfl s1 hll ?_; rw [HLdef.out]; intro v2 w2 hown2 hb2)
  clear hown1
  rcases hown2.form with ⟨_, h0⟩ | ⟨g2, c2, rfl, hg2a, hg2b, hc2a, hc2b⟩
  · rw [h0] at hL0; simp at hL0
  have hx2 := hown2.ints
  have s2 := hb2.size
  go_wp2_with fail
  refine (l1Own_any _ _ _ _ _ _ hx2 (Nat.le_refl _) hL0 (by omega)).mono ?_
  rintro e w3 ⟨g3, c3, rfl, hg3a, hg3b, hc3a, hc3b, hown3, hb3⟩
  have s3 := hb3.size
  have s2' : w.heap.size ≤ w2.heap.size := by omega
  have hx3 := hx2.below hb3 (Nat.le_refl _)
  go_wp2_with fail
  go_loopw [4, 19] (fun v i wr => ∃ (k : Nat) (c0 : Int) (g' c' : Nat), k ≤ L.length ∧ i = .int .i64 k ∧ v = .slice (some ⟨g', 0, none⟩) L.length c' ∧ Own wr w.heap.size 3 (.slice (some ⟨g', 0, none⟩) L.length c') (shift c0 L) ∧
      Hid (sel L c0 (L.drop k) = off L) ∧ (-144000 ≤ c0 ∧ c0 ≤ 12000) ∧ Below w2.heap.size w2 wr ∧ L.length ≤ c' ∧ c' ≤ maxLen)
    (fun _ i _ => L.length - (intOf i).toNat)
  case atStart => exact ⟨0, 0, g3, c3, Nat.zero_le _, rfl, rfl, by rw [shift_zero]; exact hown3.less s2', hide HOff.out.symm, by omega, hb3, hc3a, hc3b⟩
  case round =>
    obtain ⟨k, c0, g', c', hk, rfl, rfl, hbest, hsel, hc0, hb, hca, hcb⟩ := hrel
    obtain ⟨wo, rfl⟩ : ∃ wo : World, wo = wr := ⟨_, rfl⟩
    have so := hb.size
    have hxo := hx2.below hb (Nat.le_refl _)
    by_cases hlt : k < L.length
    · have hxk := within_get HW.out k hlt
      obtain ⟨ad, had, _, hcell⟩ := hxo.at_ hlt
      obtain rfl : ad = ⟨g2, 0, none⟩ := by injection had with h; exact h.symm
      clear had
      rw [add_head, show L.getD k 0 = L[k] from by simp [List.getD, List.getElem?_eq_getElem hlt]] at hcell
      have HDrop := hide (List.drop_eq_getElem_cons hlt)
      generalize hx : L[k] = x at *
      clear hx
      go_wp2_with fail
      go_loopw [7, 25] (fun v i wi => ∃ j : Nat, j ≤ L.length ∧ i = .int .i64 j ∧ Own wi wo.heap.size 3 v ((shift x L).take j) ∧ Below wo.heap.size wo wi)
        (fun _ i _ => L.length - (intOf i).toNat)
      case atStart => exact ⟨0, Nat.zero_le _, rfl, Own.nil _ _ _, Below.refl _ _⟩
      case round =>
        obtain ⟨j, hj, rfl, hown, hbi⟩ := hrel
        obtain ⟨wi, rfl⟩ : ∃ wi : World, wi = wr := ⟨_, rfl⟩
        have hsi := hbi.size
        by_cases hjt : j < L.length
        · have Hs := hide (shift_take_succ x L j hjt)
          have hxj := within_get HW.out j hjt
          obtain ⟨ad, had, _, hcellj⟩ := (hxo.below hbi (by omega)).at_ hjt
          obtain rfl : ad = ⟨g2, 0, none⟩ := by injection had with h; exact h.symm
          clear had
          rw [add_head, show L.getD j 0 = L[j] from by simp [List.getD, List.getElem?_eq_getElem hjt]] at hcellj
          have hlj : ((shift x L).take j).length < 1000000 := by rw [List.length_take, shift_length]; omega
          go_wp2_with (at_builtin; refine wpList_app_int rfl _ _ 22 3 rfl Try.underlying22 infoInt wo.heap.size _ _ rfl hown _ _ rfl hsi hlj ?_; intro v' w' hown' hb')
          go_roundw
          case rel => exact ⟨j + 1, by omega, by go_num, by rw [Hs.out]; exact hown', hbi.trans hb'⟩
          case measure => simp [intOf]; omega
        · rw [List.take_of_length_le (by rw [shift_length]; omega)] at hown
          clear hcell
          rcases hown.form with ⟨_, h0⟩ | ⟨g5, c5, rfl, hg5a, hg5b, hc5a, hc5b⟩
          · have := shift_length x L; rw [h0] at this; simp at this; omega
          have hx5 := hown.ints
          have hb5 := (hbest.below hbi).ints
          rw [shift_length] at hx5 hb5 hc5a hown ⊢
          have HX5 := hide (hpSize_any _ _ c5 _ _ wi hx5 (by omega) (within_wide (within_shift HW.out hxk.1 hxk.2) (by omega) (by omega)))
          have HB5 := hide (fun m => quiet_left (n := m) (hpSize_any _ _ c' _ _ (wi.drewN m) hb5 (by omega) (within_wide (within_shift HW.out hc0.1 hc0.2) (by omega) (by omega))))
          rw [sizes_shift] at HX5 HB5
          have e0 := hx5.at_ hL0
          have f0 := hb5.at_ hL0
          obtain ⟨_, h5, _, e0⟩ := e0
          obtain rfl := Option.some.inj h5
          obtain ⟨_, h6, _, f0⟩ := f0
          obtain rfl := Option.some.inj h6
          rw [add_head, shift_getD _ _ _ hL0] at e0 f0
          have hp : (0 : Int) < (L.length : Int) := by omega
          have hL0b := within_get HW.out 0 hL0
          generalize hl0 : L[0] = l0 at *
          clear hl0 h5 h6
          have hsel' := hsel.out
          rw [HDrop.out] at hsel'
          simp only [sel] at hsel'
          have Hsel := hide hsel'
          clear hsel hsel' HDrop
          generalize dist x L = dx at *
          generalize dist c0 L = dc at *
          by_cases h1 : dx < dc
          · rw [if_pos (.inl h1)] at Hsel
            go_wp2_with fail
            refine HX5.out.mono ?_; rintro e w' ⟨rfl, rfl⟩
            go_wp2_with fail
            go_quiet ((go_at_call 14; exact HB5.out _))
            go_wp2_with fail
            go_roundw
            case rel => exact ⟨k + 1, x, g5, c5, by omega, by go_num, rfl, (hown.less (by omega)).drewN _, Hsel, hxk, below_drewN (below_next hb hbi) _, hc5a, hc5b⟩
            case measure => simp [intOf]; omega
          · have hd1 : decide (dx < dc) = false := by simpa using h1
            by_cases h2 : dx = dc
            · have hd2 : (dx == dc) = true := by simpa using h2
              by_cases h3 : c0 < x
              · rw [if_pos (.inr ⟨h2, h3⟩)] at Hsel
                have hd3 : decide (l0 - x < l0 - c0) = true := by simp; omega
                clear h2
                go_wp2_with fail
                refine HX5.out.mono ?_; rintro e w' ⟨rfl, rfl⟩
                go_wp2_with fail
                go_quiet ((go_at_call 14; exact HB5.out _))
                go_wp2_with fail
                go_roundw
                case rel => exact ⟨k + 1, x, g5, c5, by omega, by go_num, rfl, (hown.less (by omega)).drewN _, Hsel, hxk, below_drewN (below_next hb hbi) _, hc5a, hc5b⟩
                case measure => simp [intOf]; omega
              · rw [if_neg (by omega)] at Hsel
                have hd3 : decide (l0 - x < l0 - c0) = false := by simp; omega
                clear h2
                go_wp2_with fail
                refine HX5.out.mono ?_; rintro e w' ⟨rfl, rfl⟩
                go_wp2_with fail
                go_quiet ((go_at_call 14; exact HB5.out _))
                go_wp2_with fail
                go_roundw
                case rel => exact ⟨k + 1, c0, g', c', by omega, by go_num, rfl, (hbest.below hbi).drewN _, Hsel, hc0, below_drewN (below_next hb hbi) _, hca, hcb⟩
                case measure => simp [intOf]; omega
            · rw [if_neg (by omega)] at Hsel
              have hd2 : (dx == dc) = false := by simpa using h2
              go_wp2_with fail
              refine HX5.out.mono ?_; rintro e w' ⟨rfl, rfl⟩
              go_wp2_with fail
              go_quiet ((go_at_call 14; exact HB5.out _))
              go_wp2_with fail
              go_roundw
              case rel => exact ⟨k + 1, c0, g', c', by omega, by go_num, rfl, (hbest.below hbi).drewN _, Hsel, hc0, below_drewN (below_next hb hbi) _, hca, hcb⟩
              case measure => simp [intOf]; omega
    · go_wp2_with fail
      go_ret
      rw [List.drop_eq_nil_of_le (by omega)] at hsel
      have hcf : c0 = off L := hsel.out
      subst hcf
      exact ⟨_, c', by rw [shift_length]; rfl, by rw [shift_length]; exact hca, hcb, by rw [shift_length]; exact hbest, below_next (hb1.trans hb2) hb⟩
end Go.Proofs.Ytpkobgpnmdaooaa
