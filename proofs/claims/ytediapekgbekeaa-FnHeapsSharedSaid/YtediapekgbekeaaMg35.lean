import Derived.Test.YtediapekgbekeaaMg34
import Derived.RegionTactic
import Derived.ChangeAlike
import Derived.Test.YtediapekgbekeaaMg12
import Derived.Test.YtediapekgbekeaaMg28

/-
  THE FEWEST MOVES, the program's way: mostBalancedGroups.
-/
namespace Go.Proofs.Ytediapekgbekeaa
open Go.RowKit Go.Deep
set_option linter.unusedVariables false

attribute [local go_sem ↓] shl_sub in
theorem groups_any (A : Option Addr) (n c B : Nat) (zs : List Int) (w : World) (hr : Ints w B A n zs) (hB : B ≤ w.heap.size) (hf : fewOk zs = true) :
    Calls Try.prog 43 #[.slice A n c, .int .i64 (tot zs / zs.length)] w fun e w' => e = .returned (.int .i64 (pt (over zs) zs.length (2 ^ zs.length - 1))) ∧ Below w.heap.size w w' := by
  obtain rfl := hr.len
  obtain ⟨hq, h8⟩ := fewOk_of hf
  obtain ⟨N, hN⟩ : ∃ N : Nat, N = 2 ^ zs.length := ⟨_, rfl⟩
  have hN1 : N ≤ 256 := by rw [hN]; exact Nat.le_trans (Nat.pow_le_pow_right (by omega) h8) (by omega)
  have hN0 : 0 < N := by rw [hN]; exact Nat.pos_of_ne_zero (by simp)
  have HNm : Hid (∀ s, s < N → s % 2 ^ zs.length = s) := hide (fun s h => Nat.mod_eq_of_lt (by rw [← hN]; exact h))
  have HW : Hid (wrap64 (2 ^ zs.length) = ((N : Nat) : Int)) := hide (by
    have h : (2 : Int) ^ zs.length = (N : Int) := by rw [hN]; simp
    rw [h]; unfold wrap64; omega)
  have hmk := run_make_row' (P := Try.prog) 24 3 (.int .i64 0) 8 Try.underlying24 infoInt rfl .i64 .i64 N (by omega) (by omega)
  have hmk' : ∀ w, (Instr.makeSlice 24 (.int .i64 (wrap64 (2 ^ zs.length))) (.int .i64 (wrap64 (2 ^ zs.length)))).run Try.prog w = .ok (.slice (some ⟨w.heap.size, 0, none⟩) N N) (w.alloc (.cells (madeCells #[.int .i64 0] N) 3)) := fun w => by rw [HW.out]; exact hmk w
  rw [← hN]
  clear hN hmk hf
  have hg := eqOk_good hq
  have hsb := share_bd hg
  have HGet := hide (fun i (h : i < zs.length) => good_get hg i h)
  have HOv := hide (fun i (h : i < zs.length) => show (over zs).getD i 0 = zs[i] - tot zs / zs.length from by simp [List.getD, show i < (over zs).length by rw [over_length]; exact h, over_get zs i h])
  have HOb := hide (sm_bd (D := over zs) (b := 12000) (by omega) (over_bd hg))
  have HP := hide (pt_succ (over zs) zs.length)
  have HP0 := hide (pt_zero (over zs) zs.length)
  have HPb := hide (pt_bd (over zs) zs.length)
  have HSL := hide (fun s k hs hk hb => sm_less (over zs) s k hs hk hb zs.length h8)
  clear hg hq
  generalize hPE : pt (over zs) zs.length = P at *
  have HPE := hide hPE
  clear hPE
  have HZ : Hid (sm (over zs) 0 zs.length = 0) := hide (by
    have : ∀ n, sm (over zs) 0 n = 0 := fun n => by induction n with
      | zero => rfl
      | succ n ih => unfold sm; rw [if_neg (by simp)]; exact ih
    exact this _)
  generalize hSM : sm (over zs) = SM at *
  clear hSM
  generalize tot zs / zs.length = q at *
  go_enter Try.func43, Try.ntmps43
  go_wp2_with fail
  generalize hg0 : w.heap.size = g at *
  have hm1 : ((w.alloc (.cells (madeCells #[.int .i64 0] N) 3)).alloc (.cells (madeCells #[.int .i64 0] N) 3)).rowIs g 3 N (fun j => .int .i64 (if j < 1 then SM j zs.length else 0)) := by
    rw [← hg0]
    refine World.rowIs.congr (World.rowIs.of_block (World.rowIs_made w _ _ _) (Below.heap_alloc _ _ _ (by simp))) (fun i _ => ?_)
    by_cases hi : i < 1
    · obtain rfl : i = 0 := by omega
      simp [HZ.out]
    · simp [hi]
  have hm2 : ((w.alloc (.cells (madeCells #[.int .i64 0] N) 3)).alloc (.cells (madeCells #[.int .i64 0] N) 3)).rowIs (g + 1) 3 N (fun j => .int .i64 (if j < 1 then P j else 0)) := by
    have := World.rowIs_made (w.alloc (.cells (madeCells #[.int .i64 0] N) 3)) (.int .i64 0) N 3
    rw [show (w.alloc (.cells (madeCells #[.int .i64 0] N) 3)).heap.size = g + 1 from by simp [hg0]] at this
    refine this.congr (fun i _ => ?_)
    by_cases hi : i < 1
    · obtain rfl : i = 0 := by omega
      simp [HP0.out]
    · simp [hi]
  have hm3 : Below g w ((w.alloc (.cells (madeCells #[.int .i64 0] N) 3)).alloc (.cells (madeCells #[.int .i64 0] N) 3)) := ((Below.refl _ _).alloc (by omega) _).alloc (by simp; omega) _
  have hm4 : g + 1 < ((w.alloc (.cells (madeCells #[.int .i64 0] N) 3)).alloc (.cells (madeCells #[.int .i64 0] N) 3)).heap.size := by simp; omega
  generalize ((w.alloc (.cells (madeCells #[.int .i64 0] N) 3)).alloc (.cells (madeCells #[.int .i64 0] N) 3)) = W0 at *
  obtain ⟨g', hg'⟩ : ∃ g', g' = g + 1 := ⟨_, rfl⟩
  have hgg : g ≠ g' := by omega
  have hgg' : g' ≠ g := by omega
  have hle : g ≤ g' := by omega
  rw [← hg'] at hm2 hm4 ⊢
  clear hg'
  go_loopw [7] (fun i wr => ∃ s : Nat, 1 ≤ s ∧ s ≤ N ∧ i = .int .i64 s ∧ wr.rowIs g 3 N (fun j => .int .i64 (if j < s then SM j zs.length else 0)) ∧ wr.rowIs g' 3 N (fun j => .int .i64 (if j < s then P j else 0)) ∧ Below g w wr ∧ g' < wr.heap.size)
    (fun i _ => N - (intOf i).toNat)
  case atStart => exact ⟨1, Nat.le_refl _, by omega, rfl, hm1, hm2, hm3, hm4⟩
  case round =>
    obtain ⟨s, hs1, hsN, rfl, hrA0, hrB0, hbl0, hgs0⟩ := hrel
    by_cases hlt : s < N
    · go_wp2_with fail
      go_loopw [27] (fun i wr => ∃ k : Nat, k ≤ zs.length ∧ i = .int .i64 k ∧
          wr.rowIs g 3 N (fun j => .int .i64 (if j < s then SM j zs.length else if j = s then (if s % 2 ^ k = 0 then 0 else SM s zs.length) else 0)) ∧
          wr.rowIs g' 3 N (fun j => .int .i64 (if j < s then P j else if j = s then pm P s k else 0)) ∧ Below g w wr ∧ g' < wr.heap.size)
        (fun i _ => zs.length - (intOf i).toNat)
      case atStart => exact ⟨0, Nat.zero_le _, rfl, hrA0.congr (fun i _ => by simp [Nat.mod_one]), hrB0.congr (fun i _ => by simp [pm]), hbl0, hgs0⟩
      case round =>
        obtain ⟨k, hk, rfl, hrA, hrB, hbl, hgs⟩ := hrel
        by_cases hlk : k < zs.length
        · obtain ⟨ad, rfl, hab, hcell⟩ := (hr.below hbl (by omega)).at_ hlk
          have HB := b_and ⟨s, by omega⟩ ⟨k, by omega⟩
          simp only at HB
          cases hbit : s.testBit k
          · rw [hbit] at HB
            have HD := hide (d_no ⟨s, by omega⟩ ⟨k, by omega⟩ hbit)
            have HM : Hid (pm P s (k + 1) = pm P s k) := hide (by rw [pm, if_neg (by rw [hbit]; simp)])
            clear hbit
            go_wp2_with fail
            go_roundw
            case rel => exact ⟨k + 1, by omega, by go_num, by rw [HD.out]; exact hrA, by rw [HM.out]; exact hrB, hbl, hgs⟩
            case measure => simp [intOf]; omega
          · rw [hbit] at HB
            have HD := hide (d_yes ⟨s, by omega⟩ ⟨k, by omega⟩ hbit)
            have HM : Hid (pm P s (k + 1) = max (pm P s k) (P (sub2 s k))) := hide (by rw [pm, if_pos hbit]; rfl)
            have HL := HSL.out s k (by omega) (by omega) hbit
            rw [if_pos hlk, HOv.out k hlk, show s - 2 ^ k = sub2 s k from rfl] at HL
            have hsm := HOb.out s zs.length
            have hsm2 := HOb.out (sub2 s k) zs.length
            have hz := HGet.out k hlk
            rw [show zs.getD k 0 = zs[k] from by simp [List.getD, hlk]] at hcell
            generalize zs[k] = z at *
            have hr1 : sub2 s k < s := by have := bit_le hbit; have := Nat.two_pow_pos k; unfold sub2; omega
            have en := e_not s k hbit (by omega) (by omega)
            have o0 := hrA.cell (show sub2 s k < N by omega)
            rw [if_pos hr1] at o0
            have f0 := hrA.frozen s
            have o1 := hrA.cell (show s < N by omega)
            go_wp2_with fail
            have hrA5 := hrA.set s (.int .i64 (SM (sub2 s k) zs.length + z - q))
            have hrB5 := hrB.of_block (Below.heap_setCell wr ⟨g, s, none⟩ (.int .i64 (SM (sub2 s k) zs.length + z - q)) g' hgg')
            have hb5 := hbl.setCell (p := ⟨g, s, none⟩) (Nat.le_refl _) (.int .i64 (SM (sub2 s k) zs.length + z - q))
            have hs5 : g' < (wr.setCell ⟨g, s, none⟩ (.int .i64 (SM (sub2 s k) zs.length + z - q))).heap.size := by simp; exact hgs
            generalize wr.setCell ⟨g, s, none⟩ (.int .i64 (SM (sub2 s k) zs.length + z - q)) = W5 at *
            have p0 := hrB5.cell (show s < N by omega)
            have p1 := hrB5.cell (show sub2 s k < N by omega)
            rw [if_neg (by omega), if_pos rfl] at p0
            rw [if_pos hr1] at p1
            have f1 := hrB5.frozen s
            have HLv : Hid (SM (sub2 s k) zs.length + z - q = SM s zs.length) := hide (by omega)
            have u1 : (0 : Int) ≤ ((sub2 s k : Nat) : Int) := by omega
            have u2 : ((sub2 s k : Nat) : Int) < (N : Int) := by omega
            by_cases hmx : pm P s k < P (sub2 s k)
            · have HX := hide (Int.max_eq_right (Int.le_of_lt hmx))
              go_region
              all_goals
                clear en u1 u2
                go_wp2_with fail
                go_roundw
                case rel =>
                  refine ⟨k + 1, by omega, by go_num, ?_, ?_, (hb5.setCell hle _).drew, by simp; omega⟩
                  · refine (World.rowIs.of_block hrA5 (Below.heap_setCell W5 ⟨g', s, none⟩ _ g hgg)).congr fun j _ => ?_
                    by_cases hj : j = s
                    · subst hj; rw [if_pos rfl, if_neg (by omega), if_pos rfl, if_neg HD.out, HLv.out]
                    · rw [if_neg hj]
                      by_cases hj2 : j < s
                      · rw [if_pos hj2, if_pos hj2]
                      · rw [if_neg hj2, if_neg hj2, if_neg hj, if_neg hj]
                  · refine (hrB5.set s _).congr fun j _ => ?_
                    by_cases hj : j = s
                    · subst hj; rw [if_pos rfl, if_neg (by omega), if_pos rfl, HM.out, HX.out]
                    · rw [if_neg hj]
                      by_cases hj2 : j < s
                      · rw [if_pos hj2, if_pos hj2]
                      · rw [if_neg hj2, if_neg hj2, if_neg hj, if_neg hj]
                case measure => simp [intOf]; omega
            · have HX := hide (Int.max_eq_left (Int.not_lt.1 hmx))
              go_region
              all_goals
                clear en u1 u2
                go_wp2_with fail
                go_roundw
                case rel =>
                  refine ⟨k + 1, by omega, by go_num, ?_, ?_, (hb5.setCell hle _).drew, by simp; omega⟩
                  · refine (World.rowIs.of_block hrA5 (Below.heap_setCell W5 ⟨g', s, none⟩ _ g hgg)).congr fun j _ => ?_
                    by_cases hj : j = s
                    · subst hj; rw [if_pos rfl, if_neg (by omega), if_pos rfl, if_neg HD.out, HLv.out]
                    · rw [if_neg hj]
                      by_cases hj2 : j < s
                      · rw [if_pos hj2, if_pos hj2]
                      · rw [if_neg hj2, if_neg hj2, if_neg hj, if_neg hj]
                  · refine (hrB5.set s _).congr fun j _ => ?_
                    by_cases hj : j = s
                    · subst hj; rw [if_pos rfl, if_neg (by omega), if_pos rfl, HM.out, HX.out]
                    · rw [if_neg hj]
                      by_cases hj2 : j < s
                      · rw [if_pos hj2, if_pos hj2]
                      · rw [if_neg hj2, if_neg hj2, if_neg hj, if_neg hj]
                case measure => simp [intOf]; omega
        · obtain rfl : k = zs.length := by omega
          have hmod := HNm.out s hlt
          have a0 := hrA.cell hlt
          rw [if_neg (by omega), if_pos rfl, if_neg (by omega)] at a0
          have o0 := hrB.cell hlt
          rw [if_neg (by omega), if_pos rfl] at o0
          have f0 := hrB.frozen s
          clear hmod
          have hps := HP.out s (by omega)
          have hpb := HPb.out s
          have hrA' : wr.rowIs g 3 N (fun j => .int .i64 (if j < s + 1 then SM j zs.length else 0)) := hrA.congr fun j _ => by
            by_cases hj : j = s
            · subst hj; rw [if_neg (by omega), if_pos rfl, if_neg (by rw [HNm.out j hlt]; omega), if_pos (by omega)]
            · by_cases hj2 : j < s
              · rw [if_pos hj2, if_pos (by omega)]
              · rw [if_neg hj2, if_neg hj, if_neg (by omega)]
          by_cases h0 : SM s zs.length = 0
          · rw [if_pos h0] at hps
            have Hps := hide hps
            have hb1 : 0 ≤ pm P s zs.length + 1 := by omega
            have hb2 : pm P s zs.length ≤ 256 := by omega
            clear hps
            have h0' : (SM s zs.length == 0) = true := by simp [h0]
            go_wp2_with fail
            go_roundw
            case rel =>
              refine ⟨s + 1, by omega, by omega, by go_num, World.rowIs.of_block hrA' (Below.heap_setCell wr ⟨g', s, none⟩ _ g hgg), ?_, hbl.setCell hle _, by simp; omega⟩
              refine (hrB.set s _).congr fun j _ => ?_
              by_cases hj : j = s
              · subst hj; rw [if_pos rfl, if_pos (by omega), Hps.out]
              · rw [if_neg hj]
                by_cases hj2 : j < s
                · rw [if_pos hj2, if_pos (by omega)]
                · rw [if_neg hj2, if_neg hj, if_neg (by omega)]
            case measure => simp [intOf]; omega
          · rw [if_neg h0, Int.add_zero] at hps
            have Hps := hide hps
            clear hps
            have h0' : (SM s zs.length == 0) = false := by simp [h0]
            go_wp2_with fail
            go_roundw
            case rel =>
              refine ⟨s + 1, by omega, by omega, by go_num, hrA', ?_, hbl, hgs⟩
              refine hrB.congr fun j _ => ?_
              by_cases hj : j = s
              · subst hj; rw [if_neg (by omega), if_pos rfl, if_pos (by omega), Hps.out]
              · by_cases hj2 : j < s
                · rw [if_pos hj2, if_pos (by omega)]
                · rw [if_neg hj2, if_neg hj, if_neg (by omega)]
            case measure => simp [intOf]; omega
    · obtain rfl : s = N := by omega
      have o0 := hrB0.cell (show s - 1 < s by omega)
      rw [if_pos (by omega)] at o0
      have hs : (s : Int) - 1 = ((s - 1 : Nat) : Int) := by omega
      go_wp2_with fail
      go_ret
      exact ⟨rfl, hbl0.mono (by omega)⟩

theorem FewestMoves_any (A : Option Addr) (n c B : Nat) (zs : List Int) (w : World) (hr : Ints w B A n zs) (hB : B ≤ w.heap.size) (hn : n ≤ 17592186044416) :
    Calls Try.prog 10 #[.slice A n c] w fun e w' => e = .returned (.tuple #[.int .i64 (fewN zs), .bool (fewOk zs)]) ∧ Below w.heap.size w w' := by
  obtain rfl := hr.len
  cases hf : fewOk zs
  · rw [fewN_no hf]
    cases hq : eqOk zs
    · go_enter Try.func10, Try.ntmps10
      go_wp2_with fail
      refine (to_below_drew (shareOfEach_any _ _ _ _ _ _ hr hn)).mono ?_; rintro e w1 ⟨rfl, hb1⟩; rw [hq]
      go_wp2_with fail
      go_ret2
      exact ⟨rfl, hb1⟩
    · have h9 : (8 : Int) < (zs.length : Int) := by
        have : ¬ zs.length ≤ 8 := fun h => by unfold fewOk at hf; simp [hq, h] at hf
        omega
      go_enter Try.func10, Try.ntmps10
      go_wp2_with fail
      refine (to_below_drew (shareOfEach_any _ _ _ _ _ _ hr hn)).mono ?_; rintro e w1 ⟨rfl, hb1⟩; rw [hq]
      go_wp2_with fail
      go_ret2
      exact ⟨rfl, hb1⟩
  · obtain ⟨hq, h8⟩ := fewOk_of hf
    have h9 : (zs.length : Int) ≤ 8 := by omega
    have HS := hide (shareEq_yes hq)
    have HQ := hide hq
    have HF := hide (fewN_yes hf)
    have HFF := hide hf
    have HPb := hide (pt_bd (over zs) zs.length (2 ^ zs.length - 1))
    have hN1 : 2 ^ zs.length ≤ 256 := Nat.le_trans (Nat.pow_le_pow_right (by omega) h8) (by omega)
    have HPc : Hid (0 ≤ pt (over zs) zs.length (2 ^ zs.length - 1) ∧ pt (over zs) zs.length (2 ^ zs.length - 1) ≤ 256) := hide (by have := HPb.out; omega)
    have HGr := hide (fun (W : World) (h1 : Ints W B A zs.length zs) (h2 : B ≤ W.heap.size) => groups_any A zs.length c B zs W h1 h2 HFF.out)
    clear hq hf HPb hN1
    generalize pt (over zs) zs.length (2 ^ zs.length - 1) = p at *
    have hpb := HPc.out
    generalize tot zs / zs.length = q at *
    generalize fewN zs = fn at *
    have HF' := hide HF.out.symm
    go_enter Try.func10, Try.ntmps10
    go_wp2_with fail
    refine (to_below_drew (shareOfEach_any _ _ _ _ _ _ hr hn)).mono ?_; rintro e w1 ⟨rfl, hb1⟩; rw [HQ.out, HS.out]
    have s1 := hb1.size
    go_wp2_with fail
    refine (HGr.out _ (hr.below hb1 hB) (by omega)).mono ?_
    rintro e w2 ⟨rfl, hb2⟩
    go_wp2_with fail
    go_ret2
    exact ⟨by rw [HF.out]; rfl, below_next hb1 hb2⟩
end Go.Proofs.Ytediapekgbekeaa

/-
  FLOWS AROUND A RING, THE MODEL's: hpRing, RingFlows, RingDistance.
-/
namespace Go.Proofs.Ytediapekgbekeaa
open Go.RowKit Go.Deep

theorem quiet_below {P : Program} {f : FuncId} {args : Array Value} {w : World} {v : Value} (h : ∀ W : World, W.heap = w.heap → Calls P f args W fun e w' => e = .returned v ∧ W = w') (n : Nat) :
    Calls P f args (w.drewN n) fun e w'' => e = .returned v ∧ ∃ m, w'' = w.drewN m :=
  (h (w.drewN n) rfl).mono fun _ _ ⟨he, hm⟩ => ⟨he, n, hm.symm⟩

/-- The model's hpRing. -/
theorem hpRing_any (A : Option Addr) (n c B : Nat) (zs : List Int) (w : World) (hr : Ints w B A n zs) (hB : B ≤ w.heap.size) (hg : good zs = true) :
    Calls Try.prog 47 #[.slice A n c] w (Made (ringFlows zs) w) := by
  obtain rfl := hr.len
  have hle := (good_of hg).2.1
  have hle1 := (good_of hg).1
  have HL := hide (ringLine_length hg)
  have HW := hide (ringLine_within hg)
  have HFL := hide (flows_length zs)
  have HLdef := hide (show flows zs ++ [0] = ringLine zs from rfl)
  have HR := hide (show ringFlows zs = shift (off (ringLine zs)) (ringLine zs) from rfl)
  have HOff := hide (show off (ringLine zs) = sel (ringLine zs) 0 (ringLine zs) from rfl)
  rw [HR.out]
  generalize ringLine zs = L at *
  have hL0 : 0 < L.length := by rw [HL.out]; omega
  have hL12 : L.length ≤ 12 := by rw [HL.out]; omega
  go_enter Try.func47, Try.ntmps47
  go_wp2_with fail
  refine (hpFlows_any _ _ _ _ _ _ hr hB hg).mono ?_
  clear hg
  rintro e w1 ⟨A1, c1, rfl, hc1, hc2, hown1, hb1⟩
  have s1 := hb1.size
  have hll : (flows zs).length < 1000000 := by rw [HFL.out]; omega
  go_wp2_with (at_builtin; refine wpList_app_int rfl _ _ 24 3 rfl Try.underlying24 infoInt w.heap.size _ _ rfl hown1 _ _ rfl s1 hll ?_; rw [HLdef.out]; intro v2 w2 hown2 hb2)
  clear hown1
  rcases hown2.form with ⟨_, h0⟩ | ⟨g2, c2, rfl, hg2a, hg2b, hc2a, hc2b⟩
  · rw [h0] at hL0; simp at hL0
  have hx2 := hown2.ints
  have s2 := hb2.size
  go_wp2_with fail
  refine (l1Own_any _ _ _ _ _ _ hx2 (Nat.le_refl _) hL0 (by omega)).mono ?_
  rintro e w3 ⟨g3, c3, rfl, hg3a, hg3b, hc3a, hc3b, hown3, hb3⟩
  have s3 := hb3.size
  have s2' : w.heap.size ≤ w2.heap.size := by omega
  have hx3 := hx2.below hb3 (Nat.le_refl _)
  go_wp2_with fail
  go_loopw [4, 19] (fun v i wr => ∃ (k : Nat) (c0 : Int) (g' c' : Nat), k ≤ L.length ∧ i = .int .i64 k ∧ v = .slice (some ⟨g', 0, none⟩) L.length c' ∧ Own wr w.heap.size 3 (.slice (some ⟨g', 0, none⟩) L.length c') (shift c0 L) ∧
      Hid (sel L c0 (L.drop k) = off L) ∧ (-144000 ≤ c0 ∧ c0 ≤ 12000) ∧ Below w2.heap.size w2 wr ∧ L.length ≤ c' ∧ c' ≤ maxLen)
    (fun _ i _ => L.length - (intOf i).toNat)
  case atStart => exact ⟨0, 0, g3, c3, Nat.zero_le _, rfl, rfl, by rw [shift_zero]; exact hown3.less s2', hide HOff.out.symm, by omega, hb3, hc3a, hc3b⟩
  case round =>
    obtain ⟨k, c0, g', c', hk, rfl, rfl, hbest, hsel, hc0, hb, hca, hcb⟩ := hrel
    obtain ⟨wo, rfl⟩ : ∃ wo : World, wo = wr := ⟨_, rfl⟩
    have so := hb.size
    have hxo := hx2.below hb (Nat.le_refl _)
    by_cases hlt : k < L.length
    · have hxk := within_get HW.out k hlt
      obtain ⟨ad, had, _, hcell⟩ := hxo.at_ hlt
      obtain rfl : ad = ⟨g2, 0, none⟩ := by injection had with h; exact h.symm
      clear had
      rw [add_head, show L.getD k 0 = L[k] from by simp [List.getD, List.getElem?_eq_getElem hlt]] at hcell
      have HDrop := hide (List.drop_eq_getElem_cons hlt)
      generalize hx : L[k] = x at *
      clear hx
      go_wp2_with fail
      go_loopw [7, 25] (fun v i wi => ∃ j : Nat, j ≤ L.length ∧ i = .int .i64 j ∧ Own wi wo.heap.size 3 v ((shift x L).take j) ∧ Below wo.heap.size wo wi)
        (fun _ i _ => L.length - (intOf i).toNat)
      case atStart => exact ⟨0, Nat.zero_le _, rfl, Own.nil _ _ _, Below.refl _ _⟩
      case round =>
        obtain ⟨j, hj, rfl, hown, hbi⟩ := hrel
        obtain ⟨wi, rfl⟩ : ∃ wi : World, wi = wr := ⟨_, rfl⟩
        have hsi := hbi.size
        by_cases hjt : j < L.length
        · have Hs := hide (shift_take_succ x L j hjt)
          have hxj := within_get HW.out j hjt
          obtain ⟨ad, had, _, hcellj⟩ := (hxo.below hbi (by omega)).at_ hjt
          obtain rfl : ad = ⟨g2, 0, none⟩ := by injection had with h; exact h.symm
          clear had
          rw [add_head, show L.getD j 0 = L[j] from by simp [List.getD, List.getElem?_eq_getElem hjt]] at hcellj
          have hlj : ((shift x L).take j).length < 1000000 := by rw [List.length_take, shift_length]; omega
          go_wp2_with (at_builtin; refine wpList_app_int rfl _ _ 24 3 rfl Try.underlying24 infoInt wo.heap.size _ _ rfl hown _ _ rfl hsi hlj ?_; intro v' w' hown' hb')
          go_roundw
          case rel => exact ⟨j + 1, by omega, by go_num, by rw [Hs.out]; exact hown', hbi.trans hb'⟩
          case measure => simp [intOf]; omega
        · rw [List.take_of_length_le (by rw [shift_length]; omega)] at hown
          clear hcell
          rcases hown.form with ⟨_, h0⟩ | ⟨g5, c5, rfl, hg5a, hg5b, hc5a, hc5b⟩
          · have := shift_length x L; rw [h0] at this; simp at this; omega
          have hx5 := hown.ints
          have hb5 := (hbest.below hbi).ints
          rw [shift_length] at hx5 hb5 hc5a hown ⊢
          have HX5 := hide (hpSize_any _ _ c5 _ _ wi hx5 (by omega) (within_wide (within_shift HW.out hxk.1 hxk.2) (by omega) (by omega)))
          have HB5 := hide (fun m => quiet_left (n := m) (hpSize_any _ _ c' _ _ (wi.drewN m) hb5 (by omega) (within_wide (within_shift HW.out hc0.1 hc0.2) (by omega) (by omega))))
          rw [sizes_shift] at HX5 HB5
          have e0 := hx5.at_ hL0
          have f0 := hb5.at_ hL0
          obtain ⟨_, h5, _, e0⟩ := e0
          obtain rfl := Option.some.inj h5
          obtain ⟨_, h6, _, f0⟩ := f0
          obtain rfl := Option.some.inj h6
          rw [add_head, shift_getD _ _ _ hL0] at e0 f0
          have hp : (0 : Int) < (L.length : Int) := by omega
          have hL0b := within_get HW.out 0 hL0
          generalize hl0 : L[0] = l0 at *
          clear hl0 h5 h6
          have hsel' := hsel.out
          rw [HDrop.out] at hsel'
          simp only [sel] at hsel'
          have Hsel := hide hsel'
          clear hsel hsel' HDrop
          generalize dist x L = dx at *
          generalize dist c0 L = dc at *
          by_cases h1 : dx < dc
          · rw [if_pos (.inl h1)] at Hsel
            go_wp2_with fail
            refine HX5.out.mono ?_; rintro e w' ⟨rfl, rfl⟩
            go_wp2_with fail
            go_quiet ((go_at_call 45; exact HB5.out _))
            go_wp2_with fail
            go_roundw
            case rel => exact ⟨k + 1, x, g5, c5, by omega, by go_num, rfl, (hown.less (by omega)).drewN _, Hsel, hxk, below_drewN (below_next hb hbi) _, hc5a, hc5b⟩
            case measure => simp [intOf]; omega
          · have hd1 : decide (dx < dc) = false := by simpa using h1
            by_cases h2 : dx = dc
            · have hd2 : (dx == dc) = true := by simpa using h2
              by_cases h3 : c0 < x
              · rw [if_pos (.inr ⟨h2, h3⟩)] at Hsel
                have hd3 : decide (l0 - x < l0 - c0) = true := by simp; omega
                clear h2
                go_wp2_with fail
                refine HX5.out.mono ?_; rintro e w' ⟨rfl, rfl⟩
                go_wp2_with fail
                go_quiet ((go_at_call 45; exact HB5.out _))
                go_wp2_with fail
                go_roundw
                case rel => exact ⟨k + 1, x, g5, c5, by omega, by go_num, rfl, (hown.less (by omega)).drewN _, Hsel, hxk, below_drewN (below_next hb hbi) _, hc5a, hc5b⟩
                case measure => simp [intOf]; omega
              · rw [if_neg (by omega)] at Hsel
                have hd3 : decide (l0 - x < l0 - c0) = false := by simp; omega
                clear h2
                go_wp2_with fail
                refine HX5.out.mono ?_; rintro e w' ⟨rfl, rfl⟩
                go_wp2_with fail
                go_quiet ((go_at_call 45; exact HB5.out _))
                go_wp2_with fail
                go_roundw
                case rel => exact ⟨k + 1, c0, g', c', by omega, by go_num, rfl, (hbest.below hbi).drewN _, Hsel, hc0, below_drewN (below_next hb hbi) _, hca, hcb⟩
                case measure => simp [intOf]; omega
            · rw [if_neg (by omega)] at Hsel
              have hd2 : (dx == dc) = false := by simpa using h2
              go_wp2_with fail
              refine HX5.out.mono ?_; rintro e w' ⟨rfl, rfl⟩
              go_wp2_with fail
              go_quiet ((go_at_call 45; exact HB5.out _))
              go_wp2_with fail
              go_roundw
              case rel => exact ⟨k + 1, c0, g', c', by omega, by go_num, rfl, (hbest.below hbi).drewN _, Hsel, hc0, below_drewN (below_next hb hbi) _, hca, hcb⟩
              case measure => simp [intOf]; omega
    · go_wp2_with fail
      go_ret
      rw [List.drop_eq_nil_of_le (by omega)] at hsel
      have hcf : c0 = off L := hsel.out
      subst hcf
      exact ⟨_, c', by rw [shift_length]; rfl, by rw [shift_length]; exact hca, hcb, by rw [shift_length]; exact hbest, below_next (hb1.trans hb2) hb⟩
end Go.Proofs.Ytediapekgbekeaa
