import Derived.Test.YtediapekgbekeaaMg12
import Derived.Test.YtediapekgbekeaaMg03
import Derived.Test.YtediapekgbekeaaMg15
import Derived.Deep.RegionWith
import Derived.BigRegion

/-
  DISTANCES IN A ROW AND THE MOST THAT IS CARRIED, BOTH WAYS.
-/
namespace Go.Proofs.Ytediapekgbekeaa
open Go.RowKit Go.Deep

/-- The model's LineDistance. -/
theorem specLineDistance_any (A : Option Addr) (n c B : Nat) (zs : List Int) (w : World) (hr : Ints w B A n zs) (hB : B ≤ w.heap.size) (hn : n ≤ 17592186044416) :
    Calls Try.prog 13 #[.slice A n c] w fun e w' => e = .returned (.tuple #[.int .i64 (sizes (flowsR zs)), .bool (eqOk zs)]) ∧ Below w.heap.size w w' := by
  obtain rfl := hr.len
  cases hq : eqOk zs
  · rw [flowsR_no hq]
    have hqb : eqOk zs = false := hq
    go_enter Try.func13, Try.ntmps13
    go_wp2_with fail
    refine (hpEqual_any _ _ _ _ _ _ hr hn).mono ?_; rintro e w' ⟨rfl, rfl⟩; rw [hqb]
    go_wp2_with fail
    go_ret2
    exact ⟨rfl, Below.refl _ _⟩
  · rw [flowsR_yes hq]
    have hqb : eqOk zs = true := hq
    have hle := (good_of (eqOk_good hqb)).2.1
    have HF := hide (flows_length zs)
    have HS := hide (flows_small (eqOk_good hqb))
    go_enter Try.func13, Try.ntmps13
    go_wp2_with fail
    refine (hpEqual_any _ _ _ _ _ _ hr hn).mono ?_; rintro e w' ⟨rfl, rfl⟩; rw [hqb]
    go_wp2_with fail
    refine (hpFlows_any _ _ _ _ _ _ hr hB (eqOk_good hqb)).mono ?_
    rintro e w1 ⟨A', c', rfl, h1, h2, hown, hb⟩
    have hx := hown.ints
    go_wp2_with fail
    refine (hpSize_any _ _ _ _ _ _ hx (by rw [HF.out]; omega) HS.out).mono ?_; rintro e w' ⟨rfl, rfl⟩
    go_wp2_with fail
    go_ret2
    exact ⟨rfl, hb⟩

/-- The program's LineDistance. -/
theorem LineDistance_any (A : Option Addr) (n c B : Nat) (zs : List Int) (w : World) (hr : Ints w B A n zs) (hB : B ≤ w.heap.size) (hn : n ≤ 17592186044416) :
    Calls Try.prog 12 #[.slice A n c] w fun e w' => e = .returned (.tuple #[.int .i64 (sizes (flowsR zs)), .bool (eqOk zs)]) ∧ Below w.heap.size w w' := by
  have HS := hide (flowsR_small zs)
  go_enter Try.func12, Try.ntmps12
  go_wp2_with fail
  refine (LineFlows_any _ _ _ _ _ _ hr hB hn).mono ?_
  rintro e w1 ⟨A', c', rfl, h1, h2, hown, hb⟩
  have hx := hown.ints
  have hl12 := HS.out.2
  go_wp2_with fail
  refine (sumOfSizes_any _ _ _ _ _ _ hx (by omega) HS.out.1).mono ?_; rintro e w' ⟨rfl, rfl⟩
  go_wp2_with fail
  go_ret2
  exact ⟨rfl, hb⟩

/-- The model's MostCarried. -/
theorem specMostCarried_any (A : Option Addr) (n c B : Nat) (zs : List Int) (w : World) (hr : Ints w B A n zs) (hB : B ≤ w.heap.size) (hn : n ≤ 17592186044416) :
    Calls Try.prog 21 #[.slice A n c] w fun e w' => e = .returned (.tuple #[.int .i64 (most (flowsR zs)), .bool (eqOk zs)]) ∧ Below w.heap.size w w' := by
  obtain rfl := hr.len
  cases hq : eqOk zs
  · rw [flowsR_no hq]
    have hqb : eqOk zs = false := hq
    go_enter Try.func21, Try.ntmps21
    go_wp2_with fail
    refine (hpEqual_any _ _ _ _ _ _ hr hn).mono ?_; rintro e w' ⟨rfl, rfl⟩; rw [hqb]
    go_wp2_with fail
    go_ret2
    exact ⟨rfl, Below.refl _ _⟩
  · rw [flowsR_yes hq]
    have hqb : eqOk zs = true := hq
    have hle := (good_of (eqOk_good hqb)).2.1
    have HF := hide (flows_length zs)
    have HS := hide (flows_small (eqOk_good hqb))
    have hfl : (flows zs).length ≤ 12 := by rw [HF.out]; omega
    go_enter Try.func21, Try.ntmps21
    go_wp2_with fail
    refine (hpEqual_any _ _ _ _ _ _ hr hn).mono ?_; rintro e w' ⟨rfl, rfl⟩; rw [hqb]
    go_wp2_with fail
    refine (hpFlows_any _ _ _ _ _ _ hr hB (eqOk_good hqb)).mono ?_
    rintro e w1 ⟨A', c', rfl, h1, h2, hown, hb⟩
    have hx := hown.ints
    go_wp2_with fail
    go_loop [4, 13] (fun s i => ∃ k : Nat, k ≤ (flows zs).length ∧ i = .int .i64 k ∧ s = .int .i64 (most ((flows zs).take k)))
      (fun _ i => (flows zs).length - (intOf i).toNat)
    case atStart => exact ⟨0, Nat.zero_le _, rfl, rfl⟩
    case round =>
      obtain ⟨k, hk, rfl, rfl⟩ := hrel
      by_cases hlt : k < (flows zs).length
      · have Hs := hide (most_take_succ (flows zs) k hlt)
        have hk2 := within_get HS.out k hlt
        obtain ⟨ad, rfl, hab, hcell⟩ := hx.at_ hlt
        rw [show (flows zs).getD k 0 = (flows zs)[k] from by simp [List.getD, List.getElem?_eq_getElem hlt]] at hcell
        go_wp2_with fail
        refine (l1Abs_any _ (by omega) (by omega) _).mono ?_; rintro e w' ⟨rfl, rfl⟩
        go_wp2_with fail
        refine (l1Most_any _ _ _).mono ?_; rintro e w' ⟨rfl, rfl⟩
        go_wp2_with fail
        go_round
        case rel => exact ⟨k + 1, by omega, by go_num, by rw [Hs.out]⟩
        case measure => simp [intOf]; omega
      · go_wp2
        go_ret2
        exact ⟨by rw [List.take_of_length_le (by omega)]; rfl, hb⟩

/-- The program's MostCarried. -/
theorem MostCarried_any (A : Option Addr) (n c B : Nat) (zs : List Int) (w : World) (hr : Ints w B A n zs) (hB : B ≤ w.heap.size) (hn : n ≤ 17592186044416) :
    Calls Try.prog 20 #[.slice A n c] w fun e w' => e = .returned (.tuple #[.int .i64 (most (flowsR zs)), .bool (eqOk zs)]) ∧ Below w.heap.size w w' := by
  have HS := hide (flowsR_small zs)
  go_enter Try.func20, Try.ntmps20
  go_wp2_with fail
  refine (LineFlows_any _ _ _ _ _ _ hr hB hn).mono ?_
  rintro e w1 ⟨A', c', rfl, h1, h2, hown, hb⟩
  have hx := hown.ints
  have hl12 := HS.out.2
  go_wp2_with fail
  go_loop [6, 16] (fun s i => ∃ k : Nat, k ≤ (flowsR zs).length ∧ i = .int .i64 k ∧ s = .int .i64 (most ((flowsR zs).take k)))
    (fun _ i => (flowsR zs).length - (intOf i).toNat)
  case atStart => exact ⟨0, Nat.zero_le _, rfl, rfl⟩
  case round =>
    obtain ⟨k, hk, rfl, rfl⟩ := hrel
    by_cases hlt : k < (flowsR zs).length
    · have Hs := hide (most_take_succ (flowsR zs) k hlt)
      have hk2 := within_get HS.out.1 k hlt
      obtain ⟨ad, rfl, hab, hcell⟩ := hx.at_ hlt
      rw [show (flowsR zs).getD k 0 = (flowsR zs)[k] from by simp [List.getD, List.getElem?_eq_getElem hlt]] at hcell
      go_wp2_with fail
      refine (sizeOf_any _ (by omega) (by omega) _).mono ?_; rintro e w' ⟨rfl, rfl⟩
      generalize most ((flowsR zs).take k) = m1 at *
      generalize size1 (flowsR zs)[k] = m2 at *
      go_wp2_with fail
      all_goals
        go_round
        case rel => exact ⟨k + 1, by omega, by go_num, by rw [Hs.out]; exact congrArg (Value.int .i64) (by omega)⟩
        case measure => simp [intOf]; omega
    · go_wp2
      go_ret2
      exact ⟨by rw [List.take_of_length_le (by omega)]; rfl, hb⟩
end Go.Proofs.Ytediapekgbekeaa

/-
  THE FEWEST MOVES, the model's way.
-/
namespace Go.Proofs.Ytediapekgbekeaa
open Go.RowKit Go.Deep
set_option linter.unusedVariables false
def fewOk (zs : List Int) : Bool := eqOk zs && decide (zs.length ≤ 8)
def fewN (zs : List Int) : Int := if fewOk zs then zs.length - pt (over zs) zs.length (2 ^ zs.length - 1) else 0
theorem fewN_no {zs : List Int} (h : fewOk zs = false) : fewN zs = 0 := by simp [fewN, h]
theorem fewN_yes {zs : List Int} (h : fewOk zs = true) : fewN zs = zs.length - pt (over zs) zs.length (2 ^ zs.length - 1) := by simp [fewN, h]
theorem fewOk_of {zs : List Int} (h : fewOk zs = true) : eqOk zs = true ∧ zs.length ≤ 8 := by simpa [fewOk] using h
theorem over_bd {zs : List Int} (hg : good zs = true) (i : Nat) (hi : i < (over zs).length) : -12000 ≤ (over zs)[i] ∧ (over zs)[i] ≤ 12000 := by
  have hi' : i < zs.length := by rwa [over_length] at hi
  rw [over_get zs i hi']
  have := good_get hg i hi'
  have := share_bd hg
  omega

attribute [local go_sem ↓] shl_sub in
theorem specFewest_yes (A : Option Addr) (n c B : Nat) (zs : List Int) (w : World) (hr : Ints w B A n zs) (hB : B ≤ w.heap.size) (hn : n ≤ 17592186044416) (hf : fewOk zs = true) :
    Calls Try.prog 11 #[.slice A n c] w fun e w' => e = .returned (.tuple #[.int .i64 (fewN zs), .bool (fewOk zs)]) ∧ Below w.heap.size w w' := by
  obtain rfl := hr.len
  obtain ⟨hq, h8⟩ := fewOk_of hf
  obtain ⟨N, hN⟩ : ∃ N : Nat, N = 2 ^ zs.length := ⟨_, rfl⟩
  have hN1 : N ≤ 256 := by rw [hN]; exact Nat.le_trans (Nat.pow_le_pow_right (by omega) h8) (by omega)
  have hN0 : 0 < N := by rw [hN]; exact Nat.pos_of_ne_zero (by simp)
  have HW : Hid (wrap64 (2 ^ zs.length) = ((N : Nat) : Int)) := hide (by
    have h : (2 : Int) ^ zs.length = (N : Int) := by rw [hN]; simp
    rw [h]; unfold wrap64; omega)
  have hmk := run_make_row' (P := Try.prog) 24 3 (.int .i64 0) 8 Try.underlying24 infoInt rfl .i64 .i64 N (by omega) (by omega)
  have hmk' : ∀ w, (Instr.makeSlice 24 (.int .i64 (wrap64 (2 ^ zs.length))) (.int .i64 (wrap64 (2 ^ zs.length)))).run Try.prog w = .ok (.slice (some ⟨w.heap.size, 0, none⟩) N N) (w.alloc (.cells (madeCells #[.int .i64 0] N) 3)) := fun w => by rw [HW.out]; exact hmk w
  rw [fewN_yes hf, hf, ← hN]
  clear hN hmk hf
  have hqb : eqOk zs = true := hq
  clear hq
  have HO := hide (over_length zs)
  have HOv := hide (fun i (h : i < zs.length) => show (over zs).getD i 0 = zs[i] - tot zs / zs.length from by simp [List.getD, show i < (over zs).length by rw [HO.out]; exact h, over_get zs i h])
  have HOb := hide (sm_bd (D := over zs) (b := 12000) (by omega) (over_bd (eqOk_good hqb)))
  have HG := hide (eqOk_good hqb)
  have HP := hide (pt_succ (over zs) zs.length)
  have HP0 := hide (pt_zero (over zs) zs.length)
  have HPb := hide (pt_bd (over zs) zs.length)
  have HSZ : Hid (∀ s, sm (over zs) s 0 = 0) := hide (fun _ => rfl)
  have HSY : Hid (∀ s k, s.testBit k = true → sm (over zs) s (k + 1) = sm (over zs) s k + (over zs).getD k 0) := hide (fun s k h => by rw [sm, if_pos h])
  have HSN : Hid (∀ s k, s.testBit k = false → sm (over zs) s (k + 1) = sm (over zs) s k) := hide (fun s k h => by rw [sm, if_neg (by rw [h]; simp)])
  go_enter Try.func11, Try.ntmps11
  go_wp2_with fail
  refine (hpEqual_any _ _ _ _ _ _ hr hn).mono ?_; rintro e w' ⟨rfl, rfl⟩; rw [hqb]
  go_wp2_with fail
  refine (hpOver_any _ _ _ _ _ _ hr hB HG.out).mono ?_
  rintro e w1 ⟨A', c', rfl, h1, h2, hown, hb⟩
  have hx := hown.ints
  rw [HO.out] at hx h1 ⊢
  clear hown hqb
  generalize hPE : pt (over zs) zs.length = P at *
  have HPE := hide hPE
  clear hPE
  generalize hSM : sm (over zs) = SM at *
  clear hSM
  have s1 := hb.size
  go_wp2_with fail
  generalize hsz1 : w1.heap.size = g at *
  have hm : (w1.alloc (.cells (madeCells #[.int .i64 0] N) 3)).rowIs g 3 N (fun j => .int .i64 (if j < 1 then P j else 0)) := by
    rw [← hsz1]
    exact (World.rowIs_made w1 _ _ _).congr (fun i _ => by
      by_cases hi : i < 1
      · obtain rfl : i = 0 := by omega
        simp [HP0.out]
      · simp [hi])
  have hm2 : Below g w1 (w1.alloc (.cells (madeCells #[.int .i64 0] N) 3)) := (Below.refl _ _).alloc (by omega) _
  have hm3 : g < (w1.alloc (.cells (madeCells #[.int .i64 0] N) 3)).heap.size := by simp [hsz1]
  generalize (w1.alloc (.cells (madeCells #[.int .i64 0] N) 3)) = W0 at *
  go_loopw [6] (fun i wr => ∃ s : Nat, 1 ≤ s ∧ s ≤ N ∧ i = .int .i64 s ∧ wr.rowIs g 3 N (fun j => .int .i64 (if j < s then P j else 0)) ∧ Below g w1 wr ∧ g < wr.heap.size)
    (fun i _ => N - (intOf i).toNat)
  case atStart => exact ⟨1, Nat.le_refl _, by omega, rfl, hm, hm2, hm3⟩
  case round =>
    obtain ⟨s, hs1, hsN, rfl, hrow0, hbl0, hgs0⟩ := hrel
    by_cases hlt : s < N
    · go_wp2_with fail
      go_loopw [7, 32] (fun v i wr => ∃ k : Nat, k ≤ zs.length ∧ i = .int .i64 k ∧ v = .int .i64 (SM s k) ∧
          wr.rowIs g 3 N (fun j => .int .i64 (if j < s then P j else if j = s then pm P s k else 0)) ∧ Below g w1 wr ∧ g < wr.heap.size)
        (fun _ i _ => zs.length - (intOf i).toNat)
      case atStart => exact ⟨0, Nat.zero_le _, rfl, by rw [HSZ.out], hrow0.congr (fun i _ => by simp [pm]), hbl0, hgs0⟩
      case round =>
        obtain ⟨k, hk, rfl, rfl, hrow, hbl, hgs⟩ := hrel
        have hsb := HOb.out s k
        by_cases hlk : k < zs.length
        · obtain ⟨ad, rfl, hab, hcell⟩ := (hx.below hbl (by omega)).at_ hlk
          have HB := b_shr ⟨s, by omega⟩ ⟨k, by omega⟩
          simp only at HB
          have hsb1 := HOb.out s (k + 1)
          cases hbit : s.testBit k
          · rw [hbit] at HB
            have HS := hide (HSN.out s k hbit)
            have HM : Hid (pm P s (k + 1) = pm P s k) := hide (by rw [pm, if_neg (by rw [hbit]; simp)])
            clear hsb1 hbit
            go_wp2_with fail
            go_roundw
            case rel => exact ⟨k + 1, by omega, by go_num, by rw [HS.out], by rw [HM.out]; exact hrow, hbl, hgs⟩
            case measure => simp [intOf]; omega
          · rw [hbit] at HB
            have HS := hide (HSY.out s k hbit)
            have HM : Hid (pm P s (k + 1) = max (pm P s k) (P (s - 2 ^ k))) := hide (by rw [pm, if_pos hbit])
            rw [HS.out] at hsb1
            have hle := bit_le hbit
            have hpos := Nat.two_pow_pos k
            have hr1 : sub2 s k < s := by unfold sub2; omega
            have hs8 : s < 256 := by omega
            have hk8 : k < 8 := by omega
            rw [show s - 2 ^ k = sub2 s k from rfl] at HM
            clear hle hpos
            generalize (over zs).getD k 0 = d at *
            have o0 := hrow.cell (show s < N by omega)
            have o1 := hrow.cell (show sub2 s k < N by omega)
            rw [if_neg (by omega), if_pos rfl] at o0
            rw [if_pos (by omega)] at o1
            have f0 := hrow.frozen s
            go_wp2_with fail
            have hne : sub2 s k ≠ s := by omega
            have u1 : (0 : Int) ≤ ((sub2 s k : Nat) : Int) := by omega
            have u2 : ((sub2 s k : Nat) : Int) < (N : Int) := by omega
            have e1 : wrap64 (2 ^ k) = ((2 ^ k : Nat) : Int) := b_pow ⟨k, hk8⟩
            have e2 : IntKind.i64.wrap (2 ^ k) = ((2 ^ k : Nat) : Int) := c_pow ⟨k, hk8⟩
            have e3 : IntKind.i64.wrap (1 * 2 ^ k) = ((2 ^ k : Nat) : Int) := c_pow1 ⟨k, hk8⟩
            have e6 : IntKind.i64.wrap ((s : Int) - ((2 ^ k : Nat) : Int)) = ((sub2 s k : Nat) : Int) := c_sub ⟨s, hs8⟩ ⟨k, hk8⟩ hbit
            have e4 : IntKind.i64.wrap ((s : Int) - wrap64 (2 ^ k)) = ((sub2 s k : Nat) : Int) := by rw [e1]; exact e6
            have e5 : IntKind.i64.wrap ((s : Int) - IntKind.i64.wrap (2 ^ k)) = ((sub2 s k : Nat) : Int) := by rw [e2]; exact e6
            have e7 : IntKind.i64.wrap ((s : Int) - 2 ^ k) = ((sub2 s k : Nat) : Int) := c_subI ⟨s, hs8⟩ ⟨k, hk8⟩ hbit
            go_region_with (go_at_call 41; refine (l1Most_any _ _ _).mono ?_; rintro e w' ⟨rfl, rfl⟩)
            all_goals
              clear e1 e2 e3 e4 e5 e6 e7 u1 u2
              go_wp2_with fail
              go_roundw
              case rel =>
                refine ⟨k + 1, by omega, by go_num, by rw [HS.out], ?_, (hbl.drew).setCell (Nat.le_refl _) _, by simp; omega⟩
                refine (World.rowIs.set (w := wr.drew) hrow s _).congr fun j _ => ?_
                by_cases hj : j = s
                · subst hj; rw [if_pos rfl, if_neg (by omega), if_pos rfl, HM.out]
                · rw [if_neg hj]
                  by_cases hj2 : j < s
                  · rw [if_pos hj2, if_pos hj2]
                  · rw [if_neg hj2, if_neg hj2, if_neg hj, if_neg hj]
              case measure => simp [intOf]; omega
        · obtain rfl : k = zs.length := by omega
          have o0 := hrow.cell hlt
          rw [if_neg (by omega), if_pos rfl] at o0
          have f0 := hrow.frozen s
          have hps := HP.out s (by omega)
          have hpb := HPb.out s
          by_cases h0 : SM s zs.length = 0
          · rw [if_pos h0] at hps
            have Hps := hide hps
            have hb1 : 0 ≤ pm P s zs.length + 1 := by omega
            have hb2 : pm P s zs.length ≤ 256 := by omega
            clear hps
            have h0' : (SM s zs.length == 0) = true := by simp [h0]
            go_wp2_with fail
            go_roundw
            case rel =>
              refine ⟨s + 1, by omega, by omega, by go_num, ?_, hbl.setCell (Nat.le_refl _) _, by simp; omega⟩
              refine (hrow.set s _).congr fun j _ => ?_
              by_cases hj : j = s
              · subst hj; rw [if_pos rfl, if_pos (by omega), Hps.out]
              · rw [if_neg hj]
                by_cases hj2 : j < s
                · rw [if_pos hj2, if_pos (by omega)]
                · rw [if_neg hj2, if_neg hj, if_neg (by omega)]
            case measure => simp [intOf]; omega
          · rw [if_neg h0, Int.add_zero] at hps
            have Hps := hide hps
            clear hps
            have h0' : (SM s zs.length == 0) = false := by simp [h0]
            go_wp2_with fail
            go_roundw
            case rel =>
              refine ⟨s + 1, by omega, by omega, by go_num, ?_, hbl, hgs⟩
              refine hrow.congr fun j _ => ?_
              by_cases hj : j = s
              · subst hj; rw [if_neg (by omega), if_pos rfl, if_pos (by omega), Hps.out]
              · by_cases hj2 : j < s
                · rw [if_pos hj2, if_pos (by omega)]
                · rw [if_neg hj2, if_neg hj, if_neg (by omega)]
            case measure => simp [intOf]; omega
    · obtain rfl : s = N := by omega
      have o0 := hrow0.cell (show s - 1 < s by omega)
      rw [if_pos (by omega)] at o0
      have hpb := HPb.out (s - 1)
      have hs : (s : Int) - 1 = ((s - 1 : Nat) : Int) := by omega
      go_wp2_with fail
      go_ret2
      exact ⟨by rw [HPE.out]; rfl, hb.trans (hbl0.mono (by omega))⟩

theorem specFewestMoves_any (A : Option Addr) (n c B : Nat) (zs : List Int) (w : World) (hr : Ints w B A n zs) (hB : B ≤ w.heap.size) (hn : n ≤ 17592186044416) :
    Calls Try.prog 11 #[.slice A n c] w fun e w' => e = .returned (.tuple #[.int .i64 (fewN zs), .bool (fewOk zs)]) ∧ Below w.heap.size w w' := by
  cases hf : fewOk zs
  · rw [fewN_no hf]
    obtain rfl := hr.len
    cases hq : eqOk zs
    · go_enter Try.func11, Try.ntmps11
      go_wp2_with fail
      refine (hpEqual_any _ _ _ _ _ _ hr hn).mono ?_; rintro e w' ⟨rfl, rfl⟩; rw [hq]
      go_wp2_with fail
      go_ret2
      exact ⟨rfl, Below.refl _ _⟩
    · have h9 : (8 : Int) < (zs.length : Int) := by
        have : ¬ zs.length ≤ 8 := fun h => by unfold fewOk at hf; simp [hq, h] at hf
        omega
      go_enter Try.func11, Try.ntmps11
      go_wp2_with fail
      refine (hpEqual_any _ _ _ _ _ _ hr hn).mono ?_; rintro e w' ⟨rfl, rfl⟩; rw [hq]
      go_wp2_with fail
      go_ret2
      exact ⟨rfl, Below.refl _ _⟩
  · rw [← hf]
    exact specFewest_yes A n c B zs w hr hB hn hf
end Go.Proofs.Ytediapekgbekeaa
