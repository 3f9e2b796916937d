import Derived.Test.YtediapekgbekeaaMg07
import Derived.Test.YtediapekgbekeaaMg08
import Derived.RegionTactic
import Derived.Deep.RegionWith

/-
  SUMS AND SHARES, BOTH WAYS: hpSum, StonesOf, EqualShare, CanBeEqual, hpEqual, shareOfEach.
-/
namespace Go.Proofs.Ytediapekgbekeaa
open Go.RowKit Go.Deep

theorem quiet_left {P : Program} {f : FuncId} {args : Array Value} {w : World} {n : Nat} {v : Value}
    (h : Calls P f args (w.drewN n) fun e w' => e = .returned v ∧ w.drewN n = w') : Calls P f args (w.drewN n) fun e w'' => e = .returned v ∧ ∃ m, w'' = w.drewN m :=
  h.mono fun _ _ ⟨he, hm⟩ => ⟨he, n, hm.symm⟩

/-- The model's hpSum. -/
theorem hpSum_any (A : Option Addr) (n c B : Nat) (zs : List Int) (w : World) (hr : Ints w B A n zs) (hn : n ≤ 1000000) (hb : within (-1000000000) 1000000000 zs = true) :
    Calls Try.prog 61 #[.slice A n c] w fun e w' => e = .returned (.int .i64 (tot zs)) ∧ w = w' := by
  obtain rfl := hr.len
  go_enter Try.func61, Try.ntmps61
  go_wp2
  go_loop [3, 8] (fun s i => ∃ k : Nat, k ≤ zs.length ∧ i = .int .i64 k ∧ s = .int .i64 (tot (zs.take k)))
    (fun _ i => zs.length - (intOf i).toNat)
  case atStart => exact ⟨0, Nat.zero_le _, rfl, rfl⟩
  case round =>
    obtain ⟨k, hk, rfl, rfl⟩ := hrel
    have hs := tot_small hb (by omega) k
    by_cases hlt : k < zs.length
    · have Hs := hide (tot_take_succ zs k hlt)
      have hk2 := within_get hb k hlt
      obtain ⟨ad, rfl, hab, hcell⟩ := hr.at_ hlt
      rw [show zs.getD k 0 = zs[k] from by simp [List.getD, List.getElem?_eq_getElem hlt]] at hcell
      go_wp2
      go_round
      case rel => exact ⟨k + 1, by omega, by go_num, by rw [Hs.out]⟩
      case measure => simp [intOf]; omega
    · go_wp2
      go_ret
      exact ⟨ret_int (by rw [List.take_of_length_le (by omega)]), rfl⟩

/-- The program's sumOf. -/
theorem sumOf_any (A : Option Addr) (n c B : Nat) (zs : List Int) (w : World) (hr : Ints w B A n zs) (hn : n ≤ 1000000) (hb : within (-1000000000) 1000000000 zs = true) :
    Calls Try.prog 68 #[.slice A n c] w fun e w' => e = .returned (.int .i64 (tot zs)) ∧ w = w' := by
  obtain rfl := hr.len
  have HB := hide hb
  clear hb
  go_enter Try.func68, Try.ntmps68
  go_wp2
  go_loop [3, 8] (fun s i => ∃ k : Nat, k ≤ zs.length ∧ i = .int .i64 k ∧ s = .int .i64 (tot (zs.take k)))
    (fun _ i => zs.length - (intOf i).toNat)
  case atStart => exact ⟨0, Nat.zero_le _, rfl, rfl⟩
  case round =>
    obtain ⟨k, hk, rfl, rfl⟩ := hrel
    have hs := tot_small HB.out (by omega) k
    by_cases hlt : k < zs.length
    · have Hs := hide (tot_take_succ zs k hlt)
      have hk2 := within_get HB.out k hlt
      obtain ⟨ad, rfl, hab, hcell⟩ := hr.at_ hlt
      rw [show zs.getD k 0 = zs[k] from by simp [List.getD, List.getElem?_eq_getElem hlt]] at hcell
      go_wp2
      go_round
      case rel => exact ⟨k + 1, by omega, by go_num, by rw [Hs.out]⟩
      case measure => simp [intOf]; omega
    · go_wp2
      go_ret
      exact ⟨ret_int (by rw [List.take_of_length_le (by omega)]), rfl⟩

/-- The program's StonesOf. -/
theorem StonesOf_any (A : Option Addr) (n c B : Nat) (zs : List Int) (w : World) (hr : Ints w B A n zs) (hn : n ≤ 17592186044416) :
    Calls Try.prog 58 #[.slice A n c] w fun e w' => e = .returned (.tuple #[.int .i64 (stonesN zs), .bool (good zs)]) ∧ w = w' := by
  obtain rfl := hr.len
  cases hg : good zs
  · have H1 := hide (stonesN_no hg)
    have hgb : good zs = false := hg
    go_enter Try.func58, Try.ntmps58
    go_wp2_with fail
    refine (AreHeaps_any _ _ _ _ _ _ hr hn).mono ?_; rintro e w' ⟨rfl, rfl⟩; rw [hgb]
    go_wp2_with fail
    go_ret2
    exact ⟨by rw [H1.out]; rfl, rfl⟩
  · have H1 := hide (stonesN_yes hg)
    have hgb : good zs = true := hg
    have hle := (good_of hg).2.1
    have HB := hide (good_small hg)
    go_enter Try.func58, Try.ntmps58
    go_wp2_with fail
    refine (AreHeaps_any _ _ _ _ _ _ hr hn).mono ?_; rintro e w' ⟨rfl, rfl⟩; rw [hgb]
    go_wp2_with fail
    refine (sumOf_any _ _ _ _ _ _ hr (by omega) HB.out).mono ?_; rintro e w' ⟨rfl, rfl⟩
    go_wp2_with fail
    go_ret2
    exact ⟨by rw [H1.out]; rfl, rfl⟩

/-- The program's EqualShare. -/
theorem EqualShare_any (A : Option Addr) (n c B : Nat) (zs : List Int) (w : World) (hr : Ints w B A n zs) (hn : n ≤ 17592186044416) :
    Calls Try.prog 30 #[.slice A n c] w fun e w' => e = .returned (.tuple #[.int .i64 (shareN zs), .int .i64 (leftN zs), .bool (good zs)]) ∧ ∃ m, w' = w.drewN m := by
  obtain rfl := hr.len
  cases hg : good zs
  · have H1 := hide (shareN_no hg)
    have H2 := hide (leftN_no hg)
    have hgb : good zs = false := hg
    go_enter Try.func30, Try.ntmps30
    go_wp2_with fail
    refine (StonesOf_any _ _ _ _ _ _ hr hn).mono ?_; rintro e w' ⟨rfl, rfl⟩; rw [hgb]
    go_wp2_with fail
    go_ret3
    exact ⟨by rw [H1.out, H2.out]; rfl, 0, rfl⟩
  · have H0 := hide (stonesN_yes hg)
    have H1 := hide (shareN_yes hg)
    have H2 := hide (leftN_yes hg)
    have hgb : good zs = true := hg
    have hle := (good_of hg).2.1
    have hle1 := (good_of hg).1
    have ht := good_tot hg
    go_enter Try.func30, Try.ntmps30
    go_wp2_with fail
    refine (StonesOf_any _ _ _ _ _ _ hr hn).mono ?_; rintro e w' ⟨rfl, rfl⟩; rw [hgb, H0.out]
    go_wp2_with fail
    go_quiet (fail)
    go_wp2
    go_ret3
    exact ⟨by rw [H1.out, H2.out]; rfl, _, rfl⟩

/-- The model's hpEqual. -/
theorem hpEqual_any (A : Option Addr) (n c B : Nat) (zs : List Int) (w : World) (hr : Ints w B A n zs) (hn : n ≤ 17592186044416) :
    Calls Try.prog 37 #[.slice A n c] w fun e w' => e = .returned (.bool (eqOk zs)) ∧ w = w' := by
  obtain rfl := hr.len
  cases hg : good zs
  · have H1 := hide (eqOk_no hg)
    have hgb : good zs = false := hg
    go_enter Try.func37, Try.ntmps37
    go_wp2_with fail
    refine (hpGood_any _ _ _ _ _ _ hr hn).mono ?_; rintro e w' ⟨rfl, rfl⟩; rw [hgb]
    go_wp2_with fail
    go_ret
    exact ⟨by rw [H1.out]; rfl, rfl⟩
  · have H1 := hide (eqOk_yes hg)
    have hgb : good zs = true := hg
    have hle := (good_of hg).2.1
    have hle1 := (good_of hg).1
    have ht := good_tot hg
    go_enter Try.func37, Try.ntmps37
    go_wp2_with fail
    refine (hpGood_any _ _ _ _ _ _ hr hn).mono ?_; rintro e w' ⟨rfl, rfl⟩; rw [hgb]
    go_wp2_with fail
    refine (hpSum_any _ _ _ _ _ _ hr (by omega) (good_small hgb)).mono ?_; rintro e w' ⟨rfl, rfl⟩
    go_wp2_with fail
    go_ret
    exact ⟨by rw [H1.out]; rfl, rfl⟩

/-- The model's CanBeEqual. -/
theorem specCanBeEqual_any (A : Option Addr) (n c B : Nat) (zs : List Int) (w : World) (hr : Ints w B A n zs) (hn : n ≤ 17592186044416) :
    Calls Try.prog 23 #[.slice A n c] w fun e w' => e = .returned (.tuple #[.bool (eqOk zs), .bool (good zs)]) ∧ w = w' := by
  obtain rfl := hr.len
  cases hg : good zs
  · have H1 := hide (eqOk_no hg)
    have hgb : good zs = false := hg
    go_enter Try.func23, Try.ntmps23
    go_wp2_with fail
    refine (hpGood_any _ _ _ _ _ _ hr hn).mono ?_; rintro e w' ⟨rfl, rfl⟩; rw [hgb]
    go_wp2_with fail
    go_ret2
    exact ⟨by rw [H1.out]; rfl, rfl⟩
  · have hgb : good zs = true := hg
    go_enter Try.func23, Try.ntmps23
    go_wp2_with fail
    refine (hpGood_any _ _ _ _ _ _ hr hn).mono ?_; rintro e w' ⟨rfl, rfl⟩; rw [hgb]
    go_wp2_with fail
    refine (hpEqual_any _ _ _ _ _ _ hr hn).mono ?_; rintro e w' ⟨rfl, rfl⟩
    go_wp2_with fail
    go_ret2
    exact ⟨rfl, rfl⟩

/-- The program's CanBeEqual. -/
theorem CanBeEqual_any (A : Option Addr) (n c B : Nat) (zs : List Int) (w : World) (hr : Ints w B A n zs) (hn : n ≤ 17592186044416) :
    Calls Try.prog 22 #[.slice A n c] w fun e w' => e = .returned (.tuple #[.bool (eqOk zs), .bool (good zs)]) ∧ ∃ m, w' = w.drewN m := by
  obtain rfl := hr.len
  cases hg : good zs
  · have H1 := hide (eqOk_no hg)
    have hgb : good zs = false := hg
    go_enter Try.func22, Try.ntmps22
    go_wp2_with fail
    refine (EqualShare_any _ _ _ _ _ _ hr hn).mono ?_; rintro e w' ⟨rfl, m, rfl⟩; rw [hgb]
    go_wp2_with fail
    go_ret2
    exact ⟨by rw [H1.out]; rfl, _, rfl⟩
  · have H1 := hide (eqOk_yes hg)
    have H2 := hide (leftN_yes hg)
    have hgb : good zs = true := hg
    go_enter Try.func22, Try.ntmps22
    go_wp2_with fail
    refine (EqualShare_any _ _ _ _ _ _ hr hn).mono ?_; rintro e w' ⟨rfl, m, rfl⟩; rw [hgb, H2.out]
    go_wp2_with fail
    go_ret2
    exact ⟨by rw [H1.out]; rfl, _, rfl⟩

/-- The program's shareOfEach. -/
theorem shareOfEach_any (A : Option Addr) (n c B : Nat) (zs : List Int) (w : World) (hr : Ints w B A n zs) (hn : n ≤ 17592186044416) :
    Calls Try.prog 42 #[.slice A n c] w fun e w' => e = .returned (.tuple #[.int .i64 (shareEq zs), .bool (eqOk zs)]) ∧ ∃ m, w' = w.drewN m := by
  obtain rfl := hr.len
  cases hg : good zs
  · have H1 := hide (eqOk_no hg)
    have H2 := hide (shareEq_no (eqOk_no hg))
    have hgb : good zs = false := hg
    go_enter Try.func42, Try.ntmps42
    go_wp2_with fail
    refine (EqualShare_any _ _ _ _ _ _ hr hn).mono ?_; rintro e w' ⟨rfl, m, rfl⟩; rw [hgb]
    go_wp2_with fail
    go_ret2
    exact ⟨by rw [H1.out, H2.out]; rfl, _, rfl⟩
  · have H0 := hide (leftN_yes hg)
    have H3 := hide (shareN_yes hg)
    have hgb : good zs = true := hg
    by_cases h0 : (tot zs % zs.length == 0) = true
    · have H1 := hide ((eqOk_yes hg).trans h0)
      have H2 := hide (shareEq_yes H1.out)
      have h0' : (tot zs % zs.length != 0) = false := by rw [bne, h0]; rfl
      clear h0
      go_enter Try.func42, Try.ntmps42
      go_wp2_with fail
      refine (EqualShare_any _ _ _ _ _ _ hr hn).mono ?_; rintro e w' ⟨rfl, m, rfl⟩; rw [hgb, H0.out, H3.out]
      go_wp2_with fail
      go_ret2
      exact ⟨by rw [H1.out, H2.out]; rfl, _, rfl⟩
    · have hf : (tot zs % zs.length == 0) = false := by simpa using h0
      have H1 := hide ((eqOk_yes hg).trans hf)
      have H2 := hide (shareEq_no H1.out)
      have h0' : (tot zs % zs.length != 0) = true := by simpa using h0
      clear h0 hf
      go_enter Try.func42, Try.ntmps42
      go_wp2_with fail
      refine (EqualShare_any _ _ _ _ _ _ hr hn).mono ?_; rintro e w' ⟨rfl, m, rfl⟩; rw [hgb, H0.out, H3.out]
      go_wp2_with fail
      go_ret2
      exact ⟨by rw [H1.out, H2.out]; rfl, _, rfl⟩
end Go.Proofs.Ytediapekgbekeaa

/-
  HEAPS THAT ARE DRAWN: sureHeaps, heaps, DrawAreHeaps.
-/
namespace Go.Proofs.Ytediapekgbekeaa
open Go.RowKit Go.Deep
set_option linter.unusedVariables false

theorem Ints.cellAt {w : World} {B n k : Nat} {ad : Addr} {zs : List Int} (h : Ints w B (some ad) n zs) (hk : k < n) : w.cell? (ad.add k) = some (.int .i64 (zs.getD k 0)) := by
  have hl := h.len
  obtain ⟨ad', e, _, hc⟩ := h.at_ (k := k) (by omega)
  injection e with e
  subst e
  exact hc
theorem Went.app {b m : Nat} {w wr wa : World} (h : Went b m w wr) (hb : b < w.heap.size) (ha : Below w.heap.size wr wa) : Went b m w wa :=
  ⟨h.cur.keep fun g hg => ha.block g (by omega), h.below.trans (ha.mono (by omega)), fun g hg hn => (ha.block g hg).trans (h.save g hg hn)⟩
theorem Own.went {w w' : World} {base b m : Nat} {t : TypeId} {v : Value} {zs : List Int} (h : Own w base t v zs) (hw : Went b m w w') (hb : b < base) : Own w' base t v zs := h.keep fun g hg hl => hw.save g hl (by omega)

set_option maxRecDepth 100000 in
set_option maxHeartbeats 2000000 in
theorem sureHeaps_any (b m : Nat) (most : Int) (w : World) (h : Cur w b m) (hm : m ≤ 900000) (h0 : 0 ≤ most) (h1 : most ≤ 100000) :
    Calls Try.prog 69 #[.pointer (some ⟨b, 0, none⟩), .int .i64 most] w fun e w' => ∃ zs A c, e = .returned (.slice A zs.length c) ∧ Own w' w.heap.size 3 (.slice A zs.length c) zs ∧ 1 ≤ zs.length ∧ zs.length ≤ 6 ∧ within 0 most zs = true ∧ Went b (m + 20) w w' := by
  have HP := hide (pick_any b m 6 w h (by omega) (by decide))
  have hb := hide h.lt
  go_enter Try.func69, Try.ntmps69
  go_wp2_with fail
  refine HP.out.mono ?_; rintro e w1 ⟨r, hr, rfl, W1⟩
  have X1 := hide W1
  clear W1
  have hr6 : r < 6 := by omega
  go_wp2_with fail
  go_loopw [5, 6] (fun v i wr => ∃ j zs, j ≤ r + 1 ∧ i = .int .i64 ((r + 1 - j : Nat) : Int) ∧ zs.length = j ∧ Hid (within 0 most zs = true) ∧ Hid (Own wr w.heap.size 3 v zs) ∧ Hid (Went b (m + 2 + 2 * j) w wr))
    (fun _ i _ => (intOf i).toNat)
  case atStart => exact ⟨0, [], Nat.zero_le _, by push_cast; exact congrArg (Value.int .i64) (by omega), rfl, hide rfl, hide (Own.nil _ _ _), X1⟩
  case round =>
    obtain ⟨j, zs, hj, rfl, hl, HZ, HO, HX⟩ := hrel
    by_cases hlt : j < r + 1
    · have hpos : (0 : Int) < ((r + 1 - j : Nat) : Int) := by omega
      have HPj := hide (pick_any b (m + 2 + 2 * j) (most + 1) wr HX.out.cur (by omega) (by omega))
      have hbz := hide HX.out.below.size
      go_wp2_with fail
      refine HPj.out.mono ?_; rintro e w2 ⟨x, hx, rfl, W2⟩
      have X2 := hide (HX.out.trans W2)
      have O2 := hide (HO.out.went W2 hb.out)
      have hz2 := X2.out.below.size
      have hll : zs.length < 1000000 := by omega
      clear W2
      go_wp2_with (at_builtin; refine wpList_app_int rfl _ _ 24 3 rfl Try.underlying24 infoInt _ _ zs rfl O2.out _ _ rfl hz2 hll ?_; intro v' w' hown' hb'; have HO3 := hide hown'; have HX3 := hide (X2.out.app hb.out hb'); clear hown' hb')
      have e1 : ((r + 1 - j : Nat) : Int) - 1 = ((r + 1 - (j + 1) : Nat) : Int) := by omega
      go_roundw
      case rel =>
        refine ⟨j + 1, zs ++ [(x : Int)], by omega, by first | exact congrArg (Value.int .i64) e1 | go_num, by rw [List.length_append, hl]; rfl, hide ?_, HO3, hide ?_⟩
        · refine within_of fun k hk => ?_
          by_cases h2 : k < zs.length
          · rw [List.getElem_append_left h2]; exact within_get HZ.out k h2
          · rw [List.getElem_append_right (by omega)]; simp; omega
        · rw [show m + 2 + 2 * (j + 1) = m + 2 + 2 * j + 2 by omega]; exact HX3.out
      case measure => simp [intOf]; omega
    · have e0 : ((r + 1 - j : Nat) : Int) = 0 := by omega
      obtain ⟨A, c, rfl, _, _⟩ := HO.out.shape
      rw [e0]
      have HOo := hide HO.out
      go_wp2_with fail
      go_ret
      exact ⟨zs, A, c, rfl, HOo.out, by omega, by omega, HZ.out, ⟨HX.out.cur.far (by omega), HX.out.below, HX.out.save⟩⟩

theorem wrap_bd (x z L : Int) (hx : 0 ≤ x ∧ x ≤ 9) (h1 : 1 ≤ L) (h2 : L ≤ 6) : -6 ≤ IntKind.i64.wrap (x + z.tmod L) ∧ IntKind.i64.wrap (x + z.tmod L) ≤ 15 := by
  have a := Int.tmod_lt_of_pos z (show 0 < L by omega)
  have b := Int.lt_tmod_of_pos z (show 0 < L by omega)
  rw [IntKind.wrap_i64]
  omega
/-- WHAT A DRAW OF A LIST LEAVES. -/
def DrawnL (b m : Nat) (w : World) (e : Ending) (w' : World) : Prop := ∃ v, e = .returned v ∧ Nice w' w.heap.size v ∧ Went b m w w'

set_option maxRecDepth 100000 in
set_option maxHeartbeats 8000000 in
theorem heaps_any (b m : Nat) (w : World) (h : Cur w b m) (hm0 : m ≤ 800000) :
    Calls Try.prog 59 #[.pointer (some ⟨b, 0, none⟩)] w (DrawnL b (m + 30) w) := by
  have HS := hide (sureHeaps_any b m 9 w h (by omega) (by omega) (by omega))
  have hb := hide h.lt
  go_enter Try.func59, Try.ntmps59
  go_wp2_with fail
  refine HS.out.mono ?_; rintro e w1 ⟨zs, A, c, rfl, hO1, hl1, hl2, hw1, W1⟩
  have X1 := hide W1
  have O1 := hide hO1
  clear W1 hO1
  go_wp2_with fail
  refine (pick_any b (m + 20) 14 w1 X1.out.cur (by omega) (by decide)).mono ?_; rintro e w2 ⟨r, hr, rfl, W2⟩
  have X2 := hide (X1.out.trans W2)
  have O2 := hide (O1.out.went W2 hb.out)
  clear W2
  have hr14 : r < 14 := by omega
  clear hr
  by_cases hr0 : r = 0
  · subst hr0
    go_wp2_with fail
    have HW0 : ChoiceW b (m + 22) w.heap.size w w2.drew false := ⟨X2.out.cur.keep fun _ _ => rfl, X2.out.below.drew, X2.out.save, hb.out, X2.out.below.size⟩
    have hm : m + 22 ≤ 1000000 := by omega
    refine wp_region_any (by kernel_rfl) (wpAny_inv (I := fun listed a wr => ∃ (l0 l1 l2 l3 l4 l5 l6 l7 l8 l9 l10 : Bool), ∃ (x1 x2 x3 x4 x5 x6 x7 x8 x9 x10 x11 x12 x13 x14 x15 x16 x17 x18 x19 x20 x21 x22 x23 x24 x25 x26 x27 x28 x29 x30 x31 x32 x33 x34 x35 x36 x37 x38 x39 x40 x41 x42 x43 x44 : Value), listed = #[l0, l1, l2, l3, l4, l5, l6, l7, l8, l9, l10] ∧ a = ⟨#[.pointer (some ⟨b, 0, none⟩), x1, x2, x3, x4, x5, x6, x7, x8, x9, x10, x11, x12, x13, x14, x15, x16, x17, x18, x19, x20, x21, x22, x23, x24, x25, x26, x27, x28, x29, x30, x31, x32, x33, x34, x35, x36, x37, x38, x39, x40, x41, x42, x43, x44], []⟩ ∧ Hid (ChoiceW b (m + 22) w.heap.size w wr (l7)) ∧
        Hid (l0 = true → Nice wr w.heap.size x10) ∧ Hid (l1 = true → Nice wr w.heap.size x11) ∧ Hid (l2 = true → Nice wr w.heap.size x12) ∧ Hid (l3 = true → Nice wr w.heap.size x13) ∧ Hid (l4 = true → Nice wr w.heap.size x14) ∧ Hid (l5 = true → BigRow wr w.heap.size 6 x15) ∧ Hid (l6 = true → x16 = .pointer (some ⟨b, 0, none⟩)) ∧ Hid (l7 = true → ∃ r : Nat, r < 6 ∧ x17 = .int .i64 r) ∧ Hid (l8 = true → AtNice wr w.heap.size x18) ∧ Hid (l9 = true → Nice wr w.heap.size x19) ∧ Hid (l10 = true → Nice wr w.heap.size x2)) ?step ?stop _ _ _ _ (by decide) ?start)
    case start => exact ⟨false, false, false, false, false, false, false, false, false, false, false, _, _, _, _, _, _, _, _, _, _, _, _, _, _, _, _, _, _, _, _, _, _, _, _, _, _, _, _, _, _, _, _, _, _, _, _, _, _, _, _, _, _, _, _, rfl, rfl, hide HW0, hide (fun h => by cases h), hide (fun h => by cases h), hide (fun h => by cases h), hide (fun h => by cases h), hide (fun h => by cases h), hide (fun h => by cases h), hide (fun h => by cases h), hide (fun h => by cases h), hide (fun h => by cases h), hide (fun h => by cases h), hide (fun h => by cases h)⟩
    case stop =>
      rintro listed a wr ⟨l0, l1, l2, l3, l4, l5, l6, l7, l8, l9, l10, x1, x2, x3, x4, x5, x6, x7, x8, x9, x10, x11, x12, x13, x14, x15, x16, x17, x18, x19, x20, x21, x22, x23, x24, x25, x26, x27, x28, x29, x30, x31, x32, x33, x34, x35, x36, x37, x38, x39, x40, x41, x42, x43, x44, rfl, rfl, HW, h0, h1, h2, h3, h4, h5, h6, h7, h8, h9, h10⟩ hr
      have hall := ready_all (by rfl) (by kernel_rfl) hr
      have hl7 : l7 = true := hall 7 (by decide)
      have hl10 : l10 = true := hall 10 (by decide)
      have HN := h10.out hl10
      rw [hl7] at HW
      clear hall hr h0 h1 h2 h3 h4 h5 h6 h7 h8 h9 h10
      go_wp2_with fail
      go_ret
      exact ⟨_, rfl, HN, ⟨HW.out.cur.far (by simp), HW.out.below, HW.out.save⟩⟩
    case step =>
      rintro listed a wr ⟨l0, l1, l2, l3, l4, l5, l6, l7, l8, l9, l10, x1, x2, x3, x4, x5, x6, x7, x8, x9, x10, x11, x12, x13, x14, x15, x16, x17, x18, x19, x20, x21, x22, x23, x24, x25, x26, x27, x28, x29, x30, x31, x32, x33, x34, x35, x36, x37, x38, x39, x40, x41, x42, x43, x44, rfl, rfl, HW, h0, h1, h2, h3, h4, h5, h6, h7, h8, h9, h10⟩ i hi hun ⟨o, ho, hdep⟩
      have hi' : i < 11 := hi
      rcases (show i = 0 ∨ i = 1 ∨ i = 2 ∨ i = 3 ∨ i = 4 ∨ i = 5 ∨ i = 6 ∨ i = 7 ∨ i = 8 ∨ i = 9 ∨ i = 10 by omega) with rfl | rfl | rfl | rfl | rfl | rfl | rfl | rfl | rfl | rfl | rfl
      · refine wpOp_step rfl (fun K' hK => ?_)
        go_simp
        refine hK _ _ ?_
        exact ⟨true, l1, l2, l3, l4, l5, l6, l7, l8, l9, l10, x1, x2, x3, x4, x5, x6, x7, x8, x9, _, x11, x12, x13, x14, x15, x16, x17, x18, x19, x20, x21, x22, x23, x24, x25, x26, x27, x28, x29, x30, x31, x32, x33, x34, x35, x36, x37, x38, x39, x40, x41, x42, x43, x44, rfl, rfl, hide (HW.out.alloc _), hide (fun _ => Nice.new wr w.heap.size [-1] HW.out.hi ⟨by decide, by decide⟩), hide (fun h => (h1.out h).alloc _), hide (fun h => (h2.out h).alloc _), hide (fun h => (h3.out h).alloc _), hide (fun h => (h4.out h).alloc _), hide (fun h => (h5.out h).alloc _), h6, h7, hide (fun h => (h8.out h).alloc _), hide (fun h => (h9.out h).alloc _), hide (fun h => (h10.out h).alloc _)⟩
      · refine wpOp_step rfl (fun K' hK => ?_)
        go_simp
        refine hK _ _ ?_
        exact ⟨l0, true, l2, l3, l4, l5, l6, l7, l8, l9, l10, x1, x2, x3, x4, x5, x6, x7, x8, x9, x10, _, x12, x13, x14, x15, x16, x17, x18, x19, x20, x21, x22, x23, x24, x25, x26, x27, x28, x29, x30, x31, x32, x33, x34, x35, x36, x37, x38, x39, x40, x41, x42, x43, x44, rfl, rfl, hide (HW.out.alloc _), hide (fun h => (h0.out h).alloc _), hide (fun _ => Nice.new wr w.heap.size [1001] HW.out.hi ⟨by decide, by decide⟩), hide (fun h => (h2.out h).alloc _), hide (fun h => (h3.out h).alloc _), hide (fun h => (h4.out h).alloc _), hide (fun h => (h5.out h).alloc _), h6, h7, hide (fun h => (h8.out h).alloc _), hide (fun h => (h9.out h).alloc _), hide (fun h => (h10.out h).alloc _)⟩
      · refine wpOp_step rfl (fun K' hK => ?_)
        go_simp
        refine hK _ _ ?_
        exact ⟨l0, l1, true, l3, l4, l5, l6, l7, l8, l9, l10, x1, x2, x3, x4, x5, x6, x7, x8, x9, x10, x11, _, x13, x14, x15, x16, x17, x18, x19, x20, x21, x22, x23, x24, x25, x26, x27, x28, x29, x30, x31, x32, x33, x34, x35, x36, x37, x38, x39, x40, x41, x42, x43, x44, rfl, rfl, hide (HW.out.alloc _), hide (fun h => (h0.out h).alloc _), hide (fun h => (h1.out h).alloc _), hide (fun _ => Nice.new wr w.heap.size [1000,0] HW.out.hi ⟨by decide, by decide⟩), hide (fun h => (h3.out h).alloc _), hide (fun h => (h4.out h).alloc _), hide (fun h => (h5.out h).alloc _), h6, h7, hide (fun h => (h8.out h).alloc _), hide (fun h => (h9.out h).alloc _), hide (fun h => (h10.out h).alloc _)⟩
      · refine wpOp_step rfl (fun K' hK => ?_)
        have hmk := run_make_row' (P := Try.prog) 24 3 (.int .i64 0) 8 Try.underlying24 infoInt rfl .i64 .i64 13 (by omega) (by omega)
        go_simp
        refine hK _ _ ?_
        exact ⟨l0, l1, l2, true, l4, l5, l6, l7, l8, l9, l10, x1, x2, x3, x4, x5, x6, x7, x8, x9, x10, x11, x12, _, x14, x15, x16, x17, x18, x19, x20, x21, x22, x23, x24, x25, x26, x27, x28, x29, x30, x31, x32, x33, x34, x35, x36, x37, x38, x39, x40, x41, x42, x43, x44, rfl, rfl, hide (HW.out.alloc _), hide (fun h => (h0.out h).alloc _), hide (fun h => (h1.out h).alloc _), hide (fun h => (h2.out h).alloc _), hide (fun _ => Nice.zeros wr w.heap.size 13 HW.out.hi (by decide)), hide (fun h => (h4.out h).alloc _), hide (fun h => (h5.out h).alloc _), h6, h7, hide (fun h => (h8.out h).alloc _), hide (fun h => (h9.out h).alloc _), hide (fun h => (h10.out h).alloc _)⟩
      · refine wpOp_step rfl (fun K' hK => ?_)
        go_simp
        refine hK _ _ ?_
        exact ⟨l0, l1, l2, l3, true, l5, l6, l7, l8, l9, l10, x1, x2, x3, x4, x5, x6, x7, x8, x9, x10, x11, x12, x13, _, x15, x16, x17, x18, x19, x20, x21, x22, x23, x24, x25, x26, x27, x28, x29, x30, x31, x32, x33, x34, x35, x36, x37, x38, x39, x40, x41, x42, x43, x44, rfl, rfl, hide (HW.out.alloc _), hide (fun h => (h0.out h).alloc _), hide (fun h => (h1.out h).alloc _), hide (fun h => (h2.out h).alloc _), hide (fun h => (h3.out h).alloc _), hide (fun _ => Nice.new wr w.heap.size [0,0,0] HW.out.hi ⟨by decide, by decide⟩), hide (fun h => (h5.out h).alloc _), h6, h7, hide (fun h => (h8.out h).alloc _), hide (fun h => (h9.out h).alloc _), hide (fun h => (h10.out h).alloc _)⟩
      · have d0 : l0 = true := by first | exact hdep ⟨0, .data⟩ (by cases ho; simp) rfl | exact hdep ⟨0, .data⟩ (by have e := Option.some.inj ho; subst e; simp) rfl
        have d1 : l1 = true := by first | exact hdep ⟨1, .data⟩ (by cases ho; simp) rfl | exact hdep ⟨1, .data⟩ (by have e := Option.some.inj ho; subst e; simp) rfl
        have d2 : l2 = true := by first | exact hdep ⟨2, .data⟩ (by cases ho; simp) rfl | exact hdep ⟨2, .data⟩ (by have e := Option.some.inj ho; subst e; simp) rfl
        have d3 : l3 = true := by first | exact hdep ⟨3, .data⟩ (by cases ho; simp) rfl | exact hdep ⟨3, .data⟩ (by have e := Option.some.inj ho; subst e; simp) rfl
        have d4 : l4 = true := by first | exact hdep ⟨4, .data⟩ (by cases ho; simp) rfl | exact hdep ⟨4, .data⟩ (by have e := Option.some.inj ho; subst e; simp) rfl
        obtain ⟨z0, A0, c0, rfl, n0, w0⟩ := h0.out d0
        obtain ⟨z1, A1, c1, rfl, n1, w1⟩ := h1.out d1
        obtain ⟨z2, A2, c2, rfl, n2, w2⟩ := h2.out d2
        obtain ⟨z3, A3, c3, rfl, n3, w3⟩ := h3.out d3
        obtain ⟨z4, A4, c4, rfl, n4, w4⟩ := h4.out d4
        refine wpOp_step rfl (fun K' hK => ?_)
        go_simp
        refine hK _ _ ?_
        have hbig := BigRow.new wr w.heap.size [.slice none 0 0, .slice A0 z0.length c0, .slice A1 z1.length c1, .slice A2 z2.length c2, .slice A3 z3.length c3, .slice A4 z4.length c4] HW.out.hi (fun x hx => by
          simp only [List.mem_cons, List.not_mem_nil, or_false] at hx
          rcases hx with rfl | rfl | rfl | rfl | rfl | rfl
          · exact Nice.nil _ _
          · exact ⟨z0, A0, c0, rfl, n0, w0⟩
          · exact ⟨z1, A1, c1, rfl, n1, w1⟩
          · exact ⟨z2, A2, c2, rfl, n2, w2⟩
          · exact ⟨z3, A3, c3, rfl, n3, w3⟩
          · exact ⟨z4, A4, c4, rfl, n4, w4⟩
          )
        exact ⟨l0, l1, l2, l3, l4, true, l6, l7, l8, l9, l10, x1, x2, x3, x4, x5, x6, x7, x8, x9, .slice A0 z0.length c0, .slice A1 z1.length c1, .slice A2 z2.length c2, .slice A3 z3.length c3, .slice A4 z4.length c4, _, x16, x17, x18, x19, x20, x21, x22, x23, x24, x25, x26, x27, x28, x29, x30, x31, x32, x33, x34, x35, x36, x37, x38, x39, x40, x41, x42, x43, x44, rfl, rfl, hide (HW.out.alloc _), hide (fun _ => Nice.alloc ⟨z0, A0, c0, rfl, n0, w0⟩ _), hide (fun _ => Nice.alloc ⟨z1, A1, c1, rfl, n1, w1⟩ _), hide (fun _ => Nice.alloc ⟨z2, A2, c2, rfl, n2, w2⟩ _), hide (fun _ => Nice.alloc ⟨z3, A3, c3, rfl, n3, w3⟩ _), hide (fun _ => Nice.alloc ⟨z4, A4, c4, rfl, n4, w4⟩ _), hide (fun _ => hbig), h6, h7, hide (fun h => (h8.out h).alloc _), hide (fun h => (h9.out h).alloc _), hide (fun h => (h10.out h).alloc _)⟩
      · refine wpOp_step rfl (fun K' hK => ?_)
        go_simp
        refine hK _ _ ?_
        exact ⟨l0, l1, l2, l3, l4, l5, true, l7, l8, l9, l10, x1, x2, x3, x4, x5, x6, x7, x8, x9, x10, x11, x12, x13, x14, x15, _, x17, x18, x19, x20, x21, x22, x23, x24, x25, x26, x27, x28, x29, x30, x31, x32, x33, x34, x35, x36, x37, x38, x39, x40, x41, x42, x43, x44, rfl, rfl, HW, h0, h1, h2, h3, h4, h5, hide (fun _ => rfl), h7, h8, h9, h10⟩
      · have d6 : l6 = true := by first | exact hdep ⟨6, .data⟩ (by cases ho; simp) rfl | exact hdep ⟨6, .data⟩ (by have e := Option.some.inj ho; subst e; simp) rfl
        have hl : l7 = false := hun
        subst hl
        have e := h6.out d6
        subst e
        have hb := HW.out.lo
        have hcur : Cur wr b (m + 22) := HW.out.cur
        refine wpOp_step rfl (fun K' hK => ?_)
        go_simp
        refine (pick_any b (m + 22) 6 wr hcur hm (by decide)).mono ?_
        rintro e w1 ⟨r, hr, rfl, hwent⟩
        refine hK _ _ ?_
        exact ⟨l0, l1, l2, l3, l4, l5, l6, true, l8, l9, l10, x1, x2, x3, x4, x5, x6, x7, x8, x9, x10, x11, x12, x13, x14, x15, .pointer (some ⟨b, 0, none⟩), _, x18, x19, x20, x21, x22, x23, x24, x25, x26, x27, x28, x29, x30, x31, x32, x33, x34, x35, x36, x37, x38, x39, x40, x41, x42, x43, x44, rfl, rfl, hide (HW.out.went hwent), hide (fun h => (h0.out h).went hwent.save hb), hide (fun h => (h1.out h).went hwent.save hb), hide (fun h => (h2.out h).went hwent.save hb), hide (fun h => (h3.out h).went hwent.save hb), hide (fun h => (h4.out h).went hwent.save hb), hide (fun h => (h5.out h).went hwent.save hb), hide (fun _ => rfl), hide (fun _ => ⟨r, by omega, rfl⟩), hide (fun h => (h8.out h).went hwent.save hb hwent.below.size), hide (fun h => (h9.out h).went hwent.save hb), hide (fun h => (h10.out h).went hwent.save hb)⟩
      · have d5 : l5 = true := by first | exact hdep ⟨5, .data⟩ (by cases ho; simp) rfl | exact hdep ⟨5, .data⟩ (by have e := Option.some.inj ho; subst e; simp) rfl
        have d7 : l7 = true := by first | exact hdep ⟨7, .data⟩ (by cases ho; simp) rfl | exact hdep ⟨7, .data⟩ (by have e := Option.some.inj ho; subst e; simp) rfl
        obtain ⟨r, hr, e⟩ := h7.out d7
        subst e
        have hbr := h5.out d5
        obtain ⟨g, _, e, _⟩ := hbr
        subst e
        have hri : (r : Int) < 6 := by omega
        refine wpOp_step rfl (fun K' hK => ?_)
        go_simp
        refine hK _ _ ?_
        exact ⟨l0, l1, l2, l3, l4, l5, l6, l7, true, l9, l10, x1, x2, x3, x4, x5, x6, x7, x8, x9, x10, x11, x12, x13, x14, .slice (some ⟨g, 0, none⟩) 6 6, x16, .int .i64 r, _, x19, x20, x21, x22, x23, x24, x25, x26, x27, x28, x29, x30, x31, x32, x33, x34, x35, x36, x37, x38, x39, x40, x41, x42, x43, x44, rfl, rfl, HW, h0, h1, h2, h3, h4, h5, h6, hide (fun _ => ⟨r, hr, rfl⟩), hide (fun _ => (h5.out d5).at_ (by omega)), h9, h10⟩
      · have d8 : l8 = true := by first | exact hdep ⟨8, .data⟩ (by cases ho; simp) rfl | exact hdep ⟨8, .data⟩ (by have e := Option.some.inj ho; subst e; simp) rfl
        obtain ⟨p, x, e, hpb, hpl, hcell, z, A', c', e2, hn, ho'⟩ := h8.out d8
        subst e; subst e2
        refine wpOp_step rfl (fun K' hK => ?_)
        go_simp
        refine hK _ _ ?_
        exact ⟨l0, l1, l2, l3, l4, l5, l6, l7, l8, true, l10, x1, x2, x3, x4, x5, x6, x7, x8, x9, x10, x11, x12, x13, x14, x15, x16, x17, .pointer (some p), _, x20, x21, x22, x23, x24, x25, x26, x27, x28, x29, x30, x31, x32, x33, x34, x35, x36, x37, x38, x39, x40, x41, x42, x43, x44, rfl, rfl, HW, h0, h1, h2, h3, h4, h5, h6, h7, hide (fun _ => ⟨p, _, rfl, hpb, hpl, hcell, z, A', c', rfl, hn, ho'⟩), hide (fun _ => ⟨z, A', c', rfl, hn, ho'⟩), h10⟩
      · have d9 : l9 = true := by first | exact hdep ⟨9, .data⟩ (by cases ho; simp) rfl | exact hdep ⟨9, .data⟩ (by have e := Option.some.inj ho; subst e; simp) rfl
        refine wpOp_step rfl (fun K' hK => ?_)
        go_simp
        refine hK _ _ ?_
        exact ⟨l0, l1, l2, l3, l4, l5, l6, l7, l8, l9, true, x1, _, x3, x4, x5, x6, x7, x8, x9, x10, x11, x12, x13, x14, x15, x16, x17, x18, x19, x20, x21, x22, x23, x24, x25, x26, x27, x28, x29, x30, x31, x32, x33, x34, x35, x36, x37, x38, x39, x40, x41, x42, x43, x44, rfl, rfl, HW, h0, h1, h2, h3, h4, h5, h6, h7, h8, h9, hide (fun _ => h9.out d9)⟩
  · by_cases hr8 : 8 ≤ r
    · have q1 : ((r : Int) == 1) = false := by simp; omega
      have q2 : ((r : Int) == 2) = false := by simp; omega
      have q3 : ((r : Int) == 3) = false := by simp; omega
      have q4 : ((r : Int) == 4) = false := by simp; omega
      have q5 : ((r : Int) == 5) = false := by simp; omega
      have q6 : ((r : Int) == 6) = false := by simp; omega
      have q7 : ((r : Int) == 7) = false := by simp; omega
      have q0 : ((r : Int) == 0) = false := by simp; omega
      go_wp2_with fail
      go_ret
      exact ⟨_, rfl, ⟨zs, A, c, rfl, ⟨by omega, within_of fun k hk => by have := within_get hw1 k hk; omega⟩, O2.out⟩, ⟨X2.out.cur.far (by omega), X2.out.below, X2.out.save⟩⟩
    · obtain ⟨g, rfl, hgb, hgl⟩ := O2.out.head (by omega)
      have hI := O2.out.ints
      have hc0 := hI.cellAt (show 0 < zs.length by omega)
      rw [show (⟨g, 0, none⟩ : Addr).add 0 = ⟨g, 0, none⟩ from by simp [Addr.add]] at hc0
      have hfz := World.ownsRow.frozenAt O2.out 0
      have HSum := hide (hpSum_any (some ⟨g, 0, none⟩) zs.length c w2.heap.size zs w2.drew hI (by omega) (within_of fun k hk => by have := within_get hw1 k hk; omega))
      have hx : 0 ≤ zs[0]'(by omega) ∧ zs[0]'(by omega) ≤ 9 := within_get hw1 0 (by omega)
      have HFIN := hide (fun (y : Int) (hy : -6 ≤ y ∧ y ≤ 15) => (show DrawnL b (m + 30) w (.returned (.slice (some ⟨g, 0, none⟩) zs.length c)) ((w2.setCell ⟨g, 0, none⟩ (.int .i64 y)).drew) from by
        have h1 := (World.ownsRow.stored O2.out 0 (.int .i64 y)).1
        have h2 : Own (w2.setCell ⟨g, 0, none⟩ (.int .i64 y)) w.heap.size 3 (.slice (some ⟨g, 0, none⟩) zs.length c) (zs.set 0 y) := by
          unfold Own
          rw [List.length_set, List.map_set]
          exact h1
        refine ⟨_, rfl, ⟨zs.set 0 y, some ⟨g, 0, none⟩, c, by simp, ⟨by simp; omega, within_of fun k hk => ?_⟩, by rw [List.length_set]; exact h2⟩, ⟨?_, ?_, ?_⟩⟩
        · rw [List.getElem_set]
          split
          · omega
          · have := within_get hw1 k (by simpa using hk); omega
        · exact (X2.out.cur.far (by omega)).keep fun x hx => Below.heap_setCell _ _ _ _ (by show x ≠ g; have := hb.out; omega)
        · exact (X2.out.below.setCell (p := ⟨g, 0, none⟩) (by show b ≤ g; have := hb.out; omega) _).drew
        · exact fun x hx hn => (Below.heap_setCell _ _ _ _ (by show x ≠ g; omega)).trans (X2.out.save x hx hn)))
      have hL1 : (1 : Int) ≤ (zs.length : Int) := by omega
      have hL6 : (zs.length : Int) ≤ 6 := by omega
      have hL0 : ¬ zs.length = 0 := by omega
      have hLz : ¬ zs = [] := by intro h; rw [h] at hl1; simp at hl1
      have hL2 : ((zs.length : Int) == 0) = false := by simpa using hLz
      rw [show zs.getD 0 0 = zs[0]'(by omega) from by simp [List.getD, show 0 < zs.length by omega]] at hc0
      have htb := tot_bd 0 9 zs hw1
      generalize zs[0]'(by omega) = x0 at *
      generalize tot zs = t at *
      rcases (show r = 1 ∨ r = 2 ∨ r = 3 ∨ r = 4 ∨ r = 5 ∨ r = 6 ∨ r = 7 by omega) with rfl | rfl | rfl | rfl | rfl | rfl | rfl
      all_goals
        go_wp2_with fail
        go_region_with (go_at_call 61; (with_reducible refine HSum.out.mono ?_); rintro e w3 ⟨rfl, rfl⟩)
        all_goals
          go_wp2_with fail
          go_ret
          exact HFIN.out _ (wrap_bd _ _ _ (by omega) hL1 hL6)

/-- A cursor of one's own. -/
theorem Cur.new (w : World) (A : Option Addr) (n c : Nat) (h : Bys w w.heap.size A n) (hn : n ≤ 1048576) : Cur (w.alloc (.cells #[.slice A n c, .int .i64 0, .int .u64 0] 61)) w.heap.size 0 := by
  have e : (w.alloc (.cells #[.slice A n c, .int .i64 0, .int .u64 0] 61)).heap[w.heap.size]? = some (.cells #[.slice A n c, .int .i64 0, .int .u64 0] 61 (0, 0)) := by
    show (w.heap.push _)[w.heap.size]? = _
    simp
  exact ⟨A, n, c, 0, 0, e, h.keep fun g hg => Below.heap_alloc _ _ _ hg, hn, by omega, by omega, by omega, by omega⟩
/-- What a drawing function leaves: a list of its own; nothing that was there has turned. -/
def DrewL (w : World) (e : Ending) (w' : World) : Prop := ∃ v, e = .returned v ∧ Nice w' w.heap.size v ∧ Below w.heap.size w w'
theorem DrawAreHeaps_any (A : Option Addr) (n c : Nat) (w : World) (h : Bys w w.heap.size A n) (hn : n ≤ 1048576) :
    Calls Try.prog 33 #[.slice A n c] w (DrewL w) := by
  have HC := hide (Cur.new w A n c h hn)
  have HB := hide (show Below w.heap.size w (w.alloc (.cells #[.slice A n c, .int .i64 0, .int .u64 0] 61)) from (Below.refl _ _).alloc (Nat.le_refl _) _)
  have HH := hide (heaps_any w.heap.size 0 _ HC.out (by omega))
  go_enter Try.func33, Try.ntmps33
  go_wp2_with fail
  refine HH.out.mono ?_; rintro e w1 ⟨v, rfl, hv, hw⟩
  obtain ⟨zs, A', c', rfl, hn', ho⟩ := hv
  have HV := hide (show Nice w1 w.heap.size (.slice A' zs.length c') from ⟨zs, A', c', rfl, hn', ho.less (by simp)⟩)
  have HB2 := hide (HB.out.trans hw.below)
  clear hw ho hn'
  go_wp2_with fail
  go_ret
  exact ⟨_, rfl, HV.out, HB2.out⟩
end Go.Proofs.Ytediapekgbekeaa
