import Derived.Test.YtcbcgapnoompbaaMg28
import Derived.Test.YtcbcgapnoompbaaMg11

/-
  RINGS THAT ARE DRAWN: one, among, ring.
-/
namespace Go.Proofs.Ytcbcgapnoompbaa
open Go.RowKit Go.Deep
set_option linter.unusedVariables false

theorem one_any (b m : Nat) (n : Int) (w : World) (h : Cur w b m) (hm : m ≤ 1000000) (hn : n ≤ 1000000) :
    Calls Try.prog 34 #[.pointer (some ⟨b, 0, none⟩), .int .i64 n] w fun e w' => ∃ q : Bool, e = .returned (.bool q) ∧ Went b (m + 2) w w' := by
  have HP := hide (pick_any b m n w h hm hn)
  go_enter Try.func34, Try.ntmps34
  go_wp2_with fail
  refine HP.out.mono ?_; rintro e w1 ⟨r, hr, rfl, W1⟩
  have X1 := hide W1
  clear W1
  go_wp2_with fail
  go_ret
  exact ⟨_, rfl, X1.out⟩
/-- One of so many numbers. -/
theorem among_any (b m base : Nat) (c : Nat) (A : Option Addr) (zs : List Int) (w : World) (h : Cur w b m) (hb : b < base) (hm : m ≤ 1000000) (hO : Own w base 3 (.slice A zs.length c) zs) (h0 : 0 < zs.length) (hn : zs.length ≤ 1000) :
    Calls Try.prog 50 #[.pointer (some ⟨b, 0, none⟩), .slice A zs.length c] w fun e w' => ∃ r : Nat, r < zs.length ∧ e = .returned (.int .i64 (zs.getD r 0)) ∧ Went b (m + 2) w w' := by
  have HP := hide (pick_any b m (zs.length : Int) w h hm (by omega))
  have HO := hide hO
  clear hO
  go_enter Try.func50, Try.ntmps50
  go_wp2_with fail
  refine HP.out.mono ?_; rintro e w1 ⟨r, hr, rfl, W1⟩
  have X1 := hide W1
  have hI := (HO.out.went W1 hb).ints
  clear W1
  have hr2 : r < zs.length := by omega
  obtain ⟨ad, rfl, _, hc⟩ := hI.at_ hr2
  go_wp2_with fail
  go_ret
  exact ⟨r, hr2, congrArg (fun x => Ending.returned (.int .i64 x)) (by simp [List.getD, hr2]), X1.out⟩

set_option maxRecDepth 100000 in
set_option maxHeartbeats 8000000 in
theorem ring_any (b m : Nat) (w : World) (h : Cur w b m) (hm0 : m ≤ 800000) :
    Calls Try.prog 32 #[.pointer (some ⟨b, 0, none⟩)] w (DrawnL b (m + 30) w) := by
  have HS := hide (one_any b m 12 w h (by omega) (by omega))
  have hb := hide h.lt
  go_enter Try.func32, Try.ntmps32
  go_wp2_with fail
  refine HS.out.mono ?_; rintro e w2 ⟨q, rfl, W2⟩
  have X2 := hide W2
  clear W2
  cases q
  · have HP := hide (pick_any b (m + 2) 5 w2 X2.out.cur (by omega) (by decide))
    go_wp2_with fail
    refine HP.out.mono ?_; rintro e w1 ⟨r, hr, rfl, W1⟩
    have X1 := hide (X2.out.trans W1)
    clear W1
    have hr5 : r < 5 := by omega
    go_wp2_with fail
    go_loopw [3, 4] (fun v i wr => ∃ j zs, j ≤ r + 2 ∧ i = .int .i64 ((r + 2 - j : Nat) : Int) ∧ zs.length = j ∧ Hid (within 0 11 zs = true) ∧ Hid (Own wr w.heap.size 3 v zs) ∧ Hid (Went b (m + 4 + 2 * j) w wr))
      (fun _ i _ => (intOf i).toNat)
    case atStart => exact ⟨0, [], Nat.zero_le _, by push_cast; exact congrArg (Value.int .i64) (by omega), rfl, hide rfl, hide (Own.nil _ _ _), X1⟩
    case round =>
      obtain ⟨j, zs, hj, rfl, hl, HZ, HO, HX⟩ := hrel
      by_cases hlt : j < r + 2
      · have hpos : (0 : Int) < ((r + 2 - j : Nat) : Int) := by omega
        have HPj := hide (pick_any b (m + 4 + 2 * j) 12 wr HX.out.cur (by omega) (by omega))
        have hbz := hide HX.out.below.size
        go_wp2_with fail
        refine HPj.out.mono ?_; rintro e w3 ⟨x, hx, rfl, W2⟩
        have X3 := hide (HX.out.trans W2)
        have O2 := hide (HO.out.went W2 hb.out)
        have hz2 := X3.out.below.size
        have hll : zs.length < 1000000 := by omega
        clear W2
        go_wp2_with (at_builtin; refine wpList_app_int rfl _ _ 24 3 rfl Try.underlying24 infoInt _ _ zs rfl O2.out _ _ rfl hz2 hll ?_; intro v' w' hown' hb'; have HO3 := hide hown'; have HX3 := hide (X3.out.app hb.out hb'); clear hown' hb')
        have e1 : ((r + 2 - j : Nat) : Int) - 1 = ((r + 2 - (j + 1) : Nat) : Int) := by omega
        go_roundw
        case rel =>
          refine ⟨j + 1, zs ++ [(x : Int)], by omega, by first | exact congrArg (Value.int .i64) e1 | go_num, by rw [List.length_append, hl]; rfl, hide ?_, HO3, hide ?_⟩
          · refine within_of fun k hk => ?_
            by_cases h2 : k < zs.length
            · rw [List.getElem_append_left h2]; exact within_get HZ.out k h2
            · rw [List.getElem_append_right (by omega)]; simp; omega
          · rw [show m + 4 + 2 * (j + 1) = m + 4 + 2 * j + 2 by omega]; exact HX3.out
        case measure => simp [intOf]; omega
      · have e0 : ((r + 2 - j : Nat) : Int) = 0 := by omega
        obtain ⟨A, c, rfl, _, _⟩ := HO.out.shape
        rw [e0]
        have HOo := hide HO.out
        have HZo := hide HZ.out
        go_wp2_with fail
        go_ret
        exact ⟨_, rfl, ⟨zs, A, c, rfl, ⟨by omega, within_of fun k hk => by have := within_get HZo.out k hk; omega⟩, HOo.out⟩, ⟨HX.out.cur.far (by omega), HX.out.below, HX.out.save⟩⟩
  · go_wp2_with fail
    have HW0 : ChoiceW b (m + 2) w.heap.size w w2.drew false := ⟨X2.out.cur.keep fun _ _ => rfl, X2.out.below.drew, X2.out.save, hb.out, X2.out.below.size⟩
    have hm : m + 2 ≤ 1000000 := by omega
    refine wp_region_any (by kernel_rfl) (wpAny_inv (I := fun listed a wr => ∃ (l0 l1 l2 l3 l4 l5 l6 l7 l8 l9 l10 l11 : Bool), ∃ (x1 x2 x3 x4 x5 x6 x7 x8 x9 x10 x11 x12 x13 x14 x15 x16 x17 x18 x19 x20 x21 x22 x23 x24 x25 x26 x27 x28 x29 x30 : Value), listed = #[l0, l1, l2, l3, l4, l5, l6, l7, l8, l9, l10, l11] ∧ a = ⟨#[.pointer (some ⟨b, 0, none⟩), x1, x2, x3, x4, x5, x6, x7, x8, x9, x10, x11, x12, x13, x14, x15, x16, x17, x18, x19, x20, x21, x22, x23, x24, x25, x26, x27, x28, x29, x30], []⟩ ∧ Hid (ChoiceW b (m + 2) w.heap.size w wr (l8)) ∧
        Hid (l0 = true → Nice wr w.heap.size x7) ∧ Hid (l1 = true → Nice wr w.heap.size x8) ∧ Hid (l2 = true → Nice wr w.heap.size x9) ∧ Hid (l3 = true → Nice wr w.heap.size x10) ∧ Hid (l4 = true → Nice wr w.heap.size x11) ∧ Hid (l5 = true → Nice wr w.heap.size x12) ∧ Hid (l6 = true → BigRow wr w.heap.size 7 x13) ∧ Hid (l7 = true → x14 = .pointer (some ⟨b, 0, none⟩)) ∧ Hid (l8 = true → ∃ r : Nat, r < 7 ∧ x15 = .int .i64 r) ∧ Hid (l9 = true → AtNice wr w.heap.size x16) ∧ Hid (l10 = true → Nice wr w.heap.size x17) ∧ Hid (l11 = true → Nice wr w.heap.size x2)) ?step ?stop _ _ _ _ (by decide) ?start)
    case start => exact ⟨false, false, false, false, false, false, false, false, false, false, false, false, _, _, _, _, _, _, _, _, _, _, _, _, _, _, _, _, _, _, _, _, _, _, _, _, _, _, _, _, _, _, rfl, rfl, hide HW0, hide (fun h => by cases h), hide (fun h => by cases h), hide (fun h => by cases h), hide (fun h => by cases h), hide (fun h => by cases h), hide (fun h => by cases h), hide (fun h => by cases h), hide (fun h => by cases h), hide (fun h => by cases h), hide (fun h => by cases h), hide (fun h => by cases h), hide (fun h => by cases h)⟩
    case stop =>
      rintro listed a wr ⟨l0, l1, l2, l3, l4, l5, l6, l7, l8, l9, l10, l11, x1, x2, x3, x4, x5, x6, x7, x8, x9, x10, x11, x12, x13, x14, x15, x16, x17, x18, x19, x20, x21, x22, x23, x24, x25, x26, x27, x28, x29, x30, rfl, rfl, HW, h0, h1, h2, h3, h4, h5, h6, h7, h8, h9, h10, h11⟩ hr
      have hall := ready_all (by rfl) (by kernel_rfl) hr
      have hl8 : l8 = true := hall 8 (by decide)
      have hl11 : l11 = true := hall 11 (by decide)
      have HN := h11.out hl11
      rw [hl8] at HW
      clear hall hr h0 h1 h2 h3 h4 h5 h6 h7 h8 h9 h10 h11
      go_wp2_with fail
      go_ret
      exact ⟨_, rfl, HN, ⟨HW.out.cur.far (by simp), HW.out.below, HW.out.save⟩⟩
    case step =>
      rintro listed a wr ⟨l0, l1, l2, l3, l4, l5, l6, l7, l8, l9, l10, l11, x1, x2, x3, x4, x5, x6, x7, x8, x9, x10, x11, x12, x13, x14, x15, x16, x17, x18, x19, x20, x21, x22, x23, x24, x25, x26, x27, x28, x29, x30, rfl, rfl, HW, h0, h1, h2, h3, h4, h5, h6, h7, h8, h9, h10, h11⟩ i hi hun ⟨o, ho, hdep⟩
      have hi' : i < 12 := hi
      rcases (show i = 0 ∨ i = 1 ∨ i = 2 ∨ i = 3 ∨ i = 4 ∨ i = 5 ∨ i = 6 ∨ i = 7 ∨ i = 8 ∨ i = 9 ∨ i = 10 ∨ i = 11 by omega) with rfl | rfl | rfl | rfl | rfl | rfl | rfl | rfl | rfl | rfl | rfl | rfl
      · refine wpOp_step rfl (fun K' hK => ?_)
        go_simp
        refine hK _ _ ?_
        exact ⟨true, l1, l2, l3, l4, l5, l6, l7, l8, l9, l10, l11, x1, x2, x3, x4, x5, x6, _, x8, x9, x10, x11, x12, x13, x14, x15, x16, x17, x18, x19, x20, x21, x22, x23, x24, x25, x26, x27, x28, x29, x30, rfl, rfl, hide (HW.out.alloc _), hide (fun _ => Nice.new wr w.heap.size [1] HW.out.hi ⟨by decide, by decide⟩), hide (fun h => (h1.out h).alloc _), hide (fun h => (h2.out h).alloc _), hide (fun h => (h3.out h).alloc _), hide (fun h => (h4.out h).alloc _), hide (fun h => (h5.out h).alloc _), hide (fun h => (h6.out h).alloc _), h7, h8, hide (fun h => (h9.out h).alloc _), hide (fun h => (h10.out h).alloc _), hide (fun h => (h11.out h).alloc _)⟩
      · refine wpOp_step rfl (fun K' hK => ?_)
        go_simp
        refine hK _ _ ?_
        exact ⟨l0, true, l2, l3, l4, l5, l6, l7, l8, l9, l10, l11, x1, x2, x3, x4, x5, x6, x7, _, x9, x10, x11, x12, x13, x14, x15, x16, x17, x18, x19, x20, x21, x22, x23, x24, x25, x26, x27, x28, x29, x30, rfl, rfl, hide (HW.out.alloc _), hide (fun h => (h0.out h).alloc _), hide (fun _ => Nice.new wr w.heap.size [-1,2] HW.out.hi ⟨by decide, by decide⟩), hide (fun h => (h2.out h).alloc _), hide (fun h => (h3.out h).alloc _), hide (fun h => (h4.out h).alloc _), hide (fun h => (h5.out h).alloc _), hide (fun h => (h6.out h).alloc _), h7, h8, hide (fun h => (h9.out h).alloc _), hide (fun h => (h10.out h).alloc _), hide (fun h => (h11.out h).alloc _)⟩
      · refine wpOp_step rfl (fun K' hK => ?_)
        go_simp
        refine hK _ _ ?_
        exact ⟨l0, l1, true, l3, l4, l5, l6, l7, l8, l9, l10, l11, x1, x2, x3, x4, x5, x6, x7, x8, _, x10, x11, x12, x13, x14, x15, x16, x17, x18, x19, x20, x21, x22, x23, x24, x25, x26, x27, x28, x29, x30, rfl, rfl, hide (HW.out.alloc _), hide (fun h => (h0.out h).alloc _), hide (fun h => (h1.out h).alloc _), hide (fun _ => Nice.new wr w.heap.size [0,1001] HW.out.hi ⟨by decide, by decide⟩), hide (fun h => (h3.out h).alloc _), hide (fun h => (h4.out h).alloc _), hide (fun h => (h5.out h).alloc _), hide (fun h => (h6.out h).alloc _), h7, h8, hide (fun h => (h9.out h).alloc _), hide (fun h => (h10.out h).alloc _), hide (fun h => (h11.out h).alloc _)⟩
      · refine wpOp_step rfl (fun K' hK => ?_)
        go_simp
        refine hK _ _ ?_
        exact ⟨l0, l1, l2, true, l4, l5, l6, l7, l8, l9, l10, l11, x1, x2, x3, x4, x5, x6, x7, x8, x9, _, x11, x12, x13, x14, x15, x16, x17, x18, x19, x20, x21, x22, x23, x24, x25, x26, x27, x28, x29, x30, rfl, rfl, hide (HW.out.alloc _), hide (fun h => (h0.out h).alloc _), hide (fun h => (h1.out h).alloc _), hide (fun h => (h2.out h).alloc _), hide (fun _ => Nice.new wr w.heap.size [1000,0,7] HW.out.hi ⟨by decide, by decide⟩), hide (fun h => (h4.out h).alloc _), hide (fun h => (h5.out h).alloc _), hide (fun h => (h6.out h).alloc _), h7, h8, hide (fun h => (h9.out h).alloc _), hide (fun h => (h10.out h).alloc _), hide (fun h => (h11.out h).alloc _)⟩
      · refine wpOp_step rfl (fun K' hK => ?_)
        have hmk := run_make_row' (P := Try.prog) 24 3 (.int .i64 0) 8 Try.underlying24 infoInt rfl .i64 .i64 11 (by omega) (by omega)
        go_simp
        refine hK _ _ ?_
        exact ⟨l0, l1, l2, l3, true, l5, l6, l7, l8, l9, l10, l11, x1, x2, x3, x4, x5, x6, x7, x8, x9, x10, _, x12, x13, x14, x15, x16, x17, x18, x19, x20, x21, x22, x23, x24, x25, x26, x27, x28, x29, x30, rfl, rfl, hide (HW.out.alloc _), hide (fun h => (h0.out h).alloc _), hide (fun h => (h1.out h).alloc _), hide (fun h => (h2.out h).alloc _), hide (fun h => (h3.out h).alloc _), hide (fun _ => Nice.zeros wr w.heap.size 11 HW.out.hi (by decide)), hide (fun h => (h5.out h).alloc _), hide (fun h => (h6.out h).alloc _), h7, h8, hide (fun h => (h9.out h).alloc _), hide (fun h => (h10.out h).alloc _), hide (fun h => (h11.out h).alloc _)⟩
      · refine wpOp_step rfl (fun K' hK => ?_)
        go_simp
        refine hK _ _ ?_
        exact ⟨l0, l1, l2, l3, l4, true, l6, l7, l8, l9, l10, l11, x1, x2, x3, x4, x5, x6, x7, x8, x9, x10, x11, _, x13, x14, x15, x16, x17, x18, x19, x20, x21, x22, x23, x24, x25, x26, x27, x28, x29, x30, rfl, rfl, hide (HW.out.alloc _), hide (fun h => (h0.out h).alloc _), hide (fun h => (h1.out h).alloc _), hide (fun h => (h2.out h).alloc _), hide (fun h => (h3.out h).alloc _), hide (fun h => (h4.out h).alloc _), hide (fun _ => Nice.new wr w.heap.size [0,1,1,2,4,7,13] HW.out.hi ⟨by decide, by decide⟩), hide (fun h => (h6.out h).alloc _), h7, h8, hide (fun h => (h9.out h).alloc _), hide (fun h => (h10.out h).alloc _), hide (fun h => (h11.out h).alloc _)⟩
      · have d0 : l0 = true := by first | exact hdep ⟨0, .data⟩ (by cases ho; simp) rfl | exact hdep ⟨0, .data⟩ (by have e := Option.some.inj ho; subst e; simp) rfl
        have d1 : l1 = true := by first | exact hdep ⟨1, .data⟩ (by cases ho; simp) rfl | exact hdep ⟨1, .data⟩ (by have e := Option.some.inj ho; subst e; simp) rfl
        have d2 : l2 = true := by first | exact hdep ⟨2, .data⟩ (by cases ho; simp) rfl | exact hdep ⟨2, .data⟩ (by have e := Option.some.inj ho; subst e; simp) rfl
        have d3 : l3 = true := by first | exact hdep ⟨3, .data⟩ (by cases ho; simp) rfl | exact hdep ⟨3, .data⟩ (by have e := Option.some.inj ho; subst e; simp) rfl
        have d4 : l4 = true := by first | exact hdep ⟨4, .data⟩ (by cases ho; simp) rfl | exact hdep ⟨4, .data⟩ (by have e := Option.some.inj ho; subst e; simp) rfl
        have d5 : l5 = true := by first | exact hdep ⟨5, .data⟩ (by cases ho; simp) rfl | exact hdep ⟨5, .data⟩ (by have e := Option.some.inj ho; subst e; simp) rfl
        obtain ⟨z0, A0, c0, rfl, n0, w0⟩ := h0.out d0
        obtain ⟨z1, A1, c1, rfl, n1, w1⟩ := h1.out d1
        obtain ⟨z2, A2, c2, rfl, n2, w2⟩ := h2.out d2
        obtain ⟨z3, A3, c3, rfl, n3, w3⟩ := h3.out d3
        obtain ⟨z4, A4, c4, rfl, n4, w4⟩ := h4.out d4
        obtain ⟨z5, A5, c5, rfl, n5, w5⟩ := h5.out d5
        refine wpOp_step rfl (fun K' hK => ?_)
        go_simp
        refine hK _ _ ?_
        have hbig := BigRow.new wr w.heap.size [.slice none 0 0, .slice A0 z0.length c0, .slice A1 z1.length c1, .slice A2 z2.length c2, .slice A3 z3.length c3, .slice A4 z4.length c4, .slice A5 z5.length c5] HW.out.hi (fun x hx => by
          simp only [List.mem_cons, List.not_mem_nil, or_false] at hx
          rcases hx with rfl | rfl | rfl | rfl | rfl | rfl | rfl
          · exact Nice.nil _ _
          · exact ⟨z0, A0, c0, rfl, n0, w0⟩
          · exact ⟨z1, A1, c1, rfl, n1, w1⟩
          · exact ⟨z2, A2, c2, rfl, n2, w2⟩
          · exact ⟨z3, A3, c3, rfl, n3, w3⟩
          · exact ⟨z4, A4, c4, rfl, n4, w4⟩
          · exact ⟨z5, A5, c5, rfl, n5, w5⟩
          )
        exact ⟨l0, l1, l2, l3, l4, l5, true, l7, l8, l9, l10, l11, x1, x2, x3, x4, x5, x6, .slice A0 z0.length c0, .slice A1 z1.length c1, .slice A2 z2.length c2, .slice A3 z3.length c3, .slice A4 z4.length c4, .slice A5 z5.length c5, _, x14, x15, x16, x17, x18, x19, x20, x21, x22, x23, x24, x25, x26, x27, x28, x29, x30, rfl, rfl, hide (HW.out.alloc _), hide (fun _ => Nice.alloc ⟨z0, A0, c0, rfl, n0, w0⟩ _), hide (fun _ => Nice.alloc ⟨z1, A1, c1, rfl, n1, w1⟩ _), hide (fun _ => Nice.alloc ⟨z2, A2, c2, rfl, n2, w2⟩ _), hide (fun _ => Nice.alloc ⟨z3, A3, c3, rfl, n3, w3⟩ _), hide (fun _ => Nice.alloc ⟨z4, A4, c4, rfl, n4, w4⟩ _), hide (fun _ => Nice.alloc ⟨z5, A5, c5, rfl, n5, w5⟩ _), hide (fun _ => hbig), h7, h8, hide (fun h => (h9.out h).alloc _), hide (fun h => (h10.out h).alloc _), hide (fun h => (h11.out h).alloc _)⟩
      · refine wpOp_step rfl (fun K' hK => ?_)
        go_simp
        refine hK _ _ ?_
        exact ⟨l0, l1, l2, l3, l4, l5, l6, true, l8, l9, l10, l11, x1, x2, x3, x4, x5, x6, x7, x8, x9, x10, x11, x12, x13, _, x15, x16, x17, x18, x19, x20, x21, x22, x23, x24, x25, x26, x27, x28, x29, x30, rfl, rfl, HW, h0, h1, h2, h3, h4, h5, h6, hide (fun _ => rfl), h8, h9, h10, h11⟩
      · have d7 : l7 = true := by first | exact hdep ⟨7, .data⟩ (by cases ho; simp) rfl | exact hdep ⟨7, .data⟩ (by have e := Option.some.inj ho; subst e; simp) rfl
        have hl : l8 = false := hun
        subst hl
        have e := h7.out d7
        subst e
        have hb := HW.out.lo
        have hcur : Cur wr b (m + 2) := HW.out.cur
        refine wpOp_step rfl (fun K' hK => ?_)
        go_simp
        refine (pick_any b (m + 2) 7 wr hcur hm (by decide)).mono ?_
        rintro e w1 ⟨r, hr, rfl, hwent⟩
        refine hK _ _ ?_
        exact ⟨l0, l1, l2, l3, l4, l5, l6, l7, true, l9, l10, l11, x1, x2, x3, x4, x5, x6, x7, x8, x9, x10, x11, x12, x13, .pointer (some ⟨b, 0, none⟩), _, x16, x17, x18, x19, x20, x21, x22, x23, x24, x25, x26, x27, x28, x29, x30, rfl, rfl, hide (HW.out.went hwent), hide (fun h => (h0.out h).went hwent.save hb), hide (fun h => (h1.out h).went hwent.save hb), hide (fun h => (h2.out h).went hwent.save hb), hide (fun h => (h3.out h).went hwent.save hb), hide (fun h => (h4.out h).went hwent.save hb), hide (fun h => (h5.out h).went hwent.save hb), hide (fun h => (h6.out h).went hwent.save hb), hide (fun _ => rfl), hide (fun _ => ⟨r, by omega, rfl⟩), hide (fun h => (h9.out h).went hwent.save hb hwent.below.size), hide (fun h => (h10.out h).went hwent.save hb), hide (fun h => (h11.out h).went hwent.save hb)⟩
      · have d6 : l6 = true := by first | exact hdep ⟨6, .data⟩ (by cases ho; simp) rfl | exact hdep ⟨6, .data⟩ (by have e := Option.some.inj ho; subst e; simp) rfl
        have d8 : l8 = true := by first | exact hdep ⟨8, .data⟩ (by cases ho; simp) rfl | exact hdep ⟨8, .data⟩ (by have e := Option.some.inj ho; subst e; simp) rfl
        obtain ⟨r, hr, e⟩ := h8.out d8
        subst e
        have hbr := h6.out d6
        obtain ⟨g, _, e, _⟩ := hbr
        subst e
        have hri : (r : Int) < 7 := by omega
        refine wpOp_step rfl (fun K' hK => ?_)
        go_simp
        refine hK _ _ ?_
        exact ⟨l0, l1, l2, l3, l4, l5, l6, l7, l8, true, l10, l11, x1, x2, x3, x4, x5, x6, x7, x8, x9, x10, x11, x12, .slice (some ⟨g, 0, none⟩) 7 7, x14, .int .i64 r, _, x17, x18, x19, x20, x21, x22, x23, x24, x25, x26, x27, x28, x29, x30, rfl, rfl, HW, h0, h1, h2, h3, h4, h5, h6, h7, hide (fun _ => ⟨r, hr, rfl⟩), hide (fun _ => (h6.out d6).at_ (by omega)), h10, h11⟩
      · have d9 : l9 = true := by first | exact hdep ⟨9, .data⟩ (by cases ho; simp) rfl | exact hdep ⟨9, .data⟩ (by have e := Option.some.inj ho; subst e; simp) rfl
        obtain ⟨p, x, e, hpb, hpl, hcell, z, A', c', e2, hn, ho'⟩ := h9.out d9
        subst e; subst e2
        refine wpOp_step rfl (fun K' hK => ?_)
        go_simp
        refine hK _ _ ?_
        exact ⟨l0, l1, l2, l3, l4, l5, l6, l7, l8, l9, true, l11, x1, x2, x3, x4, x5, x6, x7, x8, x9, x10, x11, x12, x13, x14, x15, .pointer (some p), _, x18, x19, x20, x21, x22, x23, x24, x25, x26, x27, x28, x29, x30, rfl, rfl, HW, h0, h1, h2, h3, h4, h5, h6, h7, h8, hide (fun _ => ⟨p, _, rfl, hpb, hpl, hcell, z, A', c', rfl, hn, ho'⟩), hide (fun _ => ⟨z, A', c', rfl, hn, ho'⟩), h11⟩
      · have d10 : l10 = true := by first | exact hdep ⟨10, .data⟩ (by cases ho; simp) rfl | exact hdep ⟨10, .data⟩ (by have e := Option.some.inj ho; subst e; simp) rfl
        refine wpOp_step rfl (fun K' hK => ?_)
        go_simp
        refine hK _ _ ?_
        exact ⟨l0, l1, l2, l3, l4, l5, l6, l7, l8, l9, l10, true, x1, _, x3, x4, x5, x6, x7, x8, x9, x10, x11, x12, x13, x14, x15, x16, x17, x18, x19, x20, x21, x22, x23, x24, x25, x26, x27, x28, x29, x30, rfl, rfl, HW, h0, h1, h2, h3, h4, h5, h6, h7, h8, h9, h10, hide (fun _ => h10.out d10)⟩
end Go.Proofs.Ytcbcgapnoompbaa

/-
  RINGS THAT ARE DRAWN: DrawRingsBefore, DrawLiftRing, DrawTurnRing.
-/
namespace Go.Proofs.Ytcbcgapnoompbaa
open Go.RowKit Go.Deep
set_option linter.unusedVariables false

/-- A list of its own and a number. -/
def DrewLI (lo hi : Int) (w : World) (e : Ending) (w' : World) : Prop := ∃ v x, e = .returned (.tuple #[v, .int .i64 x]) ∧ (lo ≤ x ∧ x ≤ hi) ∧ Nice w' w.heap.size v ∧ Below w.heap.size w w'
theorem Nice.low {w : World} {base base' : Nat} {v : Value} (h : Nice w base v) (hb : base' ≤ base) : Nice w base' v := by
  obtain ⟨zs, A, c, e, hn, ho⟩ := h
  exact ⟨zs, A, c, e, hn, ho.less hb⟩
theorem Own.fresh (w : World) (base : Nat) (zs : List Int) (hb : base ≤ w.heap.size) (hn : zs.length ≤ 1000) : Own (w.alloc (.cells (zs.map (Value.int .i64)).toArray 3)) base 3 (.slice (some ⟨w.heap.size, 0, none⟩) zs.length zs.length) zs := by
  have e : (w.alloc (.cells (zs.map (Value.int .i64)).toArray 3)).heap[w.heap.size]? = some (.cells (zs.map (Value.int .i64)).toArray 3 (0, 0)) := by
    show (w.heap.push _)[w.heap.size]? = _
    simp
  exact ⟨by simp, .inr ⟨w.heap.size, zs.length, _, rfl, hb, e, Nat.le_refl _, by unfold maxLen; omega, by simp, by rw [Nat.mul_one]; show (zs.map (Value.int .i64)).take zs.length = _; exact List.take_of_length_le (by simp)⟩⟩
theorem Went.fresh {b m : Nat} {w w' : World} (h : Went b m w w') (hb : b < w'.heap.size) (o : Obj) : Went b m w (w'.alloc o) :=
  ⟨h.cur.keep fun g hg => Below.heap_alloc _ _ _ (by omega), h.below.alloc (by omega) _, fun g hg hn => (Below.heap_alloc _ _ _ (by have := h.below.size; omega)).trans (h.save g hg hn)⟩
/-- A ring that a cursor of one's own draws: the list lies behind the cursor. -/
def DrawnBy (b : Nat) (w : World) (zs : List Int) (A : Option Addr) (c : Nat) (w1 : World) : Prop := NiceL zs ∧ Own w1 (b + 1) 3 (.slice A zs.length c) zs ∧ Went b 30 w w1 ∧ b < w1.heap.size
theorem DrawRingsBefore_any (A : Option Addr) (n c : Nat) (w : World) (h : Bys w w.heap.size A n) (hn : n ≤ 1048576) :
    Calls Try.prog 5 #[.slice A n c] w (DrewL w) := by
  have HC := hide (Cur.new w A n c h hn)
  have HB := hide (show Below w.heap.size w (w.alloc (.cells #[.slice A n c, .int .i64 0, .int .u64 0] 45)) from (Below.refl _ _).alloc (Nat.le_refl _) _)
  have HH := hide (ring_any w.heap.size 0 _ HC.out (by omega))
  go_enter Try.func5, Try.ntmps5
  go_wp2_with fail
  refine HH.out.mono ?_; rintro e w1 ⟨v, rfl, hv, hw⟩
  obtain ⟨zs, A', c', rfl, hn', ho⟩ := hv
  have HN := hide hn'
  have HO := hide (show Own w1 (w.heap.size + 1) 3 (.slice A' zs.length c') zs from ho.less (by simp))
  have X1 := hide hw
  have hz20 := hn'.1
  have hlt : w.heap.size + 1 ≤ w1.heap.size := by have := hw.below.size; simpa using this
  clear hw ho hn'
  have HI := hide HO.out.ints
  go_wp2_with fail
  refine (riGood_any A' zs.length c' w1.heap.size zs w1 HI.out (by omega)).mono ?_; rintro e _ ⟨rfl, rfl⟩
  cases hg : rgood zs
  · have HB2 := hide (HB.out.trans X1.out.below)
    go_wp2_with fail
    go_ret
    exact ⟨_, rfl, ⟨zs, A', c', rfl, HN.out, HO.out.less (by omega)⟩, HB2.out⟩
  · go_wp2_with fail
    refine (one_any w.heap.size (0 + 30) 3 w1 X1.out.cur (by omega) (by omega)).mono ?_; rintro e w2 ⟨q, rfl, W2⟩
    have HB2 := hide (HB.out.trans (X1.out.trans W2).below)
    have HO2 := hide (HO.out.went W2 (by omega))
    have hz2 := W2.below.size
    clear W2
    cases q
    · have hgr : 0 < zs.length ∧ within 0 1000 zs = true := by unfold rgood at hg; simp at hg; exact ⟨by omega, hg.2⟩
      have HI2 := hide HO2.out.ints
      go_wp2_with fail
      refine (riStep_any A' zs.length c' w2.heap.size zs w2 HI2.out (Nat.le_refl _) hgr.1 (by omega) hgr.2).mono ?_
      rintro e w3 ⟨g3, c3, rfl, _, _, _, _, hO3, hb3⟩
      have HB3 := hide (HB2.out.trans (hb3.mono (by omega)))
      have HO3 := hide hO3
      clear hO3 hb3
      have hl := rstep_length zs
      go_wp2_with fail
      go_ret
      exact ⟨_, rfl, ⟨rstep zs, _, c3, congrArg (fun k => Value.slice (some ⟨g3, 0, none⟩) k c3) hl.symm, ⟨by omega, within_wide (rstep_within hgr.2) (by omega) (by omega)⟩, HO3.out.less (by omega)⟩, HB3.out⟩
    · go_wp2_with fail
      go_ret
      exact ⟨_, rfl, ⟨zs, A', c', rfl, HN.out, HO2.out.less (by omega)⟩, HB2.out⟩
theorem DrawLiftRing_any (A : Option Addr) (n c : Nat) (w : World) (h : Bys w w.heap.size A n) (hn : n ≤ 1048576) :
    Calls Try.prog 24 #[.slice A n c] w (DrewLI (-1) 1001 w) := by
  have HC := hide (Cur.new w A n c h hn)
  have HB := hide (show Below w.heap.size w (w.alloc (.cells #[.slice A n c, .int .i64 0, .int .u64 0] 45)) from (Below.refl _ _).alloc (Nat.le_refl _) _)
  have HH := hide (ring_any w.heap.size 0 _ HC.out (by omega))
  go_enter Try.func24, Try.ntmps24
  go_wp2_with fail
  refine HH.out.mono ?_; rintro e w1 ⟨v, rfl, hv, hw⟩
  obtain ⟨zs, A', c', rfl, hn', ho⟩ := hv
  have HN := hide hn'
  have HO := hide (show Own w1 (w.heap.size + 1) 3 (.slice A' zs.length c') zs from ho.less (by simp))
  have X1 := hide hw
  have hz20 := hn'.1
  have hlt : w.heap.size + 1 ≤ w1.heap.size := by have := hw.below.size; simpa using this
  clear hw ho hn'
  have HZ := hide (Own.fresh w1 (w.heap.size + 1) [0, 1, 2, 5, 1000, 1001, -1] hlt (by decide))
  have X2 := hide (X1.out.fresh (by omega) (.cells #[.int .i64 0, .int .i64 1, .int .i64 2, .int .i64 5, .int .i64 1000, .int .i64 1001, .int .i64 (-1)] 3))
  have HO2 := hide (HO.out.keep (w' := w1.alloc (.cells #[.int .i64 0, .int .i64 1, .int .i64 2, .int .i64 5, .int .i64 1000, .int .i64 1001, .int .i64 (-1)] 3)) fun g _ hg => Below.heap_alloc _ _ _ hg)
  have HM := hide (among_any w.heap.size (0 + 30) (w.heap.size + 1) 7 (some ⟨w1.heap.size, 0, none⟩) [0, 1, 2, 5, 1000, 1001, -1] _ X2.out.cur (by omega) (by omega) HZ.out (by decide) (by decide))
  go_wp2_with fail
  refine HM.out.mono ?_; rintro e w3 ⟨r, hr, rfl, W3⟩
  have HB3 := hide (HB.out.trans (X2.out.trans W3).below)
  have HO3 := hide (HO2.out.went W3 (by omega))
  clear W3
  have hx : Hid (-1 ≤ [(0 : Int), 1, 2, 5, 1000, 1001, -1].getD r 0 ∧ [(0 : Int), 1, 2, 5, 1000, 1001, -1].getD r 0 ≤ 1001) := hide (by
    have : ∀ r : Fin 7, -1 ≤ [(0 : Int), 1, 2, 5, 1000, 1001, -1].getD r.val 0 ∧ [(0 : Int), 1, 2, 5, 1000, 1001, -1].getD r.val 0 ≤ 1001 := by decide
    exact this ⟨r, hr⟩)
  generalize [(0 : Int), 1, 2, 5, 1000, 1001, -1].getD r 0 = x at *
  go_wp2_with fail
  go_ret2
  exact ⟨_, x, rfl, hx.out, ⟨zs, A', c', rfl, HN.out, HO3.out.less (by omega)⟩, HB3.out⟩
theorem DrawTurnRing_any (A : Option Addr) (n c : Nat) (w : World) (h : Bys w w.heap.size A n) (hn : n ≤ 1048576) :
    Calls Try.prog 29 #[.slice A n c] w (DrewLI (-1) 20 w) := by
  have HC := hide (Cur.new w A n c h hn)
  have HB := hide (show Below w.heap.size w (w.alloc (.cells #[.slice A n c, .int .i64 0, .int .u64 0] 45)) from (Below.refl _ _).alloc (Nat.le_refl _) _)
  have HH := hide (ring_any w.heap.size 0 _ HC.out (by omega))
  go_enter Try.func29, Try.ntmps29
  go_wp2_with fail
  refine HH.out.mono ?_; rintro e w1 ⟨v, rfl, hv, hw⟩
  obtain ⟨zs, A', c', rfl, hn', ho⟩ := hv
  have HN := hide hn'
  have HO := hide (show Own w1 (w.heap.size + 1) 3 (.slice A' zs.length c') zs from ho.less (by simp))
  have X1 := hide hw
  have hz20 := hn'.1
  have hlt : w.heap.size + 1 ≤ w1.heap.size := by have := hw.below.size; simpa using this
  clear hw ho hn'
  go_wp2_with fail
  refine (pick_any w.heap.size (0 + 30) ((zs.length : Int) + 2) w1 X1.out.cur (by omega) (by omega)).mono ?_; rintro e w2 ⟨r, hr, rfl, W2⟩
  have HB2 := hide (HB.out.trans (X1.out.trans W2).below)
  have HO2 := hide (HO.out.went W2 (by omega))
  clear W2
  go_wp2_with fail
  go_ret2
  exact ⟨_, (r : Int) - 1, rfl, by omega, ⟨zs, A', c', rfl, HN.out, HO2.out.less (by omega)⟩, HB2.out⟩
end Go.Proofs.Ytcbcgapnoompbaa
