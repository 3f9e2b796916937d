
/-
  CLUES CUT AND JOINED, THE PROGRAM's WAY: cut, slices.Grow and Concat of lists of clues, without.
-/
import Derived.Test.YtpgjhmgmfajelaaPzW
import Derived.Test.YtpgjhmgmfajelaaBox
import Derived.Laws.ResultCell
import Derived.Lib.AppendZeros
namespace Go.Proofs.Ytpgjhmgmfajelaa
open Go.RowKit Go.Deep
set_option linter.unusedVariables false

theorem pair_boxes (w : World) (v0 v1 : Value) (z0 z1 : Value) (T U : TypeId) :
    Bx ((w.alloc (.cells #[v0, v1] T)).alloc (.cells #[z0, z1] U)) w.heap.size T v0 v1 ∧ Bx ((w.alloc (.cells #[v0, v1] T)).alloc (.cells #[z0, z1] U)) (w.heap.size + 1) U z0 z1 ∧
    Below w.heap.size w ((w.alloc (.cells #[v0, v1] T)).alloc (.cells #[z0, z1] U)) ∧ ((w.alloc (.cells #[v0, v1] T)).alloc (.cells #[z0, z1] U)).heap.size = w.heap.size + 2 := by
  have l3 : ∀ (w : World) (o : Obj), (w.alloc o).heap.size = w.heap.size + 1 := fun w o => by simp
  have q1 := Bx.new (w.alloc (.cells #[v0, v1] T)) U z0 z1
  rw [l3] at q1
  exact ⟨(Bx.new _ _ _ _).alloc _, q1, ((Below.refl _ _).alloc (Nat.le_refl _) _).alloc (by simp) _, by rw [l3, l3]⟩

theorem alloc_at (w : World) (cs : Array Value) (T : TypeId) : (w.alloc (.cells cs T)).heap[w.heap.size]? = some (.cells cs T (0, 0)) := by
  show (w.heap.push _)[w.heap.size]? = _
  simp

set_option maxRecDepth 100000 in
theorem cut_any (A A' : Option Addr) (n c : Nat) (h : Int) (l k : Nat) (w : World) (hlk : l ≤ k) (hkc : k ≤ c) (e1 : sliced A l k k 4 = .slice A' (k - l) (k - l)) :
    Calls Try.prog 51 #[.agg #[.int .i64 h, .slice A n c], .int .i64 (l : Int), .int .i64 (k : Int)] w fun e w' => e = .returned (.agg #[.int .i64 h, .slice A' (k - l) (k - l)]) ∧ Below w.heap.size w w' := by
  have hs1 : ∀ W, (Instr.sliceAt 38 (.slice A n c) (some (.int .i64 (l : Int))) (some (.int .i64 (k : Int))) (some (.int .i64 (k : Int)))).run Try.prog W = .ok (.slice A' (k - l) (k - l)) W := fun W => by rw [run_cut_lhm A n c W l k hlk hkc, e1]
  go_enter Try.func51, Try.ntmps51
  go_wp2_with fail
  exact bodyPost_ret (v := .agg #[.int .i64 h, .slice A' (k - l) (k - l)]) (by simp [results, Try.results51, go_sem]) rfl ⟨rfl, ((Below.refl _ _).alloc (Nat.le_refl _) _).alloc (by simp) _⟩

set_option maxRecDepth 100000 in
/-- WHAT slices.Grow LEAVES OF A NIL LIST: nil where nothing is asked, else an empty list with room. -/
theorem Grow_zero (w : World) :
    Calls Try.prog 83 #[.slice none 0 0, .int .i64 0] w fun e w' => e = .returned (.slice none 0 0) ∧ Below w.heap.size w w' := by
  go_enter Try.func83, Try.ntmps83
  go_wp2_with fail
  go_ret
  exact ⟨rfl, Below.refl _ _⟩

set_option maxRecDepth 100000 in
theorem Grow_some (m : Nat) (w : World) (h0 : 0 < m) (hm : m ≤ 100000) :
    Calls Try.prog 83 #[.slice none 0 0, .int .i64 (m : Int)] w fun e w' =>
      ∃ v, e = .returned v ∧ OwnICl w' w.heap.size v 0 (numsCl []) ∧ Below w.heap.size w w' := by
  obtain ⟨i0, hi, hz0, hz1, hz2⟩ := info_parts infoCl
  have hr := fun W ty => Lib.run_append_nil_zeros (P := Try.prog) W 38 3 ty 27 i0 _ .i64 .i64 Try.underlying38 Try.underlying3 hi hz0 m h0 (by omega) (by omega) (by rw [hz2]; omega)
  have hge := fun W => grownCap_ge W m 0 27
  have hle := fun W => grownCap_le_maxLen W m 0 27 (by unfold maxLen; omega)
  have hs : ∀ (C : Nat) W, (Instr.sliceAt 38 (.slice (some ⟨w.heap.size, 0, none⟩) m C) none (some (.int .i64 0)) none).run Try.prog W = .ok (.slice (some ⟨w.heap.size, 0, none⟩) 0 C) W := fun C W => by
    have := run_cut_h (some ⟨w.heap.size, 0, none⟩) m C W 0 (Nat.zero_le _)
    simpa [sliced, Addr.add] using this
  go_enter Try.func83, Try.ntmps83
  go_wp2_with (at_builtin; refine Lib.wpList_append_run _ rfl _ _ _ _ rfl _ _ rfl rfl _ _ (hr _ _) ?_)
  go_ret
  refine ⟨_, rfl, ⟨⟨rfl, .inr ⟨w.heap.size, _, _, rfl, Nat.le_refl _, (alloc_at w _ _), Nat.zero_le _, hle w, ?_, rfl⟩⟩, rfl⟩, ((Below.refl _ _).alloc (Nat.le_refl _) _).drew⟩
  have := hge w
  rw [Array.size_append, size_zeroCells, size_zeroCells]
  show m * 4 + _ * 4 = _
  omega

def catK (xs ys : List Cl) (k : Nat) : List Cl := if k = 0 then [] else if k = 1 then xs else xs ++ ys
theorem catK0 (xs ys : List Cl) : catK xs ys 0 = [] := rfl
theorem catK1 (xs ys : List Cl) : catK xs ys 1 = xs := rfl
theorem catK2 (xs ys : List Cl) : catK xs ys 2 = xs ++ ys := rfl

set_option maxHeartbeats 4000000 in
set_option maxRecDepth 100000 in
/-- slices.Concat of two lists of clues, not both of no clue. -/
theorem Concat_any (g : Nat) (T : TypeId) (A1 A2 : Option Addr) (n1 c1 n2 c2 B : Nat) (xs ys : List Cl) (w : World) (hX : Bx w g T (.slice A1 n1 c1) (.slice A2 n2 c2)) (h1 : Cls w B A1 n1 xs) (h2 : Cls w B A2 n2 ys) (hB : B ≤ w.heap.size)
    (hA1 : A1 ≠ none) (hA2 : A2 ≠ none) (hn1 : n1 ≤ 10000) (hn2 : n2 ≤ 10000) :
    Calls Try.prog 70 #[.slice (some ⟨g, 0, none⟩) 2 2] w (MadeCl (xs ++ ys) w) := by
  obtain rfl := h1.len
  obtain rfl := h2.len
  have HX := hide hX
  have H1 := hide h1
  have H2 := hide h2
  have HA1 := hide hA1
  have HA2 := hide hA2
  clear hX h1 h2 hA1 hA2
  have HG : Hid (∀ W, Calls Try.prog 83 #[.slice none 0 0, .int .i64 ((xs.length + ys.length : Nat) : Int)] W fun e w' =>
      ∃ v, e = .returned v ∧ OwnICl w' W.heap.size v 0 (numsCl []) ∧ Below W.heap.size W w') := hide fun W => by
    by_cases h0 : xs.length + ys.length = 0
    · rw [h0]
      exact (Grow_zero W).mono fun e w' h => ⟨_, h.1, OwnICl.nil _ _, h.2⟩
    · exact Grow_some (xs.length + ys.length) W (by omega) (by omega)
  go_enter Try.func70, Try.ntmps70
  go_wp2_with fail
  go_loop [3, 11] (fun s i => ∃ k : Nat, k ≤ 2 ∧ i = .int .i64 k ∧ s = .int .i64 ((catK xs ys k).length : Int))
    (fun _ i => 2 - (intOf i).toNat)
  case atStart => exact ⟨0, by omega, rfl, rfl⟩
  case round =>
    obtain ⟨k, hk, rfl, rfl⟩ := hrel
    have x0 := HX.out.c0
    have x1 := HX.out.c1
    obtain rfl | rfl | rfl : k = 0 ∨ k = 1 ∨ k = 2 := by omega
    · have hc0 : ((catK xs ys 0).length : Int) = 0 := rfl
      rw [hc0]
      go_wp2_with fail
      go_round
      case rel => exact ⟨1, by omega, by go_num, by first | (rw [catK1]; done) | (rw [catK1]; go_num)⟩
      case measure => simp [intOf]
    · have hc1 : (catK xs ys 1).length = xs.length := rfl
      rw [hc1]
      go_wp2_with fail
      go_round
      case rel => exact ⟨2, by omega, by go_num, by first | (rw [catK2, List.length_append]; done) | (rw [catK2, List.length_append]; go_num)⟩
      case measure => simp [intOf]
    · have hc2 : (catK xs ys 2).length = xs.length + ys.length := by rw [catK2, List.length_append]
      rw [hc2]
      clear x0 x1
      have HC2 := hide hc2
      clear hc2
      generalize xs.length + ys.length = m at *
      go_wp2_with fail
      refine (HG.out _).mono ?_; rintro e w1 ⟨v, rfl, hown, hb1⟩
      have O1 := hide hown
      have HB1 := hide hb1
      clear hown hb1
      go_wp2_with fail
      go_loopw [6, 27] (fun s i wr => ∃ k : Nat, k ≤ 2 ∧ i = .int .i64 k ∧ Hid (OwnICl wr w.heap.size s (catK xs ys k).length (numsCl (catK xs ys k))) ∧ Hid (Below w.heap.size w wr))
        (fun _ i _ => 2 - (intOf i).toNat)
      case atStart => exact ⟨0, by omega, rfl, O1, HB1⟩
      case round =>
        obtain ⟨k, hk, rfl, HO, HB⟩ := hrel
        obtain rfl | rfl | rfl : k = 0 ∨ k = 1 ∨ k = 2 := by omega
        · have x0 := (HX.out.next HB.out).c0
          go_wp2_with (at_builtin; refine wpList_app_Cls rfl _ _ 38 rfl Try.underlying38 w.heap.size _ (catK xs ys 0) rfl HO.out A1 xs.length c1 B xs rfl HA1.out ((H1.out).below HB.out hB) HB.out.size (by rw [catK0]; simp; omega) ?_; intro v' w' hown' hb'; have HO2 := hide hown'; have HB2 := hide (HB.out.trans hb'); clear hown' hb')
          go_roundw
          case rel => exact ⟨1, by omega, by go_num, HO2, HB2⟩
          case measure => simp [intOf]
        · have x1 := (HX.out.next HB.out).c1
          go_wp2_with (at_builtin; refine wpList_app_Cls rfl _ _ 38 rfl Try.underlying38 w.heap.size _ (catK xs ys 1) rfl HO.out A2 ys.length c2 B ys rfl HA2.out ((H2.out).below HB.out hB) HB.out.size (by rw [catK1]; omega) ?_; intro v' w' hown' hb'; have HO2 := hide hown'; have HB2 := hide (HB.out.trans hb'); clear hown' hb')
          go_roundw
          case rel => exact ⟨2, by omega, by go_num, HO2, HB2⟩
          case measure => simp [intOf]
        · go_wp2_with fail
          go_ret
          exact madeCl_of HO.out HB.out

/-- WHAT A PUZZLE WITHOUT A BOOL, MADE BY THE CALL, IS. -/
def MadePz (ds : List Cl) (h : Int) (w : World) (e : Ending) (w' : World) : Prop :=
  ∃ A c, e = .returned (.agg #[.int .i64 h, .slice A ds.length c]) ∧ ds.length ≤ c ∧ c ≤ maxLen ∧ OwnICl w' w.heap.size (.slice A ds.length c) ds.length (numsCl ds) ∧ Below w.heap.size w w'

set_option maxHeartbeats 8000000 in
set_option maxRecDepth 100000 in
/-- The program's without. -/
theorem without_any (A : Option Addr) (n c B : Nat) (cs : List Cl) (h : Int) (k : Nat) (w : World) (hr : Cls w B A n cs) (hB : B ≤ w.heap.size) (hn : n ≤ 10000) (hc : n ≤ c) (hk : k < n) :
    Calls Try.prog 49 #[.agg #[.int .i64 h, .slice A n c], .int .i64 (k : Int)] w (MadePz (withoutL cs k) h w) := by
  obtain rfl := hr.len
  have hA : A ≠ none := by obtain ⟨b, off, e, _⟩ := hr.2 (by omega); rw [e]; simp
  obtain ⟨A1, e1, h1, g1⟩ := hr.cutAt 0 k k (Nat.zero_le _) (by omega) (by omega)
  obtain ⟨A2, e2, h2, g2⟩ := hr.cutAt (k + 1) cs.length cs.length (by omega) (Nat.le_refl _) (Nat.le_refl _)
  simp only [Nat.sub_zero, List.drop_zero] at e1 h1
  rw [List.take_of_length_le (by rw [List.length_drop]; omega)] at h2
  have HC1 := hide (fun W => cut_any A A1 cs.length c h 0 k W (Nat.zero_le _) (by omega) (by rw [Nat.sub_zero]; exact e1))
  have HC2 := hide (fun W => cut_any A A2 cs.length c h (k + 1) cs.length W (by omega) hc e2)
  rw [show ((0 : Nat) : Int) = 0 from rfl, Nat.sub_zero] at HC1
  rw [show ((k + 1 : Nat) : Int) = (k : Int) + 1 from by omega] at HC2
  have hwr : IntKind.i64.wrap ((k : Int) + 1) = (k : Int) + 1 := wrap_ok (by omega) (by omega)
  have H1 := hide h1
  have H2 := hide h2
  have HA1 := hide (g1 hA)
  have HA2 := hide (g2 hA)
  have HCC := hide (fun W g (h1 : Cls W B A1 k (cs.take k)) (h2 : Cls W B A2 (cs.length - (k + 1)) (cs.drop (k + 1))) (hW : B ≤ W.heap.size) (hx : Bx W g 38 (.slice A1 k k) (.slice A2 (cs.length - (k + 1)) (cs.length - (k + 1)))) =>
    (show Calls Try.prog 70 #[.slice (some ⟨g, 0, none⟩) 2 2] W (MadeCl (withoutL cs k) W) from
      Concat_any g 38 A1 A2 k k (cs.length - (k + 1)) (cs.length - (k + 1)) B (cs.take k) (cs.drop (k + 1)) W hx h1 h2 hW HA1.out HA2.out (by omega) (by omega)))
  obtain ⟨X0, X1, kb, ks⟩ := pair_boxes w (.int .i64 h) (.slice A cs.length c) (.int .i64 0) (.slice none 0 0) 40 40
  clear e1 e2 h1 h2 g1 g2 hr hA
  have x0 := X0.c0
  have x1 := X0.c1
  have f1 := X0.f 1
  have hz1 : cs.length - (k + 1) ≤ 10000 := by omega
  have hfd : ∀ (x y : Value) W, (Instr.field 40 (.agg #[x, y]) 1).run Try.prog W = .ok y W := fun _ _ _ => by kernel_rfl
  go_enter Try.func49, Try.ntmps49
  go_wp2_with fail
  generalize hW0 : ((w.alloc (.cells #[.int .i64 h, .slice A cs.length c] 40)).alloc (.cells #[.int .i64 0, .slice none 0 0] 40)) = W0 at *
  clear hW0
  have HX0 := hide X0
  have HX1 := hide X1
  have HKB := hide kb
  have HKS := hide ks
  clear X0 X1 kb ks
  generalize cs.length - (k + 1) = m at *
  go_region_law (first
    | (go_simp; go_at_call 51; (with_reducible refine (HC1.out _).mono ?_); rintro e w2 ⟨rfl, hb2⟩; have FB2 := hide (show Below W0.heap.size W0 w2 from (Below.refl _ _).drew.trans hb2); have q0 := (HX0.out.next FB2.out).c0; have q1 := (HX0.out.next FB2.out).c1; clear hb2; go_wp2_with fail)
    | (go_simp; go_at_call 51; (with_reducible refine (HC2.out _).mono ?_); rintro e w3 ⟨rfl, hb3⟩; have FB3 := hide (FB2.out.trans (hb3.mono FB2.out.size)); clear hb3; go_wp2_with fail)
    | (go_simp; go_at_call 70; (with_reducible refine (HCC.out _ _ ?_ ?_ ?_ ?_).mono ?_); (exact (H1.out.below HKB.out hB).below (FB3.out.alloc FB3.out.size _) (by have := HKS.out; omega)); (exact (H2.out.below HKB.out hB).below (FB3.out.alloc FB3.out.size _) (by have := HKS.out; omega)); (have := HKS.out; have := FB3.out.size; simp; omega); (exact Bx.new w3 _ _ _); rintro e w4 ⟨A', c', rfl, hc1, hc2, hown, hb4⟩; have FB4 := hide ((FB3.out.alloc FB3.out.size _).trans (hb4.mono (by have := FB3.out.size; simp; omega))); have q2 := (HX0.out.next FB4.out).c1; have q3 := (HX0.out.next FB4.out).f 1; go_wp2_with fail))
  all_goals
    have hs3 : W0.heap.size ≤ w3.heap.size := FB3.out.size
    have hs0 := HKS.out
    generalize hvv : (withoutL cs k).length = L at *
    have HV := hide hvv
    clear hvv
    have Y0 := (HX0.out.next FB4.out).set1 (.slice A' L c')
    have Y1 := (HX1.out.next FB4.out).setOther (a := ⟨w.heap.size, 1, none⟩) (by simp) (.slice A' L c')
    have FO := hide ((hown.keep (w' := w4.setCell ⟨w.heap.size, 1, none⟩ (.slice A' L c')) fun g hg _ => Below.heap_setCell _ _ _ _ (by simp at hg ⊢; omega)).keep (w' := (w4.setCell ⟨w.heap.size, 1, none⟩ (.slice A' L c')).setCell ⟨w.heap.size + 1, 0, none⟩ (.int .i64 h)) fun g hg _ => Below.heap_setCell _ _ _ _ (by simp at hg ⊢; omega))
    have FO2 := hide ((FO.out.keep (w' := ((w4.setCell ⟨w.heap.size, 1, none⟩ (.slice A' L c')).setCell ⟨w.heap.size + 1, 0, none⟩ (.int .i64 h)).setCell ⟨w.heap.size + 1, 1, none⟩ (.slice A' L c')) fun g hg _ => Below.heap_setCell _ _ _ _ (by simp at hg ⊢; omega)).less (base' := w.heap.size) (by simp; omega))
    have FB := hide (((((HKB.out.trans (FB4.out.mono HKB.out.size)).setCell (p := ⟨w.heap.size, 1, none⟩) (Nat.le_refl _) (.slice A' L c')).setCell (p := ⟨w.heap.size + 1, 0, none⟩) (by simp) (.int .i64 h)).setCell (p := ⟨w.heap.size + 1, 1, none⟩) (by simp) (.slice A' L c')))
    clear FO hown hb4 hs3 hs0 q0 q1 q2 q3
    generalize w4.setCell ⟨w.heap.size, 1, none⟩ (.slice A' L c') = W5 at *
    have y0 := Y0.c0
    have y1 := Y0.c1
    have z0 := Y1.c0
    have g0 := Y1.f 0
    have Z1 := Y1.set0 (.int .i64 h)
    have z1 := Z1.c1
    have g1 := Z1.f 1
    have Z2 := Z1.set1 (.slice A' L c')
    have r0 := Z2.c0
    have r1 := Z2.c1
    clear Y0 Y1 Z1 Z2 FB2 FB3 FB4 HX0 HX1 HC1 HC2 HCC
    go_wp2_with fail
    exact bodyPost_ret (v := .agg #[.int .i64 h, (.slice A' L c')]) (by simp [results, Try.results49, go_sem, r0, r1]) rfl ⟨A', c', by rw [HV.out], by rw [HV.out]; exact hc1, hc2, by rw [HV.out]; exact FO2.out, FB.out⟩
end Go.Proofs.Ytpgjhmgmfajelaa
