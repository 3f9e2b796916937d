
/-
  A MIX OF TWO CUPS, THE PROGRAM's WAY: MixTwo.
-/
import Derived.Test.YtbfolodadejcoaaDoorCuZ
namespace Go.Proofs.YtbfolodadejcoaaDoor
open Go.RowKit Go.Deep
set_option linter.unusedVariables false

theorem mix_two_ints (w : World) (x y : Int) (t : TypeId) : Ints (w.alloc (.cells #[.int .i64 x, .int .i64 y] t)) (w.heap.size + 1) (some ⟨w.heap.size, 0, none⟩) 2 [x, y] :=
  ⟨rfl, fun _ => ⟨_, rfl, Nat.lt_succ_self _, fun k hk => by
    match k, hk with
    | 0, _ => simp [Addr.add]
    | 1, _ => simp [Addr.add]⟩⟩
theorem mix_one_val (w : World) (v : Value) (t : TypeId) : Vals (w.alloc (.cells #[v] t)) (w.heap.size + 1) (some ⟨w.heap.size, 0, none⟩) 1 [v] :=
  ⟨rfl, fun _ => ⟨_, rfl, Nat.lt_succ_self _, fun k hk => by
    obtain rfl : k = 0 := by omega
    simp [Addr.add]⟩⟩

theorem pmL_len (zs : List Int) (u : Int) (ms : List (List Int)) : (pmL zs u ms).length ≤ 1048576 := by
  cases h : pmOk zs u ms
  · rw [(pm_no h).1]; exact Nat.zero_le _
  · unfold pmOk at h
    rw [Bool.and_eq_true] at h
    have ha := h.1
    unfold pmAsk at h
    obtain ⟨h1, h2⟩ := h
    rw [Bool.and_eq_true] at h1
    have hu := isU_bd (cuOk_of h1.1).2.2.1
    have h6 := (cuOk_of h1.1).2.1
    obtain ⟨x, rfl⟩ := Int.eq_ofNat_of_zero_le (show 0 ≤ u by omega)
    rw [Int.toNat_natCast] at h2
    obtain ⟨⟨ys, v⟩, hp⟩ := Option.isSome_iff_exists.1 h2
    rw [(pm_yes ha hp).2.1, (pmix_ok h1.1 hp).2]
    omega

set_option maxHeartbeats 4000000 in
set_option maxRecDepth 100000 in
theorem MixTwo_any (A : Option Addr) (n c B : Nat) (zs : List Int) (u a b : Int) (w : World) (hr : Ints w B A n zs) (hB : B ≤ w.heap.size) (hn : n ≤ 17592186044416) (hT : Tab w) :
    Calls Tryd.prog 8 #[.agg #[.slice A n c, .int .i64 u], .int .i64 a, .int .i64 b] w (MadeCB (pmL zs u (mm a b)) (pmU zs u (mm a b)) (pmOk zs u (mm a b)) w) := by
  obtain rfl := hr.len
  obtain ⟨X0, X1, kb, ks⟩ := two_boxes w (.slice A zs.length c) (.int .i64 u) (.slice none 0 0) (.int .i64 0) 26 26
  have k0 := X0.c0
  have k1 := X0.c1
  have HF := hide (fun (x y : Int) => show
      Bx (((((w.alloc (.cells #[.slice A zs.length c, .int .i64 u] 26)).alloc (.cells #[.slice none 0 0, .int .i64 0] 26))).alloc (.cells #[.int .i64 x, .int .i64 y] 3)).alloc (.cells #[.slice (some ⟨w.heap.size + 1 + 1, 0, none⟩) 2 2] 22)) (w.heap.size + 1) 26 (.slice none 0 0) (.int .i64 0) ∧ Below w.heap.size w (((((w.alloc (.cells #[.slice A zs.length c, .int .i64 u] 26)).alloc (.cells #[.slice none 0 0, .int .i64 0] 26))).alloc (.cells #[.int .i64 x, .int .i64 y] 3)).alloc (.cells #[.slice (some ⟨w.heap.size + 1 + 1, 0, none⟩) 2 2] 22)) ∧ w.heap.size + 4 = ((((((w.alloc (.cells #[.slice A zs.length c, .int .i64 u] 26)).alloc (.cells #[.slice none 0 0, .int .i64 0] 26))).alloc (.cells #[.int .i64 x, .int .i64 y] 3)).alloc (.cells #[.slice (some ⟨w.heap.size + 1 + 1, 0, none⟩) 2 2] 22))).heap.size from
    ⟨(X1.alloc _).alloc _, (kb.alloc (by omega) _).alloc (by simp; omega) _, by simp⟩)
  have HP := hide (fun (x y : Int) (hx : x = min a b) (hy : y = max a b) => show Calls Tryd.prog 15 #[.agg #[.slice A zs.length c, .int .i64 u], .slice (some ⟨w.heap.size + 1 + 1 + 1, 0, none⟩) 1 1] (((((w.alloc (.cells #[.slice A zs.length c, .int .i64 u] 26)).alloc (.cells #[.slice none 0 0, .int .i64 0] 26))).alloc (.cells #[.int .i64 x, .int .i64 y] 3)).alloc (.cells #[.slice (some ⟨w.heap.size + 1 + 1, 0, none⟩) 2 2] 22))
      (fun e w' => ∃ Ar cr, e = .returned (.tuple #[.agg #[.slice Ar (pmL zs u (mm a b)).length cr, .int .i64 (pmU zs u (mm a b))], .bool (pmOk zs u (mm a b))]) ∧ (pmL zs u (mm a b)).length ≤ cr ∧ cr ≤ maxLen ∧
        Own w' (w.heap.size + 4) 3 (.slice Ar (pmL zs u (mm a b)).length cr) (pmL zs u (mm a b)) ∧ Below w.heap.size w w' ∧ Bx w' (w.heap.size + 1) 26 (.slice none 0 0) (.int .i64 0)) from by
    have hI := mix_two_ints ((w.alloc (.cells #[.slice A zs.length c, .int .i64 u] 26)).alloc (.cells #[.slice none 0 0, .int .i64 0] 26)) x y 3
    have hV := mix_one_val ((((w.alloc (.cells #[.slice A zs.length c, .int .i64 u] 26)).alloc (.cells #[.slice none 0 0, .int .i64 0] 26))).alloc (.cells #[.int .i64 x, .int .i64 y] 3)) (.slice (some ⟨w.heap.size + 1 + 1, 0, none⟩) 2 2) 22
    have hI2 := hI.alloc (by simp) (.cells #[.slice (some ⟨w.heap.size + 1 + 1, 0, none⟩) 2 2] 22)
    have e1 : ((((w.alloc (.cells #[.slice A zs.length c, .int .i64 u] 26)).alloc (.cells #[.slice none 0 0, .int .i64 0] 26))).alloc (.cells #[.int .i64 x, .int .i64 y] 3)).heap.size = w.heap.size + 1 + 1 + 1 := by simp
    have e0 : (((w.alloc (.cells #[.slice A zs.length c, .int .i64 u] 26)).alloc (.cells #[.slice none 0 0, .int .i64 0] 26))).heap.size = w.heap.size + 1 + 1 := by simp
    rw [e1] at hV
    rw [e0] at hI2
    have hbb := (HF.out x y).2.1
    have hsz := (HF.out x y).2.2
    have hmm : mm a b = [[x, y]] := by unfold mm; rw [hx, hy]
    have hX := (HF.out x y).1
    have hIV : IntVs _ (w.heap.size + 4) [.slice (some ⟨w.heap.size + 1 + 1, 0, none⟩) 2 2] [[x, y]] := ⟨rfl, fun k hk => by
      obtain rfl : k = 0 := by simp at hk; omega
      exact ⟨some ⟨w.heap.size + 1 + 1, 0, none⟩, 2, rfl, hI2.more (by omega)⟩⟩
    have hcall := PlayMixes_any A zs.length c (w.heap.size + 4) zs u _ 1 1 [.slice (some ⟨w.heap.size + 1 + 1, 0, none⟩) 2 2] [[x, y]] _ ((hr.below hbb hB).more (by omega)) (hV.more (by omega)) hIV (by omega) hn (by omega) (hT.next hbb)
    refine hcall.mono ?_
    rw [hmm]
    rintro e w' ⟨Ar, cr, rfl, h1, h2, h3, h4⟩
    exact ⟨Ar, cr, rfl, h1, h2, h3.less (by omega), hbb.trans (h4.mono (by omega)), hX.next h4⟩)
  clear X0 X1 kb ks hr hT
  generalize pmL zs u (mm a b) = fs at *
  generalize pmU zs u (mm a b) = fu at *
  generalize pmOk zs u (mm a b) = ok at *
  go_enter Tryd.func8, Tryd.ntmps8
  go_wp2_with fail
  all_goals
    refine (HP.out _ _ (by omega) (by omega)).mono ?_
    rintro e w5 ⟨Ar, cr, rfl, hr1, hr2, hro, hb5, bR⟩
    have e0 := bR.c0
    have e1 := bR.c1
    have f0 := bR.f 0
    have f1 := bR.f 1
    have R1 := bR.set0 (.slice Ar fs.length cr)
    have R2 := R1.set1 (.int .i64 fu)
    have e2 := R1.c1
    have f2 := R1.f 1
    have i0 := R2.c0
    have i1 := R2.c1
    have HOw := hide ((hro.keep (w' := (w5.setCell ⟨w.heap.size + 1, 0, none⟩ (.slice Ar fs.length cr)).setCell ⟨w.heap.size + 1, 1, none⟩ (.int .i64 fu)) fun h hh _ => by
      rw [Below.heap_setCell _ _ _ _ (by simp; omega), Below.heap_setCell _ _ _ _ (by simp; omega)]).less (base' := w.heap.size) (by omega))
    have HBn := hide ((hb5.setCell (p := ⟨w.heap.size + 1, 0, none⟩) (by simp) (.slice Ar fs.length cr)).setCell (p := ⟨w.heap.size + 1, 1, none⟩) (by simp) (.int .i64 fu))
    clear R1 R2 bR hb5 hro
    go_wp2_with fail
    exact bodyPost_ret (v := .tuple #[.agg #[.slice Ar fs.length cr, .int .i64 fu], .bool ok]) (by simp [results, Tryd.results8, go_sem, i0, i1]) rfl ⟨Ar, cr, rfl, hr1, hr2, HOw.out, HBn.out⟩
end Go.Proofs.YtbfolodadejcoaaDoor
