
/-
  A CLUE OF A KIND THAT HEAPS FIT: the model's pzOf, the program's clueOf.
-/
import Derived.Test.YtfmncffjaholmaaPzMk
import Derived.Laws.ResultCell
namespace Go.Proofs.Ytfmncffjaholmaa
open Go.RowKit Go.Deep
set_option linter.unusedVariables false

set_option maxHeartbeats 400000 in
set_option maxRecDepth 100000 in
theorem pzOf_any (A : Option Addr) (n c B : Nat) (zs : List Int) (k y : Int) (w : World) (hr : Ints w B A n zs) (hB : B ≤ w.heap.size) (hz : hidOk zs = true) (hk : 0 ≤ k ∧ k ≤ 5) (hy : 0 ≤ y ∧ y ≤ 10006) :
    Calls Try.prog 15 #[.int .i64 k, .int .i64 y, .slice A n c] w fun e w' => e = .returned (.agg #[.int .i64 (clueFor zs k y).x0, .int .i64 (clueFor zs k y).x1, .int .i64 (clueFor zs k y).x2, .int .i64 (clueFor zs k y).x3]) ∧ Below w.heap.size w w' := by
  obtain rfl := hr.len
  obtain ⟨⟨hn2, hn4⟩, _⟩ := hidOk_of hz
  have HS := hide (sel_ok (n := zs.length) hn2 k y)
  have HA : Hid (∀ a, selA zs.length k y = a → (clueFor zs k y).x1 = a) := hide fun a h => h
  have HB : Hid (∀ a, selB zs.length k y = a → (clueFor zs k y).x2 = a) := hide fun a h => h
  have HT : Hid ((clueFor zs k y).x3 = told k (selA zs.length k y) (selB zs.length k y) zs) := hide rfl
  have HK : Hid ((clueFor zs k y).x0 = k) := hide rfl
  have HV := hide (fun a b W (hb : Below w.heap.size w W) (ho : subOk zs.length k a b) => pzValue_any A zs.length c B zs k a b W (hr.below hb hB) (Nat.le_trans hB hb.size) hz ho)
  obtain ⟨hy1, hy2⟩ := hy
  have l3 : ∀ (w : World) (o : Obj), (w.alloc o).heap.size = w.heap.size + 1 := fun w o => by simp
  clear hr hz hB
  obtain rfl | rfl | rfl | rfl | rfl | rfl : k = 0 ∨ k = 1 ∨ k = 2 ∨ k = 3 ∨ k = 4 ∨ k = 5 := by omega
  · have hA : selA zs.length 0 y = 0 := rfl
    have hB : selB zs.length 0 y = 0 := rfl
    rw [hA, hB] at HS HT
    replace HA := hide (HA.out _ hA)
    replace HB := hide (HB.out _ hB)
    clear hA hB
    rw [HT.out, HA.out, HB.out, HK.out]
    have HVV := hide (fun W (hb : Below w.heap.size w W) => HV.out (0) (0) W hb HS.out)
    clear HV HT
    generalize told 0 (0) (0) zs = tv at *
    clear hk
    have W1 : ∃ W, W = (w.alloc (.cells #[.int .i64 0, .int .i64 0, .int .i64 0, .int .i64 0] 38)).alloc (.cells #[.int .i64 0, .int .i64 (0), .int .i64 (0), .int .i64 0] 38) := ⟨_, rfl⟩
    have B6 := (CBox.new w 38 ⟨0, 0, 0, 0⟩).alloc (.cells #[.int .i64 0, .int .i64 (0), .int .i64 (0), .int .i64 0] 38)
    have B7 := CBox.new (w.alloc (.cells #[.int .i64 0, .int .i64 0, .int .i64 0, .int .i64 0] 38)) 38 ⟨0, 0, 0, 0⟩
    rw [l3] at B7
    have hb0 : Below w.heap.size w ((w.alloc (.cells #[.int .i64 0, .int .i64 0, .int .i64 0, .int .i64 0] 38)).alloc (.cells #[.int .i64 0, .int .i64 (0), .int .i64 (0), .int .i64 0] 38)) := ((Below.refl _ _).alloc (Nat.le_refl _) _).alloc (by simp) _
    have HB6 := hide B6
    have HB7 := hide B7
    have HB0 := hide hb0
    clear B6 B7 hb0 W1 HA HB HK HS
    go_enter Try.func15, Try.ntmps15
    go_wp2_with fail
    refine (HVV.out _ HB0.out).mono ?_; rintro e w2 ⟨rfl, hb2⟩
    have P6 := HB6.out.next hb2
    have P7 := HB7.out.next hb2
    have FB := HB0.out.trans (hb2.mono HB0.out.size)
    have c73 := P7.c3
    have f73 := P7.f 3
    have Q7 := P7.set3 tv
    have Q6 := P6.setOther (a := ⟨w.heap.size + 1, 3, none⟩) (by simp) (.int .i64 tv)
    have d70 := Q7.c0
    have d71 := Q7.c1
    have d72 := Q7.c2
    have d73 := Q7.c3
    have R0 := Q6.set0 0
    have R1 := R0.set1 (0)
    have R2 := R1.set2 (0)
    have R3 := R2.set3 tv
    have e0 := Q6.c0
    have e1 := R0.c1
    have e2 := R1.c2
    have e3 := R2.c3
    have g0 := Q6.f 0
    have g1 := R0.f 1
    have g2 := R1.f 2
    have g3 := R2.f 3
    have i0 := R3.c0
    have i1 := R3.c1
    have i2 := R3.c2
    have i3 := R3.c3
    have FB2 := hide (((((FB.setCell (p := ⟨w.heap.size + 1, 3, none⟩) (by simp) (.int .i64 tv)).setCell (p := ⟨w.heap.size, 0, none⟩) (Nat.le_refl _) (.int .i64 0)).setCell (p := ⟨w.heap.size, 1, none⟩) (Nat.le_refl _) (.int .i64 (0))).setCell (p := ⟨w.heap.size, 2, none⟩) (Nat.le_refl _) (.int .i64 (0))).setCell (p := ⟨w.heap.size, 3, none⟩) (Nat.le_refl _) (.int .i64 tv))
    clear hb2 P6 P7 FB Q7 Q6 R0 R1 R2 R3 HVV HB0 HB6 HB7
    go_wp2_with fail
    exact bodyPost_ret (v := .agg #[.int .i64 0, .int .i64 (0), .int .i64 (0), .int .i64 tv]) (by simp [results, Try.results15, go_sem, i0, i1, i2, i3]) rfl ⟨rfl, FB2.out⟩
  · have hA : selA zs.length 1 y = y % (zs.length : Int) := rfl
    have hB : selB zs.length 1 y = (y + 1) % (zs.length : Int) := rfl
    rw [hA, hB] at HS HT
    replace HA := hide (HA.out _ hA)
    replace HB := hide (HB.out _ hB)
    clear hA hB
    rw [HT.out, HA.out, HB.out, HK.out]
    have HVV := hide (fun W (hb : Below w.heap.size w W) => HV.out (y % (zs.length : Int)) ((y + 1) % (zs.length : Int)) W hb HS.out)
    clear HV HT
    generalize told 1 (y % (zs.length : Int)) ((y + 1) % (zs.length : Int)) zs = tv at *
    clear hk
    have hp0 : (0 : Int) < (zs.length : Int) := by omega
    have hp1 : (zs.length : Int) ≤ 4 := by omega
    have ha1 := Int.emod_nonneg y (show (zs.length : Int) ≠ 0 by omega)
    have ha2 := Int.emod_lt_of_pos y hp0
    have W1 : ∃ W, W = (w.alloc (.cells #[.int .i64 0, .int .i64 0, .int .i64 0, .int .i64 0] 38)).alloc (.cells #[.int .i64 1, .int .i64 (y % (zs.length : Int)), .int .i64 ((y + 1) % (zs.length : Int)), .int .i64 0] 38) := ⟨_, rfl⟩
    have B6 := (CBox.new w 38 ⟨0, 0, 0, 0⟩).alloc (.cells #[.int .i64 1, .int .i64 (y % (zs.length : Int)), .int .i64 ((y + 1) % (zs.length : Int)), .int .i64 0] 38)
    have B7 := CBox.new (w.alloc (.cells #[.int .i64 0, .int .i64 0, .int .i64 0, .int .i64 0] 38)) 38 ⟨1, y % (zs.length : Int), (y + 1) % (zs.length : Int), 0⟩
    rw [l3] at B7
    have hb0 : Below w.heap.size w ((w.alloc (.cells #[.int .i64 0, .int .i64 0, .int .i64 0, .int .i64 0] 38)).alloc (.cells #[.int .i64 1, .int .i64 (y % (zs.length : Int)), .int .i64 ((y + 1) % (zs.length : Int)), .int .i64 0] 38)) := ((Below.refl _ _).alloc (Nat.le_refl _) _).alloc (by simp) _
    have HB6 := hide B6
    have HB7 := hide B7
    have HB0 := hide hb0
    clear B6 B7 hb0 W1 HA HB HK HS
    go_enter Try.func15, Try.ntmps15
    go_wp2_with fail
    refine (HVV.out _ HB0.out).mono ?_; rintro e w2 ⟨rfl, hb2⟩
    have P6 := HB6.out.next hb2
    have P7 := HB7.out.next hb2
    have FB := HB0.out.trans (hb2.mono HB0.out.size)
    have c73 := P7.c3
    have f73 := P7.f 3
    have Q7 := P7.set3 tv
    have Q6 := P6.setOther (a := ⟨w.heap.size + 1, 3, none⟩) (by simp) (.int .i64 tv)
    have d70 := Q7.c0
    have d71 := Q7.c1
    have d72 := Q7.c2
    have d73 := Q7.c3
    have R0 := Q6.set0 1
    have R1 := R0.set1 (y % (zs.length : Int))
    have R2 := R1.set2 ((y + 1) % (zs.length : Int))
    have R3 := R2.set3 tv
    have e0 := Q6.c0
    have e1 := R0.c1
    have e2 := R1.c2
    have e3 := R2.c3
    have g0 := Q6.f 0
    have g1 := R0.f 1
    have g2 := R1.f 2
    have g3 := R2.f 3
    have i0 := R3.c0
    have i1 := R3.c1
    have i2 := R3.c2
    have i3 := R3.c3
    have FB2 := hide (((((FB.setCell (p := ⟨w.heap.size + 1, 3, none⟩) (by simp) (.int .i64 tv)).setCell (p := ⟨w.heap.size, 0, none⟩) (Nat.le_refl _) (.int .i64 1)).setCell (p := ⟨w.heap.size, 1, none⟩) (Nat.le_refl _) (.int .i64 (y % (zs.length : Int)))).setCell (p := ⟨w.heap.size, 2, none⟩) (Nat.le_refl _) (.int .i64 ((y + 1) % (zs.length : Int)))).setCell (p := ⟨w.heap.size, 3, none⟩) (Nat.le_refl _) (.int .i64 tv))
    clear hb2 P6 P7 FB Q7 Q6 R0 R1 R2 R3 HVV HB0 HB6 HB7
    go_wp2_with fail
    exact bodyPost_ret (v := .agg #[.int .i64 1, .int .i64 (y % (zs.length : Int)), .int .i64 ((y + 1) % (zs.length : Int)), .int .i64 tv]) (by simp [results, Try.results15, go_sem, i0, i1, i2, i3]) rfl ⟨rfl, FB2.out⟩
  · have hA : selA zs.length 2 y = y % 6 := rfl
    have hB : selB zs.length 2 y = 0 := rfl
    rw [hA, hB] at HS HT
    replace HA := hide (HA.out _ hA)
    replace HB := hide (HB.out _ hB)
    clear hA hB
    rw [HT.out, HA.out, HB.out, HK.out]
    have HVV := hide (fun W (hb : Below w.heap.size w W) => HV.out (y % 6) (0) W hb HS.out)
    clear HV HT
    generalize told 2 (y % 6) (0) zs = tv at *
    clear hk
    have W1 : ∃ W, W = (w.alloc (.cells #[.int .i64 0, .int .i64 0, .int .i64 0, .int .i64 0] 38)).alloc (.cells #[.int .i64 2, .int .i64 (y % 6), .int .i64 (0), .int .i64 0] 38) := ⟨_, rfl⟩
    have B6 := (CBox.new w 38 ⟨0, 0, 0, 0⟩).alloc (.cells #[.int .i64 2, .int .i64 (y % 6), .int .i64 (0), .int .i64 0] 38)
    have B7 := CBox.new (w.alloc (.cells #[.int .i64 0, .int .i64 0, .int .i64 0, .int .i64 0] 38)) 38 ⟨2, y % 6, 0, 0⟩
    rw [l3] at B7
    have hb0 : Below w.heap.size w ((w.alloc (.cells #[.int .i64 0, .int .i64 0, .int .i64 0, .int .i64 0] 38)).alloc (.cells #[.int .i64 2, .int .i64 (y % 6), .int .i64 (0), .int .i64 0] 38)) := ((Below.refl _ _).alloc (Nat.le_refl _) _).alloc (by simp) _
    have HB6 := hide B6
    have HB7 := hide B7
    have HB0 := hide hb0
    clear B6 B7 hb0 W1 HA HB HK HS
    go_enter Try.func15, Try.ntmps15
    go_wp2_with fail
    refine (HVV.out _ HB0.out).mono ?_; rintro e w2 ⟨rfl, hb2⟩
    have P6 := HB6.out.next hb2
    have P7 := HB7.out.next hb2
    have FB := HB0.out.trans (hb2.mono HB0.out.size)
    have c73 := P7.c3
    have f73 := P7.f 3
    have Q7 := P7.set3 tv
    have Q6 := P6.setOther (a := ⟨w.heap.size + 1, 3, none⟩) (by simp) (.int .i64 tv)
    have d70 := Q7.c0
    have d71 := Q7.c1
    have d72 := Q7.c2
    have d73 := Q7.c3
    have R0 := Q6.set0 2
    have R1 := R0.set1 (y % 6)
    have R2 := R1.set2 (0)
    have R3 := R2.set3 tv
    have e0 := Q6.c0
    have e1 := R0.c1
    have e2 := R1.c2
    have e3 := R2.c3
    have g0 := Q6.f 0
    have g1 := R0.f 1
    have g2 := R1.f 2
    have g3 := R2.f 3
    have i0 := R3.c0
    have i1 := R3.c1
    have i2 := R3.c2
    have i3 := R3.c3
    have FB2 := hide (((((FB.setCell (p := ⟨w.heap.size + 1, 3, none⟩) (by simp) (.int .i64 tv)).setCell (p := ⟨w.heap.size, 0, none⟩) (Nat.le_refl _) (.int .i64 2)).setCell (p := ⟨w.heap.size, 1, none⟩) (Nat.le_refl _) (.int .i64 (y % 6))).setCell (p := ⟨w.heap.size, 2, none⟩) (Nat.le_refl _) (.int .i64 (0))).setCell (p := ⟨w.heap.size, 3, none⟩) (Nat.le_refl _) (.int .i64 tv))
    clear hb2 P6 P7 FB Q7 Q6 R0 R1 R2 R3 HVV HB0 HB6 HB7
    go_wp2_with fail
    exact bodyPost_ret (v := .agg #[.int .i64 2, .int .i64 (y % 6), .int .i64 (0), .int .i64 tv]) (by simp [results, Try.results15, go_sem, i0, i1, i2, i3]) rfl ⟨rfl, FB2.out⟩
  · have hA : selA zs.length 3 y = 0 := rfl
    have hB : selB zs.length 3 y = 0 := rfl
    rw [hA, hB] at HS HT
    replace HA := hide (HA.out _ hA)
    replace HB := hide (HB.out _ hB)
    clear hA hB
    rw [HT.out, HA.out, HB.out, HK.out]
    have HVV := hide (fun W (hb : Below w.heap.size w W) => HV.out (0) (0) W hb HS.out)
    clear HV HT
    generalize told 3 (0) (0) zs = tv at *
    clear hk
    have W1 : ∃ W, W = (w.alloc (.cells #[.int .i64 0, .int .i64 0, .int .i64 0, .int .i64 0] 38)).alloc (.cells #[.int .i64 3, .int .i64 (0), .int .i64 (0), .int .i64 0] 38) := ⟨_, rfl⟩
    have B6 := (CBox.new w 38 ⟨0, 0, 0, 0⟩).alloc (.cells #[.int .i64 3, .int .i64 (0), .int .i64 (0), .int .i64 0] 38)
    have B7 := CBox.new (w.alloc (.cells #[.int .i64 0, .int .i64 0, .int .i64 0, .int .i64 0] 38)) 38 ⟨3, 0, 0, 0⟩
    rw [l3] at B7
    have hb0 : Below w.heap.size w ((w.alloc (.cells #[.int .i64 0, .int .i64 0, .int .i64 0, .int .i64 0] 38)).alloc (.cells #[.int .i64 3, .int .i64 (0), .int .i64 (0), .int .i64 0] 38)) := ((Below.refl _ _).alloc (Nat.le_refl _) _).alloc (by simp) _
    have HB6 := hide B6
    have HB7 := hide B7
    have HB0 := hide hb0
    clear B6 B7 hb0 W1 HA HB HK HS
    go_enter Try.func15, Try.ntmps15
    go_wp2_with fail
    refine (HVV.out _ HB0.out).mono ?_; rintro e w2 ⟨rfl, hb2⟩
    have P6 := HB6.out.next hb2
    have P7 := HB7.out.next hb2
    have FB := HB0.out.trans (hb2.mono HB0.out.size)
    have c73 := P7.c3
    have f73 := P7.f 3
    have Q7 := P7.set3 tv
    have Q6 := P6.setOther (a := ⟨w.heap.size + 1, 3, none⟩) (by simp) (.int .i64 tv)
    have d70 := Q7.c0
    have d71 := Q7.c1
    have d72 := Q7.c2
    have d73 := Q7.c3
    have R0 := Q6.set0 3
    have R1 := R0.set1 (0)
    have R2 := R1.set2 (0)
    have R3 := R2.set3 tv
    have e0 := Q6.c0
    have e1 := R0.c1
    have e2 := R1.c2
    have e3 := R2.c3
    have g0 := Q6.f 0
    have g1 := R0.f 1
    have g2 := R1.f 2
    have g3 := R2.f 3
    have i0 := R3.c0
    have i1 := R3.c1
    have i2 := R3.c2
    have i3 := R3.c3
    have FB2 := hide (((((FB.setCell (p := ⟨w.heap.size + 1, 3, none⟩) (by simp) (.int .i64 tv)).setCell (p := ⟨w.heap.size, 0, none⟩) (Nat.le_refl _) (.int .i64 3)).setCell (p := ⟨w.heap.size, 1, none⟩) (Nat.le_refl _) (.int .i64 (0))).setCell (p := ⟨w.heap.size, 2, none⟩) (Nat.le_refl _) (.int .i64 (0))).setCell (p := ⟨w.heap.size, 3, none⟩) (Nat.le_refl _) (.int .i64 tv))
    clear hb2 P6 P7 FB Q7 Q6 R0 R1 R2 R3 HVV HB0 HB6 HB7
    go_wp2_with fail
    exact bodyPost_ret (v := .agg #[.int .i64 3, .int .i64 (0), .int .i64 (0), .int .i64 tv]) (by simp [results, Try.results15, go_sem, i0, i1, i2, i3]) rfl ⟨rfl, FB2.out⟩
  · have hA : selA zs.length 4 y = y % (zs.length : Int) := rfl
    have hB : selB zs.length 4 y = (y + 1) % (zs.length : Int) := rfl
    rw [hA, hB] at HS HT
    replace HA := hide (HA.out _ hA)
    replace HB := hide (HB.out _ hB)
    clear hA hB
    rw [HT.out, HA.out, HB.out, HK.out]
    have HVV := hide (fun W (hb : Below w.heap.size w W) => HV.out (y % (zs.length : Int)) ((y + 1) % (zs.length : Int)) W hb HS.out)
    clear HV HT
    generalize told 4 (y % (zs.length : Int)) ((y + 1) % (zs.length : Int)) zs = tv at *
    clear hk
    have hp0 : (0 : Int) < (zs.length : Int) := by omega
    have hp1 : (zs.length : Int) ≤ 4 := by omega
    have ha1 := Int.emod_nonneg y (show (zs.length : Int) ≠ 0 by omega)
    have ha2 := Int.emod_lt_of_pos y hp0
    have W1 : ∃ W, W = (w.alloc (.cells #[.int .i64 0, .int .i64 0, .int .i64 0, .int .i64 0] 38)).alloc (.cells #[.int .i64 4, .int .i64 (y % (zs.length : Int)), .int .i64 ((y + 1) % (zs.length : Int)), .int .i64 0] 38) := ⟨_, rfl⟩
    have B6 := (CBox.new w 38 ⟨0, 0, 0, 0⟩).alloc (.cells #[.int .i64 4, .int .i64 (y % (zs.length : Int)), .int .i64 ((y + 1) % (zs.length : Int)), .int .i64 0] 38)
    have B7 := CBox.new (w.alloc (.cells #[.int .i64 0, .int .i64 0, .int .i64 0, .int .i64 0] 38)) 38 ⟨4, y % (zs.length : Int), (y + 1) % (zs.length : Int), 0⟩
    rw [l3] at B7
    have hb0 : Below w.heap.size w ((w.alloc (.cells #[.int .i64 0, .int .i64 0, .int .i64 0, .int .i64 0] 38)).alloc (.cells #[.int .i64 4, .int .i64 (y % (zs.length : Int)), .int .i64 ((y + 1) % (zs.length : Int)), .int .i64 0] 38)) := ((Below.refl _ _).alloc (Nat.le_refl _) _).alloc (by simp) _
    have HB6 := hide B6
    have HB7 := hide B7
    have HB0 := hide hb0
    clear B6 B7 hb0 W1 HA HB HK HS
    go_enter Try.func15, Try.ntmps15
    go_wp2_with fail
    refine (HVV.out _ HB0.out).mono ?_; rintro e w2 ⟨rfl, hb2⟩
    have P6 := HB6.out.next hb2
    have P7 := HB7.out.next hb2
    have FB := HB0.out.trans (hb2.mono HB0.out.size)
    have c73 := P7.c3
    have f73 := P7.f 3
    have Q7 := P7.set3 tv
    have Q6 := P6.setOther (a := ⟨w.heap.size + 1, 3, none⟩) (by simp) (.int .i64 tv)
    have d70 := Q7.c0
    have d71 := Q7.c1
    have d72 := Q7.c2
    have d73 := Q7.c3
    have R0 := Q6.set0 4
    have R1 := R0.set1 (y % (zs.length : Int))
    have R2 := R1.set2 ((y + 1) % (zs.length : Int))
    have R3 := R2.set3 tv
    have e0 := Q6.c0
    have e1 := R0.c1
    have e2 := R1.c2
    have e3 := R2.c3
    have g0 := Q6.f 0
    have g1 := R0.f 1
    have g2 := R1.f 2
    have g3 := R2.f 3
    have i0 := R3.c0
    have i1 := R3.c1
    have i2 := R3.c2
    have i3 := R3.c3
    have FB2 := hide (((((FB.setCell (p := ⟨w.heap.size + 1, 3, none⟩) (by simp) (.int .i64 tv)).setCell (p := ⟨w.heap.size, 0, none⟩) (Nat.le_refl _) (.int .i64 4)).setCell (p := ⟨w.heap.size, 1, none⟩) (Nat.le_refl _) (.int .i64 (y % (zs.length : Int)))).setCell (p := ⟨w.heap.size, 2, none⟩) (Nat.le_refl _) (.int .i64 ((y + 1) % (zs.length : Int)))).setCell (p := ⟨w.heap.size, 3, none⟩) (Nat.le_refl _) (.int .i64 tv))
    clear hb2 P6 P7 FB Q7 Q6 R0 R1 R2 R3 HVV HB0 HB6 HB7
    go_wp2_with fail
    exact bodyPost_ret (v := .agg #[.int .i64 4, .int .i64 (y % (zs.length : Int)), .int .i64 ((y + 1) % (zs.length : Int)), .int .i64 tv]) (by simp [results, Try.results15, go_sem, i0, i1, i2, i3]) rfl ⟨rfl, FB2.out⟩
  · have hA : selA zs.length 5 y = 0 := rfl
    have hB : selB zs.length 5 y = 0 := rfl
    rw [hA, hB] at HS HT
    replace HA := hide (HA.out _ hA)
    replace HB := hide (HB.out _ hB)
    clear hA hB
    rw [HT.out, HA.out, HB.out, HK.out]
    have HVV := hide (fun W (hb : Below w.heap.size w W) => HV.out (0) (0) W hb HS.out)
    clear HV HT
    generalize told 5 (0) (0) zs = tv at *
    clear hk
    have W1 : ∃ W, W = (w.alloc (.cells #[.int .i64 0, .int .i64 0, .int .i64 0, .int .i64 0] 38)).alloc (.cells #[.int .i64 5, .int .i64 (0), .int .i64 (0), .int .i64 0] 38) := ⟨_, rfl⟩
    have B6 := (CBox.new w 38 ⟨0, 0, 0, 0⟩).alloc (.cells #[.int .i64 5, .int .i64 (0), .int .i64 (0), .int .i64 0] 38)
    have B7 := CBox.new (w.alloc (.cells #[.int .i64 0, .int .i64 0, .int .i64 0, .int .i64 0] 38)) 38 ⟨5, 0, 0, 0⟩
    rw [l3] at B7
    have hb0 : Below w.heap.size w ((w.alloc (.cells #[.int .i64 0, .int .i64 0, .int .i64 0, .int .i64 0] 38)).alloc (.cells #[.int .i64 5, .int .i64 (0), .int .i64 (0), .int .i64 0] 38)) := ((Below.refl _ _).alloc (Nat.le_refl _) _).alloc (by simp) _
    have HB6 := hide B6
    have HB7 := hide B7
    have HB0 := hide hb0
    clear B6 B7 hb0 W1 HA HB HK HS
    go_enter Try.func15, Try.ntmps15
    go_wp2_with fail
    refine (HVV.out _ HB0.out).mono ?_; rintro e w2 ⟨rfl, hb2⟩
    have P6 := HB6.out.next hb2
    have P7 := HB7.out.next hb2
    have FB := HB0.out.trans (hb2.mono HB0.out.size)
    have c73 := P7.c3
    have f73 := P7.f 3
    have Q7 := P7.set3 tv
    have Q6 := P6.setOther (a := ⟨w.heap.size + 1, 3, none⟩) (by simp) (.int .i64 tv)
    have d70 := Q7.c0
    have d71 := Q7.c1
    have d72 := Q7.c2
    have d73 := Q7.c3
    have R0 := Q6.set0 5
    have R1 := R0.set1 (0)
    have R2 := R1.set2 (0)
    have R3 := R2.set3 tv
    have e0 := Q6.c0
    have e1 := R0.c1
    have e2 := R1.c2
    have e3 := R2.c3
    have g0 := Q6.f 0
    have g1 := R0.f 1
    have g2 := R1.f 2
    have g3 := R2.f 3
    have i0 := R3.c0
    have i1 := R3.c1
    have i2 := R3.c2
    have i3 := R3.c3
    have FB2 := hide (((((FB.setCell (p := ⟨w.heap.size + 1, 3, none⟩) (by simp) (.int .i64 tv)).setCell (p := ⟨w.heap.size, 0, none⟩) (Nat.le_refl _) (.int .i64 5)).setCell (p := ⟨w.heap.size, 1, none⟩) (Nat.le_refl _) (.int .i64 (0))).setCell (p := ⟨w.heap.size, 2, none⟩) (Nat.le_refl _) (.int .i64 (0))).setCell (p := ⟨w.heap.size, 3, none⟩) (Nat.le_refl _) (.int .i64 tv))
    clear hb2 P6 P7 FB Q7 Q6 R0 R1 R2 R3 HVV HB0 HB6 HB7
    go_wp2_with fail
    exact bodyPost_ret (v := .agg #[.int .i64 5, .int .i64 (0), .int .i64 (0), .int .i64 tv]) (by simp [results, Try.results15, go_sem, i0, i1, i2, i3]) rfl ⟨rfl, FB2.out⟩

set_option maxHeartbeats 400000 in
set_option maxRecDepth 100000 in
theorem clueOf_any (A : Option Addr) (n c B : Nat) (zs : List Int) (k y : Int) (w : World) (hr : Ints w B A n zs) (hB : B ≤ w.heap.size) (hz : hidOk zs = true) (hk : 0 ≤ k ∧ k ≤ 5) (hy : 0 ≤ y ∧ y ≤ 10006) :
    Calls Try.prog 18 #[.slice A n c, .int .i64 k, .int .i64 y] w fun e w' => e = .returned (.agg #[.int .i64 (clueFor zs k y).x0, .int .i64 (clueFor zs k y).x1, .int .i64 (clueFor zs k y).x2, .int .i64 (clueFor zs k y).x3]) ∧ Below w.heap.size w w' := by
  obtain rfl := hr.len
  obtain ⟨⟨hn2, hn4⟩, _⟩ := hidOk_of hz
  have HS := hide (sel_ok (n := zs.length) hn2 k y)
  have HA : Hid (∀ a, selA zs.length k y = a → (clueFor zs k y).x1 = a) := hide fun a h => h
  have HB : Hid (∀ a, selB zs.length k y = a → (clueFor zs k y).x2 = a) := hide fun a h => h
  have HT : Hid ((clueFor zs k y).x3 = told k (selA zs.length k y) (selB zs.length k y) zs) := hide rfl
  have HK : Hid ((clueFor zs k y).x0 = k) := hide rfl
  have HV := hide (fun a b W (hb : Below w.heap.size w W) (ho : subOk zs.length k a b) => toldBy_any A zs.length c B zs ⟨k, a, b, 0⟩ W (hr.below hb hB) (Nat.le_trans hB hb.size) hz ho)
  obtain ⟨hy1, hy2⟩ := hy
  have l3 : ∀ (w : World) (o : Obj), (w.alloc o).heap.size = w.heap.size + 1 := fun w o => by simp
  clear hr hz hB
  obtain rfl | rfl | rfl | rfl | rfl | rfl : k = 0 ∨ k = 1 ∨ k = 2 ∨ k = 3 ∨ k = 4 ∨ k = 5 := by omega
  · have hA : selA zs.length 0 y = 0 := rfl
    have hB : selB zs.length 0 y = 0 := rfl
    rw [hA, hB] at HS HT
    replace HA := hide (HA.out _ hA)
    replace HB := hide (HB.out _ hB)
    clear hA hB
    rw [HT.out, HA.out, HB.out, HK.out]
    have HVV := hide (fun W (hb : Below w.heap.size w W) => HV.out (0) (0) W hb HS.out)
    clear HV HT
    generalize told 0 (0) (0) zs = tv at *
    clear hk
    have W1 : ∃ W, W = (w.alloc (.cells #[.int .i64 0, .int .i64 0, .int .i64 0, .int .i64 0] 38)).alloc (.cells #[.int .i64 0, .int .i64 (0), .int .i64 (0), .int .i64 0] 38) := ⟨_, rfl⟩
    have B6 := (CBox.new w 38 ⟨0, 0, 0, 0⟩).alloc (.cells #[.int .i64 0, .int .i64 (0), .int .i64 (0), .int .i64 0] 38)
    have B7 := CBox.new (w.alloc (.cells #[.int .i64 0, .int .i64 0, .int .i64 0, .int .i64 0] 38)) 38 ⟨0, 0, 0, 0⟩
    rw [l3] at B7
    have hb0 : Below w.heap.size w ((w.alloc (.cells #[.int .i64 0, .int .i64 0, .int .i64 0, .int .i64 0] 38)).alloc (.cells #[.int .i64 0, .int .i64 (0), .int .i64 (0), .int .i64 0] 38)) := ((Below.refl _ _).alloc (Nat.le_refl _) _).alloc (by simp) _
    have HB6 := hide B6
    have HB7 := hide B7
    have HB0 := hide hb0
    clear B6 B7 hb0 W1 HA HB HK HS
    go_enter Try.func18, Try.ntmps18
    have c70 := HB7.out.c0
    have c71 := HB7.out.c1
    have c72 := HB7.out.c2
    have c73' := HB7.out.c3
    go_wp2_with fail
    refine (HVV.out _ HB0.out).mono ?_; rintro e w2 ⟨rfl, hb2⟩
    have P6 := HB6.out.next hb2
    have P7 := HB7.out.next hb2
    have FB := HB0.out.trans (hb2.mono HB0.out.size)
    have c73 := P7.c3
    have f73 := P7.f 3
    have Q7 := P7.set3 tv
    have Q6 := P6.setOther (a := ⟨w.heap.size + 1, 3, none⟩) (by simp) (.int .i64 tv)
    have d70 := Q7.c0
    have d71 := Q7.c1
    have d72 := Q7.c2
    have d73 := Q7.c3
    have R0 := Q6.set0 0
    have R1 := R0.set1 (0)
    have R2 := R1.set2 (0)
    have R3 := R2.set3 tv
    have e0 := Q6.c0
    have e1 := R0.c1
    have e2 := R1.c2
    have e3 := R2.c3
    have g0 := Q6.f 0
    have g1 := R0.f 1
    have g2 := R1.f 2
    have g3 := R2.f 3
    have i0 := R3.c0
    have i1 := R3.c1
    have i2 := R3.c2
    have i3 := R3.c3
    have FB2 := hide (((((FB.setCell (p := ⟨w.heap.size + 1, 3, none⟩) (by simp) (.int .i64 tv)).setCell (p := ⟨w.heap.size, 0, none⟩) (Nat.le_refl _) (.int .i64 0)).setCell (p := ⟨w.heap.size, 1, none⟩) (Nat.le_refl _) (.int .i64 (0))).setCell (p := ⟨w.heap.size, 2, none⟩) (Nat.le_refl _) (.int .i64 (0))).setCell (p := ⟨w.heap.size, 3, none⟩) (Nat.le_refl _) (.int .i64 tv))
    clear c70 c71 c72 c73' hb2 P6 P7 FB Q7 Q6 R0 R1 R2 R3 HVV HB0 HB6 HB7
    go_wp2_with fail
    exact bodyPost_ret (v := .agg #[.int .i64 0, .int .i64 (0), .int .i64 (0), .int .i64 tv]) (by simp [results, Try.results18, go_sem, i0, i1, i2, i3]) rfl ⟨rfl, FB2.out⟩
  · have hA : selA zs.length 1 y = y % (zs.length : Int) := rfl
    have hB : selB zs.length 1 y = (y + 1) % (zs.length : Int) := rfl
    rw [hA, hB] at HS HT
    replace HA := hide (HA.out _ hA)
    replace HB := hide (HB.out _ hB)
    clear hA hB
    rw [HT.out, HA.out, HB.out, HK.out]
    have HVV := hide (fun W (hb : Below w.heap.size w W) => HV.out (y % (zs.length : Int)) ((y + 1) % (zs.length : Int)) W hb HS.out)
    clear HV HT
    generalize told 1 (y % (zs.length : Int)) ((y + 1) % (zs.length : Int)) zs = tv at *
    clear hk
    have hp0 : (0 : Int) < (zs.length : Int) := by omega
    have hp1 : (zs.length : Int) ≤ 4 := by omega
    have ha1 := Int.emod_nonneg y (show (zs.length : Int) ≠ 0 by omega)
    have ha2 := Int.emod_lt_of_pos y hp0
    have W1 : ∃ W, W = (w.alloc (.cells #[.int .i64 0, .int .i64 0, .int .i64 0, .int .i64 0] 38)).alloc (.cells #[.int .i64 1, .int .i64 (y % (zs.length : Int)), .int .i64 ((y + 1) % (zs.length : Int)), .int .i64 0] 38) := ⟨_, rfl⟩
    have B6 := (CBox.new w 38 ⟨0, 0, 0, 0⟩).alloc (.cells #[.int .i64 1, .int .i64 (y % (zs.length : Int)), .int .i64 ((y + 1) % (zs.length : Int)), .int .i64 0] 38)
    have B7 := CBox.new (w.alloc (.cells #[.int .i64 0, .int .i64 0, .int .i64 0, .int .i64 0] 38)) 38 ⟨1, y % (zs.length : Int), (y + 1) % (zs.length : Int), 0⟩
    rw [l3] at B7
    have hb0 : Below w.heap.size w ((w.alloc (.cells #[.int .i64 0, .int .i64 0, .int .i64 0, .int .i64 0] 38)).alloc (.cells #[.int .i64 1, .int .i64 (y % (zs.length : Int)), .int .i64 ((y + 1) % (zs.length : Int)), .int .i64 0] 38)) := ((Below.refl _ _).alloc (Nat.le_refl _) _).alloc (by simp) _
    have HB6 := hide B6
    have HB7 := hide B7
    have HB0 := hide hb0
    clear B6 B7 hb0 W1 HA HB HK HS
    go_enter Try.func18, Try.ntmps18
    have c70 := HB7.out.c0
    have c71 := HB7.out.c1
    have c72 := HB7.out.c2
    have c73' := HB7.out.c3
    go_wp2_with fail
    refine (HVV.out _ HB0.out).mono ?_; rintro e w2 ⟨rfl, hb2⟩
    have P6 := HB6.out.next hb2
    have P7 := HB7.out.next hb2
    have FB := HB0.out.trans (hb2.mono HB0.out.size)
    have c73 := P7.c3
    have f73 := P7.f 3
    have Q7 := P7.set3 tv
    have Q6 := P6.setOther (a := ⟨w.heap.size + 1, 3, none⟩) (by simp) (.int .i64 tv)
    have d70 := Q7.c0
    have d71 := Q7.c1
    have d72 := Q7.c2
    have d73 := Q7.c3
    have R0 := Q6.set0 1
    have R1 := R0.set1 (y % (zs.length : Int))
    have R2 := R1.set2 ((y + 1) % (zs.length : Int))
    have R3 := R2.set3 tv
    have e0 := Q6.c0
    have e1 := R0.c1
    have e2 := R1.c2
    have e3 := R2.c3
    have g0 := Q6.f 0
    have g1 := R0.f 1
    have g2 := R1.f 2
    have g3 := R2.f 3
    have i0 := R3.c0
    have i1 := R3.c1
    have i2 := R3.c2
    have i3 := R3.c3
    have FB2 := hide (((((FB.setCell (p := ⟨w.heap.size + 1, 3, none⟩) (by simp) (.int .i64 tv)).setCell (p := ⟨w.heap.size, 0, none⟩) (Nat.le_refl _) (.int .i64 1)).setCell (p := ⟨w.heap.size, 1, none⟩) (Nat.le_refl _) (.int .i64 (y % (zs.length : Int)))).setCell (p := ⟨w.heap.size, 2, none⟩) (Nat.le_refl _) (.int .i64 ((y + 1) % (zs.length : Int)))).setCell (p := ⟨w.heap.size, 3, none⟩) (Nat.le_refl _) (.int .i64 tv))
    clear c70 c71 c72 c73' hb2 P6 P7 FB Q7 Q6 R0 R1 R2 R3 HVV HB0 HB6 HB7
    go_wp2_with fail
    exact bodyPost_ret (v := .agg #[.int .i64 1, .int .i64 (y % (zs.length : Int)), .int .i64 ((y + 1) % (zs.length : Int)), .int .i64 tv]) (by simp [results, Try.results18, go_sem, i0, i1, i2, i3]) rfl ⟨rfl, FB2.out⟩
  · have hA : selA zs.length 2 y = y % 6 := rfl
    have hB : selB zs.length 2 y = 0 := rfl
    rw [hA, hB] at HS HT
    replace HA := hide (HA.out _ hA)
    replace HB := hide (HB.out _ hB)
    clear hA hB
    rw [HT.out, HA.out, HB.out, HK.out]
    have HVV := hide (fun W (hb : Below w.heap.size w W) => HV.out (y % 6) (0) W hb HS.out)
    clear HV HT
    generalize told 2 (y % 6) (0) zs = tv at *
    clear hk
    have W1 : ∃ W, W = (w.alloc (.cells #[.int .i64 0, .int .i64 0, .int .i64 0, .int .i64 0] 38)).alloc (.cells #[.int .i64 2, .int .i64 (y % 6), .int .i64 (0), .int .i64 0] 38) := ⟨_, rfl⟩
    have B6 := (CBox.new w 38 ⟨0, 0, 0, 0⟩).alloc (.cells #[.int .i64 2, .int .i64 (y % 6), .int .i64 (0), .int .i64 0] 38)
    have B7 := CBox.new (w.alloc (.cells #[.int .i64 0, .int .i64 0, .int .i64 0, .int .i64 0] 38)) 38 ⟨2, y % 6, 0, 0⟩
    rw [l3] at B7
    have hb0 : Below w.heap.size w ((w.alloc (.cells #[.int .i64 0, .int .i64 0, .int .i64 0, .int .i64 0] 38)).alloc (.cells #[.int .i64 2, .int .i64 (y % 6), .int .i64 (0), .int .i64 0] 38)) := ((Below.refl _ _).alloc (Nat.le_refl _) _).alloc (by simp) _
    have HB6 := hide B6
    have HB7 := hide B7
    have HB0 := hide hb0
    clear B6 B7 hb0 W1 HA HB HK HS
    go_enter Try.func18, Try.ntmps18
    have c70 := HB7.out.c0
    have c71 := HB7.out.c1
    have c72 := HB7.out.c2
    have c73' := HB7.out.c3
    go_wp2_with fail
    refine (HVV.out _ HB0.out).mono ?_; rintro e w2 ⟨rfl, hb2⟩
    have P6 := HB6.out.next hb2
    have P7 := HB7.out.next hb2
    have FB := HB0.out.trans (hb2.mono HB0.out.size)
    have c73 := P7.c3
    have f73 := P7.f 3
    have Q7 := P7.set3 tv
    have Q6 := P6.setOther (a := ⟨w.heap.size + 1, 3, none⟩) (by simp) (.int .i64 tv)
    have d70 := Q7.c0
    have d71 := Q7.c1
    have d72 := Q7.c2
    have d73 := Q7.c3
    have R0 := Q6.set0 2
    have R1 := R0.set1 (y % 6)
    have R2 := R1.set2 (0)
    have R3 := R2.set3 tv
    have e0 := Q6.c0
    have e1 := R0.c1
    have e2 := R1.c2
    have e3 := R2.c3
    have g0 := Q6.f 0
    have g1 := R0.f 1
    have g2 := R1.f 2
    have g3 := R2.f 3
    have i0 := R3.c0
    have i1 := R3.c1
    have i2 := R3.c2
    have i3 := R3.c3
    have FB2 := hide (((((FB.setCell (p := ⟨w.heap.size + 1, 3, none⟩) (by simp) (.int .i64 tv)).setCell (p := ⟨w.heap.size, 0, none⟩) (Nat.le_refl _) (.int .i64 2)).setCell (p := ⟨w.heap.size, 1, none⟩) (Nat.le_refl _) (.int .i64 (y % 6))).setCell (p := ⟨w.heap.size, 2, none⟩) (Nat.le_refl _) (.int .i64 (0))).setCell (p := ⟨w.heap.size, 3, none⟩) (Nat.le_refl _) (.int .i64 tv))
    clear c70 c71 c72 c73' hb2 P6 P7 FB Q7 Q6 R0 R1 R2 R3 HVV HB0 HB6 HB7
    go_wp2_with fail
    exact bodyPost_ret (v := .agg #[.int .i64 2, .int .i64 (y % 6), .int .i64 (0), .int .i64 tv]) (by simp [results, Try.results18, go_sem, i0, i1, i2, i3]) rfl ⟨rfl, FB2.out⟩
  · have hA : selA zs.length 3 y = 0 := rfl
    have hB : selB zs.length 3 y = 0 := rfl
    rw [hA, hB] at HS HT
    replace HA := hide (HA.out _ hA)
    replace HB := hide (HB.out _ hB)
    clear hA hB
    rw [HT.out, HA.out, HB.out, HK.out]
    have HVV := hide (fun W (hb : Below w.heap.size w W) => HV.out (0) (0) W hb HS.out)
    clear HV HT
    generalize told 3 (0) (0) zs = tv at *
    clear hk
    have W1 : ∃ W, W = (w.alloc (.cells #[.int .i64 0, .int .i64 0, .int .i64 0, .int .i64 0] 38)).alloc (.cells #[.int .i64 3, .int .i64 (0), .int .i64 (0), .int .i64 0] 38) := ⟨_, rfl⟩
    have B6 := (CBox.new w 38 ⟨0, 0, 0, 0⟩).alloc (.cells #[.int .i64 3, .int .i64 (0), .int .i64 (0), .int .i64 0] 38)
    have B7 := CBox.new (w.alloc (.cells #[.int .i64 0, .int .i64 0, .int .i64 0, .int .i64 0] 38)) 38 ⟨3, 0, 0, 0⟩
    rw [l3] at B7
    have hb0 : Below w.heap.size w ((w.alloc (.cells #[.int .i64 0, .int .i64 0, .int .i64 0, .int .i64 0] 38)).alloc (.cells #[.int .i64 3, .int .i64 (0), .int .i64 (0), .int .i64 0] 38)) := ((Below.refl _ _).alloc (Nat.le_refl _) _).alloc (by simp) _
    have HB6 := hide B6
    have HB7 := hide B7
    have HB0 := hide hb0
    clear B6 B7 hb0 W1 HA HB HK HS
    go_enter Try.func18, Try.ntmps18
    have c70 := HB7.out.c0
    have c71 := HB7.out.c1
    have c72 := HB7.out.c2
    have c73' := HB7.out.c3
    go_wp2_with fail
    refine (HVV.out _ HB0.out).mono ?_; rintro e w2 ⟨rfl, hb2⟩
    have P6 := HB6.out.next hb2
    have P7 := HB7.out.next hb2
    have FB := HB0.out.trans (hb2.mono HB0.out.size)
    have c73 := P7.c3
    have f73 := P7.f 3
    have Q7 := P7.set3 tv
    have Q6 := P6.setOther (a := ⟨w.heap.size + 1, 3, none⟩) (by simp) (.int .i64 tv)
    have d70 := Q7.c0
    have d71 := Q7.c1
    have d72 := Q7.c2
    have d73 := Q7.c3
    have R0 := Q6.set0 3
    have R1 := R0.set1 (0)
    have R2 := R1.set2 (0)
    have R3 := R2.set3 tv
    have e0 := Q6.c0
    have e1 := R0.c1
    have e2 := R1.c2
    have e3 := R2.c3
    have g0 := Q6.f 0
    have g1 := R0.f 1
    have g2 := R1.f 2
    have g3 := R2.f 3
    have i0 := R3.c0
    have i1 := R3.c1
    have i2 := R3.c2
    have i3 := R3.c3
    have FB2 := hide (((((FB.setCell (p := ⟨w.heap.size + 1, 3, none⟩) (by simp) (.int .i64 tv)).setCell (p := ⟨w.heap.size, 0, none⟩) (Nat.le_refl _) (.int .i64 3)).setCell (p := ⟨w.heap.size, 1, none⟩) (Nat.le_refl _) (.int .i64 (0))).setCell (p := ⟨w.heap.size, 2, none⟩) (Nat.le_refl _) (.int .i64 (0))).setCell (p := ⟨w.heap.size, 3, none⟩) (Nat.le_refl _) (.int .i64 tv))
    clear c70 c71 c72 c73' hb2 P6 P7 FB Q7 Q6 R0 R1 R2 R3 HVV HB0 HB6 HB7
    go_wp2_with fail
    exact bodyPost_ret (v := .agg #[.int .i64 3, .int .i64 (0), .int .i64 (0), .int .i64 tv]) (by simp [results, Try.results18, go_sem, i0, i1, i2, i3]) rfl ⟨rfl, FB2.out⟩
  · have hA : selA zs.length 4 y = y % (zs.length : Int) := rfl
    have hB : selB zs.length 4 y = (y + 1) % (zs.length : Int) := rfl
    rw [hA, hB] at HS HT
    replace HA := hide (HA.out _ hA)
    replace HB := hide (HB.out _ hB)
    clear hA hB
    rw [HT.out, HA.out, HB.out, HK.out]
    have HVV := hide (fun W (hb : Below w.heap.size w W) => HV.out (y % (zs.length : Int)) ((y + 1) % (zs.length : Int)) W hb HS.out)
    clear HV HT
    generalize told 4 (y % (zs.length : Int)) ((y + 1) % (zs.length : Int)) zs = tv at *
    clear hk
    have hp0 : (0 : Int) < (zs.length : Int) := by omega
    have hp1 : (zs.length : Int) ≤ 4 := by omega
    have ha1 := Int.emod_nonneg y (show (zs.length : Int) ≠ 0 by omega)
    have ha2 := Int.emod_lt_of_pos y hp0
    have W1 : ∃ W, W = (w.alloc (.cells #[.int .i64 0, .int .i64 0, .int .i64 0, .int .i64 0] 38)).alloc (.cells #[.int .i64 4, .int .i64 (y % (zs.length : Int)), .int .i64 ((y + 1) % (zs.length : Int)), .int .i64 0] 38) := ⟨_, rfl⟩
    have B6 := (CBox.new w 38 ⟨0, 0, 0, 0⟩).alloc (.cells #[.int .i64 4, .int .i64 (y % (zs.length : Int)), .int .i64 ((y + 1) % (zs.length : Int)), .int .i64 0] 38)
    have B7 := CBox.new (w.alloc (.cells #[.int .i64 0, .int .i64 0, .int .i64 0, .int .i64 0] 38)) 38 ⟨4, y % (zs.length : Int), (y + 1) % (zs.length : Int), 0⟩
    rw [l3] at B7
    have hb0 : Below w.heap.size w ((w.alloc (.cells #[.int .i64 0, .int .i64 0, .int .i64 0, .int .i64 0] 38)).alloc (.cells #[.int .i64 4, .int .i64 (y % (zs.length : Int)), .int .i64 ((y + 1) % (zs.length : Int)), .int .i64 0] 38)) := ((Below.refl _ _).alloc (Nat.le_refl _) _).alloc (by simp) _
    have HB6 := hide B6
    have HB7 := hide B7
    have HB0 := hide hb0
    clear B6 B7 hb0 W1 HA HB HK HS
    go_enter Try.func18, Try.ntmps18
    have c70 := HB7.out.c0
    have c71 := HB7.out.c1
    have c72 := HB7.out.c2
    have c73' := HB7.out.c3
    go_wp2_with fail
    refine (HVV.out _ HB0.out).mono ?_; rintro e w2 ⟨rfl, hb2⟩
    have P6 := HB6.out.next hb2
    have P7 := HB7.out.next hb2
    have FB := HB0.out.trans (hb2.mono HB0.out.size)
    have c73 := P7.c3
    have f73 := P7.f 3
    have Q7 := P7.set3 tv
    have Q6 := P6.setOther (a := ⟨w.heap.size + 1, 3, none⟩) (by simp) (.int .i64 tv)
    have d70 := Q7.c0
    have d71 := Q7.c1
    have d72 := Q7.c2
    have d73 := Q7.c3
    have R0 := Q6.set0 4
    have R1 := R0.set1 (y % (zs.length : Int))
    have R2 := R1.set2 ((y + 1) % (zs.length : Int))
    have R3 := R2.set3 tv
    have e0 := Q6.c0
    have e1 := R0.c1
    have e2 := R1.c2
    have e3 := R2.c3
    have g0 := Q6.f 0
    have g1 := R0.f 1
    have g2 := R1.f 2
    have g3 := R2.f 3
    have i0 := R3.c0
    have i1 := R3.c1
    have i2 := R3.c2
    have i3 := R3.c3
    have FB2 := hide (((((FB.setCell (p := ⟨w.heap.size + 1, 3, none⟩) (by simp) (.int .i64 tv)).setCell (p := ⟨w.heap.size, 0, none⟩) (Nat.le_refl _) (.int .i64 4)).setCell (p := ⟨w.heap.size, 1, none⟩) (Nat.le_refl _) (.int .i64 (y % (zs.length : Int)))).setCell (p := ⟨w.heap.size, 2, none⟩) (Nat.le_refl _) (.int .i64 ((y + 1) % (zs.length : Int)))).setCell (p := ⟨w.heap.size, 3, none⟩) (Nat.le_refl _) (.int .i64 tv))
    clear c70 c71 c72 c73' hb2 P6 P7 FB Q7 Q6 R0 R1 R2 R3 HVV HB0 HB6 HB7
    go_wp2_with fail
    exact bodyPost_ret (v := .agg #[.int .i64 4, .int .i64 (y % (zs.length : Int)), .int .i64 ((y + 1) % (zs.length : Int)), .int .i64 tv]) (by simp [results, Try.results18, go_sem, i0, i1, i2, i3]) rfl ⟨rfl, FB2.out⟩
  · have hA : selA zs.length 5 y = 0 := rfl
    have hB : selB zs.length 5 y = 0 := rfl
    rw [hA, hB] at HS HT
    replace HA := hide (HA.out _ hA)
    replace HB := hide (HB.out _ hB)
    clear hA hB
    rw [HT.out, HA.out, HB.out, HK.out]
    have HVV := hide (fun W (hb : Below w.heap.size w W) => HV.out (0) (0) W hb HS.out)
    clear HV HT
    generalize told 5 (0) (0) zs = tv at *
    clear hk
    have W1 : ∃ W, W = (w.alloc (.cells #[.int .i64 0, .int .i64 0, .int .i64 0, .int .i64 0] 38)).alloc (.cells #[.int .i64 5, .int .i64 (0), .int .i64 (0), .int .i64 0] 38) := ⟨_, rfl⟩
    have B6 := (CBox.new w 38 ⟨0, 0, 0, 0⟩).alloc (.cells #[.int .i64 5, .int .i64 (0), .int .i64 (0), .int .i64 0] 38)
    have B7 := CBox.new (w.alloc (.cells #[.int .i64 0, .int .i64 0, .int .i64 0, .int .i64 0] 38)) 38 ⟨5, 0, 0, 0⟩
    rw [l3] at B7
    have hb0 : Below w.heap.size w ((w.alloc (.cells #[.int .i64 0, .int .i64 0, .int .i64 0, .int .i64 0] 38)).alloc (.cells #[.int .i64 5, .int .i64 (0), .int .i64 (0), .int .i64 0] 38)) := ((Below.refl _ _).alloc (Nat.le_refl _) _).alloc (by simp) _
    have HB6 := hide B6
    have HB7 := hide B7
    have HB0 := hide hb0
    clear B6 B7 hb0 W1 HA HB HK HS
    go_enter Try.func18, Try.ntmps18
    have c70 := HB7.out.c0
    have c71 := HB7.out.c1
    have c72 := HB7.out.c2
    have c73' := HB7.out.c3
    go_wp2_with fail
    refine (HVV.out _ HB0.out).mono ?_; rintro e w2 ⟨rfl, hb2⟩
    have P6 := HB6.out.next hb2
    have P7 := HB7.out.next hb2
    have FB := HB0.out.trans (hb2.mono HB0.out.size)
    have c73 := P7.c3
    have f73 := P7.f 3
    have Q7 := P7.set3 tv
    have Q6 := P6.setOther (a := ⟨w.heap.size + 1, 3, none⟩) (by simp) (.int .i64 tv)
    have d70 := Q7.c0
    have d71 := Q7.c1
    have d72 := Q7.c2
    have d73 := Q7.c3
    have R0 := Q6.set0 5
    have R1 := R0.set1 (0)
    have R2 := R1.set2 (0)
    have R3 := R2.set3 tv
    have e0 := Q6.c0
    have e1 := R0.c1
    have e2 := R1.c2
    have e3 := R2.c3
    have g0 := Q6.f 0
    have g1 := R0.f 1
    have g2 := R1.f 2
    have g3 := R2.f 3
    have i0 := R3.c0
    have i1 := R3.c1
    have i2 := R3.c2
    have i3 := R3.c3
    have FB2 := hide (((((FB.setCell (p := ⟨w.heap.size + 1, 3, none⟩) (by simp) (.int .i64 tv)).setCell (p := ⟨w.heap.size, 0, none⟩) (Nat.le_refl _) (.int .i64 5)).setCell (p := ⟨w.heap.size, 1, none⟩) (Nat.le_refl _) (.int .i64 (0))).setCell (p := ⟨w.heap.size, 2, none⟩) (Nat.le_refl _) (.int .i64 (0))).setCell (p := ⟨w.heap.size, 3, none⟩) (Nat.le_refl _) (.int .i64 tv))
    clear c70 c71 c72 c73' hb2 P6 P7 FB Q7 Q6 R0 R1 R2 R3 HVV HB0 HB6 HB7
    go_wp2_with fail
    exact bodyPost_ret (v := .agg #[.int .i64 5, .int .i64 (0), .int .i64 (0), .int .i64 tv]) (by simp [results, Try.results18, go_sem, i0, i1, i2, i3]) rfl ⟨rfl, FB2.out⟩
end Go.Proofs.Ytfmncffjaholmaa
