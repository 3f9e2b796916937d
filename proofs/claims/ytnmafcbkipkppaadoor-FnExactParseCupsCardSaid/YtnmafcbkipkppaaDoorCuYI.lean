
/-
  THE PROGRAM's ParseCups.
-/
import Derived.Test.YtnmafcbkipkppaaDoorCuYP
import Derived.Test.YtnmafcbkipkppaaDoorCu
import Derived.Test.YtnmafcbkipkppaaDoorCuO
import Derived.Test.YtnmafcbkipkppaaDoorBox
import Derived.Test.YtnmafcbkipkppaaDoorShelfC
namespace Go.Proofs.YtnmafcbkipkppaaDoor
open Go.RowKit Go.Deep
set_option linter.unusedVariables false

theorem cut_len47 (l : List UInt8) : (Lib.cut l [47]).1.length ≤ l.length ∧ (Lib.cut l [47]).2.1.length ≤ l.length := by
  unfold Lib.cut
  split
  · simp only [List.length_take, List.length_drop]; omega
  · simp
theorem cut_any47 (l : List UInt8) (hl : l.length ≤ 1048576) (w : World) (h : w.ShapedOpen Tryd.prog) :
    Calls Tryd.prog 10 #[.string (bs l), .string ⟨#[47]⟩] w fun e w' => e = .returned (.tuple #[.string (bs (Lib.cut l [47]).1), .string (bs (Lib.cut l [47]).2.1), .bool (Lib.cut l [47]).2.2]) ∧ Below w.heap.size w w' := by
  have h := Tryd.strings_Cut_shaped (bs l) ⟨#[47]⟩ w h (by rw [bs_len]; omega)
  rw [bs_data] at h
  exact h.mono fun e w' ⟨he, n, hw⟩ => ⟨he, hw ▸ below_drewN (Below.refl _ _) n⟩

set_option maxRecDepth 1000000 in
set_option maxHeartbeats 1000000 in
theorem ParseCups_any (l : List UInt8) (hl : l.length ≤ 1048576) (w : World) (hP : LaidP w ∧ Tab w) :
    Calls Tryd.prog 5 #[.string (bs l)] w (MadeCB (ycL l) (ycU l) (ycOk l) w) := by
  have b0 : Below w.heap.size w (w.alloc (.cells #[.slice none 0 0, .int .i64 0] 24)) := (Below.refl _ _).alloc (Nat.le_refl _) _
  have X0 := hide (Bx.new w 24 (.slice none 0 0) (.int .i64 0))
  have HP0 := hide (hP.1.next b0)
  have HT0 := hide (hP.2.next b0)
  have hcl := cut_len47 l
  have HC := hide (fun W (h : LaidP W) => cut_any47 l hl W h.2.2)
  have HN := hide (fun W (h : LaidP W) => parseNumber_any (Lib.cut l [47]).2.1 (by omega) W h)
  have HK := hide (fun W (h : LaidP W) => splitPartsInt_any45 (Lib.cut l [47]).1 (by omega) W h)
  have HY := hide (show ycP l = ycG (Lib.cut l [47]).1 (Lib.cut l [47]).2.1 from rfl)
  have HNO := hide (fun h => yc_none (l := l) h)
  have HYE := hide (fun zs u h => yc_some (l := l) (u := u) (zs := zs) h)
  clear hP hcl
  generalize ycP l = pp at *
  generalize ycL l = yl at *
  generalize ycU l = yu at *
  generalize ycOk l = yo at *
  generalize bs l = s at *
  generalize (Lib.cut l [47]).1 = a at *
  generalize (Lib.cut l [47]).2.1 = b at *
  generalize (Lib.cut l [47]).2.2 = f at *
  have HB0 := hide b0
  clear b0
  have HG := hide (show ycG a b = match spI45 a 6, pn b with
    | some zs, some u => if cuOk zs u then some (zs, u) else none
    | _, _ => none from rfl)
  have HLc := hide (show ∀ zs, spI45 a 6 = some zs → zs.length ≤ 6 from fun zs h => by
    unfold spI45 at h
    split at h
    · have := pnAll_length h; omega
    · cases h)
  generalize bs a = za at *
  generalize bs b = zb at *
  generalize spI45 a 6 = oc at *
  generalize pn b = on at *
  rw [HG.out] at HY
  by_cases hbad : (oc = none ∨ on = none)
  · have hp : pp = none := by
      rw [HY.out]
      rcases hbad with rfl | rfl
      · rfl
      · cases oc <;> rfl
    obtain ⟨rfl, rfl, rfl⟩ := HNO.out hp
    have HBAD : Hid ((!oc.isSome || !on.isSome) = true) := hide (by
      rcases hbad with rfl | rfl
      · rfl
      · simp)
    clear hp hbad HY HG HNO HYE HLc
    generalize on.isSome = nb at *
    generalize on.getD 0 = u at *
    generalize oc.isSome = cb at *
    generalize oc.getD [] = zs at *
    go_enter Tryd.func5, Tryd.ntmps5
    go_wp2_with fail
    generalize hW0 : (w.alloc (.cells #[.slice none 0 0, .int .i64 0] 24)) = W0 at *
    have S0 := hide (show W0.heap.size = w.heap.size + 1 from by rw [← hW0]; simp)
    clear hW0
    refine (HC.out _ HP0.out).mono ?_; rintro e w1 ⟨rfl, hb1⟩
    have S1 := hide hb1.size
    have q1 := hide (below_next HB0.out hb1)
    have HP1 := hide (HP0.out.next hb1)
    have HT1 := hide (HT0.out.next hb1)
    have X1 := hide (X0.out.next hb1)
    clear hb1
    go_wp2_with fail
    refine (HK.out _ HP1.out).mono ?_; rintro e w2 ⟨A, c, rfl, hc1, hc2, hown, hb2⟩
    have q2 := hide (below_next q1.out hb2)
    have HP2 := hide (HP1.out.next hb2)
    have HT2 := hide (HT1.out.next hb2)
    have X2 := hide (X1.out.next hb2)
    clear hb2
    go_wp2_with fail
    refine (HN.out _ HP2.out).mono ?_; rintro e w3 ⟨rfl, hb3⟩
    have q3 := hide (below_next q2.out hb3)
    have HT3 := hide (HT2.out.next hb3)
    have X3 := hide (X2.out.next hb3)
    have O3 := hide (hown.below hb3)
    clear hb3 hown
    have X4 := hide (X3.out.alloc (.cells #[.slice A zs.length c, .int .i64 u] 24))
    have q4 := hide (q3.out.alloc q3.out.size (.cells #[.slice A zs.length c, .int .i64 u] 24))
    have V := (X4.out.set0 (.slice none 0 0)).set1 (.int .i64 0)
    have V0 := V.c0
    have V1 := V.c1
    clear V
    have x0 := X4.out.c0
    have x1 := X4.out.c1
    have k0 := X4.out.f 0
    have k1 := X4.out.f 1
    have hbd := HBAD.out
    clear HBAD
    cases cb
    · go_wp2_with fail
      exact bodyPost_ret (v := .tuple #[.agg #[.slice none 0 0, .int .i64 0], .bool false]) (by simp [results, Tryd.results5, go_sem, V0, V1]) rfl (madeCB_no _ _ ((q4.out.setCell (Nat.le_refl _) _).setCell (Nat.le_refl _) _))
    · cases nb
      · go_wp2_with fail
        exact bodyPost_ret (v := .tuple #[.agg #[.slice none 0 0, .int .i64 0], .bool false]) (by simp [results, Tryd.results5, go_sem, V0, V1]) rfl (madeCB_no _ _ ((q4.out.setCell (Nat.le_refl _) _).setCell (Nat.le_refl _) _))
      · cases hbd
  · obtain ⟨u, rfl⟩ : ∃ u, on = some u := by
      cases on with
      | none => exact absurd (.inr rfl) hbad
      | some u => exact ⟨u, rfl⟩
    obtain ⟨zs, rfl⟩ : ∃ zs, oc = some zs := by
      cases oc with
      | none => exact absurd (.inl rfl) hbad
      | some zs => exact ⟨zs, rfl⟩
    have hl6 := HLc.out zs rfl
    dsimp only at HY
    simp only [Option.getD_some, Option.isSome_some] at HN HK
    have HI := hide (fun A c W (hr : Ints W W.heap.size A zs.length zs) (hT : Tab W) => AreCups_any A zs.length c W.heap.size zs u W hr (Nat.le_refl _) (by omega) hT)
    clear hbad HG HLc
    cases ho : cuOk zs u
    · rw [ho] at HY HI
      have hp : pp = none := by rw [HY.out]; rfl
      obtain ⟨rfl, rfl, rfl⟩ := HNO.out hp
      clear hp HY HNO HYE ho
      go_enter Tryd.func5, Tryd.ntmps5
      go_wp2_with fail
      generalize hW0 : (w.alloc (.cells #[.slice none 0 0, .int .i64 0] 24)) = W0 at *
      have S0 := hide (show W0.heap.size = w.heap.size + 1 from by rw [← hW0]; simp)
      clear hW0
      refine (HC.out _ HP0.out).mono ?_; rintro e w1 ⟨rfl, hb1⟩
      have S1 := hide hb1.size
      have q1 := hide (below_next HB0.out hb1)
      have HP1 := hide (HP0.out.next hb1)
      have HT1 := hide (HT0.out.next hb1)
      have X1 := hide (X0.out.next hb1)
      clear hb1
      go_wp2_with fail
      refine (HK.out _ HP1.out).mono ?_; rintro e w2 ⟨A, c, rfl, hc1, hc2, hown, hb2⟩
      have q2 := hide (below_next q1.out hb2)
      have HP2 := hide (HP1.out.next hb2)
      have HT2 := hide (HT1.out.next hb2)
      have X2 := hide (X1.out.next hb2)
      clear hb2
      go_wp2_with fail
      refine (HN.out _ HP2.out).mono ?_; rintro e w3 ⟨rfl, hb3⟩
      have q3 := hide (below_next q2.out hb3)
      have HT3 := hide (HT2.out.next hb3)
      have X3 := hide (X2.out.next hb3)
      have O3 := hide (hown.below hb3)
      clear hb3 hown
      have X4 := hide (X3.out.alloc (.cells #[.slice A zs.length c, .int .i64 u] 24))
      have P4 := hide (Bx.new w3 24 (.slice A zs.length c) (.int .i64 u))
      have b4 : Below w3.heap.size w3 (w3.alloc (.cells #[.slice A zs.length c, .int .i64 u] 24)) := (Below.refl _ _).alloc (Nat.le_refl _) _
      have q4 := hide (below_next q3.out b4)
      have HT4 := hide (HT3.out.next b4)
      have O4 := hide (O3.out.below b4)
      clear b4
      have p0 := P4.out.c0
      have p1 := P4.out.c1
      go_wp2_with fail
      generalize (w3.alloc (.cells #[.slice A zs.length c, .int .i64 u] 24)) = W4 at *
      refine (HI.out _ _ _ O4.out.ints HT4.out).mono ?_; rintro e w5 ⟨rfl, hb5⟩
      have q5 := hide (below_next q4.out hb5)
      have X5 := hide (X4.out.next hb5)
      have P5 := hide (P4.out.next hb5)
      have O5 := hide (O4.out.below hb5)
      clear hb5 p0 p1
      have p0 := P5.out.c0
      have p1 := P5.out.c1
      have x0 := X5.out.c0
      have x1 := X5.out.c1
      have k0 := X5.out.f 0
      have k1 := X5.out.f 1
      have V := (X5.out.set0 (.slice none 0 0)).set1 (.int .i64 0)
      have V0 := V.c0
      have V1 := V.c1
      clear V
      go_wp2_with fail
      exact bodyPost_ret (v := .tuple #[.agg #[.slice none 0 0, .int .i64 0], .bool false]) (by simp [results, Tryd.results5, go_sem, V0, V1]) rfl (madeCB_no _ _ ((q5.out.setCell (Nat.le_refl _) _).setCell (Nat.le_refl _) _))
    · rw [ho] at HY HI
      have hp : pp = some (zs, u) := by rw [HY.out]; rfl
      obtain ⟨hy1, hy2, hy3⟩ := HYE.out zs u hp
      rw [hy1, hy2, hy3]
      clear hy1 hy2 hy3 hp HY HNO HYE ho
      go_enter Tryd.func5, Tryd.ntmps5
      go_wp2_with fail
      generalize hW0 : (w.alloc (.cells #[.slice none 0 0, .int .i64 0] 24)) = W0 at *
      have S0 := hide (show W0.heap.size = w.heap.size + 1 from by rw [← hW0]; simp)
      clear hW0
      refine (HC.out _ HP0.out).mono ?_; rintro e w1 ⟨rfl, hb1⟩
      have S1 := hide hb1.size
      have q1 := hide (below_next HB0.out hb1)
      have HP1 := hide (HP0.out.next hb1)
      have HT1 := hide (HT0.out.next hb1)
      have X1 := hide (X0.out.next hb1)
      clear hb1
      go_wp2_with fail
      refine (HK.out _ HP1.out).mono ?_; rintro e w2 ⟨A, c, rfl, hc1, hc2, hown, hb2⟩
      have q2 := hide (below_next q1.out hb2)
      have HP2 := hide (HP1.out.next hb2)
      have HT2 := hide (HT1.out.next hb2)
      have X2 := hide (X1.out.next hb2)
      clear hb2
      go_wp2_with fail
      refine (HN.out _ HP2.out).mono ?_; rintro e w3 ⟨rfl, hb3⟩
      have q3 := hide (below_next q2.out hb3)
      have HT3 := hide (HT2.out.next hb3)
      have X3 := hide (X2.out.next hb3)
      have O3 := hide (hown.below hb3)
      clear hb3 hown
      have X4 := hide (X3.out.alloc (.cells #[.slice A zs.length c, .int .i64 u] 24))
      have P4 := hide (Bx.new w3 24 (.slice A zs.length c) (.int .i64 u))
      have b4 : Below w3.heap.size w3 (w3.alloc (.cells #[.slice A zs.length c, .int .i64 u] 24)) := (Below.refl _ _).alloc (Nat.le_refl _) _
      have q4 := hide (below_next q3.out b4)
      have HT4 := hide (HT3.out.next b4)
      have O4 := hide (O3.out.below b4)
      clear b4
      have p0 := P4.out.c0
      have p1 := P4.out.c1
      go_wp2_with fail
      generalize (w3.alloc (.cells #[.slice A zs.length c, .int .i64 u] 24)) = W4 at *
      refine (HI.out _ _ _ O4.out.ints HT4.out).mono ?_; rintro e w5 ⟨rfl, hb5⟩
      have q5 := hide (below_next q4.out hb5)
      have X5 := hide (X4.out.next hb5)
      have P5 := hide (P4.out.next hb5)
      have O5 := hide (O4.out.below hb5)
      clear hb5 p0 p1
      have p0 := P5.out.c0
      have p1 := P5.out.c1
      have x0 := X5.out.c0
      have x1 := X5.out.c1
      have k0 := X5.out.f 0
      have k1 := X5.out.f 1
      have V := (X5.out.set0 (.slice A zs.length c)).set1 (.int .i64 u)
      have V0 := V.c0
      have V1 := V.c1
      clear V
      go_wp2_with fail
      refine bodyPost_ret (v := .tuple #[.agg #[.slice A zs.length c, .int .i64 u], .bool true]) (by simp [results, Tryd.results5, go_sem, V0, V1]) rfl ⟨A, c, rfl, hc1, hc2, ?_, (q5.out.setCell (Nat.le_refl _) _).setCell (Nat.le_refl _) _⟩
      refine (O5.out.keep (fun g hg hl => ?_)).less (by have := S0.out; have := S1.out; omega)
      have h1 : g ≠ w.heap.size := by have := S0.out; have := S1.out; omega
      exact (Below.heap_setCell _ _ _ _ h1).trans (Below.heap_setCell _ _ _ _ h1)
end Go.Proofs.YtnmafcbkipkppaaDoor
