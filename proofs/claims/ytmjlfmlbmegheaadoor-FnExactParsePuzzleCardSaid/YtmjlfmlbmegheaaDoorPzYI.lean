
/-
  THE PROGRAM's ParsePuzzle.
-/
import Derived.Test.YtmjlfmlbmegheaaDoorPzYF
namespace Go.Proofs.YtmjlfmlbmegheaaDoor
open Go.RowKit Go.Deep
set_option linter.unusedVariables false

/-- What a reading of a puzzle leaves. -/
def MadeY (ds : List Cl) (h : Int) (b : Bool) (w : World) (e : Ending) (w' : World) : Prop :=
  ∃ A c, e = .returned (.tuple #[.agg #[.int .i64 h, .slice A ds.length c], .bool b]) ∧ OwnICl w' w.heap.size (.slice A ds.length c) ds.length (numsCl ds) ∧ Below w.heap.size w w'
theorem madeY_no {w w' : World} (h : Below w.heap.size w w') : MadeY [] 0 false w (.returned (.tuple #[.agg #[.int .i64 0, .slice none 0 0], .bool false])) w' :=
  ⟨none, 0, rfl, OwnICl.nil _ _, h⟩

theorem cut_len (l : List UInt8) : (Lib.cut l [104]).1.length ≤ l.length ∧ (Lib.cut l [104]).2.1.length ≤ l.length := by
  unfold Lib.cut
  split
  · simp only [List.length_take, List.length_drop]; omega
  · simp
theorem cut_any (l : List UInt8) (hl : l.length ≤ 1048576) (w : World) (h : w.ShapedOpen Tryd.prog) :
    Calls Tryd.prog 24 #[.string (bs l), .string ⟨#[104]⟩] w fun e w' => e = .returned (.tuple #[.string (bs (Lib.cut l [104]).1), .string (bs (Lib.cut l [104]).2.1), .bool (Lib.cut l [104]).2.2]) ∧ Below w.heap.size w w' := by
  have h := Tryd.strings_Cut_shaped (bs l) ⟨#[104]⟩ w h (by rw [bs_len]; omega)
  rw [bs_data] at h
  exact h.mono fun e w' ⟨he, n, hw⟩ => ⟨he, hw ▸ below_drewN (Below.refl _ _) n⟩

set_option maxRecDepth 1000000 in
set_option maxHeartbeats 1000000 in
theorem ParsePuzzle_any (l : List UInt8) (hl : l.length ≤ 1048576) (w : World) (hP : LaidP w) :
    Calls Tryd.prog 11 #[.string (bs l)] w (MadeY (pyL l) (pyU l) (pyOk l) w) := by
  have b0 : Below w.heap.size w (w.alloc (.cells #[.int .i64 0, .slice none 0 0] 30)) := (Below.refl _ _).alloc (Nat.le_refl _) _
  have X0 := hide (Bx.new w 30 (.int .i64 0) (.slice none 0 0))
  have HP0 := hide (hP.next b0)
  have hcl := cut_len l
  have HC := hide (fun W (h : LaidP W) => cut_any l hl W h.2.2)
  have HN := hide (fun W (h : LaidP W) => parseNumber_any (Lib.cut l [104]).1 (by omega) W h)
  have HK := hide (fun W (h : LaidP W) => parseClues_any (Lib.cut l [104]).2.1 (by omega) W h)
  have HY := hide (show pyP l = pyG (Lib.cut l [104]).1 (Lib.cut l [104]).2.1 (Lib.cut l [104]).2.2 from rfl)
  have HNO := hide (fun h => py_none (l := l) h)
  have HYE := hide (fun u cs h => py_some (l := l) (u := u) (cs := cs) h)
  clear hP hcl
  generalize pyP l = pp at *
  generalize pyL l = yl at *
  generalize pyU l = yu at *
  generalize pyOk l = yo at *
  generalize bs l = s at *
  generalize (Lib.cut l [104]).1 = a at *
  generalize (Lib.cut l [104]).2.1 = b at *
  generalize (Lib.cut l [104]).2.2 = f at *
  have HB0 := hide b0
  clear b0
  have HG := hide (show pyG a b f = match pn a, pCs b with
    | some u, some cs => if f && pzOk u cs then some (u, cs) else none
    | _, _ => none from rfl)
  have HLc := hide (show ∀ cs, pCs b = some cs → cs.length ≤ 6 from fun cs h => by
    unfold pCs at h
    split at h
    · injection h with h; subst h; simp
    · split at h
      · have := pCAll_length _ _ h; omega
      · cases h)
  generalize bs a = za at *
  generalize bs b = zb at *
  generalize pCs b = oc at *
  generalize pn a = on at *
  rw [HG.out] at HY
  by_cases hbad : (f = false ∨ on = none ∨ oc = none)
  · have hp : pp = none := by
      rw [HY.out]
      rcases hbad with rfl | rfl | rfl
      · cases on <;> cases oc <;> simp
      · rfl
      · cases on <;> rfl
    obtain ⟨rfl, rfl, rfl⟩ := HNO.out hp
    have HBAD : Hid ((!f || (!on.isSome || !oc.isSome)) = true) := hide (by
      rcases hbad with rfl | rfl | rfl
      · rfl
      · simp
      · simp)
    clear hp hbad HY HG HNO HYE HLc
    generalize on.isSome = nb at *
    generalize on.getD 0 = nv at *
    generalize oc.isSome = cb at *
    generalize oc.getD [] = cv at *
    go_enter Tryd.func11, Tryd.ntmps11
    go_wp2_with fail
    generalize (w.alloc (.cells #[.int .i64 0, .slice none 0 0] 30)) = W0 at *
    refine (HC.out _ HP0.out).mono ?_; rintro e w1 ⟨rfl, hb1⟩
    have q1 := hide (below_next HB0.out hb1)
    have HP1 := hide (HP0.out.next hb1)
    have X1 := hide (X0.out.next hb1)
    clear hb1
    go_wp2_with fail
    refine (HN.out _ HP1.out).mono ?_; rintro e w2 ⟨rfl, hb2⟩
    have q2 := hide (below_next q1.out hb2)
    have HP2 := hide (HP1.out.next hb2)
    have X2 := hide (X1.out.next hb2)
    clear hb2
    go_wp2_with fail
    refine (HK.out _ HP2.out).mono ?_; rintro e w3 ⟨A, c, rfl, hown, hb3⟩
    have q3 := hide (below_next q2.out hb3)
    have X3 := hide (X2.out.next hb3)
    clear hb3 hown
    have X4 := hide (X3.out.alloc (.cells #[.int .i64 nv, .slice A cv.length c] 30))
    have q4 := hide (q3.out.alloc q3.out.size (.cells #[.int .i64 nv, .slice A cv.length c] 30))
    have V := (X4.out.set0 (.int .i64 0)).set1 (.slice none 0 0)
    have V0 := V.c0
    have V1 := V.c1
    have x0 := X4.out.c0
    have x1 := X4.out.c1
    have k0 := X4.out.f 0
    have k1 := X4.out.f 1
    clear V
    have hbd := HBAD.out
    clear HBAD
    cases f
    · go_wp2_with fail
      exact bodyPost_ret (v := .tuple #[.agg #[.int .i64 0, .slice none 0 0], .bool false]) (by simp [results, Tryd.results11, go_sem, V0, V1]) rfl (madeY_no ((q4.out.setCell (Nat.le_refl _) _).setCell (Nat.le_refl _) _))
    · cases nb
      · go_wp2_with fail
        exact bodyPost_ret (v := .tuple #[.agg #[.int .i64 0, .slice none 0 0], .bool false]) (by simp [results, Tryd.results11, go_sem, V0, V1]) rfl (madeY_no ((q4.out.setCell (Nat.le_refl _) _).setCell (Nat.le_refl _) _))
      · cases cb
        · go_wp2_with fail
          exact bodyPost_ret (v := .tuple #[.agg #[.int .i64 0, .slice none 0 0], .bool false]) (by simp [results, Tryd.results11, go_sem, V0, V1]) rfl (madeY_no ((q4.out.setCell (Nat.le_refl _) _).setCell (Nat.le_refl _) _))
        · cases hbd
  · obtain ⟨u, rfl⟩ : ∃ u, on = some u := by
      cases on with
      | none => exact absurd (.inr (.inl rfl)) hbad
      | some u => exact ⟨u, rfl⟩
    obtain ⟨cs, rfl⟩ : ∃ cs, oc = some cs := by
      cases oc with
      | none => exact absurd (.inr (.inr rfl)) hbad
      | some cs => exact ⟨cs, rfl⟩
    obtain rfl : f = true := by
      cases f with
      | false => exact absurd (.inl rfl) hbad
      | true => rfl
    have hl6 := HLc.out cs rfl
    simp only [Bool.true_and] at HY
    simp only [Option.getD_some, Option.isSome_some] at HN HK
    have HI := hide (fun A c W (hr : Cls W W.heap.size A cs.length cs) => IsPuzzle_any A cs.length c W.heap.size cs u W hr (Nat.le_refl _) (by omega))
    clear hbad HG HLc
    cases ho : pzOk u cs
    · rw [ho] at HY HI
      have hp : pp = none := by rw [HY.out]; rfl
      obtain ⟨rfl, rfl, rfl⟩ := HNO.out hp
      clear hp HY HNO HYE ho
      go_enter Tryd.func11, Tryd.ntmps11
      go_wp2_with fail
      generalize (w.alloc (.cells #[.int .i64 0, .slice none 0 0] 30)) = W0 at *
      refine (HC.out _ HP0.out).mono ?_; rintro e w1 ⟨rfl, hb1⟩
      have q1 := hide (below_next HB0.out hb1)
      have HP1 := hide (HP0.out.next hb1)
      have X1 := hide (X0.out.next hb1)
      clear hb1
      go_wp2_with fail
      refine (HN.out _ HP1.out).mono ?_; rintro e w2 ⟨rfl, hb2⟩
      have q2 := hide (below_next q1.out hb2)
      have HP2 := hide (HP1.out.next hb2)
      have X2 := hide (X1.out.next hb2)
      clear hb2
      go_wp2_with fail
      refine (HK.out _ HP2.out).mono ?_; rintro e w3 ⟨A, c, rfl, hown, hb3⟩
      have q3 := hide (below_next q2.out hb3)
      have X3 := hide (X2.out.next hb3)
      clear hb3
      have X4 := hide (X3.out.alloc (.cells #[.int .i64 u, .slice A cs.length c] 30))
      have P4 := hide (Bx.new w3 30 (.int .i64 u) (.slice A cs.length c))
      have q4 := hide (q3.out.alloc q3.out.size (.cells #[.int .i64 u, .slice A cs.length c] 30))
      have hown4 := hide (hown.below ((Below.refl w3.heap.size w3).alloc (Nat.le_refl _) (.cells #[.int .i64 u, .slice A cs.length c] 30)))
      clear hown
      have p0 := P4.out.c0
      have p1 := P4.out.c1
      go_wp2_with fail
      generalize (w3.alloc (.cells #[.int .i64 u, .slice A cs.length c] 30)) = W4 at *
      refine (HI.out _ _ _ hown4.out.list).mono ?_; rintro e w5 ⟨rfl, hb5⟩
      have q5 := hide (below_next q4.out hb5)
      have X5 := hide (X4.out.next hb5)
      clear hb5 p0 p1
      have V := (X5.out.set0 (.int .i64 0)).set1 (.slice none 0 0)
      have V0 := V.c0
      have V1 := V.c1
      have x0 := X5.out.c0
      have x1 := X5.out.c1
      have k0 := X5.out.f 0
      have k1 := X5.out.f 1
      clear V
      go_wp2_with fail
      exact bodyPost_ret (v := .tuple #[.agg #[.int .i64 0, .slice none 0 0], .bool false]) (by simp [results, Tryd.results11, go_sem, V0, V1]) rfl (madeY_no ((q5.out.setCell (Nat.le_refl _) _).setCell (Nat.le_refl _) _))
    · rw [ho] at HY HI
      have hp : pp = some (u, cs) := by rw [HY.out]; rfl
      obtain ⟨hy1, hy2, hy3⟩ := HYE.out u cs hp
      rw [hy1, hy2, hy3]
      clear hy1 hy2 hy3 hp HY HNO HYE ho
      go_enter Tryd.func11, Tryd.ntmps11
      go_wp2_with fail
      generalize hW0 : (w.alloc (.cells #[.int .i64 0, .slice none 0 0] 30)) = W0 at *
      have S0 := hide (show W0.heap.size = w.heap.size + 1 from by rw [← hW0]; simp)
      clear hW0
      refine (HC.out _ HP0.out).mono ?_; rintro e w1 ⟨rfl, hb1⟩
      have S1 := hide hb1.size
      have q1 := hide (below_next HB0.out hb1)
      have HP1 := hide (HP0.out.next hb1)
      have X1 := hide (X0.out.next hb1)
      clear hb1
      go_wp2_with fail
      refine (HN.out _ HP1.out).mono ?_; rintro e w2 ⟨rfl, hb2⟩
      have S2 := hide hb2.size
      have q2 := hide (below_next q1.out hb2)
      have HP2 := hide (HP1.out.next hb2)
      have X2 := hide (X1.out.next hb2)
      clear hb2
      go_wp2_with fail
      refine (HK.out _ HP2.out).mono ?_; rintro e w3 ⟨A, c, rfl, hown, hb3⟩
      have q3 := hide (below_next q2.out hb3)
      have X3 := hide (X2.out.next hb3)
      clear hb3
      have X4 := hide (X3.out.alloc (.cells #[.int .i64 u, .slice A cs.length c] 30))
      have P4 := hide (Bx.new w3 30 (.int .i64 u) (.slice A cs.length c))
      have q4 := hide (q3.out.alloc q3.out.size (.cells #[.int .i64 u, .slice A cs.length c] 30))
      have hown4 := hide (hown.below ((Below.refl w3.heap.size w3).alloc (Nat.le_refl _) (.cells #[.int .i64 u, .slice A cs.length c] 30)))
      clear hown
      have p0 := P4.out.c0
      have p1 := P4.out.c1
      go_wp2_with fail
      generalize (w3.alloc (.cells #[.int .i64 u, .slice A cs.length c] 30)) = W4 at *
      refine (HI.out _ _ _ hown4.out.list).mono ?_; rintro e w5 ⟨rfl, hb5⟩
      have q5 := hide (below_next q4.out hb5)
      have X5 := hide (X4.out.next hb5)
      have P5 := hide (P4.out.next hb5)
      have hown5 := hide (hown4.out.below hb5)
      clear hb5 p0 p1
      have p0 := P5.out.c0
      have p1 := P5.out.c1
      have V := (X5.out.set0 (.int .i64 u)).set1 (.slice A cs.length c)
      have V0 := V.c0
      have V1 := V.c1
      have x0 := X5.out.c0
      have x1 := X5.out.c1
      have k0 := X5.out.f 0
      have k1 := X5.out.f 1
      clear V
      go_wp2_with fail
      refine bodyPost_ret (v := .tuple #[.agg #[.int .i64 u, .slice A cs.length c], .bool true]) (by simp [results, Tryd.results11, go_sem, V0, V1]) rfl ⟨A, c, rfl, ?_, (q5.out.setCell (Nat.le_refl _) _).setCell (Nat.le_refl _) _⟩
      refine (hown5.out.keep (fun g hg hl => ?_)).less (by have := S0.out; have := S1.out; have := S2.out; omega)
      have h1 : g ≠ w.heap.size := by have := S0.out; have := S1.out; have := S2.out; omega
      exact (Below.heap_setCell _ _ _ _ h1).trans (Below.heap_setCell _ _ _ _ h1)
end Go.Proofs.YtmjlfmlbmegheaaDoor
