
/-
  CUPS OF DROPS, BOTH WAYS: CupsOf.
-/
import Derived.Test.YtlempjfkgmlidaaDoorCuL
import Derived.Test.YtlempjfkgmlidaaDoorCuS
import Derived.Test.YtlempjfkgmlidaaDoorCopy
namespace Go.Proofs.YtlempjfkgmlidaaDoor
open Go.RowKit Go.Deep
set_option linter.unusedVariables false

/-- WHAT A CALL THAT MAKES CUPS, PERHAPS, LEAVES. -/
def MadeCB (fs : List Int) (fu : Int) (b : Bool) (w : World) (e : Ending) (w' : World) : Prop :=
  ∃ A c, e = .returned (.tuple #[.agg #[.slice A fs.length c, .int .i64 fu], .bool b]) ∧ fs.length ≤ c ∧ c ≤ maxLen ∧ Own w' w.heap.size 3 (.slice A fs.length c) fs ∧ Below w.heap.size w w'
theorem madeCB_no (w w' : World) (h : Below w.heap.size w w') : MadeCB [] 0 false w (.returned (.tuple #[.agg #[.slice none 0 0, .int .i64 0], .bool false])) w' :=
  ⟨none, 0, rfl, Nat.le_refl _, by unfold maxLen; omega, Own.nil _ _ _, h⟩

/-- slices.Clone of any list. -/
theorem CloneAny_any (A : Option Addr) (n c B : Nat) (zs : List Int) (w : World) (hr : Ints w B A n zs) (hB : B ≤ w.heap.size) (hn : n < 10000000) :
    Calls Tryd.prog 37 #[.slice A n c] w fun e w' => ∃ v, e = .returned v ∧ Own w' w.heap.size 3 v zs ∧ Below w.heap.size w w' := by
  obtain rfl := hr.len
  cases A with
  | none =>
    have hz : zs = [] := by
      rcases Nat.eq_zero_or_pos zs.length with h | h
      · exact List.length_eq_zero_iff.1 h
      · obtain ⟨ad, had, _⟩ := hr.at_ h
        cases had
    subst hz
    have he := fun w => Lib.run_eql_slice_nil (P := Tryd.prog) w 22 3 none 0 c 0 0 Tryd.underlying22
    go_enter Tryd.func37, Tryd.ntmps37
    go_wp2_with fail
    exact bodyPost_ret (v := .slice none 0 0) (by simp [results, Tryd.results37, go_sem]) rfl ⟨_, rfl, Own.nil _ _ _, Below.refl _ _⟩
  | some ad =>
    have he := fun w => Lib.run_eql_slice_nil (P := Tryd.prog) w 22 3 (some ad) zs.length c 0 0 Tryd.underlying22
    go_enter Tryd.func37, Tryd.ntmps37
    go_wp2_with (at_builtin; refine wpList_app_list rfl _ _ 22 3 rfl Tryd.underlying22 infoInt rfl ad _ _ B zs rfl hr hB hn ?_; intro v' w' hown' hb')
    go_ret
    exact ⟨v', rfl, hown', hb'⟩

def ofL (zs : List Int) : List Int := if cuOk zs 1 then zs else []
def ofU (zs : List Int) : Int := if cuOk zs 1 then 1 else 0
theorem ofL_no {zs : List Int} (h : cuOk zs 1 = false) : ofL zs = [] := by unfold ofL; rw [h]; rfl
theorem ofU_no {zs : List Int} (h : cuOk zs 1 = false) : ofU zs = 0 := by unfold ofU; rw [h]; rfl
theorem ofL_yes {zs : List Int} (h : cuOk zs 1 = true) : ofL zs = zs := by unfold ofL; rw [h]; rfl
theorem ofU_yes {zs : List Int} (h : cuOk zs 1 = true) : ofU zs = 1 := by unfold ofU; rw [h]; rfl
theorem isU_one : isU 1 = true := by simpa using isU_mk 0 (by omega)
theorem cuOk_one (zs : List Int) : cuOk zs 1 = (decide (2 ≤ (zs.length : Int) ∧ (zs.length : Int) ≤ 6) && within 0 1000 zs) := by
  unfold cuOk
  rw [isU_one, show (1000 : Int) * 1 = 1000 from rfl, show ((1 : Int) == 1 || anyOdd zs) = true from rfl, Bool.and_true, Bool.and_true]
  congr 1
  apply decide_eq_decide.2; omega

set_option maxRecDepth 100000 in
theorem specCupsOf_any (A : Option Addr) (n c B : Nat) (zs : List Int) (w : World) (hr : Ints w B A n zs) (hB : B ≤ w.heap.size) (hn : n ≤ 1048576) :
    Calls Tryd.prog 14 #[.slice A n c] w (MadeCB (ofL zs) (ofU zs) (cuOk zs 1) w) := by
  obtain rfl := hr.len
  have b1 : Below w.heap.size w (w.alloc (.cells #[.slice none 0 0, .int .i64 0] 27)) := (Below.refl _ _).alloc (Nat.le_refl _) _
  have X := Bx.new w 27 (.slice none 0 0) (.int .i64 0)
  have HIn := hide (fun W => l1In_any (zs.length : Int) 2 6 W)
  have HAll := hide (l1All_any A zs.length c B zs 0 1000 _ (hr.below b1 hB) (by omega))
  have HB1 := hide b1
  have HC := hide (cuOk_one zs)
  by_cases h1 : 2 ≤ (zs.length : Int) ∧ (zs.length : Int) ≤ 6
  · rw [decide_eq_true h1] at HIn HC
    cases h2 : within 0 1000 zs
    · rw [h2] at HAll HC
      have H := hide (show cuOk zs 1 = false from by rw [HC.out]; rfl)
      rw [ofL_no H.out, ofU_no H.out, H.out]
      clear h2 X b1 hr
      go_enter Tryd.func14, Tryd.ntmps14
      go_wp2_with fail
      refine (HIn.out _).mono ?_; rintro e w' ⟨rfl, rfl⟩
      go_wp2_with fail
      refine HAll.out.mono ?_; rintro e w' ⟨rfl, rfl⟩
      go_wp2_with fail
      refine bodyPost_ret (v := .tuple #[.agg #[.slice none 0 0, .int .i64 0], .bool false]) (by simp [results, Tryd.results14, go_sem]) rfl (madeCB_no _ _ ?_)
      exact HB1.out
    · rw [h2] at HAll HC
      have H := hide (show cuOk zs 1 = true from by rw [HC.out]; rfl)
      rw [ofL_yes H.out, ofU_yes H.out, H.out]
      have HO := hide (l1Own_any A zs.length c B zs _ (hr.below b1 hB) (Nat.le_trans hB b1.size) (by omega) (by omega))
      clear h2 b1 hr
      go_enter Tryd.func14, Tryd.ntmps14
      go_wp2_with fail
      refine (HIn.out _).mono ?_; rintro e w' ⟨rfl, rfl⟩
      go_wp2_with fail
      refine HAll.out.mono ?_; rintro e w' ⟨rfl, rfl⟩
      go_wp2_with fail
      refine HO.out.mono ?_
      rintro e w2 ⟨g, c1, rfl, hg1, hg2, hc1, hc2, hown, hb2⟩
      have s1 : w.heap.size + 1 ≤ g := by have : (w.alloc (.cells #[.slice none 0 0, .int .i64 0] 27)).heap.size ≤ g := hg1; simpa using this
      have bR := X.next hb2
      have e0 := bR.c0
      have e1 := bR.c1
      have f0 := bR.f 0
      have f1 := bR.f 1
      have R1 := bR.set0 (.slice (some ⟨g, 0, none⟩) zs.length c1)
      have R2 := R1.set1 (.int .i64 1)
      have e2 := R1.c1
      have f2 := R1.f 1
      have i0 := R2.c0
      have i1 := R2.c1
      have HOw := hide (Own.two (hown.less (base' := w.heap.size) (by simp)) (b := w.heap.size) (by omega) (.slice (some ⟨g, 0, none⟩) zs.length c1) (.int .i64 1))
      have HBn := hide (((HB1.out.trans (hb2.mono HB1.out.size)).setCell (p := ⟨w.heap.size, 0, none⟩) (Nat.le_refl _) (.slice (some ⟨g, 0, none⟩) zs.length c1)).setCell (p := ⟨w.heap.size, 1, none⟩) (Nat.le_refl _) (.int .i64 1))
      clear R1 R2 bR hown hb2 hg1 s1 X
      go_wp2_with fail
      exact bodyPost_ret (v := .tuple #[.agg #[.slice (some ⟨g, 0, none⟩) zs.length c1, .int .i64 1], .bool true]) (by simp [results, Tryd.results14, go_sem, i0, i1]) rfl ⟨some ⟨g, 0, none⟩, c1, rfl, hc1, hc2, HOw.out, HBn.out⟩
  · rw [decide_eq_false h1] at HIn HC
    have H := hide (show cuOk zs 1 = false from by rw [HC.out]; rfl)
    rw [ofL_no H.out, ofU_no H.out, H.out]
    clear X b1 hr
    go_enter Tryd.func14, Tryd.ntmps14
    go_wp2_with fail
    refine (HIn.out _).mono ?_; rintro e w' ⟨rfl, rfl⟩
    go_wp2_with fail
    refine bodyPost_ret (v := .tuple #[.agg #[.slice none 0 0, .int .i64 0], .bool false]) (by simp [results, Tryd.results14, go_sem]) rfl (madeCB_no _ _ ?_)
    exact HB1.out

set_option maxRecDepth 100000 in
theorem CupsOf_any (A : Option Addr) (n c B : Nat) (zs : List Int) (w : World) (hr : Ints w B A n zs) (hB : B ≤ w.heap.size) (hn : n ≤ 1048576) (hT : Tab w) :
    Calls Tryd.prog 16 #[.slice A n c] w (MadeCB (ofL zs) (ofU zs) (cuOk zs 1) w) := by
  obtain rfl := hr.len
  have b1 : Below w.heap.size w (w.alloc (.cells #[.slice none 0 0, .int .i64 0] 27)) := (Below.refl _ _).alloc (Nat.le_refl _) _
  have X := Bx.new w 27 (.slice none 0 0) (.int .i64 0)
  have HCl := hide (CloneAny_any A zs.length c B zs _ (hr.below b1 hB) (Nat.le_trans hB b1.size) (by omega))
  have HB1 := hide b1
  have HA := hide (fun A' c' W (h : Ints W W.heap.size A' zs.length zs) hT => AreCups_any A' zs.length c' W.heap.size zs 1 W h (Nat.le_refl _) (by omega) hT)
  have HT := hide hT
  have HS1 := hide (show (w.alloc (.cells #[.slice none 0 0, .int .i64 0] 27)).heap.size = w.heap.size + 1 from by simp)
  clear b1 hr hT
  cases hc : cuOk zs 1
  all_goals
    rw [hc] at HA
    have HH := hide hc
    first | rw [ofL_no hc, ofU_no hc] | rw [ofL_yes hc, ofU_yes hc]
    clear hc
    go_enter Tryd.func16, Tryd.ntmps16
    go_wp2_with fail
    refine HCl.out.mono ?_
    rintro e w2 ⟨v, rfl, hown, hb2⟩
    obtain ⟨A2, c2, rfl, hc1, hc2⟩ := hown.shape
    have FO := hown.alloc (.cells #[.slice A2 zs.length c2, .int .i64 1] 27)
    have FX := Bx.new w2 27 (.slice A2 zs.length c2) (.int .i64 1)
    have FR := (X.next hb2).alloc (.cells #[.slice A2 zs.length c2, .int .i64 1] 27)
    have FB := hide ((HB1.out.trans (hb2.mono HB1.out.size)).alloc (show w.heap.size ≤ w2.heap.size from Nat.le_trans HB1.out.size hb2.size) (.cells #[.slice A2 zs.length c2, .int .i64 1] 27))
    have FT := hide (HT.out.next FB.out)
    have FN := hide (show w.heap.size + 1 ≤ w2.heap.size from by have := hb2.size; rw [HS1.out] at this; exact this)
    have FI := hide (FO.ints)
    have FO2 := hide FO
    clear hb2 hown X HB1 FO HCl
    go_wp2_with fail
    generalize (w2.alloc (.cells #[.slice A2 zs.length c2, .int .i64 1] 27)) = W3 at *
    generalize w2.heap.size = bx at *
    have x0 := FX.c0
    have x1 := FX.c1
    try go_wp2_with fail
    refine (HA.out _ _ _ FI.out FT.out).mono ?_
    rintro e w4 ⟨rfl, hb4⟩
    have y0 := (FX.next hb4).c0
    have y1 := (FX.next hb4).c1
    have bR := FR.next hb4
    have e0 := bR.c0
    have e1 := bR.c1
    have f0 := bR.f 0
    have f1 := bR.f 1
    clear x0 x1
    first
    | (have R1 := bR.set0 (.slice none 0 0)
       have R2 := R1.set1 (.int .i64 0)
       have e2 := R1.c1
       have f2 := R1.f 1
       have i0 := R2.c0
       have i1 := R2.c1
       have HBn := hide (((FB.out.trans (hb4.mono FB.out.size)).setCell (p := ⟨w.heap.size, 0, none⟩) (Nat.le_refl _) (.slice none 0 0)).setCell (p := ⟨w.heap.size, 1, none⟩) (Nat.le_refl _) (.int .i64 0))
       clear R1 R2 bR hb4 FX FR
       go_wp2_with fail
       refine bodyPost_ret (v := .tuple #[.agg #[.slice none 0 0, .int .i64 0], .bool false]) (by simp [results, Tryd.results16, go_sem, i0, i1]) rfl (madeCB_no _ _ ?_)
       exact HBn.out)
    | (obtain ⟨g, rfl, hg1, hg2⟩ := FO2.out.head (by have := (cuOk_of HH.out).1; omega)
       rw [HS1.out] at hg1
       have R1 := bR.set0 (.slice (some ⟨g, 0, none⟩) zs.length c2)
       have R2 := R1.set1 (.int .i64 1)
       have e2 := R1.c1
       have f2 := R1.f 1
       have i0 := R2.c0
       have i1 := R2.c1
       have HOw := hide (Own.two ((FO2.out.below hb4).less (base' := w.heap.size) (by rw [HS1.out]; omega)) (b := w.heap.size) (by omega) (.slice (some ⟨g, 0, none⟩) zs.length c2) (.int .i64 1))
       have HBn := hide (((FB.out.trans (hb4.mono FB.out.size)).setCell (p := ⟨w.heap.size, 0, none⟩) (Nat.le_refl _) (.slice (some ⟨g, 0, none⟩) zs.length c2)).setCell (p := ⟨w.heap.size, 1, none⟩) (Nat.le_refl _) (.int .i64 1))
       clear R1 R2 bR hb4 FX FR hg1 hg2
       go_wp2_with fail
       exact bodyPost_ret (v := .tuple #[.agg #[.slice (some ⟨g, 0, none⟩) zs.length c2, .int .i64 1], .bool true]) (by simp [results, Tryd.results16, go_sem, i0, i1]) rfl ⟨some ⟨g, 0, none⟩, c2, rfl, hc1, hc2, HOw.out, HBn.out⟩)
end Go.Proofs.YtlempjfkgmlidaaDoor
