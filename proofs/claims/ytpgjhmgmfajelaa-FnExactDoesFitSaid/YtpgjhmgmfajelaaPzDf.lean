
/-
  DoesFit, BOTH WAYS, AND ITS LAW.
-/
import Derived.Test.YtpgjhmgmfajelaaPzHi
import Derived.Test.YtpgjhmgmfajelaaPzU
import Derived.Test.YtpgjhmgmfajelaaPzIs
namespace Go.Proofs.Ytpgjhmgmfajelaa
open Go.RowKit Go.Deep
set_option linter.unusedVariables false

/-- Hidden heaps fit a clue. -/
def dfOk (c : Cl) (zs : List Int) : Bool := hidOk zs && clueOk zs.length c
def dfB (c : Cl) (zs : List Int) : Bool := dfOk c zs && fitB zs c
theorem df_no {c : Cl} {zs : List Int} (h : dfOk c zs = false) : dfB c zs = false := by simp [dfB, h]
theorem df_yes {c : Cl} {zs : List Int} (h : dfOk c zs = true) : dfB c zs = fitB zs c := by simp [dfB, h]

set_option maxHeartbeats 1000000 in
set_option maxRecDepth 100000 in
/-- The model's DoesFit. -/
theorem specDoesFit_any (cl : Cl) (A : Option Addr) (n c B : Nat) (zs : List Int) (w : World) (hr : Ints w B A n zs) (hB : B ≤ w.heap.size) (hn : n ≤ 17592186044416) :
    Calls Try.prog 10 #[.agg #[.int .i64 cl.x0, .int .i64 cl.x1, .int .i64 cl.x2, .int .i64 cl.x3], .slice A n c] w fun e w' => e = .returned (.tuple #[.bool (dfB cl zs), .bool (dfOk cl zs)]) ∧ Below w.heap.size w w' := by
  obtain rfl := hr.len
  have X0 := CBox.new w 27 cl
  have HB := hide (show Below w.heap.size w (w.alloc (.cells #[.int .i64 cl.x0, .int .i64 cl.x1, .int .i64 cl.x2, .int .i64 cl.x3] 27)) from (Below.refl _ _).alloc (Nat.le_refl _) _)
  have HX := hide X0
  have HH := hide (pzHidden_any A zs.length c B zs _ (hr.below HB.out hB) hn)
  have c0 := X0.c0
  have c1 := X0.c1
  have c2 := X0.c2
  have c3 := X0.c3
  clear X0
  cases hz : hidOk zs
  · have hO : dfOk cl zs = false := by unfold dfOk; rw [hz]; rfl
    rw [df_no hO, hO]
    rw [hz] at HH
    clear hz hO
    go_enter Try.func10, Try.ntmps10
    go_wp2_with fail
    refine HH.out.mono ?_; rintro e w' ⟨rfl, rfl⟩
    go_wp2_with fail
    go_ret2
    exact ⟨rfl, HB.out⟩
  · rw [hz] at HH
    have hh := (hidOk_of hz).1
    have HC := hide (fun W => pzClue_any (zs.length : Int) cl W ⟨by omega, by omega⟩)
    cases hq : clueOk (zs.length : Int) cl
    · have hO : dfOk cl zs = false := by unfold dfOk; rw [hz, hq]; rfl
      rw [df_no hO, hO]
      rw [hq] at HC
      clear hz hO hq
      go_enter Try.func10, Try.ntmps10
      go_wp2_with fail
      refine HH.out.mono ?_; rintro e w' ⟨rfl, rfl⟩
      go_wp2_with fail
      refine (HC.out _).mono ?_; rintro e w2 ⟨rfl, hb2⟩
      have HB2 := hide (HB.out.trans (hb2.mono HB.out.size))
      clear hb2 c0 c1 c2 c3
      go_wp2_with fail
      go_ret2
      exact ⟨rfl, HB2.out⟩
    · have hO : dfOk cl zs = true := by unfold dfOk; rw [hz, hq]; rfl
      rw [df_yes hO, hO]
      rw [hq] at HC
      have HF := hide (fun W (hb : Below w.heap.size w W) => pzFits_any A zs.length c B zs cl W (hr.below hb hB) (Nat.le_trans hB hb.size) hz (clueOk_sub hq))
      clear hz hO hq hr
      go_enter Try.func10, Try.ntmps10
      go_wp2_with fail
      refine HH.out.mono ?_; rintro e w' ⟨rfl, rfl⟩
      go_wp2_with fail
      refine (HC.out _).mono ?_; rintro e w2 ⟨rfl, hb2⟩
      have HB2 := hide (HB.out.trans (hb2.mono HB.out.size))
      have P := HX.out.next hb2
      clear hb2 c0 c1 c2 c3
      have c0 := P.c0
      have c1 := P.c1
      have c2 := P.c2
      have c3 := P.c3
      clear P
      go_wp2_with fail
      refine (HF.out _ HB2.out).mono ?_; rintro e w3 ⟨rfl, hb3⟩
      have HB3 := hide (HB2.out.trans (hb3.mono HB2.out.size))
      clear hb3
      go_wp2_with fail
      go_ret2
      exact ⟨rfl, HB3.out⟩

set_option maxHeartbeats 1000000 in
set_option maxRecDepth 100000 in
/-- The program's DoesFit. -/
theorem DoesFit_any (cl : Cl) (A : Option Addr) (n c B : Nat) (zs : List Int) (w : World) (hr : Ints w B A n zs) (hB : B ≤ w.heap.size) (hn : n ≤ 17592186044416) :
    Calls Try.prog 13 #[.agg #[.int .i64 cl.x0, .int .i64 cl.x1, .int .i64 cl.x2, .int .i64 cl.x3], .slice A n c] w fun e w' => e = .returned (.tuple #[.bool (dfB cl zs), .bool (dfOk cl zs)]) ∧ Below w.heap.size w w' := by
  obtain rfl := hr.len
  have X0 := CBox.new w 27 cl
  have HB := hide (show Below w.heap.size w (w.alloc (.cells #[.int .i64 cl.x0, .int .i64 cl.x1, .int .i64 cl.x2, .int .i64 cl.x3] 27)) from (Below.refl _ _).alloc (Nat.le_refl _) _)
  have HX := hide X0
  have HH := hide (areHidden_any A zs.length c B zs _ (hr.below HB.out hB) hn)
  have c0 := X0.c0
  have c1 := X0.c1
  have c2 := X0.c2
  have c3 := X0.c3
  clear X0
  cases hz : hidOk zs
  · have hO : dfOk cl zs = false := by unfold dfOk; rw [hz]; rfl
    rw [df_no hO, hO]
    rw [hz] at HH
    clear hz hO
    go_enter Try.func13, Try.ntmps13
    go_wp2_with fail
    refine HH.out.mono ?_; rintro e w' ⟨rfl, rfl⟩
    go_wp2_with fail
    go_ret2
    exact ⟨rfl, HB.out⟩
  · rw [hz] at HH
    have hh := (hidOk_of hz).1
    have HC := hide (fun W => IsClue_any (zs.length : Int) cl W)
    rw [show clueIs (zs.length : Int) cl = clueOk (zs.length : Int) cl from by unfold clueIs; rw [decide_eq_true (show 2 ≤ (zs.length : Int) ∧ (zs.length : Int) ≤ 4 by omega)]; rfl] at HC
    cases hq : clueOk (zs.length : Int) cl
    · have hO : dfOk cl zs = false := by unfold dfOk; rw [hz, hq]; rfl
      rw [df_no hO, hO]
      rw [hq] at HC
      clear hz hO hq
      go_enter Try.func13, Try.ntmps13
      go_wp2_with fail
      refine HH.out.mono ?_; rintro e w' ⟨rfl, rfl⟩
      go_wp2_with fail
      refine (HC.out _).mono ?_; rintro e w2 ⟨rfl, hb2⟩
      have HB2 := hide (HB.out.trans (hb2.mono HB.out.size))
      clear hb2 c0 c1 c2 c3
      go_wp2_with fail
      go_ret2
      exact ⟨rfl, HB2.out⟩
    · have hO : dfOk cl zs = true := by unfold dfOk; rw [hz, hq]; rfl
      rw [df_yes hO, hO]
      rw [hq] at HC
      have HF := hide (fun W (hb : Below w.heap.size w W) => toldBy_any A zs.length c B zs cl W (hr.below hb hB) (Nat.le_trans hB hb.size) hz (clueOk_sub hq))
      have HE : Hid (fitB zs cl = decide (told cl.x0 cl.x1 cl.x2 zs = cl.x3)) := hide rfl
      generalize fitB zs cl = fb at *
      generalize told cl.x0 cl.x1 cl.x2 zs = tv at *
      clear hz hO hq hr
      go_enter Try.func13, Try.ntmps13
      go_wp2_with fail
      refine HH.out.mono ?_; rintro e w' ⟨rfl, rfl⟩
      go_wp2_with fail
      refine (HC.out _).mono ?_; rintro e w2 ⟨rfl, hb2⟩
      have HB2 := hide (HB.out.trans (hb2.mono HB.out.size))
      have P := HX.out.next hb2
      have HP := hide P
      clear hb2 c0 c1 c2 c3
      have c0 := P.c0
      have c1 := P.c1
      have c2 := P.c2
      have c3 := P.c3
      clear P
      go_wp2_with fail
      go_region_held3 (fun W => Below w.heap.size w W ∧ W.cell? ⟨w.heap.size, 0, none⟩ = some (.int .i64 cl.x0) ∧ W.cell? ⟨w.heap.size, 1, none⟩ = some (.int .i64 cl.x1) ∧ W.cell? ⟨w.heap.size, 2, none⟩ = some (.int .i64 cl.x2) ∧ W.cell? ⟨w.heap.size, 3, none⟩ = some (.int .i64 cl.x3))
        (first | exact ⟨HB2.out.drew, HP.out.c0, HP.out.c1, HP.out.c2, HP.out.c3⟩ | exact ⟨HB3.out, X3.out.c0, X3.out.c1, X3.out.c2, X3.out.c3⟩ | go_keep)
        (first
        | (go_at_call 39; (with_reducible refine (HF.out _ (And.left (by assumption))).mono ?_); rintro e w3 ⟨rfl, hb3⟩; have HB3 : Hid (Below w.heap.size w w3) := hide (HB2.out.drew.trans (hb3.mono (HB2.out.drew).size)); have X3 := hide (HP.out.next (show Below w2.heap.size w2 w3 from (Below.refl _ _).drew.trans hb3))))
      have hbd := HB3.out
      clear hb3 HF X3 HB3 c0 c1 c2 c3
      go_wp2_with fail
      go_ret2
      exact ⟨by rw [HE.out]; by_cases e : tv = cl.x3 <;> simp [e], hbd⟩

set_option maxRecDepth 100000 in
set_option maxHeartbeats 4000000 in
/-- Its law. -/
theorem lawDoesFit (m : Cl) (A : Option Addr) (n c : Nat) (zs : List Int) (w : World) (hr : Ints w w.heap.size A n zs) :
    Calls Try.prog 3 #[.agg #[.int .i64 m.x0, .int .i64 m.x1, .int .i64 m.x2, .int .i64 m.x3], .slice A n c] w fun e w' => e = .returned (.bool true) ∧ Below w.heap.size w w' := by
  obtain rfl := hr.len
  have X0 := CBox.new w 23 m
  have hB : Below w.heap.size w (w.alloc (.cells #[.int .i64 m.x0, .int .i64 m.x1, .int .i64 m.x2, .int .i64 m.x3] 23)) := (Below.refl _ _).alloc (Nat.le_refl _) _
  by_cases hbig : 1048576 < zs.length
  · go_enter Try.func3, Try.ntmps3
    go_wp2_with fail
    go_ret
    exact ⟨rfl, hB⟩
  · have hcap : zs.length ≤ 17592186044416 := by omega
    have HSP := hide (fun g W (h : Ints W W.heap.size (some ⟨g, 0, none⟩) zs.length zs) => specDoesFit_any m (some ⟨g, 0, none⟩) zs.length zs.length W.heap.size zs W h (Nat.le_refl _) hcap)
    have HIM := hide (fun g W (h : Ints W W.heap.size (some ⟨g, 0, none⟩) zs.length zs) => DoesFit_any m (some ⟨g, 0, none⟩) zs.length zs.length W.heap.size zs W h (Nat.le_refl _) hcap)
    have HT := hide (fun W => toClue_any m W)
    have HTI := hide (fun W (hb : Below w.heap.size w W) => toIntS_any A zs.length c zs W ((hr.below hb (Nat.le_refl _)).more hb.size) hcap)
    generalize dfB m zs = b at *
    generalize dfOk m zs = k at *
    have nb : (b != b) = false := by simp
    have nk : (k != k) = false := by simp
    have HB := hide hB
    clear hr hB
    go_enter Try.func3, Try.ntmps3
    go_wp2_with fail
    have HX := hide X0
    generalize (w.alloc (.cells #[.int .i64 m.x0, .int .i64 m.x1, .int .i64 m.x2, .int .i64 m.x3] 23)) = W0 at *
    clear X0
    have c0 := HX.out.c0
    have c1 := HX.out.c1
    have c2 := HX.out.c2
    have c3 := HX.out.c3
    try go_wp2_with fail
    refine (HT.out _).mono ?_; rintro e w1 ⟨rfl, hb1⟩
    replace HX := hide (HX.out.next hb1)
    replace HB := hide (below_next HB.out hb1)
    clear hb1 c0 c1 c2 c3
    go_wp2_with fail
    refine (HTI.out _ HB.out).mono ?_; rintro e w2 ⟨ga, ha2, hz2, rfl, hrow2, hb2⟩
    replace HX := hide (HX.out.next hb2)
    replace HB := hide (below_next HB.out hb2)
    have OA := hide (hrow2.ints hz2)
    clear hb2 ha2 hz2 hrow2
    go_wp2_with fail
    refine (HSP.out _ _ OA.out).mono ?_; rintro e w3 ⟨rfl, hb3⟩
    replace HX := hide (HX.out.next hb3)
    replace HB := hide (below_next HB.out hb3)
    clear hb3 OA
    go_wp2_with fail
    refine (HTI.out _ HB.out).mono ?_; rintro e w4 ⟨gb, ha4, hz4, rfl, hrow4, hb4⟩
    replace HX := hide (HX.out.next hb4)
    replace HB := hide (below_next HB.out hb4)
    have OB := hide (hrow4.ints hz4)
    clear hb4 ha4 hz4 hrow4
    have c0 := HX.out.c0
    have c1 := HX.out.c1
    have c2 := HX.out.c2
    have c3 := HX.out.c3
    go_wp2_with fail
    refine (HT.out _).mono ?_; rintro e w5 ⟨rfl, hb5⟩
    replace HB := hide (below_next HB.out hb5)
    have OB5 := hide ((OB.out.below hb5 (Nat.le_refl _)).more hb5.size)
    clear hb5 c0 c1 c2 c3 HX OB
    go_wp2_with fail
    refine (HIM.out _ _ OB5.out).mono ?_; rintro e w6 ⟨rfl, hb6⟩
    replace HB := hide (below_next HB.out hb6)
    have OB6 := hide ((OB5.out.below hb6 (Nat.le_refl _)).more hb6.size)
    clear hb6 OB5
    go_wp2_with fail
    refine (HTI.out _ HB.out).mono ?_; rintro e w7 ⟨gc, ha7, hz7, rfl, hrow7, hb7⟩
    replace HB := hide (below_next HB.out hb7)
    have OC := hide (hrow7.ints hz7)
    have OB7 := hide ((OB6.out.below hb7 (Nat.le_refl _)).more hb7.size)
    clear hb7 ha7 hz7 hrow7 OB6
    go_wp2_with fail
    refine (eqIntS_same _ _ _ _ _ _ _ _ _ OB7.out OC.out (Nat.le_refl _) (Nat.le_refl _) hcap).mono ?_; rintro e w8 ⟨rfl, hb8⟩
    replace HB := hide (below_next HB.out hb8)
    clear hb8
    go_wp2_with fail
    go_ret
    exact ⟨rfl, HB.out⟩
end Go.Proofs.Ytpgjhmgmfajelaa
