
/-
  SUMS OF ENDS, BOTH WAYS: ldSum, SumOfEnds.
-/
import Derived.Test.YtbefffknedimhaaSoeP
import Derived.Test.YtbefffknedimhaaLdK
import Derived.Test.YtbefffknedimhaaLdB
namespace Go.Proofs.Ytbefffknedimhaa
open Go.RowKit Go.Deep
set_option linter.unusedVariables false

/-- The model's ldSum. -/
theorem ldSum_any (A : Option Addr) (n c B : Nat) (l : List Int) (w : World) (hr : Ints w B A n l) (hB : B ≤ w.heap.size) (hn : n ≤ 9) (hw : within 1 1000 l = true) :
    Calls Try.prog 23 #[.slice A n c] w fun e w' => e = .returned (.int .i64 (ldS l)) ∧ Below w.heap.size w w' := by
  obtain rfl := hr.len
  have HO := hide (ldOrder_any true A l.length c B l w hr hB hn)
  have HG := hide (ordS_get true l l.length)
  have HOA := hide (show ordA true l = ordS true l l.length from rfl)
  have HAL := hide (ordA_length true l)
  have HS := hide (fun k jb h1 h2 => wP_succ l (k := k) (jb := jb) h1 h2)
  have HALL := hide (wP_all l)
  have HBD := hide (wP_bd hw hn)
  have HW := hide hw
  have HR := hide hr
  clear hr hw
  go_enter Try.func23, Try.ntmps23
  go_wp2_with fail
  refine HO.out.mono ?_
  rintro e w1 ⟨v, rfl, hown, hb1⟩
  obtain ⟨A', c', rfl, _, _⟩ := hown.shape
  have HI := hide hown.ints
  have HR1 := hide (HR.out.below hb1 hB)
  have HB1 := hide hb1
  rw [HAL.out] at HI
  rw [HAL.out]
  clear hown hb1
  go_wp2_with fail
  go_loop [3, 11] (fun s i => ∃ k : Nat, k ≤ l.length ∧ i = .int .i64 k ∧ s = .int .i64 (wP l k))
    (fun _ i => l.length - (intOf i).toNat)
  case atStart => exact ⟨0, Nat.zero_le _, rfl, rfl⟩
  case round =>
    obtain ⟨k, hk, rfl, rfl⟩ := hrel
    by_cases hlt : k < l.length
    · obtain ⟨jb, hjb, hjl⟩ := HG.out k hlt
      have HSK := hide (HS.out k jb hlt (by rw [HOA.out]; exact hjb))
      obtain ⟨ad, rfl, _, hcell⟩ := HI.out.at_ hlt
      rw [HOA.out, hjb] at hcell
      obtain ⟨ad2, rfl, _, hcz⟩ := HR1.out.at_ hjl
      have hy := within_get HW.out jb hjl
      rw [← getD_at hjl] at hy
      have hs := HBD.out k
      have hp : 0 ≤ l.getD jb 0 * ((k : Int) + 1) ∧ l.getD jb 0 * ((k : Int) + 1) ≤ 9000 := ⟨Int.mul_nonneg (by omega) (by omega), by
        have := Int.mul_le_mul hy.2 (show (k : Int) + 1 ≤ 9 by omega) (by omega) (by omega); omega⟩
      generalize l.getD jb 0 = y at *
      generalize wP l k = s at *
      clear hjb
      go_wp2_with fail
      go_round
      case rel => exact ⟨k + 1, by omega, by go_num, by rw [HSK.out]⟩
      case measure => simp [intOf]; omega
    · obtain rfl : k = l.length := by omega
      go_wp2_with fail
      go_ret
      exact ⟨by rw [← HALL.out]; rfl, HB1.out⟩

set_option maxRecDepth 100000 in
set_option maxHeartbeats 1000000 in
/-- The model's SumOfEnds. -/
theorem specSumOfEnds_any (A : Option Addr) (n c : Nat) (zs : List Int) (m : Int) (A' : Option Addr) (n' c' : Nat) (ps : List Int) (w : World) (hr : Ints w w.heap.size A n zs) (hs : Ints w w.heap.size A' n' ps)
    (hn : n ≤ 17592186044416) (hn' : n' ≤ 17592186044416) :
    Calls Try.prog 14 #[.slice A n c, .int .i64 m, .slice A' n' c'] w fun e w' => e = .returned (.tuple #[.int .i64 (soeN zs m ps), .bool (jboth zs m ps)]) ∧ Below w.heap.size w w' := by
  obtain rfl := hr.len
  obtain rfl := hs.len
  cases hg : jboth zs m ps
  · have H1 := hide (soeN_no hg)
    go_enter Try.func14, Try.ntmps14
    go_wp2_with fail
    refine (ldBoth_any _ _ _ _ _ _ _ _ _ _ _ _ hr hs hn hn').mono ?_; rintro e w' ⟨rfl, rfl⟩; rw [hg]
    go_wp2_with fail
    go_ret2
    exact ⟨by rw [H1.out]; rfl, Below.refl _ _⟩
  · have H1 := hide (soeN_yes hg)
    obtain ⟨hm1, hm2⟩ := jboth_m hg
    obtain ⟨M, rfl⟩ := Int.eq_ofNat_of_zero_le (show 0 ≤ m by omega)
    rw [show ((M : Int).toNat) = M from rfl] at H1
    have hj := jgood_of (jask_of (jboth_of hg).1).1
    have hl9 := hj.2.1
    have HW := hide hj.2.2
    have hfit := jfit_of (jboth_of hg).2
    have HPL := hide hfit.1
    have HPW := hide hfit.2
    have HBD := hide (soeM_bd ps hj.2.2 hl9)
    have HST := hide (soeM_step zs ps)
    have HOW := hide (fun (mm : Int) (q : Nat) (hq : q ≤ zs.length) => ownK_in (zs := zs) (ps := ps) mm HW.out q hq)
    have HOL := hide (ownK_len zs ps)
    have HR := hide hr
    have HSS := hide hs
    have hps9 : ps.length ≤ 9 := by omega
    clear hj hfit
    go_enter Try.func14, Try.ntmps14
    go_wp2_with fail
    refine (ldBoth_any _ _ _ _ _ _ _ _ _ _ _ _ hr hs hn hn').mono ?_; rintro e w' ⟨rfl, rfl⟩; rw [hg]
    clear hr hs
    go_wp2_with fail
    go_loopw [8, 9] (fun s mv wr => ∃ mm : Nat, mm ≤ M ∧ mv = .int .i64 mm ∧ s = .int .i64 (soeM zs ps (ordA true zs) mm) ∧ Below w.heap.size w wr)
      (fun _ mv _ => M - (intOf mv).toNat)
    case atStart => exact ⟨0, Nat.zero_le _, rfl, rfl, Below.refl _ _⟩
    case round =>
      obtain ⟨mm, hmm, rfl, rfl, hb⟩ := hrel
      have hbd := HBD.out mm
      by_cases hlt : mm < M
      · have HSTM := hide (HST.out mm)
        have hbd2 := HBD.out (mm + 1)
        rw [HST.out mm] at hbd2
        have HQ := hide hb
        have hsz := hb.size
        clear hb
        generalize soeM zs ps (ordA true zs) mm = s at *
        go_wp2_with fail
        go_loopw [10, 25] (fun v i wr2 => ∃ q : Nat, q ≤ ps.length ∧ i = .int .i64 q ∧ Own wr2 w.heap.size 3 v (ownK zs ps (mm : Int) q) ∧ Below w.heap.size w wr2)
          (fun _ i _ => ps.length - (intOf i).toNat)
        case atStart => exact ⟨0, Nat.zero_le _, rfl, Own.nil _ _ _, HQ.out⟩
        case round =>
          obtain ⟨q, hq, rfl, hown, hb⟩ := hrel
          by_cases hql : q < ps.length
          · have hqz : q < zs.length := by have := HPL.out; omega
            obtain ⟨ad, rfl, _, hcz⟩ := (HR.out.below hb (Nat.le_refl _)).at_ hqz
            obtain ⟨ad2, rfl, _, hcp⟩ := (HSS.out.below hb (Nat.le_refl _)).at_ hql
            have hsz2 := hb.size
            have hll : (ownK zs ps (mm : Int) q).length < 1000000 := by have := HOL.out mm q; omega
            by_cases he : vat ps (q : Int) = (mm : Int)
            · have HY := hide (ownK_yes (zs := zs) he)
              rw [vat_getD] at he HY
              rw [he] at hcp
              generalize zs.getD q 0 = y at *
              clear he
              go_wp2_with (at_builtin; refine wpList_app_int rfl _ _ 22 3 rfl Try.underlying22 infoInt w.heap.size _ _ rfl hown _ _ rfl hsz2 hll ?_; intro v' w' hown' hb')
              go_roundw
              case rel => exact ⟨q + 1, by omega, by go_num, by rw [HY.out]; exact hown', hb.trans hb'⟩
              case measure => simp [intOf]; omega
            · have HY := hide (ownK_no (zs := zs) he)
              rw [vat_getD] at he
              generalize ps.getD q 0 = x at *
              have hne : ((x : Int) == (mm : Int)) = false := by simpa using he
              go_wp2_with fail
              go_roundw
              case rel => exact ⟨q + 1, by omega, by go_num, by rw [HY.out]; exact hown, hb⟩
              case measure => simp [intOf]; omega
          · obtain rfl : q = ps.length := by omega
            obtain ⟨Ao, co, rfl, _, _⟩ := hown.shape
            have HOI := hide hown.ints
            have hol := HOL.out mm ps.length
            have HOW2 := hide (HOW.out mm ps.length (by have := HPL.out; omega))
            have HE := hide (show ownK zs ps (mm : Int) ps.length = ownL zs ps (mm : Int) from by rw [HPL.out]; rfl)
            have HQ2 := hide hb
            have hlb := ldS_bd HOW2.out (by omega)
            rw [HE.out] at hlb
            have HLD := hide (ldSum_any Ao _ co _ _ _ HOI.out (Nat.le_refl _) (by omega) HOW2.out)
            rw [HE.out] at HLD
            rw [HE.out]
            clear hown hb
            generalize ldS (ownL zs ps (mm : Int)) = t at *
            go_wp2_with fail
            refine HLD.out.mono ?_
            rintro e w3 ⟨rfl, hb3⟩
            have HQ3 := hide (HQ2.out.trans (hb3.mono HQ2.out.size))
            clear hb3
            go_wp2_with fail
            go_roundw
            case rel => exact ⟨mm + 1, by omega, by go_num, by rw [HSTM.out], HQ3.out⟩
            case measure => simp [intOf]; omega
      · obtain rfl : mm = M := by omega
        go_wp2_with fail
        go_ret2
        exact ⟨by rw [H1.out]; rfl, hb⟩

theorem soeS_step (zs ps os : List Int) {k jb mm x : Nat} (hk : k < os.length) (h : os.getD k 0 = (jb : Int)) (hm : vat ps (jb : Int) = (mm : Int)) (hx : cntM ps (os.take k) (mm : Int) = x) :
    soeS zs ps os (k + 1) = soeS zs ps os k + ((x : Int) + 1) * zs.getD jb 0 ∧ ∀ M, mm < M → partL ps (os.take (k + 1)) M = (partL ps (os.take k) M).set mm ((x : Int) + 1) := by
  have e := List.take_succ_eq_append_getElem hk
  rw [← getD_at hk, h] at e
  refine ⟨?_, fun M hM => ?_⟩
  · rw [soeS, h, hm, e, cntM_snoc, hm, if_pos rfl, hx, vat_getD]
    simp
  · rw [e, partL_snoc ps _ _ hm hM, hx]

set_option maxRecDepth 100000 in
set_option maxHeartbeats 1000000 in
/-- The program's SumOfEnds. -/
theorem SumOfEnds_any (A : Option Addr) (n c : Nat) (zs : List Int) (m : Int) (A' : Option Addr) (n' c' : Nat) (ps : List Int) (w : World) (hr : Ints w w.heap.size A n zs) (hs : Ints w w.heap.size A' n' ps)
    (hn : n ≤ 17592186044416) (hn' : n' ≤ 17592186044416) :
    Calls Try.prog 15 #[.slice A n c, .int .i64 m, .slice A' n' c'] w fun e w' => e = .returned (.tuple #[.int .i64 (soeN zs m ps), .bool (jboth zs m ps)]) ∧ Below w.heap.size w w' := by
  obtain rfl := hr.len
  obtain rfl := hs.len
  cases hg : jboth zs m ps
  · have H1 := hide (soeN_no hg)
    go_enter Try.func15, Try.ntmps15
    go_wp2_with fail
    refine (IsLoadPlan_any _ _ _ _ _ _ _ _ _ _ _ _ hr hs hn hn').mono ?_; rintro e w' ⟨rfl, rfl⟩; rw [hg]
    go_wp2_with fail
    go_ret2
    exact ⟨by rw [H1.out]; rfl, Below.refl _ _⟩
  · obtain ⟨hm1, hm2⟩ := jboth_m hg
    obtain ⟨M, rfl⟩ := Int.eq_ofNat_of_zero_le (show 0 ≤ m by omega)
    have HJG := hide (jask_of (jboth_of hg).1).1
    have hj := jgood_of HJG.out
    have hl9 := hj.2.1
    have hl1 := hj.1
    have HW := hide hj.2.2
    have hfit := jfit_of (jboth_of hg).2
    have HPL := hide hfit.1
    have HPM := hide (fun k => jboth_get hg (k := k))
    have hpw : ∀ k, k < (ordA true zs).length → ∃ jb mm : Nat, (ordA true zs).getD k 0 = (jb : Int) ∧ jb < zs.length ∧ vat ps (jb : Int) = (mm : Int) ∧ mm < M := by
      intro k hk
      rw [ordA_length] at hk
      obtain ⟨jb, h1, h2⟩ := ordS_get true zs zs.length k hk
      obtain ⟨mm, h3, h4⟩ := HPM.out jb (by have := HPL.out; omega)
      exact ⟨jb, mm, h1, h2, by rw [vat_getD]; exact h3, h4⟩
    have H1 := hide (show soeN zs M ps = soeS zs ps (ordA true zs) zs.length from by
      rw [soeN_yes hg, show ((M : Int).toNat) = M from rfl]
      have := soe_eq zs ps (ordA true zs) M (fun k hk => by obtain ⟨jb, mm, h1, _, h3, h4⟩ := hpw k hk; rw [h1, h3]; omega) (ordA true zs).length (Nat.le_refl _)
      rw [List.take_length, ordA_length] at this
      exact this.symm)
    have HPW := hide hpw
    have HAL := hide (ordA_length true zs)
    have HBD := hide (soeS_bd ps (ordA true zs) HW.out (by rw [ordA_length]; omega))
    have HLF := hide (fun W (h : Ints W W.heap.size A zs.length zs) => longestFirst_any A zs.length c W.heap.size zs W h (Nat.le_refl _) HJG.out)
    have HP0 := hide (partL_nil ps M)
    have HST := hide (fun k jb mm x hk h hm hx => soeS_step zs ps (ordA true zs) (k := k) (jb := jb) (mm := mm) (x := x) hk h hm hx)
    generalize ordA true zs = os at *
    have hmk := run_make_row' (P := Try.prog) 22 3 (.int .i64 0) 8 Try.underlying22 infoInt rfl .i64 .i64 M (by omega) (by omega)
    have HR := hide hr
    have HSS := hide hs
    clear hj hfit hpw
    go_enter Try.func15, Try.ntmps15
    go_wp2_with fail
    refine (IsLoadPlan_any _ _ _ _ _ _ _ _ _ _ _ _ hr hs hn hn').mono ?_; rintro e w' ⟨rfl, rfl⟩; rw [hg]
    clear hr hs
    go_wp2_with fail
    have HZ := hide (Row.zeros w M 3)
    have HB0 := hide (show Below w.heap.size w (w.alloc (.cells (madeCells #[.int .i64 0] M) 3)) from (Below.refl _ _).alloc (Nat.le_refl _) _)
    have s0 : (w.alloc (.cells (madeCells #[.int .i64 0] M) 3)).heap.size = w.heap.size + 1 := by simp
    have HS0 := hide s0
    clear s0
    generalize w.alloc (.cells (madeCells #[.int .i64 0] M) 3) = W0 at *
    refine (HLF.out W0 (HR.out.next HB0.out)).mono ?_
    rintro e w1 ⟨go, co, rfl, hgo, _, hI, hb1⟩
    have hgo : w.heap.size < go := by have := HS0.out; omega
    have HI := hide (show ∀ k, k < zs.length → go < w1.heap.size ∧ w1.cell? ⟨go, k, none⟩ = some (.int .i64 (os.getD k 0)) from fun k hk => by
      obtain ⟨ad, had, hl, hc⟩ := hI.at_ hk
      obtain rfl : (⟨go, 0, none⟩ : Addr) = ad := by injection had
      rw [add_head] at hc
      exact ⟨hl, hc⟩)
    have HB1 := hide (HB0.out.trans (hb1.mono HB0.out.size))
    have HZ1 := hide (show Row w1 w.heap.size 3 (partL ps (os.take 0) M) from by
      rw [List.take_zero, HP0.out]; exact HZ.out.below hb1 (by have := HS0.out; omega))
    have HBO := hide (show w.heap.size ≤ w1.heap.size from by have := hb1.size; have := HS0.out; omega)
    have HSS1 := hide (HSS.out.below HB1.out (Nat.le_refl _))
    have HR1 := hide (HR.out.below HB1.out (Nat.le_refl _))
    clear hI hb1
    go_wp2_with fail
    go_loopw [10, 28] (fun s i wr => ∃ k : Nat, k ≤ zs.length ∧ i = .int .i64 k ∧ s = .int .i64 (soeS zs ps os k) ∧ Row wr w.heap.size 3 (partL ps (os.take k) M) ∧ Below w.heap.size w wr ∧ Save w.heap.size w1 wr)
      (fun _ i _ => zs.length - (intOf i).toNat)
    case atStart => exact ⟨0, Nat.zero_le _, rfl, rfl, HZ1.out, HB1.out, Save.refl _ _⟩
    case round =>
      obtain ⟨k, hk, rfl, rfl, hrow, hb, hsv⟩ := hrel
      have hbd := HBD.out k (by have := HAL.out; omega)
      by_cases hlt : k < zs.length
      · have hko : k < os.length := by have := HAL.out; omega
        obtain ⟨jb, mm, hjb, hjz, hmm, hmM⟩ := HPW.out k hko
        obtain ⟨hgl, hc0⟩ := HI.out k hlt
        have hcell : wr.cell? ⟨go, k, none⟩ = some (.int .i64 (jb : Int)) := by
          rw [hsv.cell hgl (by show go ≠ _; omega), hc0, hjb]
        obtain ⟨x, hx⟩ : ∃ x, cntM ps (os.take k) (mm : Int) = x := ⟨_, rfl⟩
        have hx9 : x ≤ 9 := by rw [← hx]; have := cntM_le ps (os.take k) (mm : Int); rw [List.length_take] at this; omega
        obtain ⟨hE1, hE2⟩ := HST.out k jb mm x hko hjb hmm hx
        have HE1 := hide hE1
        have HE2 := hide (hE2 M hmM)
        have hbd2 := HBD.out (k + 1) (by omega)
        rw [hE1] at hbd2
        have hlp := partL_length ps (os.take k) M
        have hcp := hrow.at_ (k := mm) (by omega)
        rw [partL_get _ _ hmM, hx] at hcp
        have hfp := hrow.free mm
        obtain ⟨ad, rfl, hab, hcz⟩ := HR1.out.at_ hjz
        have hjp : jb < ps.length := by have := HPL.out; omega
        obtain ⟨ad2, rfl, hab2, hcs⟩ := HSS1.out.at_ hjp
        rw [← vat_getD, hmm] at hcs
        have hcz : wr.cell? (ad.add jb) = some (.int .i64 (zs.getD jb 0)) := (hsv.cell (by rw [block_of_add]; have := HBO.out; omega) (by rw [block_of_add]; omega)).trans hcz
        have hcs : wr.cell? (ad2.add jb) = some (.int .i64 (mm : Int)) := (hsv.cell (by rw [block_of_add]; have := HBO.out; omega) (by rw [block_of_add]; omega)).trans hcs
        have hy := within_get HW.out jb hjz
        rw [← getD_at hjz] at hy
        have hp : 0 ≤ ((x : Int) + 1) * zs.getD jb 0 ∧ ((x : Int) + 1) * zs.getD jb 0 ≤ 10000 := ⟨Int.mul_nonneg (by omega) (by omega), by
          have := Int.mul_le_mul (show (x : Int) + 1 ≤ 10 by omega) hy.2 (by omega) (by omega); omega⟩
        generalize zs.getD jb 0 = y at *
        generalize soeS zs ps os k = s at *
        have HROW := hide hrow
        have HB := hide hb
        have HSV := hide hsv
        clear hjb hmm hx hE1 hE2 hlp hrow hb hsv hc0
        have d1 : (wr.setCell ⟨w.heap.size, mm, none⟩ (.int .i64 ((x : Int) + 1))).cell? ⟨w.heap.size, mm, none⟩ = some (.int .i64 ((x : Int) + 1)) := by
          have := (HROW.out.put mm ((x : Int) + 1)).at_ (k := mm) (by rw [List.length_set, partL_length]; exact hmM)
          rw [this, List.getElem_set_self]
        have d2 : (wr.setCell ⟨w.heap.size, mm, none⟩ (.int .i64 ((x : Int) + 1))).cell? (ad2.add jb) = some (.int .i64 (mm : Int)) := by
          rw [World.cell?_setCell_other _ _ _ _ (by
            intro e
            have := congrArg Addr.block e
            rw [block_of_add] at this
            simp at this; omega)]; exact hcs
        have d3 : (wr.setCell ⟨w.heap.size, mm, none⟩ (.int .i64 ((x : Int) + 1))).cell? (ad.add jb) = some (.int .i64 y) := by
          rw [World.cell?_setCell_other _ _ _ _ (by
            intro e
            have := congrArg Addr.block e
            rw [block_of_add] at this
            simp at this; omega)]; exact hcz
        have HR2 := hide (HROW.out.put mm ((x : Int) + 1))
        rw [← HE2.out] at HR2
        have HB2 := hide (HB.out.setCell (p := ⟨w.heap.size, mm, none⟩) (Nat.le_refl _) (.int .i64 ((x : Int) + 1)))
        have HS2 := hide (HSV.out.put mm (.int .i64 ((x : Int) + 1)))
        go_wp2_with fail
        generalize wr.setCell ⟨w.heap.size, mm, none⟩ (.int .i64 ((x : Int) + 1)) = W at *
        go_quiet (fail)
        go_wp2_with fail
        go_roundw
        case rel => exact ⟨k + 1, by omega, by go_num, by rw [HE1.out], HR2.out.drewN _, below_drewN HB2.out _, HS2.out.drewN _⟩
        case measure => simp [intOf]; omega
      · obtain rfl : k = zs.length := by omega
        go_wp2_with fail
        go_ret2
        exact ⟨by rw [H1.out]; rfl, hb⟩
end Go.Proofs.Ytbefffknedimhaa
