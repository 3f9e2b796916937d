
/-
  LEAST SUMS OF ENDS, BOTH WAYS: LeastSumOfEnds.
-/
import Derived.Test.YtbefffknedimhaaLsoP
import Derived.Test.YtbefffknedimhaaSoe
namespace Go.Proofs.Ytbefffknedimhaa
open Go.RowKit Go.Deep
set_option linter.unusedVariables false

theorem lsZ_step (zs os : List Int) (M k : Nat) {jb : Nat} (h : os.getD k 0 = (jb : Int)) : lsZ zs os M (k + 1) = lsZ zs os M k + zs.getD jb 0 * ((k : Int) / (M : Int) + 1) := by
  rw [lsZ, h, vat_getD]

set_option maxRecDepth 100000 in
/-- The model's LeastSumOfEnds. -/
theorem specLeastSumOfEnds_any (A : Option Addr) (n c : Nat) (zs : List Int) (m : Int) (w : World) (hr : Ints w w.heap.size A n zs) (hn : n ≤ 17592186044416) :
    Calls Try.prog 12 #[.slice A n c, .int .i64 m] w fun e w' => e = .returned (.tuple #[.int .i64 (lsN zs m), .bool (jask zs m)]) ∧ Below w.heap.size w w' := by
  obtain rfl := hr.len
  cases hg : jask zs m
  · have H1 := hide (lsN_no hg)
    go_enter Try.func12, Try.ntmps12
    go_wp2_with fail
    refine (ldAsked_any _ _ _ _ _ _ _ hr hn).mono ?_; rintro e w' ⟨rfl, rfl⟩; rw [hg]
    go_wp2_with fail
    go_ret2
    exact ⟨by rw [H1.out]; rfl, Below.refl _ _⟩
  · have H1 := hide (lsN_yes hg)
    obtain ⟨hj, hm1, hm2⟩ := jask_of hg
    obtain ⟨M, rfl⟩ := Int.eq_ofNat_of_zero_le (show 0 ≤ m by omega)
    rw [show ((M : Int).toNat) = M from rfl] at H1
    have hle := (jgood_of hj).2.1
    have HW := hide (jgood_of hj).2.2
    have HOR := hide (ldOrder_any true A zs.length c w.heap.size zs w hr (Nat.le_refl _) (by omega))
    have HG := hide (ordS_get true zs zs.length)
    have HAL := hide (ordA_length true zs)
    rw [show ordS true zs zs.length = ordA true zs from rfl] at HG
    have HST := hide (fun k jb h => lsZ_step zs (ordA true zs) M k (jb := jb) h)
    have HBD := hide (lsZ_bd (M := M) (ordA true zs) HW.out)
    generalize ordA true zs = os at *
    have HR := hide hr
    have hM0 : ¬ (M : Int) = 0 := by omega
    clear hj
    go_enter Try.func12, Try.ntmps12
    go_wp2_with fail
    refine (ldAsked_any _ _ _ _ _ _ _ hr hn).mono ?_; rintro e w' ⟨rfl, rfl⟩; rw [hg]
    clear hr
    go_wp2_with fail
    refine HOR.out.mono ?_
    rintro e w1 ⟨v, rfl, hown, hb1⟩
    obtain ⟨A', c', rfl, _, _⟩ := hown.shape
    have HI := hide hown.ints
    have HR1 := hide (HR.out.below hb1 (Nat.le_refl _))
    have HB1 := hide hb1
    rw [HAL.out] at HI
    rw [HAL.out]
    clear hown hb1
    go_wp2_with fail
    go_loopw [6, 16] (fun s i wr => ∃ k : Nat, k ≤ zs.length ∧ i = .int .i64 k ∧ s = .int .i64 (lsZ zs os M k) ∧ ∃ n, wr = w1.drewN n)
      (fun _ i _ => zs.length - (intOf i).toNat)
    case atStart => exact ⟨0, Nat.zero_le _, rfl, rfl, 0, rfl⟩
    case round =>
      obtain ⟨k, hk, rfl, rfl, nn, rfl⟩ := hrel
      have hbd := HBD.out k (by omega)
      by_cases hlt : k < zs.length
      · obtain ⟨jb, hjb, hjz⟩ := HG.out k hlt
        have HSK := hide (HST.out k jb hjb)
        obtain ⟨ad, rfl, _, hcell⟩ := HI.out.at_ hlt
        rw [hjb] at hcell
        obtain ⟨ad2, rfl, _, hcz⟩ := HR1.out.at_ hjz
        have hcell : (w1.drewN nn).cell? (ad.add k) = some (.int .i64 (jb : Int)) := hcell
        have hcz : (w1.drewN nn).cell? (ad2.add jb) = some (.int .i64 (zs.getD jb 0)) := hcz
        have hy := within_get HW.out jb hjz
        rw [← getD_at hjz] at hy
        have hq : 0 ≤ (k : Int) / (M : Int) ∧ (k : Int) / (M : Int) ≤ 9 := ⟨Int.ediv_nonneg (by omega) (by omega), Int.le_trans (Int.ediv_le_self _ (by omega)) (by omega)⟩
        have hp : 0 ≤ zs.getD jb 0 * ((k : Int) / (M : Int) + 1) ∧ zs.getD jb 0 * ((k : Int) / (M : Int) + 1) ≤ 10000 := ⟨Int.mul_nonneg (by omega) (by omega), by
          have := Int.mul_le_mul hy.2 (show (k : Int) / (M : Int) + 1 ≤ 10 by omega) (by omega) (by omega); omega⟩
        generalize zs.getD jb 0 = y at *
        generalize lsZ zs os M k = s at *
        clear hjb
        go_wp2_with fail
        go_quiet (fail)
        go_wp2_with fail
        go_roundw
        case rel => exact ⟨k + 1, by omega, by go_num, by rw [HSK.out], _, rfl⟩
        case measure => simp [intOf]; omega
      · obtain rfl : k = zs.length := by omega
        go_wp2_with fail
        go_ret2
        exact ⟨by rw [H1.out]; rfl, below_drewN HB1.out _⟩

theorem leastP_step (n : Nat) (os : List Int) (M k : Nat) {jb : Nat} (h : os.getD k 0 = (jb : Int)) : leastP n os M (k + 1) = (leastP n os M k).set jb ((k : Int) % (M : Int)) := by
  rw [leastP, h]; rfl

set_option maxRecDepth 100000 in
/-- The program's LeastSumOfEnds. -/
theorem LeastSumOfEnds_any (A : Option Addr) (n c : Nat) (zs : List Int) (m : Int) (w : World) (hr : Ints w w.heap.size A n zs) (hn : n ≤ 17592186044416) :
    Calls Try.prog 13 #[.slice A n c, .int .i64 m] w fun e w' => e = .returned (.tuple #[.int .i64 (lsN zs m), .bool (jask zs m)]) ∧ Below w.heap.size w w' := by
  obtain rfl := hr.len
  cases hg : jask zs m
  · have H1 := hide (lsN_no hg)
    go_enter Try.func13, Try.ntmps13
    go_wp2_with fail
    refine (areJobsOn_any _ _ _ _ _ _ _ hr hn).mono ?_; rintro e w' ⟨rfl, rfl⟩; rw [hg]
    go_wp2_with fail
    go_ret2
    exact ⟨by rw [H1.out]; rfl, Below.refl _ _⟩
  · obtain ⟨hj, hm1, hm2⟩ := jask_of hg
    obtain ⟨M, rfl⟩ := Int.eq_ofNat_of_zero_le (show 0 ≤ m by omega)
    have hle := (jgood_of hj).2.1
    have HJ := hide hj
    have hal := ordA_length true zs
    have hboth : jboth zs M (leastP zs.length (ordA true zs) M zs.length) = true := by
      rw [jboth_yes hg]
      unfold jfit
      rw [leastP_length, leastP_in _ _ (by omega)]
      simp
    have H1 := hide (show soeN zs M (leastP zs.length (ordA true zs) M zs.length) = lsN zs M from by
      rw [lsN_yes hg, soeN_yes hboth, show ((M : Int).toNat) = M from rfl]
      rw [← least_eq zs (ordA true zs) M (by omega) (by omega) hal hle (ordS_perm true zs zs.length) zs.length (Nat.le_refl _)]
      have := soe_eq zs (leastP zs.length (ordA true zs) M zs.length) (ordA true zs) M (fun k hk => by
        rw [leastP_at zs.length (ordA true zs) M hal (ordS_perm true zs zs.length) zs.length (Nat.le_refl _) k (by omega)]
        exact ⟨Int.emod_nonneg _ (by omega), Int.emod_lt_of_pos _ (by omega)⟩) (ordA true zs).length (Nat.le_refl _)
      rw [List.take_length, hal] at this
      exact this.symm)
    have HBO := hide hboth
    have HLF := hide (fun W (h : Ints W W.heap.size A zs.length zs) => longestFirst_any A zs.length c W.heap.size zs W h (Nat.le_refl _) HJ.out)
    have HG := hide (ordS_get true zs zs.length)
    rw [show ordS true zs zs.length = ordA true zs from rfl] at HG
    have HST := hide (fun k jb h => leastP_step zs.length (ordA true zs) M k (jb := jb) h)
    have HPL := hide (leastP_length zs.length (ordA true zs) M)
    generalize ordA true zs = os at *
    have hmk := run_make_row' (P := Try.prog) 22 3 (.int .i64 0) 8 Try.underlying22 infoInt rfl .i64 .i64 zs.length (by omega) (by omega)
    have HR := hide hr
    have hM0 : ¬ (M : Int) = 0 := by omega
    clear hj hal hboth
    go_enter Try.func13, Try.ntmps13
    go_wp2_with fail
    refine (areJobsOn_any _ _ _ _ _ _ _ hr hn).mono ?_; rintro e w' ⟨rfl, rfl⟩; rw [hg]
    clear hr
    go_wp2_with fail
    have HZ := hide (Row.zeros w zs.length 3)
    have HB0 := hide (show Below w.heap.size w (w.alloc (.cells (madeCells #[.int .i64 0] zs.length) 3)) from (Below.refl _ _).alloc (Nat.le_refl _) _)
    have HS0 := hide (show (w.alloc (.cells (madeCells #[.int .i64 0] zs.length) 3)).heap.size = w.heap.size + 1 by simp)
    generalize w.alloc (.cells (madeCells #[.int .i64 0] zs.length) 3) = W0 at *
    refine (HLF.out W0 (HR.out.next HB0.out)).mono ?_
    rintro e w1 ⟨go, co, rfl, hgo, _, hI, hb1⟩
    have hgo : w.heap.size < go := by have := HS0.out; omega
    have HI := hide (show ∀ k, k < zs.length → go < w1.heap.size ∧ w1.cell? ⟨go, k, none⟩ = some (.int .i64 (os.getD k 0)) from fun k hk => by
      obtain ⟨ad, had, hl, hc⟩ := hI.at_ hk
      obtain rfl : (⟨go, 0, none⟩ : Addr) = ad := by injection had
      rw [add_head] at hc
      exact ⟨hl, hc⟩)
    have HB1 := hide (HB0.out.trans (hb1.mono HB0.out.size))
    have HZ1 := hide (show Row w1 w.heap.size 3 (leastP zs.length os M 0) from HZ.out.below hb1 (by have := HS0.out; omega))
    clear hI hb1
    go_wp2_with fail
    go_loopw [19] (fun i wr => ∃ k : Nat, k ≤ zs.length ∧ i = .int .i64 k ∧ Row wr w.heap.size 3 (leastP zs.length os M k) ∧ Below w.heap.size w wr ∧ Save w.heap.size w1 wr)
      (fun i _ => zs.length - (intOf i).toNat)
    case atStart => exact ⟨0, Nat.zero_le _, rfl, HZ1.out, HB1.out, Save.refl _ _⟩
    case round =>
      obtain ⟨k, hk, rfl, hrow, hb, hsv⟩ := hrel
      by_cases hlt : k < zs.length
      · obtain ⟨jb, hjb, hjz⟩ := HG.out k hlt
        obtain ⟨hgl, hc0⟩ := HI.out k hlt
        have hcell : wr.cell? ⟨go, k, none⟩ = some (.int .i64 (jb : Int)) := by
          rw [hsv.cell hgl (by show go ≠ _; omega), hc0, hjb]
        have HSK := hide (HST.out k jb hjb)
        have hpl := HPL.out k
        have hcp := hrow.atD (k := jb) (by omega)
        have hfp := hrow.free jb
        clear hjb hc0
        have HROW := hide hrow
        have HPLK := hide hpl
        clear hpl hrow
        go_wp2_with fail
        go_roundw
        case rel => exact ⟨k + 1, by omega, by go_num, by rw [HSK.out]; exact HROW.out.put jb _, hb.setCell (Nat.le_refl _) _, hsv.put jb _⟩
        case measure => simp [intOf]; omega
      · obtain rfl : k = zs.length := by omega
        have HROW := hide hrow
        have HB := hide hb
        have hI2 := hrow.ints hrow.lt
        rw [HPL.out] at hI2
        have HI2 := hide hI2
        have HSM := hide (SumOfEnds_any A zs.length c zs M (some ⟨w.heap.size, 0, none⟩) zs.length zs.length (leastP zs.length os M zs.length) wr (HR.out.next hb) hI2 (by omega) (by omega))
        rw [H1.out, HBO.out] at HSM
        clear hI2 hrow hb
        go_wp2_with fail
        refine HSM.out.mono ?_
        rintro e w4 ⟨rfl, hb4⟩
        go_wp2_with fail
        go_ret2
        exact ⟨rfl, HB.out.trans (hb4.mono HB.out.size)⟩
end Go.Proofs.Ytbefffknedimhaa
