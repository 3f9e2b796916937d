
/-
  CUPS, BOTH WAYS, WHAT THEY HAVE: ContentOf, MeanOfCups, SpreadOfCups, AreAlike.
-/
import Derived.Test.YtlempjfkgmlidaaDoorCuS
import Derived.Test.YtlempjfkgmlidaaDoorOne
namespace Go.Proofs.YtlempjfkgmlidaaDoor
open Go.RowKit Go.Deep
set_option linter.unusedVariables false

/-- Cups and one of them. -/
def askC (zs : List Int) (u p : Int) : Bool := cuOk zs u && isOne zs.length p
def cN (zs : List Int) (u p : Int) : Int := if askC zs u p then ((numD (zs.getD p.toNat 0).toNat u.toNat : Nat) : Int) else 0
def cD (zs : List Int) (u p : Int) : Int := if askC zs u p then ((denD (zs.getD p.toNat 0).toNat u.toNat : Nat) : Int) else 0
theorem cN_no {zs : List Int} {u p : Int} (h : askC zs u p = false) : cN zs u p = 0 := by unfold cN; rw [h]; rfl
theorem cD_no {zs : List Int} {u p : Int} (h : askC zs u p = false) : cD zs u p = 0 := by unfold cD; rw [h]; rfl
theorem cN_yes {zs : List Int} {u p : Int} (h : askC zs u p = true) : cN zs u p = ((numD (zs.getD p.toNat 0).toNat u.toNat : Nat) : Int) := by unfold cN; rw [h]; rfl
theorem cD_yes {zs : List Int} {u p : Int} (h : askC zs u p = true) : cD zs u p = ((denD (zs.getD p.toNat 0).toNat u.toNat : Nat) : Int) := by unfold cD; rw [h]; rfl
theorem isOne_of {n p : Int} (h : isOne n p = true) : 0 ≤ p ∧ p < n := of_decide_eq_true h

/-- The box of cups, and what it holds. -/
theorem box_cups (w : World) (A : Option Addr) (n c : Nat) (u : Int) (T : TypeId) :
    (w.alloc (.cells #[.slice A n c, .int .i64 u] T)).cell? ⟨w.heap.size, 0, none⟩ = some (.slice A n c) ∧
    (w.alloc (.cells #[.slice A n c, .int .i64 u] T)).cell? ⟨w.heap.size, 1, none⟩ = some (.int .i64 u) ∧
    w.heap.size < (w.alloc (.cells #[.slice A n c, .int .i64 u] T)).heap.size ∧
    Below w.heap.size w (w.alloc (.cells #[.slice A n c, .int .i64 u] T)) :=
  ⟨by simp, by simp, by simp, (Below.refl _ _).alloc (Nat.le_refl _) _⟩

set_option maxRecDepth 100000 in
theorem ContentOf_any (A : Option Addr) (n c B : Nat) (zs : List Int) (u p : Int) (w : World) (hr : Ints w B A n zs) (hB : B ≤ w.heap.size) (hn : n ≤ 17592186044416) (hT : Tab w) :
    Calls Tryd.prog 22 #[.agg #[.slice A n c, .int .i64 u], .int .i64 p] w fun e w' => e = .returned (.tuple #[.int .i64 (cN zs u p), .int .i64 (cD zs u p), .bool (askC zs u p)]) ∧ Below w.heap.size w w' := by
  obtain rfl := hr.len
  obtain ⟨k0, k1, ks, kb⟩ := box_cups w A zs.length c u 27
  have HA := hide (AreCups_any A zs.length c B zs u _ (hr.below kb hB) (Nat.le_trans hB kb.size) hn (hT.next kb))
  have HO := hide (fun W => isOneAmong_any (zs.length : Int) p W)
  have HKB := hide kb
  have HR := hide hr
  clear kb hr hT
  cases hc : cuOk zs u
  · have HE := hide (show askC zs u p = false from by unfold askC; rw [hc]; rfl)
    rw [hc] at HA
    clear hc
    go_enter Tryd.func22, Tryd.ntmps22
    go_wp2_with fail
    refine HA.out.mono ?_; rintro e w2 ⟨rfl, hb2⟩
    have HB := hide (HKB.out.trans (hb2.mono HKB.out.size))
    clear hb2
    go_wp2_with fail
    go_ret3
    exact ⟨by rw [HE.out, cN_no HE.out, cD_no HE.out]; rfl, HB.out⟩
  · cases ho : isOne zs.length p
    · have HE := hide (show askC zs u p = false from by unfold askC; rw [hc, ho]; rfl)
      rw [hc] at HA
      rw [ho] at HO
      clear hc ho
      go_enter Tryd.func22, Tryd.ntmps22
      go_wp2_with fail
      refine HA.out.mono ?_; rintro e w2 ⟨rfl, hb2⟩
      have c0 := (hb2.cell (p := ⟨w.heap.size, 0, none⟩) ks).trans k0
      have HB := hide (HKB.out.trans (hb2.mono HKB.out.size))
      clear hb2 k0 k1 ks
      go_wp2_with fail
      refine (HO.out _).mono ?_; rintro e w' ⟨rfl, rfl⟩
      go_wp2_with fail
      go_ret3
      exact ⟨by rw [HE.out, cN_no HE.out, cD_no HE.out]; rfl, HB.out⟩
    · have HE := hide (show askC zs u p = true from by unfold askC; rw [hc, ho]; rfl)
      obtain ⟨_, hl6, hu, hw, _⟩ := cuOk_of hc
      have hub := isU_bd hu
      obtain ⟨h0, h1⟩ := isOne_of ho
      obtain ⟨x, rfl⟩ := Int.eq_ofNat_of_zero_le (show 0 ≤ u from by omega)
      obtain ⟨q, rfl⟩ := Int.eq_ofNat_of_zero_le h0
      have hq : q < zs.length := by omega
      have hz := within_toNat hw zs[q] (List.getElem_mem hq)
      have HN := hide (cN_yes HE.out)
      have HD := hide (cD_yes HE.out)
      rw [Int.toNat_natCast, Int.toNat_natCast] at HN HD
      obtain ⟨y, hy⟩ := Int.eq_ofNat_of_zero_le hz.1
      have hgd : zs.getD q 0 = (y : Int) := by rw [← hy]; simp [List.getD, List.getElem?_eq_getElem hq]
      rw [hgd] at HN HD
      rw [hy] at hz
      rw [Int.toNat_natCast] at HN HD
      have HI := hide (fun W => inLowestTerms_any y x (by omega) (by omega) (by omega) W)
      have HQ := hide (fun W (h : Below w.heap.size w W) => (HR.out.below h hB).at_ hq)
      rw [hgd] at HQ
      rw [hc] at HA
      rw [ho] at HO
      clear hc ho hu hw hgd hy
      generalize numD y x = nn at *
      generalize denD y x = dd at *
      go_enter Tryd.func22, Tryd.ntmps22
      go_wp2_with fail
      refine HA.out.mono ?_; rintro e w2 ⟨rfl, hb2⟩
      have c0 := (hb2.cell (p := ⟨w.heap.size, 0, none⟩) ks).trans k0
      have c1 := (hb2.cell (p := ⟨w.heap.size, 1, none⟩) ks).trans k1
      have HB := hide (HKB.out.trans (hb2.mono HKB.out.size))
      obtain ⟨ad, rfl, hab, hcell2⟩ := HQ.out _ HB.out
      clear hb2 k0 k1 ks
      go_wp2_with fail
      refine (HO.out _).mono ?_; rintro e w' ⟨rfl, rfl⟩
      go_wp2_with fail
      go_quiet ((go_at_call 41; exact Calls.quiet_of (HI.out _)))
      go_wp2_with fail
      go_ret3
      exact ⟨by rw [HE.out, HN.out, HD.out]; rfl, below_drewN HB.out _⟩
set_option maxRecDepth 100000 in
theorem specContentOf_any (A : Option Addr) (n c B : Nat) (zs : List Int) (u p : Int) (w : World) (hr : Ints w B A n zs) (hB : B ≤ w.heap.size) (hn : n ≤ 17592186044416) :
    Calls Tryd.prog 21 #[.agg #[.slice A n c, .int .i64 u], .int .i64 p] w fun e w' => e = .returned (.tuple #[.int .i64 (cN zs u p), .int .i64 (cD zs u p), .bool (askC zs u p)]) ∧ Below w.heap.size w w' := by
  obtain rfl := hr.len
  obtain ⟨k0, k1, ks, kb⟩ := box_cups w A zs.length c u 27
  have HA := hide (cuGood_any A zs.length c B zs u _ (hr.below kb hB) (Nat.le_trans hB kb.size) hn)
  have HO := hide (fun W => l1In_any p 0 ((zs.length : Int) - 1) W)
  have HKB := hide kb
  have HR := hide hr
  clear kb hr
  cases hc : cuOk zs u
  · have HE := hide (show askC zs u p = false from by unfold askC; rw [hc]; rfl)
    rw [hc] at HA
    clear hc
    go_enter Tryd.func21, Tryd.ntmps21
    go_wp2_with fail
    refine HA.out.mono ?_; rintro e w2 ⟨rfl, hb2⟩
    have HB := hide (HKB.out.trans (hb2.mono HKB.out.size))
    clear hb2
    go_wp2_with fail
    go_ret3
    exact ⟨by rw [HE.out, cN_no HE.out, cD_no HE.out]; rfl, HB.out⟩
  · cases ho : isOne zs.length p
    · have HE := hide (show askC zs u p = false from by unfold askC; rw [hc, ho]; rfl)
      rw [show decide (0 ≤ p ∧ p ≤ (zs.length : Int) - 1) = isOne zs.length p from by unfold isOne; apply decide_eq_decide.2; omega] at HO
      rw [hc] at HA
      rw [ho] at HO
      clear hc ho
      go_enter Tryd.func21, Tryd.ntmps21
      go_wp2_with fail
      refine HA.out.mono ?_; rintro e w2 ⟨rfl, hb2⟩
      have c0 := (hb2.cell (p := ⟨w.heap.size, 0, none⟩) ks).trans k0
      have HB := hide (HKB.out.trans (hb2.mono HKB.out.size))
      clear hb2 k0 k1 ks
      go_wp2_with fail
      refine (HO.out _).mono ?_; rintro e w' ⟨rfl, rfl⟩
      go_wp2_with fail
      go_ret3
      exact ⟨by rw [HE.out, cN_no HE.out, cD_no HE.out]; rfl, HB.out⟩
    · have HE := hide (show askC zs u p = true from by unfold askC; rw [hc, ho]; rfl)
      rw [show decide (0 ≤ p ∧ p ≤ (zs.length : Int) - 1) = isOne zs.length p from by unfold isOne; apply decide_eq_decide.2; omega] at HO
      obtain ⟨_, hl6, hu, hw, _⟩ := cuOk_of hc
      have hub := isU_bd hu
      obtain ⟨h0, h1⟩ := isOne_of ho
      obtain ⟨x, rfl⟩ := Int.eq_ofNat_of_zero_le (show 0 ≤ u from by omega)
      obtain ⟨q, rfl⟩ := Int.eq_ofNat_of_zero_le h0
      have hq : q < zs.length := by omega
      have hz := within_toNat hw zs[q] (List.getElem_mem hq)
      have HN := hide (cN_yes HE.out)
      have HD := hide (cD_yes HE.out)
      rw [Int.toNat_natCast, Int.toNat_natCast] at HN HD
      obtain ⟨y, hy⟩ := Int.eq_ofNat_of_zero_le hz.1
      have hgd : zs.getD q 0 = (y : Int) := by rw [← hy]; simp [List.getD, List.getElem?_eq_getElem hq]
      rw [hgd] at HN HD
      rw [hy] at hz
      rw [Int.toNat_natCast] at HN HD
      have HI := hide (fun W => cuPart_any y x (by omega) (by omega) (by omega) W)
      have HQ := hide (fun W (h : Below w.heap.size w W) => (HR.out.below h hB).at_ hq)
      rw [hgd] at HQ
      rw [hc] at HA
      rw [ho] at HO
      clear hc ho hu hw hgd hy
      generalize numD y x = nn at *
      generalize denD y x = dd at *
      go_enter Tryd.func21, Tryd.ntmps21
      go_wp2_with fail
      refine HA.out.mono ?_; rintro e w2 ⟨rfl, hb2⟩
      have c0 := (hb2.cell (p := ⟨w.heap.size, 0, none⟩) ks).trans k0
      have c1 := (hb2.cell (p := ⟨w.heap.size, 1, none⟩) ks).trans k1
      have HB := hide (HKB.out.trans (hb2.mono HKB.out.size))
      obtain ⟨ad, rfl, hab, hcell2⟩ := HQ.out _ HB.out
      clear hb2 k0 k1 ks
      go_wp2_with fail
      refine (HO.out _).mono ?_; rintro e w' ⟨rfl, rfl⟩
      go_wp2_with fail
      go_quiet ((go_at_call 39; exact Calls.quiet_of (HI.out _)))
      go_wp2_with fail
      go_ret3
      exact ⟨by rw [HE.out, HN.out, HD.out]; rfl, below_drewN HB.out _⟩

/-- The mean. -/
def mN (zs : List Int) (u : Int) : Int := if cuOk zs u then ((numD (tot zs).toNat (zs.length * u.toNat) : Nat) : Int) else 0
def mD (zs : List Int) (u : Int) : Int := if cuOk zs u then ((denD (tot zs).toNat (zs.length * u.toNat) : Nat) : Int) else 0
theorem mN_no {zs : List Int} {u : Int} (h : cuOk zs u = false) : mN zs u = 0 := by unfold mN; rw [h]; rfl
theorem mD_no {zs : List Int} {u : Int} (h : cuOk zs u = false) : mD zs u = 0 := by unfold mD; rw [h]; rfl
theorem mN_yes {zs : List Int} {u : Int} (h : cuOk zs u = true) : mN zs u = ((numD (tot zs).toNat (zs.length * u.toNat) : Nat) : Int) := by unfold mN; rw [h]; rfl
theorem mD_yes {zs : List Int} {u : Int} (h : cuOk zs u = true) : mD zs u = ((denD (tot zs).toNat (zs.length * u.toNat) : Nat) : Int) := by unfold mD; rw [h]; rfl
theorem cu_wide {zs : List Int} {u : Int} (h : cuOk zs u = true) : within 0 2000000000 zs = true := by
  obtain ⟨_, _, hu, hw, _⟩ := cuOk_of h
  have := isU_bd hu
  exact within_wide hw (by omega) (by omega)
theorem cu_mul {zs : List Int} {x : Nat} (h : cuOk zs (x : Int) = true) : 1 ≤ zs.length * x ∧ zs.length * x ≤ 6 * 1048576 ∧ wrap64 ((zs.length : Int) * (x : Int)) = ((zs.length * x : Nat) : Int) ∧ wrap64 ((x : Int) * (zs.length : Int)) = ((zs.length * x : Nat) : Int) := by
  obtain ⟨h2, h6, hu, _, _⟩ := cuOk_of h
  have hb := isU_bd hu
  have h1 : 1 * 1 ≤ zs.length * x := Nat.mul_le_mul (by omega) (by omega)
  have h3 : zs.length * x ≤ 6 * 1048576 := Nat.mul_le_mul h6 (by omega)
  refine ⟨by omega, h3, ?_, ?_⟩
  · rw [← Int.natCast_mul]; unfold wrap64; omega
  · rw [Int.mul_comm, ← Int.natCast_mul]; unfold wrap64; omega
theorem cu_tot {zs : List Int} {u : Int} (h : cuOk zs u = true) : 0 ≤ tot zs ∧ tot zs ≤ 12000000000 := by
  have := tot_bd _ _ _ (cu_wide h)
  have := (cuOk_of h).2.1
  omega

set_option maxRecDepth 100000 in
theorem MeanOfCups_any (A : Option Addr) (n c B : Nat) (zs : List Int) (u : Int) (w : World) (hr : Ints w B A n zs) (hB : B ≤ w.heap.size) (hn : n ≤ 17592186044416) (hT : Tab w) :
    Calls Tryd.prog 24 #[.agg #[.slice A n c, .int .i64 u]] w fun e w' => e = .returned (.tuple #[.int .i64 (mN zs u), .int .i64 (mD zs u), .bool (cuOk zs u)]) ∧ Below w.heap.size w w' := by
  obtain rfl := hr.len
  obtain ⟨k0, k1, ks, kb⟩ := box_cups w A zs.length c u 27
  have HA := hide (AreCups_any A zs.length c B zs u _ (hr.below kb hB) (Nat.le_trans hB kb.size) hn (hT.next kb))
  have HKB := hide kb
  have HR := hide hr
  clear kb hr hT
  cases hc : cuOk zs u
  · have HN := hide (mN_no hc)
    have HD := hide (mD_no hc)
    rw [hc] at HA
    clear hc
    go_enter Tryd.func24, Tryd.ntmps24
    go_wp2_with fail
    refine HA.out.mono ?_; rintro e w2 ⟨rfl, hb2⟩
    have HB := hide (HKB.out.trans (hb2.mono HKB.out.size))
    clear hb2
    go_wp2_with fail
    go_ret3
    exact ⟨by rw [HN.out, HD.out]; rfl, HB.out⟩
  · obtain ⟨_, hl6, hu, hw, _⟩ := cuOk_of hc
    have hub := isU_bd hu
    obtain ⟨x, rfl⟩ := Int.eq_ofNat_of_zero_le (show 0 ≤ u from by omega)
    have hwd := cu_wide hc
    obtain ⟨m1, m2, m3, m4⟩ := cu_mul hc
    have ht := cu_tot hc
    have HN := hide (mN_yes hc)
    have HD := hide (mD_yes hc)
    rw [Int.toNat_natCast] at HN HD
    have HS := hide (fun W (h : Below w.heap.size w W) => sumOfW_any A zs.length c B zs W (HR.out.below h hB) (by omega) hwd)
    obtain ⟨y, hy⟩ := Int.eq_ofNat_of_zero_le ht.1
    have HI := hide (fun W => inLowestTerms_any y (zs.length * x) (by omega) (by omega) (by omega) W)
    rw [hy] at HN HD HS
    rw [Int.toNat_natCast] at HN HD
    have e1 : ((zs.length * x : Nat) : Int) = (zs.length : Int) * (x : Int) := by rw [Int.natCast_mul]
    have e2 : ((zs.length * x : Nat) : Int) = IntKind.i64.wrap ((zs.length : Int) * (x : Int)) := by rw [← e1, IntKind.wrap_i64]; omega
    have HIa := HI
    have HIb := HI
    rw [← m3] at HI
    rw [e1] at HIa
    rw [e2] at HIb
    clear e1 e2
    rw [hc] at HA
    clear hc hu hw hwd ht hy m3 m4
    generalize numD y (zs.length * x) = nn at *
    generalize denD y (zs.length * x) = dd at *
    go_enter Tryd.func24, Tryd.ntmps24
    go_wp2_with fail
    refine HA.out.mono ?_; rintro e w2 ⟨rfl, hb2⟩
    have c0 := (hb2.cell (p := ⟨w.heap.size, 0, none⟩) ks).trans k0
    have c1 := (hb2.cell (p := ⟨w.heap.size, 1, none⟩) ks).trans k1
    have HB := hide (HKB.out.trans (hb2.mono HKB.out.size))
    have HS2 := hide (fun m => quiet_left (n := m) (HS.out (w2.drewN m) (below_drewN HB.out m)))
    clear hb2 k0 k1 ks
    go_wp2_with fail
    go_quiet (first
      | (go_at_call 43; with_reducible exact HS2.out _)
      | (go_at_call 41; first | (with_reducible exact Calls.quiet_of (HI.out _)) | (with_reducible exact Calls.quiet_of (HIa.out _)) | (with_reducible exact Calls.quiet_of (HIb.out _))))
    go_wp2_with fail
    go_ret3
    exact ⟨by rw [HN.out, HD.out]; rfl, below_drewN HB.out _⟩

set_option maxRecDepth 100000 in
theorem specMeanOfCups_any (A : Option Addr) (n c B : Nat) (zs : List Int) (u : Int) (w : World) (hr : Ints w B A n zs) (hB : B ≤ w.heap.size) (hn : n ≤ 17592186044416) :
    Calls Tryd.prog 23 #[.agg #[.slice A n c, .int .i64 u]] w fun e w' => e = .returned (.tuple #[.int .i64 (mN zs u), .int .i64 (mD zs u), .bool (cuOk zs u)]) ∧ Below w.heap.size w w' := by
  obtain rfl := hr.len
  obtain ⟨k0, k1, ks, kb⟩ := box_cups w A zs.length c u 27
  have HA := hide (cuGood_any A zs.length c B zs u _ (hr.below kb hB) (Nat.le_trans hB kb.size) hn)
  have HKB := hide kb
  have HR := hide hr
  clear kb hr
  cases hc : cuOk zs u
  · have HN := hide (mN_no hc)
    have HD := hide (mD_no hc)
    rw [hc] at HA
    clear hc
    go_enter Tryd.func23, Tryd.ntmps23
    go_wp2_with fail
    refine HA.out.mono ?_; rintro e w2 ⟨rfl, hb2⟩
    have HB := hide (HKB.out.trans (hb2.mono HKB.out.size))
    clear hb2
    go_wp2_with fail
    go_ret3
    exact ⟨by rw [HN.out, HD.out]; rfl, HB.out⟩
  · obtain ⟨_, hl6, hu, hw, _⟩ := cuOk_of hc
    have hub := isU_bd hu
    obtain ⟨x, rfl⟩ := Int.eq_ofNat_of_zero_le (show 0 ≤ u from by omega)
    have hwd := cu_wide hc
    obtain ⟨m1, m2, m3, m4⟩ := cu_mul hc
    have ht := cu_tot hc
    have HN := hide (mN_yes hc)
    have HD := hide (mD_yes hc)
    rw [Int.toNat_natCast] at HN HD
    have HS := hide (fun W (h : Below w.heap.size w W) => hpSumW_any A zs.length c B zs W (HR.out.below h hB) (by omega) hwd)
    obtain ⟨y, hy⟩ := Int.eq_ofNat_of_zero_le ht.1
    have HI := hide (fun W => cuPart_any y (zs.length * x) (by omega) (by omega) (by omega) W)
    rw [hy] at HN HD HS
    rw [Int.toNat_natCast] at HN HD
    have e1 : ((zs.length * x : Nat) : Int) = (x : Int) * (zs.length : Int) := by rw [Int.natCast_mul, Int.mul_comm]
    have e2 : ((zs.length * x : Nat) : Int) = IntKind.i64.wrap ((x : Int) * (zs.length : Int)) := by rw [← e1, IntKind.wrap_i64]; omega
    have HIa := HI
    have HIb := HI
    rw [← m4] at HI
    rw [e1] at HIa
    rw [e2] at HIb
    clear e1 e2
    rw [hc] at HA
    clear hc hu hw hwd ht hy m3 m4
    generalize numD y (zs.length * x) = nn at *
    generalize denD y (zs.length * x) = dd at *
    go_enter Tryd.func23, Tryd.ntmps23
    go_wp2_with fail
    refine HA.out.mono ?_; rintro e w2 ⟨rfl, hb2⟩
    have c0 := (hb2.cell (p := ⟨w.heap.size, 0, none⟩) ks).trans k0
    have c1 := (hb2.cell (p := ⟨w.heap.size, 1, none⟩) ks).trans k1
    have HB := hide (HKB.out.trans (hb2.mono HKB.out.size))
    have HS2 := hide (fun m => quiet_left (n := m) (HS.out (w2.drewN m) (below_drewN HB.out m)))
    clear hb2 k0 k1 ks
    go_wp2_with fail
    go_quiet (first
      | (go_at_call 42; with_reducible exact HS2.out _)
      | (go_at_call 39; first | (with_reducible exact Calls.quiet_of (HI.out _)) | (with_reducible exact Calls.quiet_of (HIa.out _)) | (with_reducible exact Calls.quiet_of (HIb.out _))))
    go_wp2_with fail
    go_ret3
    exact ⟨by rw [HN.out, HD.out]; rfl, below_drewN HB.out _⟩
end Go.Proofs.YtlempjfkgmlidaaDoor
