
/-
  CUPS, BOTH WAYS, WHAT THEY HAVE, THE SECOND PART: SpreadOfCups, AreAlike.
-/
import Derived.Test.YtlempjfkgmlidaaDoorCuV
namespace Go.Proofs.YtlempjfkgmlidaaDoor
open Go.RowKit Go.Deep
set_option linter.unusedVariables false

theorem up_ge (l : List Int) : ∀ b, b ≤ up b l := by
  induction l with
  | nil => intro b; exact Int.le_refl _
  | cons x xs ih => intro b; show b ≤ up (max b x) xs; have := ih (max b x); omega
theorem dn_le (l : List Int) : ∀ b, dn b l ≤ b := by
  induction l with
  | nil => intro b; exact Int.le_refl _
  | cons x xs ih => intro b; show dn (min b x) xs ≤ b; have := ih (min b x); omega
def hiC (zs : List Int) : Int := up (zs.getD 0 0) zs
def loC (zs : List Int) : Int := dn (zs.getD 0 0) zs
theorem hilo {zs : List Int} {u : Int} (h : cuOk zs u = true) : 0 ≤ loC zs ∧ loC zs ≤ hiC zs ∧ hiC zs ≤ 2000000000 := by
  have hw := cu_wide h
  have h2 := (cuOk_of h).1
  have h00 : 0 ≤ zs.getD 0 0 ∧ zs.getD 0 0 ≤ 2000000000 := by
    rw [show zs.getD 0 0 = zs[0] from by simp [List.getD, List.getElem?_eq_getElem (show 0 < zs.length by omega)]]
    exact within_get hw 0 (by omega)
  have a := up_bd hw _ h00
  have b := dn_bd hw _ h00
  have c := up_ge zs (zs.getD 0 0)
  have d := dn_le zs (zs.getD 0 0)
  unfold hiC loC; omega
/-- The spread. -/
def sN (zs : List Int) (u : Int) : Int := if cuOk zs u then ((numD (hiC zs - loC zs).toNat u.toNat : Nat) : Int) else 0
def sD (zs : List Int) (u : Int) : Int := if cuOk zs u then ((denD (hiC zs - loC zs).toNat u.toNat : Nat) : Int) else 0
theorem sN_no {zs : List Int} {u : Int} (h : cuOk zs u = false) : sN zs u = 0 := by unfold sN; rw [h]; rfl
theorem sD_no {zs : List Int} {u : Int} (h : cuOk zs u = false) : sD zs u = 0 := by unfold sD; rw [h]; rfl
theorem sN_yes {zs : List Int} {u : Int} (h : cuOk zs u = true) : sN zs u = ((numD (hiC zs - loC zs).toNat u.toNat : Nat) : Int) := by unfold sN; rw [h]; rfl
theorem sD_yes {zs : List Int} {u : Int} (h : cuOk zs u = true) : sD zs u = ((denD (hiC zs - loC zs).toNat u.toNat : Nat) : Int) := by unfold sD; rw [h]; rfl
def alikeC (zs : List Int) (u : Int) : Bool := cuOk zs u && hiC zs == loC zs
theorem alike_no {zs : List Int} {u : Int} (h : cuOk zs u = false) : alikeC zs u = false := by unfold alikeC; rw [h]; rfl
theorem alike_yes {zs : List Int} {u : Int} (h : cuOk zs u = true) : alikeC zs u = (hiC zs == loC zs) := by unfold alikeC; rw [h]; rfl

set_option maxRecDepth 100000 in
theorem SpreadOfCups_any (A : Option Addr) (n c B : Nat) (zs : List Int) (u : Int) (w : World) (hr : Ints w B A n zs) (hB : B ≤ w.heap.size) (hn : n ≤ 17592186044416) (hT : Tab w) :
    Calls Tryd.prog 26 #[.agg #[.slice A n c, .int .i64 u]] w fun e w' => e = .returned (.tuple #[.int .i64 (sN zs u), .int .i64 (sD zs u), .bool (cuOk zs u)]) ∧ Below w.heap.size w w' := by
  obtain rfl := hr.len
  obtain ⟨k0, k1, ks, kb⟩ := box_cups w A zs.length c u 27
  have HA := hide (AreCups_any A zs.length c B zs u _ (hr.below kb hB) (Nat.le_trans hB kb.size) hn (hT.next kb))
  have HKB := hide kb
  have HR := hide hr
  clear kb hr hT
  cases hc : cuOk zs u
  · have HN := hide (sN_no hc)
    have HD := hide (sD_no hc)
    rw [hc] at HA
    clear hc
    go_enter Tryd.func26, Tryd.ntmps26
    go_wp2_with fail
    refine HA.out.mono ?_; rintro e w2 ⟨rfl, hb2⟩
    have HB := hide (HKB.out.trans (hb2.mono HKB.out.size))
    clear hb2
    go_wp2_with fail
    go_ret3
    exact ⟨by rw [HN.out, HD.out]; rfl, HB.out⟩
  · obtain ⟨hl2, hl6, hu, hw, _⟩ := cuOk_of hc
    have hub := isU_bd hu
    obtain ⟨x, rfl⟩ := Int.eq_ofNat_of_zero_le (show 0 ≤ u from by omega)
    have hwd := cu_wide hc
    obtain ⟨g1, g2, g3⟩ := hilo hc
    obtain ⟨a, ha⟩ := Int.eq_ofNat_of_zero_le (show 0 ≤ hiC zs from by omega)
    obtain ⟨b, hb⟩ := Int.eq_ofNat_of_zero_le g1
    have HX := hide (fun W (h : Below w.heap.size w W) => Max_any A zs.length c B zs W (HR.out.below h hB) hn (by omega))
    have HY := hide (fun W (h : Below w.heap.size w W) => Min_any A zs.length c B zs W (HR.out.below h hB) hn (by omega))
    rw [show up (zs.getD 0 0) zs = hiC zs from rfl, ha] at HX
    rw [show dn (zs.getD 0 0) zs = loC zs from rfl, hb] at HY
    have HN := hide (sN_yes hc)
    have HD := hide (sD_yes hc)
    rw [ha, hb] at HN HD g2
    rw [ha] at g3
    rw [Int.toNat_natCast, show ((a : Int) - (b : Int)).toNat = a - b from by omega] at HN HD
    have HI := hide (fun W => inLowestTerms_any (a - b) x (by omega) (by omega) (by omega) W)
    have e1 : ((a - b : Nat) : Int) = (a : Int) - (b : Int) := by omega
    have e2 : ((a - b : Nat) : Int) = IntKind.i64.wrap ((a : Int) - (b : Int)) := by rw [IntKind.wrap_i64]; omega
    have e3 : ((a - b : Nat) : Int) = wrap64 ((a : Int) - (b : Int)) := by unfold wrap64; omega
    have HIa := HI
    have HIb := HI
    rw [e3] at HI
    rw [e1] at HIa
    rw [e2] at HIb
    clear e1 e2 e3

    rw [hc] at HA
    clear hc hu hw hwd ha hb
    generalize numD (a - b) x = nn at *
    generalize denD (a - b) x = dd at *
    go_enter Tryd.func26, Tryd.ntmps26
    go_wp2_with fail
    refine HA.out.mono ?_; rintro e w2 ⟨rfl, hb2⟩
    have c0 := (hb2.cell (p := ⟨w.heap.size, 0, none⟩) ks).trans k0
    have c1 := (hb2.cell (p := ⟨w.heap.size, 1, none⟩) ks).trans k1
    have HB := hide (HKB.out.trans (hb2.mono HKB.out.size))
    have HX2 := hide (fun m => quiet_left (n := m) (HX.out (w2.drewN m) (below_drewN HB.out m)))
    have HY2 := hide (fun m => quiet_left (n := m) (HY.out (w2.drewN m) (below_drewN HB.out m)))
    clear hb2 k0 k1 ks
    go_wp2_with fail
    go_quiet (first
      | (go_at_call 45; with_reducible exact HX2.out _)
      | (go_at_call 46; with_reducible exact HY2.out _)
      | (go_at_call 41; first | (with_reducible exact Calls.quiet_of (HI.out _)) | (with_reducible exact Calls.quiet_of (HIa.out _)) | (with_reducible exact Calls.quiet_of (HIb.out _))))
    go_wp2_with fail
    go_ret3
    exact ⟨by rw [HN.out, HD.out]; rfl, below_drewN HB.out _⟩

set_option maxRecDepth 100000 in
theorem specSpreadOfCups_any (A : Option Addr) (n c B : Nat) (zs : List Int) (u : Int) (w : World) (hr : Ints w B A n zs) (hB : B ≤ w.heap.size) (hn : n ≤ 17592186044416) :
    Calls Tryd.prog 25 #[.agg #[.slice A n c, .int .i64 u]] w fun e w' => e = .returned (.tuple #[.int .i64 (sN zs u), .int .i64 (sD zs u), .bool (cuOk zs u)]) ∧ Below w.heap.size w w' := by
  obtain rfl := hr.len
  obtain ⟨k0, k1, ks, kb⟩ := box_cups w A zs.length c u 27
  have HA := hide (cuGood_any A zs.length c B zs u _ (hr.below kb hB) (Nat.le_trans hB kb.size) hn)
  have HKB := hide kb
  have HR := hide hr
  clear kb hr
  cases hc : cuOk zs u
  · have HN := hide (sN_no hc)
    have HD := hide (sD_no hc)
    rw [hc] at HA
    clear hc
    go_enter Tryd.func25, Tryd.ntmps25
    go_wp2_with fail
    refine HA.out.mono ?_; rintro e w2 ⟨rfl, hb2⟩
    have HB := hide (HKB.out.trans (hb2.mono HKB.out.size))
    clear hb2
    go_wp2_with fail
    go_ret3
    exact ⟨by rw [HN.out, HD.out]; rfl, HB.out⟩
  · obtain ⟨hl2, hl6, hu, hw, _⟩ := cuOk_of hc
    have hub := isU_bd hu
    obtain ⟨x, rfl⟩ := Int.eq_ofNat_of_zero_le (show 0 ≤ u from by omega)
    have hwd := cu_wide hc
    obtain ⟨g1, g2, g3⟩ := hilo hc
    obtain ⟨a, ha⟩ := Int.eq_ofNat_of_zero_le (show 0 ≤ hiC zs from by omega)
    obtain ⟨b, hb⟩ := Int.eq_ofNat_of_zero_le g1
    have HX := hide (fun W (h : Below w.heap.size w W) => cySpread_any A zs.length c B zs W (HR.out.below h hB) (by omega) (by omega) hwd)
    rw [show up (zs.getD 0 0) zs = hiC zs from rfl, show dn (zs.getD 0 0) zs = loC zs from rfl, ha, hb] at HX
    have HN := hide (sN_yes hc)
    have HD := hide (sD_yes hc)
    rw [ha, hb] at HN HD g2
    rw [ha] at g3
    rw [Int.toNat_natCast, show ((a : Int) - (b : Int)).toNat = a - b from by omega] at HN HD
    have HI := hide (fun W => cuPart_any (a - b) x (by omega) (by omega) (by omega) W)
    have e1 : ((a - b : Nat) : Int) = (a : Int) - (b : Int) := by omega
    have e2 : ((a - b : Nat) : Int) = IntKind.i64.wrap ((a : Int) - (b : Int)) := by rw [IntKind.wrap_i64]; omega
    have e3 : ((a - b : Nat) : Int) = wrap64 ((a : Int) - (b : Int)) := by unfold wrap64; omega
    have HIa := HI
    have HIb := HI
    rw [e3] at HI
    rw [e1] at HIa
    rw [e2] at HIb
    clear e1 e2 e3

    rw [hc] at HA
    clear hc hu hw hwd ha hb
    generalize numD (a - b) x = nn at *
    generalize denD (a - b) x = dd at *
    go_enter Tryd.func25, Tryd.ntmps25
    go_wp2_with fail
    refine HA.out.mono ?_; rintro e w2 ⟨rfl, hb2⟩
    have c0 := (hb2.cell (p := ⟨w.heap.size, 0, none⟩) ks).trans k0
    have c1 := (hb2.cell (p := ⟨w.heap.size, 1, none⟩) ks).trans k1
    have HB := hide (HKB.out.trans (hb2.mono HKB.out.size))
    have HX2 := hide (fun m => Calls.quiet_of (n := m) (HX.out (w2.drewN m) (below_drewN HB.out m)))
    clear hb2 k0 k1 ks
    go_wp2_with fail
    go_quiet (first
      | (go_at_call 44; with_reducible exact HX2.out _)
      | (go_at_call 39; first | (with_reducible exact Calls.quiet_of (HI.out _)) | (with_reducible exact Calls.quiet_of (HIa.out _)) | (with_reducible exact Calls.quiet_of (HIb.out _))))
    go_wp2_with fail
    go_ret3
    exact ⟨by rw [HN.out, HD.out]; rfl, below_drewN HB.out _⟩

set_option maxRecDepth 100000 in
theorem AreAlike_any (A : Option Addr) (n c B : Nat) (zs : List Int) (u : Int) (w : World) (hr : Ints w B A n zs) (hB : B ≤ w.heap.size) (hn : n ≤ 17592186044416) (hT : Tab w) :
    Calls Tryd.prog 28 #[.agg #[.slice A n c, .int .i64 u]] w fun e w' => e = .returned (.tuple #[.bool (alikeC zs u), .bool (cuOk zs u)]) ∧ Below w.heap.size w w' := by
  obtain rfl := hr.len
  obtain ⟨k0, k1, ks, kb⟩ := box_cups w A zs.length c u 27
  have HA := hide (AreCups_any A zs.length c B zs u _ (hr.below kb hB) (Nat.le_trans hB kb.size) hn (hT.next kb))
  have HKB := hide kb
  have HR := hide hr
  clear kb hr hT
  cases hc : cuOk zs u
  · have HN := hide (alike_no hc)
    rw [hc] at HA
    clear hc
    go_enter Tryd.func28, Tryd.ntmps28
    go_wp2_with fail
    refine HA.out.mono ?_; rintro e w2 ⟨rfl, hb2⟩
    have HB := hide (HKB.out.trans (hb2.mono HKB.out.size))
    clear hb2
    go_wp2_with fail
    go_ret2
    exact ⟨by rw [HN.out]; rfl, HB.out⟩
  · obtain ⟨hl2, hl6, hu, hw, _⟩ := cuOk_of hc
    have hub := isU_bd hu
    obtain ⟨x, rfl⟩ := Int.eq_ofNat_of_zero_le (show 0 ≤ u from by omega)
    have hwd := cu_wide hc
    obtain ⟨g1, g2, g3⟩ := hilo hc
    obtain ⟨a, ha⟩ := Int.eq_ofNat_of_zero_le (show 0 ≤ hiC zs from by omega)
    obtain ⟨b, hb⟩ := Int.eq_ofNat_of_zero_le g1
    have HX := hide (fun W (h : Below w.heap.size w W) => Max_any A zs.length c B zs W (HR.out.below h hB) hn (by omega))
    have HY := hide (fun W (h : Below w.heap.size w W) => Min_any A zs.length c B zs W (HR.out.below h hB) hn (by omega))
    rw [show up (zs.getD 0 0) zs = hiC zs from rfl, ha] at HX
    rw [show dn (zs.getD 0 0) zs = loC zs from rfl, hb] at HY
    have HN := hide (alike_yes hc)
    rw [ha, hb] at HN

    rw [hc] at HA
    clear hc hu hw hwd ha hb
    go_enter Tryd.func28, Tryd.ntmps28
    go_wp2_with fail
    refine HA.out.mono ?_; rintro e w2 ⟨rfl, hb2⟩
    have c0 := (hb2.cell (p := ⟨w.heap.size, 0, none⟩) ks).trans k0
    have c1 := (hb2.cell (p := ⟨w.heap.size, 1, none⟩) ks).trans k1
    have HB := hide (HKB.out.trans (hb2.mono HKB.out.size))
    have HX2 := hide (fun m => quiet_left (n := m) (HX.out (w2.drewN m) (below_drewN HB.out m)))
    have HY2 := hide (fun m => quiet_left (n := m) (HY.out (w2.drewN m) (below_drewN HB.out m)))
    clear hb2 k0 k1 ks
    go_wp2_with fail
    go_quiet (first
      | (go_at_call 45; with_reducible exact HX2.out _)
      | (go_at_call 46; with_reducible exact HY2.out _))
    go_wp2_with fail
    go_ret2
    exact ⟨by rw [HN.out]; rfl, below_drewN HB.out _⟩

set_option maxRecDepth 100000 in
theorem specAreAlike_any (A : Option Addr) (n c B : Nat) (zs : List Int) (u : Int) (w : World) (hr : Ints w B A n zs) (hB : B ≤ w.heap.size) (hn : n ≤ 17592186044416) :
    Calls Tryd.prog 27 #[.agg #[.slice A n c, .int .i64 u]] w fun e w' => e = .returned (.tuple #[.bool (alikeC zs u), .bool (cuOk zs u)]) ∧ Below w.heap.size w w' := by
  obtain rfl := hr.len
  obtain ⟨k0, k1, ks, kb⟩ := box_cups w A zs.length c u 27
  have HA := hide (cuGood_any A zs.length c B zs u _ (hr.below kb hB) (Nat.le_trans hB kb.size) hn)
  have HKB := hide kb
  have HR := hide hr
  clear kb hr
  cases hc : cuOk zs u
  · have HN := hide (alike_no hc)
    rw [hc] at HA
    clear hc
    go_enter Tryd.func27, Tryd.ntmps27
    go_wp2_with fail
    refine HA.out.mono ?_; rintro e w2 ⟨rfl, hb2⟩
    have HB := hide (HKB.out.trans (hb2.mono HKB.out.size))
    clear hb2
    go_wp2_with fail
    go_ret2
    exact ⟨by rw [HN.out]; rfl, HB.out⟩
  · obtain ⟨hl2, hl6, hu, hw, _⟩ := cuOk_of hc
    have hub := isU_bd hu
    obtain ⟨x, rfl⟩ := Int.eq_ofNat_of_zero_le (show 0 ≤ u from by omega)
    have hwd := cu_wide hc
    obtain ⟨g1, g2, g3⟩ := hilo hc
    obtain ⟨a, ha⟩ := Int.eq_ofNat_of_zero_le (show 0 ≤ hiC zs from by omega)
    obtain ⟨b, hb⟩ := Int.eq_ofNat_of_zero_le g1
    have HX := hide (fun W (h : Below w.heap.size w W) => cySpread_any A zs.length c B zs W (HR.out.below h hB) (by omega) (by omega) hwd)
    rw [show up (zs.getD 0 0) zs = hiC zs from rfl, show dn (zs.getD 0 0) zs = loC zs from rfl, ha, hb] at HX
    have HN := hide (alike_yes hc)
    rw [ha, hb] at HN
    have HZ := hide (show (((a : Int) - (b : Int)) == 0) = ((a : Int) == (b : Int)) from by
      by_cases h : a = b
      · subst h; simp
      · rw [beq_false_of_ne (by omega), beq_false_of_ne (by omega)])
    rw [ha, hb] at g2
    rw [ha] at g3

    rw [hc] at HA
    clear hc hu hw hwd ha hb
    go_enter Tryd.func27, Tryd.ntmps27
    go_wp2_with fail
    refine HA.out.mono ?_; rintro e w2 ⟨rfl, hb2⟩
    have c0 := (hb2.cell (p := ⟨w.heap.size, 0, none⟩) ks).trans k0
    have c1 := (hb2.cell (p := ⟨w.heap.size, 1, none⟩) ks).trans k1
    have HB := hide (HKB.out.trans (hb2.mono HKB.out.size))
    clear hb2 k0 k1 ks
    go_wp2_with fail
    refine (HX.out _ HB.out).mono ?_; rintro e w3 ⟨rfl, m, rfl⟩
    go_wp2_with fail
    go_ret2
    exact ⟨by rw [HN.out, ← HZ.out]; rfl, below_drewN HB.out _⟩
end Go.Proofs.YtlempjfkgmlidaaDoor
