import Derived.Test.YtcbcgapnoompbaaMg45
import Derived.Test.YtcbcgapnoompbaaMg46
import Derived.Test.YtcbcgapnoompbaaMg47

/-
  THE WALK OF FnRingsBefore, the given frame left out: for all bytes the law returns true and writes nothing that was there.
-/
namespace Go.Proofs.Ytcbcgapnoompbaa
open Go.RowKit Go.Deep
set_option linter.unusedVariables false

set_option maxRecDepth 100000 in
set_option maxHeartbeats 100000000 in
theorem lawRingsBeforeAll (A : Option Addr) (n c : Nat) (A' : Option Addr) (n' c' : Nat) (w : World) (hx : Bys w w.heap.size A n) (hx' : Bys w w.heap.size A' n') :
    Calls Try.prog 3 #[.slice A n c, .slice A' n' c'] w fun e w' => e = .returned (.bool true) ∧ Below w.heap.size w w' := by
  have hYm := hide hx'
  by_cases hbig : n + n' ≤ 1048576
  · go_enter Try.func3, Try.ntmps3
    refine wp_seq_k (fun K hK => ?_)
    have HK := hide hK
    clear hK
    go_wp2_with fail
    refine HK.out _ _ ?_
    clear HK
    refine wp_seq_k (fun K hK => ?_)
    have HK := hide hK
    clear hK
    go_wp2_with fail
    refine (big_no A A' n c n' c' _ hbig).mono ?_; rintro e _ ⟨rfl, rfl⟩
    go_wp2_with fail
    refine HK.out _ _ ?_
    clear HK
    refine wp_seq_k (fun K hK => ?_)
    have HK := hide hK
    clear hK
    go_wp2_with fail
    refine (DrawRingsBefore_any A n c w hx (by omega)).mono ?_; rintro e w1 ⟨v, rfl, ⟨zs, Ag, cg, rfl, hNAg, hO⟩, hb⟩
    obtain ⟨A_, c_, hv_, hcg, hcgm⟩ := hO.shape; injection hv_ with hv1 hv2 hv3; subst hv1; subst hv3; clear hv2
    have h20Ag := hNAg.1
    have B1 := hide hb
    replace hYm := hide ((hYm.out.keep fun g hg => (hb).block g hg).more (hb).size)
    have hIAg := hide hO.ints
    clear hO hb
    go_wp2_with fail
    refine HK.out _ _ ?_
    clear HK
    clear hNAg
    have hl10 : zs.length ≤ 17592186044416 := by omega
    refine wp_seq_k (fun K hK => ?_)
    have HK := hide hK
    clear hK
    go_wp2_with fail
    refine (RingsBefore_any Ag zs.length cg _ zs _ hIAg.out (Nat.le_refl _) hl10).mono ?_; rintro e w2 ⟨Ab, cb, vs, rfl, hcb, hcbm, hO, hb⟩
    have B2 := hide (below_next B1.out hb)
    replace hIAg := hide ((hIAg.out.below hb (Nat.le_refl _)).more (hb).size)
    replace hYm := hide ((hYm.out.keep fun g hg => (hb).block g hg).more (hb).size)
    clear B1
    have hVAb := hide hO.vals
    have hRAb := hide hO.ints
    have hCapAb := hide (fun k (hk : k < (befR zs).length) => (show ∃ A c, vs.getD k undef = .slice A ((befR zs).getD k []).length c ∧ ((befR zs).getD k []).length ≤ c ∧ c ≤ maxLen from (hO.2.2.1 k hk).shape))
    clear hO hb
    go_wp2_with fail
    refine HK.out _ _ ?_
    clear HK
    refine wp_seq_k (fun K hK => ?_)
    have HK := hide hK
    clear hK
    go_wp2_with fail
    refine (specRingsBefore_any Ag zs.length cg _ zs _ hIAg.out (Nat.le_refl _) hl10).mono ?_; rintro e w3 ⟨Ab2, cb2, vs2, rfl, hcb2, hcb2m, hO, hb⟩
    replace hVAb := hide ((hVAb.out.below hb (Nat.le_refl _)).more (hb).size)
    replace hRAb := hide ((hRAb.out.below hb (Nat.le_refl _)).more (hb).size)
    have B3 := hide (below_next B2.out hb)
    replace hIAg := hide ((hIAg.out.below hb (Nat.le_refl _)).more (hb).size)
    replace hYm := hide ((hYm.out.keep fun g hg => (hb).block g hg).more (hb).size)
    clear B2
    have hVAb2 := hide hO.vals
    have hRAb2 := hide hO.ints
    have hCapAb2 := hide (fun k (hk : k < (befR zs).length) => (show ∃ A c, vs2.getD k undef = .slice A ((befR zs).getD k []).length c ∧ ((befR zs).getD k []).length ≤ c ∧ c ≤ maxLen from (hO.2.2.1 k hk).shape))
    clear hO hb
    go_wp2_with fail
    refine HK.out _ _ ?_
    clear HK
    refine wp_seq_k (fun K hK => ?_)
    have HK := hide hK
    clear hK
    go_wp2_with fail
    refine (CountRingsBefore_any Ag zs.length cg _ zs _ hIAg.out (Nat.le_refl _) hl10).mono ?_; rintro e w4 ⟨rfl, hb⟩
    replace hVAb := hide ((hVAb.out.below hb (Nat.le_refl _)).more (hb).size)
    replace hRAb := hide ((hRAb.out.below hb (Nat.le_refl _)).more (hb).size)
    replace hVAb2 := hide ((hVAb2.out.below hb (Nat.le_refl _)).more (hb).size)
    replace hRAb2 := hide ((hRAb2.out.below hb (Nat.le_refl _)).more (hb).size)
    have B4 := hide (below_next B3.out hb)
    replace hIAg := hide ((hIAg.out.below hb (Nat.le_refl _)).more (hb).size)
    replace hYm := hide ((hYm.out.keep fun g hg => (hb).block g hg).more (hb).size)
    clear B3
    clear hb
    go_wp2_with fail
    refine HK.out _ _ ?_
    clear HK
    refine wp_seq_k (fun K hK => ?_)
    have HK := hide hK
    clear hK
    go_wp2_with fail
    refine (specCountRingsBefore_any Ag zs.length cg _ zs _ hIAg.out (Nat.le_refl _) hl10).mono ?_; rintro e w5 ⟨rfl, hb⟩
    replace hVAb := hide ((hVAb.out.below hb (Nat.le_refl _)).more (hb).size)
    replace hRAb := hide ((hRAb.out.below hb (Nat.le_refl _)).more (hb).size)
    replace hVAb2 := hide ((hVAb2.out.below hb (Nat.le_refl _)).more (hb).size)
    replace hRAb2 := hide ((hRAb2.out.below hb (Nat.le_refl _)).more (hb).size)
    have B5 := hide (below_next B4.out hb)
    replace hIAg := hide ((hIAg.out.below hb (Nat.le_refl _)).more (hb).size)
    replace hYm := hide ((hYm.out.keep fun g hg => (hb).block g hg).more (hb).size)
    clear B4
    clear hb
    go_wp2_with fail
    refine HK.out _ _ ?_
    clear HK
    refine wp_seq_k (fun K hK => ?_)
    have HK := hide hK
    clear hK
    go_wp2_with fail
    refine (HasRingBefore_any Ag zs.length cg _ zs _ hIAg.out (Nat.le_refl _) hl10).mono ?_; rintro e w6 ⟨rfl, hb⟩
    replace hVAb := hide ((hVAb.out.below hb (Nat.le_refl _)).more (hb).size)
    replace hRAb := hide ((hRAb.out.below hb (Nat.le_refl _)).more (hb).size)
    replace hVAb2 := hide ((hVAb2.out.below hb (Nat.le_refl _)).more (hb).size)
    replace hRAb2 := hide ((hRAb2.out.below hb (Nat.le_refl _)).more (hb).size)
    have B6 := hide (below_next B5.out hb)
    replace hIAg := hide ((hIAg.out.below hb (Nat.le_refl _)).more (hb).size)
    replace hYm := hide ((hYm.out.keep fun g hg => (hb).block g hg).more (hb).size)
    clear B5
    clear hb
    go_wp2_with fail
    refine HK.out _ _ ?_
    clear HK
    refine wp_seq_k (fun K hK => ?_)
    have HK := hide hK
    clear hK
    go_wp2_with fail
    refine (specHasRingBefore_any Ag zs.length cg _ zs _ hIAg.out (Nat.le_refl _) hl10).mono ?_; rintro e w7 ⟨rfl, hb⟩
    replace hVAb := hide ((hVAb.out.below hb (Nat.le_refl _)).more (hb).size)
    replace hRAb := hide ((hRAb.out.below hb (Nat.le_refl _)).more (hb).size)
    replace hVAb2 := hide ((hVAb2.out.below hb (Nat.le_refl _)).more (hb).size)
    replace hRAb2 := hide ((hRAb2.out.below hb (Nat.le_refl _)).more (hb).size)
    have B7 := hide (below_next B6.out hb)
    replace hIAg := hide ((hIAg.out.below hb (Nat.le_refl _)).more (hb).size)
    replace hYm := hide ((hYm.out.keep fun g hg => (hb).block g hg).more (hb).size)
    clear B6
    clear hb
    go_wp2_with fail
    refine HK.out _ _ ?_
    clear HK
    refine wp_seq_k (fun K hK => ?_)
    have HK := hide hK
    clear hK
    go_wp2_with fail
    refine (RingStep_any Ag zs.length cg _ zs _ hIAg.out (Nat.le_refl _) hl10 hcg hcgm).mono ?_; rintro e w8 ⟨Ax, cx, rfl, hcx, hcxm, hO, hb⟩
    replace hVAb := hide ((hVAb.out.below hb (Nat.le_refl _)).more (hb).size)
    replace hRAb := hide ((hRAb.out.below hb (Nat.le_refl _)).more (hb).size)
    replace hVAb2 := hide ((hVAb2.out.below hb (Nat.le_refl _)).more (hb).size)
    replace hRAb2 := hide ((hRAb2.out.below hb (Nat.le_refl _)).more (hb).size)
    have B8 := hide (below_next B7.out hb)
    replace hIAg := hide ((hIAg.out.below hb (Nat.le_refl _)).more (hb).size)
    replace hYm := hide ((hYm.out.keep fun g hg => (hb).block g hg).more (hb).size)
    clear B7
    have hIAx := hide hO.ints
    clear hO hb
    go_wp2_with fail
    refine HK.out _ _ ?_
    clear HK
    refine wp_seq_k (fun K hK => ?_)
    have HK := hide hK
    clear hK
    go_wp2_with fail
    refine (specRingStep_any Ag zs.length cg _ zs _ hIAg.out (Nat.le_refl _) hl10).mono ?_; rintro e w9 ⟨Ax2, cx2, rfl, hcx2, hcx2m, hO, hb⟩
    replace hVAb := hide ((hVAb.out.below hb (Nat.le_refl _)).more (hb).size)
    replace hRAb := hide ((hRAb.out.below hb (Nat.le_refl _)).more (hb).size)
    replace hVAb2 := hide ((hVAb2.out.below hb (Nat.le_refl _)).more (hb).size)
    replace hRAb2 := hide ((hRAb2.out.below hb (Nat.le_refl _)).more (hb).size)
    have B9 := hide (below_next B8.out hb)
    replace hIAg := hide ((hIAg.out.below hb (Nat.le_refl _)).more (hb).size)
    replace hIAx := hide ((hIAx.out.below hb (Nat.le_refl _)).more (hb).size)
    replace hYm := hide ((hYm.out.keep fun g hg => (hb).block g hg).more (hb).size)
    clear B8
    have hIAx2 := hide hO.ints
    clear hO hb
    go_wp2_with fail
    refine HK.out _ _ ?_
    clear HK
    refine wp_seq_k (fun K hK => ?_)
    have HK := hide hK
    clear hK
    go_wp2_with fail
    refine (MirrorRing_any Ag zs.length cg _ zs _ hIAg.out (Nat.le_refl _) hl10).mono ?_; rintro e w10 ⟨Am, cm, rfl, hcm, hcmm, hO, hb⟩
    replace hVAb := hide ((hVAb.out.below hb (Nat.le_refl _)).more (hb).size)
    replace hRAb := hide ((hRAb.out.below hb (Nat.le_refl _)).more (hb).size)
    replace hVAb2 := hide ((hVAb2.out.below hb (Nat.le_refl _)).more (hb).size)
    replace hRAb2 := hide ((hRAb2.out.below hb (Nat.le_refl _)).more (hb).size)
    have B10 := hide (below_next B9.out hb)
    replace hIAg := hide ((hIAg.out.below hb (Nat.le_refl _)).more (hb).size)
    replace hIAx := hide ((hIAx.out.below hb (Nat.le_refl _)).more (hb).size)
    replace hIAx2 := hide ((hIAx2.out.below hb (Nat.le_refl _)).more (hb).size)
    replace hYm := hide ((hYm.out.keep fun g hg => (hb).block g hg).more (hb).size)
    clear B9
    have hIAm := hide hO.ints
    clear hO hb
    go_wp2_with fail
    refine HK.out _ _ ?_
    clear HK
    refine wp_seq_k (fun K hK => ?_)
    have HK := hide hK
    clear hK
    go_wp2_with fail
    refine (specMirrorRing_any Ag zs.length cg _ zs _ hIAg.out (Nat.le_refl _) hl10).mono ?_; rintro e w11 ⟨Am2, cm2, rfl, hcm2, hcm2m, hO, hb⟩
    replace hVAb := hide ((hVAb.out.below hb (Nat.le_refl _)).more (hb).size)
    replace hRAb := hide ((hRAb.out.below hb (Nat.le_refl _)).more (hb).size)
    replace hVAb2 := hide ((hVAb2.out.below hb (Nat.le_refl _)).more (hb).size)
    replace hRAb2 := hide ((hRAb2.out.below hb (Nat.le_refl _)).more (hb).size)
    have B11 := hide (below_next B10.out hb)
    replace hIAg := hide ((hIAg.out.below hb (Nat.le_refl _)).more (hb).size)
    replace hIAx := hide ((hIAx.out.below hb (Nat.le_refl _)).more (hb).size)
    replace hIAx2 := hide ((hIAx2.out.below hb (Nat.le_refl _)).more (hb).size)
    replace hIAm := hide ((hIAm.out.below hb (Nat.le_refl _)).more (hb).size)
    replace hYm := hide ((hYm.out.keep fun g hg => (hb).block g hg).more (hb).size)
    clear B10
    have hIAm2 := hide hO.ints
    clear hO hb
    go_wp2_with fail
    refine HK.out _ _ ?_
    clear HK
    refine wp_seq_k (fun K hK => ?_)
    have HK := hide (show ∀ a w', Code.wp Try.prog (tailN 14 bodyRB) (bodyPost Try.prog Try.f3 (fun e w' => e = .returned (.bool true) ∧ Below w.heap.size w w')) a w' → K a w' from hK)
    clear hK
    have hbs := hide (befR_short zs)
    have hxl := hide (rstepR_short zs (by omega))
    have hml := hide (rmirR_short zs (by omega))
    have hrows := hide (fun k (hk : k < (befR zs).length) => Nat.le_trans (sizeSS_one (befR zs) k hk) (Nat.le_trans hbs.out.1 (by omega : 1048576 ≤ 17592186044416)))
    have e1 : (rsmall zs != rsmall zs) = false := by simp
    have e2 : (rgood zs != rgood zs) = false := by simp
    have e3 : (((befR zs).length : Int) != befC zs) = false := by unfold befC; simp
    have e4 : (decide (0 < (befR zs).length) != befH zs) = false := by unfold befH; simp
    have HIR := hide (fun W' B (h : Ints W' B Ag zs.length zs) => IsRing_any Ag zs.length cg B zs W' h hl10)
    have HG := hide (fun (h : rsmall zs = true) => (bef_good h).1)
    go_wp2_with fail
    refine (kRows_same _ _ _ _ _ _ _ _ _ _ hVAb.out hRAb.out hVAb2.out hRAb2.out (Nat.le_refl _) (by have := hbs.out.2; omega) hrows.out).mono ?_; rintro e w12 ⟨rfl, hb⟩
    replace hVAb := hide ((hVAb.out.below hb (Nat.le_refl _)).more (hb).size)
    replace hRAb := hide ((hRAb.out.below hb (Nat.le_refl _)).more (hb).size)
    replace hVAb2 := hide ((hVAb2.out.below hb (Nat.le_refl _)).more (hb).size)
    replace hRAb2 := hide ((hRAb2.out.below hb (Nat.le_refl _)).more (hb).size)
    have B12 := hide (below_next B11.out hb)
    replace hIAg := hide ((hIAg.out.below hb (Nat.le_refl _)).more (hb).size)
    replace hIAx := hide ((hIAx.out.below hb (Nat.le_refl _)).more (hb).size)
    replace hIAx2 := hide ((hIAx2.out.below hb (Nat.le_refl _)).more (hb).size)
    replace hIAm := hide ((hIAm.out.below hb (Nat.le_refl _)).more (hb).size)
    replace hIAm2 := hide ((hIAm2.out.below hb (Nat.le_refl _)).more (hb).size)
    replace hYm := hide ((hYm.out.keep fun g hg => (hb).block g hg).more (hb).size)
    clear B11
    clear hb
    go_wp2_with fail
    refine (kSame_same _ _ _ _ _ _ _ _ _ hIAx.out hIAx2.out (Nat.le_refl _) (Nat.le_refl _) (by have := hxl.out; omega)).mono ?_; rintro e w13 ⟨rfl, hb⟩
    replace hVAb := hide ((hVAb.out.below hb (Nat.le_refl _)).more (hb).size)
    replace hRAb := hide ((hRAb.out.below hb (Nat.le_refl _)).more (hb).size)
    replace hVAb2 := hide ((hVAb2.out.below hb (Nat.le_refl _)).more (hb).size)
    replace hRAb2 := hide ((hRAb2.out.below hb (Nat.le_refl _)).more (hb).size)
    have B13 := hide (below_next B12.out hb)
    replace hIAg := hide ((hIAg.out.below hb (Nat.le_refl _)).more (hb).size)
    replace hIAx := hide ((hIAx.out.below hb (Nat.le_refl _)).more (hb).size)
    replace hIAx2 := hide ((hIAx2.out.below hb (Nat.le_refl _)).more (hb).size)
    replace hIAm := hide ((hIAm.out.below hb (Nat.le_refl _)).more (hb).size)
    replace hIAm2 := hide ((hIAm2.out.below hb (Nat.le_refl _)).more (hb).size)
    replace hYm := hide ((hYm.out.keep fun g hg => (hb).block g hg).more (hb).size)
    clear B12
    clear hb
    go_wp2_with fail
    refine (kSame_same _ _ _ _ _ _ _ _ _ hIAm.out hIAm2.out (Nat.le_refl _) (Nat.le_refl _) (by have := hml.out; omega)).mono ?_; rintro e w14 ⟨rfl, hb⟩
    replace hVAb := hide ((hVAb.out.below hb (Nat.le_refl _)).more (hb).size)
    replace hRAb := hide ((hRAb.out.below hb (Nat.le_refl _)).more (hb).size)
    replace hVAb2 := hide ((hVAb2.out.below hb (Nat.le_refl _)).more (hb).size)
    replace hRAb2 := hide ((hRAb2.out.below hb (Nat.le_refl _)).more (hb).size)
    have B14 := hide (below_next B13.out hb)
    replace hIAg := hide ((hIAg.out.below hb (Nat.le_refl _)).more (hb).size)
    replace hIAx := hide ((hIAx.out.below hb (Nat.le_refl _)).more (hb).size)
    replace hIAx2 := hide ((hIAx2.out.below hb (Nat.le_refl _)).more (hb).size)
    replace hIAm := hide ((hIAm.out.below hb (Nat.le_refl _)).more (hb).size)
    replace hIAm2 := hide ((hIAm2.out.below hb (Nat.le_refl _)).more (hb).size)
    replace hYm := hide ((hYm.out.keep fun g hg => (hb).block g hg).more (hb).size)
    clear B13
    clear hb
    go_wp2_with fail
    refine (HIR.out _ _ hIAg.out).mono ?_; rintro e _ ⟨rfl, rfl⟩
    cases hs : rsmall zs
    · go_wp2_with fail
      exact HK.out _ _ (RzB w _ A' n' c' hYm (by omega) zs h20Ag Ag cg hIAg hcg hcgm Ax cx hIAx hcx hcxm Am cm hIAm hcm hcmm _ _ hs.symm rfl Ab cb vs hVAb hRAb hCapAb B14 _ _ _ _ _ _ _ _ _ _ _ _ _ _ _ _ _ _ _ _ _ _ _ _ _ _ _ _ _ _ _ _ _ _ _ _ _ _ _ _ _ _ _ _ _ _ _ _ _ _ _ _ _ _ _ _ _ _ _ _ _ _ _ _ _ _ _ _ _ _ _ _ _ _ _ _ _ _ _ _ _ _ _ _ _ _ _ _ _ _ _ _ _ _ _ _ _ _ _ _ _ _ _ _ _ _ _ _ _ _ _ _ _ _ _ _ _ _ _ _ _ _ _ _ _ _ _ _ _ _ _ _ _ _ _ _ _ _ _ _ _ _ _ _ _ _ _ _ _ _ _ _ _ _ _ _ _ _ _ _ _ _ _ _ _ _ _ _ _ _ _ _ _ _ _ _ _ _ _ _ _ _ _ _ _ _ _ _ _ _ _ _ _ _ _ _ _ _ _ _ _ _ _ _ _ _ _ _ _ _ _ _ _ _ _ _ _ _ _ _ _ _ _ _ _ _ _ _ _ _ _ _ _ _ _ _ _ _ _ _ _ _ _ _ _ _ _ _ _ _ _ _ _ _ _ _ _ _ _ _ _ _ _ _ _ _ _ _ _ _ _ _ _ _ _ _ _ _ _ _ _ _ _ _ _ _ _ _ _ _ _ _ _ _ _ _ _ _ _ _ _ _ _ _ _ _ _ _ _ _ _ _ _ _ _ _ _ _ _ _ _ _ _ _ _ _ _ _ _ _ _ _ _ _ _ _ _ _ _ _ _ _ _ _ _ _ _ _ _ _ _ _ _ _ _ _ _ _ _ _ _ _ _ _ _ _ _ _ _ _ _ _ _ _ _ _ _ _ _ _ _ _ _ _ _ _ _ _ _ _ _ _ _ _ _ _ _ _ _ _ _ _ _ _ _ _ _ _ _ _ _ _ _ _ _ _ _ _ _ _ _ _ _ _ _ _ _ _ _ _ _ _ _ _ _ _ _ _ _ _ _ _ _ _ _ _ _ _ _ _ _ _ _ _ _ _ _ _ _ _ _ _ _ _ _ _ _ _ _ _ _ _ _ _ _ _ _ _ _ _ _ _ _ _ _ _ _ _ _ _ _ _ _ _ _ _ _ _ _ _ _ _ _ _ _ _ _ _ _ _ _ _ _ _ _ _ _ _ _ _ _ _ _ _ _ _ _ _ _ _ _ _ _ _ _ _ _ _ _ _ _ _ _ )
    · have hg := HG.out hs
      go_wp2_with fail
      exact HK.out _ _ (RzB w _ A' n' c' hYm (by omega) zs h20Ag Ag cg hIAg hcg hcgm Ax cx hIAx hcx hcxm Am cm hIAm hcm hcmm _ _ hs.symm hg.symm Ab cb vs hVAb hRAb hCapAb B14 _ _ _ _ _ _ _ _ _ _ _ _ _ _ _ _ _ _ _ _ _ _ _ _ _ _ _ _ _ _ _ _ _ _ _ _ _ _ _ _ _ _ _ _ _ _ _ _ _ _ _ _ _ _ _ _ _ _ _ _ _ _ _ _ _ _ _ _ _ _ _ _ _ _ _ _ _ _ _ _ _ _ _ _ _ _ _ _ _ _ _ _ _ _ _ _ _ _ _ _ _ _ _ _ _ _ _ _ _ _ _ _ _ _ _ _ _ _ _ _ _ _ _ _ _ _ _ _ _ _ _ _ _ _ _ _ _ _ _ _ _ _ _ _ _ _ _ _ _ _ _ _ _ _ _ _ _ _ _ _ _ _ _ _ _ _ _ _ _ _ _ _ _ _ _ _ _ _ _ _ _ _ _ _ _ _ _ _ _ _ _ _ _ _ _ _ _ _ _ _ _ _ _ _ _ _ _ _ _ _ _ _ _ _ _ _ _ _ _ _ _ _ _ _ _ _ _ _ _ _ _ _ _ _ _ _ _ _ _ _ _ _ _ _ _ _ _ _ _ _ _ _ _ _ _ _ _ _ _ _ _ _ _ _ _ _ _ _ _ _ _ _ _ _ _ _ _ _ _ _ _ _ _ _ _ _ _ _ _ _ _ _ _ _ _ _ _ _ _ _ _ _ _ _ _ _ _ _ _ _ _ _ _ _ _ _ _ _ _ _ _ _ _ _ _ _ _ _ _ _ _ _ _ _ _ _ _ _ _ _ _ _ _ _ _ _ _ _ _ _ _ _ _ _ _ _ _ _ _ _ _ _ _ _ _ _ _ _ _ _ _ _ _ _ _ _ _ _ _ _ _ _ _ _ _ _ _ _ _ _ _ _ _ _ _ _ _ _ _ _ _ _ _ _ _ _ _ _ _ _ _ _ _ _ _ _ _ _ _ _ _ _ _ _ _ _ _ _ _ _ _ _ _ _ _ _ _ _ _ _ _ _ _ _ _ _ _ _ _ _ _ _ _ _ _ _ _ _ _ _ _ _ _ _ _ _ _ _ _ _ _ _ _ _ _ _ _ _ _ _ _ _ _ _ _ _ _ _ _ _ _ _ _ _ _ _ _ _ _ _ _ _ _ _ _ _ _ _ _ _ _ _ _ _ _ _ _ _ _ _ _ _ _ _ _ _ _ _ _ _ _ _ _ _ _ _ _ _ _ _ _ _ _ )
  · go_enter Try.func3, Try.ntmps3
    go_wp2_with fail
    refine (big_yes A A' n c n' c' _ hbig).mono ?_; rintro e w' ⟨rfl, rfl⟩
    go_wp2_with fail
    go_ret
    exact ⟨rfl, Below.refl _ _⟩
end Go.Proofs.Ytcbcgapnoompbaa
