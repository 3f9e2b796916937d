
/-
  SPLITS, BOTH WAYS: PlaySplits, MakeSplit, ScoreOfSplits.
-/
import Derived.Test.YtpeblkbbnkinaaaSlN
import Derived.Test.YtpeblkbbnkinaaaFlows
namespace Go.Proofs.Ytpeblkbbnkinaaa
open Go.RowKit Go.Deep
set_option linter.unusedVariables false

theorem splay_pl {r : Int} {zs : List Int} {ds : List Sp} (ha : sask r zs = true) (hl : ds.length ≤ 60) : splayL r zs ds = plL r zs ds ∧ splayOk r zs ds = plOk r zs ds := by
  have e : splayOk r zs ds = plOk r zs ds := by unfold splayOk plOk; rw [ha, decide_eq_true hl]; rfl
  refine ⟨?_, e⟩
  unfold splayL plL
  rw [e]
  unfold plOk
  cases splay r zs ds <;> rfl
/-- The slice lies not in block b. -/
def Apart (A : Option Addr) (b : Nat) : Prop := ∀ ad, A = some ad → ad.block ≠ b
theorem Ints.setApart {w : World} {B n : Nat} {A : Option Addr} {zs : List Int} {a : Addr} (h : Ints w B A n zs) (ha : Apart A a.block) (v : Value) : Ints (w.setCell a v) B A n zs :=
  ⟨h.1, fun hn => by
    obtain ⟨ad, e, hb, hc⟩ := h.2 hn
    refine ⟨ad, e, hb, fun k hk => ?_⟩
    rw [World.cell?_setCell_other _ _ _ _ (fun e2 => ha ad e (by rw [e2, block_of_add]))]
    exact hc k hk⟩

/-- The model's PlaySplits. -/
theorem specPlaySplits_any (r : Int) (A : Option Addr) (n c B : Nat) (A' : Option Addr) (n' c' B' : Nat) (zs : List Int) (ds : List Sp) (w : World) (hr : Ints w B A n zs) (hB : B ≤ w.heap.size) (hn : n ≤ 17592186044416) (hd : Sps w B' A' n' ds) (hB' : B' ≤ w.heap.size) (hn' : n' ≤ 1099511627776) :
    Calls Try.prog 20 #[.int .i64 r, .slice A n c, .slice A' n' c'] w (MadeR (splayL r zs ds) (splayOk r zs ds) w) := by
  obtain rfl := hr.len
  obtain rfl := hd.len
  have HG := hide (slAsked_any r A zs.length c B zs w hr hn)
  cases ha : sask r zs
  · have H := hide (splayOk_bad (ds := ds) ha)
    rw [ha] at HG
    rw [splayL_no H.out, H.out]
    clear ha
    go_enter Try.func20, Try.ntmps20
    go_wp2_with fail
    refine HG.out.mono ?_; rintro e w' ⟨rfl, rfl⟩
    go_wp2_with fail
    go_ret2
    exact madeR_none (Below.refl _ _)
  · rw [ha] at HG
    by_cases hl : ds.length ≤ 60
    · have hg := sgood_of (sask_of ha).2
      have HP := hide (slPlay_any r A zs.length c B A' ds.length c' B' zs ds w hr hB hd hB' hg.1 hg.2.1 hl (sask_of ha).1 hg.2.2)
      rw [(splay_pl ha hl).1, (splay_pl ha hl).2]
      generalize plL r zs ds = L at *
      generalize plS r zs ds = S at *
      generalize plOk r zs ds = o at *
      clear ha hg
      go_enter Try.func20, Try.ntmps20
      go_wp2_with fail
      refine HG.out.mono ?_; rintro e w' ⟨rfl, rfl⟩
      go_wp2_with fail
      refine HP.out.mono ?_; rintro e w1 ⟨A1, c1, rfl, h1, h2, hown, hb⟩
      go_wp2_with fail
      go_ret2
      exact ⟨A1, c1, rfl, h1, h2, hown, hb⟩
    · have H := hide (splayOk_long (r := r) (zs := zs) hl)
      rw [splayL_no H.out, H.out]
      clear ha
      go_enter Try.func20, Try.ntmps20
      go_wp2_with fail
      refine HG.out.mono ?_; rintro e w' ⟨rfl, rfl⟩
      go_wp2_with fail
      go_ret2
      exact madeR_none (Below.refl _ _)

/-- The model's MakeSplit. -/
theorem specMakeSplit_any (r : Int) (A : Option Addr) (n c B : Nat) (zs : List Int) (m : Sp) (w : World) (hr : Ints w B A n zs) (hB : B ≤ w.heap.size) (hn : n ≤ 17592186044416) :
    Calls Try.prog 14 #[.int .i64 r, .slice A n c, .agg #[.int .i64 m.x0, .int .i64 m.x1]] w (MadeR (splayL r zs [m]) (splayOk r zs [m]) w) := by
  obtain rfl := hr.len
  have HG := hide (fun W (h : Ints W B A zs.length zs) => slAsked_any r A zs.length c B zs W h hn)
  have hro : ∀ o, Ints (w.alloc o) B A zs.length zs := fun o => hr.alloc hB o
  cases ha : sask r zs
  · have H := hide (splayOk_bad (ds := [m]) ha)
    rw [ha] at HG
    rw [splayL_no H.out, H.out]
    clear ha
    go_enter Try.func14, Try.ntmps14
    go_wp2_with fail
    refine (HG.out _ (hro _)).mono ?_; rintro e w' ⟨rfl, rfl⟩
    go_wp2_with fail
    go_ret2
    exact madeR_none ((Below.refl _ _).alloc (Nat.le_refl _) _)
  · have hg := sgood_of (sask_of ha).2
    have hrl := (sask_of ha).1
    rw [ha] at HG
    rw [splayL_one ha, splayOk_one ha]
    clear ha
    have hb0 : ∀ o, Below w.heap.size w (w.alloc o) := fun o => (Below.refl _ _).alloc (Nat.le_refl _) _
    cases hm : smay r zs m.x0 m.x1
    · have HC := hide (fun W (h : Ints W B A zs.length zs) (h' : B ≤ W.heap.size) => slMake_no r A zs.length c B zs m.x0 m.x1 W h h' hg.1 (by omega) hrl hg.2.2 hm)
      clear hm hg hrl
      go_enter Try.func14, Try.ntmps14
      go_wp2_with fail
      refine (HG.out _ (hro _)).mono ?_; rintro e w' ⟨rfl, rfl⟩
      go_wp2_with fail
      refine (HC.out _ (hro _) (by simp; omega)).mono ?_; rintro e w2 ⟨rfl, hb2⟩
      go_wp2_with fail
      go_ret2
      exact madeR_none (below_next (hb0 _) hb2)
    · obtain ⟨i, e0, hi, h1, h2, h3⟩ := smay_ix hg.2.2 hm
      rw [if_pos rfl, e0, Int.toNat_natCast]
      rw [e0] at hm
      have HC := hide (fun W (h : Ints W B A zs.length zs) (h' : B ≤ W.heap.size) => slMake_yes r A zs.length c B zs i m.x1 W h h' (by omega) hrl hg.2.2 hm)
      clear hm hg hrl e0
      generalize smade i m.x1 zs = L at *
      go_enter Try.func14, Try.ntmps14
      go_wp2_with fail
      refine (HG.out _ (hro _)).mono ?_; rintro e w' ⟨rfl, rfl⟩
      go_wp2_with fail
      refine (HC.out _ (hro _) (by simp; omega)).mono ?_; rintro e w2 ⟨g, c2, rfl, hg1, hg2, hc1, hc2, hown, hb2⟩
      go_wp2_with fail
      go_ret2
      exact ⟨_, c2, rfl, hc1, hc2, hown.less (by simp), below_next (hb0 _) hb2⟩

set_option maxHeartbeats 1000000 in
/-- The program's PlaySplits. -/
theorem PlaySplits_any (r : Int) (A : Option Addr) (n c B : Nat) (A' : Option Addr) (n' c' B' : Nat) (zs : List Int) (ds : List Sp) (w : World) (hr : Ints w B A n zs) (hB : B ≤ w.heap.size) (hn : n ≤ 17592186044416) (hd : Sps w B' A' n' ds) (hB' : B' ≤ w.heap.size) (hn' : n' ≤ 1099511627776) :
    Calls Try.prog 22 #[.int .i64 r, .slice A n c, .slice A' n' c'] w (MadeR (splayL r zs ds) (splayOk r zs ds) w) := by
  obtain rfl := hr.len
  obtain rfl := hd.len
  have HG := hide (splitGameOf_any r A zs.length c B zs w hr hB hn)
  cases ha : sask r zs
  · have H := hide (splayOk_bad (ds := ds) ha)
    rw [ha] at HG
    rw [splayL_no H.out, H.out]
    clear ha
    unfold gameV at HG
    go_enter Try.func22, Try.ntmps22
    go_wp2_with fail
    refine HG.out.mono ?_; rintro e w1 ⟨rfl, hb1⟩
    go_wp2_with fail
    go_ret2
    exact madeR_none (hb1.alloc hb1.size _)
  · rw [ha] at HG
    unfold gameV at HG
    by_cases hl : ds.length ≤ 60
    · have hg := sgood_of (sask_of ha).2
      have HZ := hide hg.2.2
      have HR := hide (sask_of ha).1
      have HA := hide ha
      have hg1 := hg.1
      have hg2 := hg.2.1
      clear hg ha
      go_enter Try.func22, Try.ntmps22
      go_wp2_with fail
      refine HG.out.mono ?_; rintro e w1 ⟨rfl, hb1⟩
      go_wp2_with fail
      have s1 := hb1.size
      have hb1' := hb1.alloc hb1.size (.cells #[.int .i64 r, .slice A zs.length c] 54)
      have X0 : Bx (w1.alloc (.cells #[.int .i64 r, .slice A zs.length c] 54)) w1.heap.size 54 (.int .i64 r) (.slice A zs.length c) := Bx.new _ _ _ _
      have hra := (hr.below hb1 hB).alloc (by omega) (.cells #[.int .i64 r, .slice A zs.length c] 54)
      have HAp : Apart A w1.heap.size := fun ad e => by
        obtain ⟨ad', e', hb', _⟩ := hr.2 (by omega)
        rw [e] at e'
        injection e' with e'
        subst e'
        omega
      generalize (w1.alloc (.cells #[.int .i64 r, .slice A zs.length c] 54)) = wa at *
      generalize w1.heap.size = br at *
      go_loopw [27] (fun i wr => ∃ (k : Nat) (ys : List Int) (Ak : Option Addr) (ck : Nat), k ≤ ds.length ∧ i = .int .i64 k ∧ Hid (splay r zs (ds.take k) = some ys) ∧ Bx wr br 54 (.int .i64 r) (.slice Ak ys.length ck) ∧
          Hid (Ints wr wr.heap.size Ak ys.length ys ∧ Apart Ak br) ∧ Below w.heap.size w wr)
        (fun i _ => ds.length - (intOf i).toNat)
      case atStart => exact ⟨0, zs, A, c, Nat.zero_le _, rfl, hide rfl, X0, hide ⟨hra.more (by have := hb1'.size; omega), HAp⟩, hb1'⟩
      case round =>
        obtain ⟨k, ys, Ak, ck, hk, rfl, HP, XB, HO, hb⟩ := hrel
        have hsz := hb.size
        have hys := splay_bd _ _ _ _ HZ.out HP.out
        have hyl : ys.length = zs.length + k := by rw [hys.2, List.length_take]; omega
        have HY := hide hys.1
        have hy1 : 1 ≤ ys.length := by omega
        have hy2 : ys.length ≤ 1000 := by omega
        have hbl := XB.lt
        clear hys hyl
        by_cases hlt : k < ds.length
        · obtain ⟨b, off, rfl, hab, hc0, hc1'⟩ := (hd.below hb hB').at_ hlt hlt
          have HN := hide (splay_take_succ r zs ds k hlt ys HP.out)
          have HC := hide (fun W (h : Ints W wr.heap.size Ak ys.length ys) (hB : wr.heap.size ≤ W.heap.size) => canMake_any r Ak ys.length ck wr.heap.size ys ds[k].x0 ds[k].x1 W h hB hy2 HR.out HY.out)
          have hyi : ∀ o, Ints (wr.alloc o) wr.heap.size Ak ys.length ys := fun o => HO.out.1.alloc (Nat.le_refl _) o
          cases hm : smay r ys ds[k].x0 ds[k].x1
          · have H := hide (splayOk_stuck (zs := zs) (splay_stuck r zs ds (k + 1) (by rw [HN.out, hm]; rfl)))
            rw [hm] at HC
            clear hm HN
            generalize ds[k] = d at *
            have XB0 := XB.alloc (.cells #[.int .i64 d.x0, .int .i64 d.x1] 33)
            have l0 := XB0.c0
            have l1 := XB0.c1
            clear XB XB0
            go_wp2_with fail
            with_reducible refine (HC.out _ (hyi _) (by simp)).mono ?_
            rintro e w4 ⟨rfl, hb4⟩
            clear l0 l1
            go_wp2_with fail
            go_ret2
            rw [splayL_no H.out, H.out]
            exact madeR_none (below_next (hb.alloc hsz _) hb4)
          · obtain ⟨i, e0, hi, h1, h2, h3⟩ := smay_ix HY.out hm
            have HNx := hide (show splay r zs (ds.take (k + 1)) = some (smade i ds[k].x1 ys) from by rw [HN.out, hm, e0]; rfl)
            rw [hm, e0] at HC
            rw [e0] at hc0
            have HM := hide (fun W (h : Ints W wr.heap.size Ak ys.length ys) (hB : wr.heap.size ≤ W.heap.size) => behind_any r Ak ys.length ck wr.heap.size ys i ds[k].x1 W h hB hy2 HY.out hi h1 (by omega))
            have HL := hide (smade_length i ds[k].x1 ys)
            clear hm HN e0 HP
            generalize hq : ds[k].x1 = p at *
            clear hq
            have XB0 := XB.alloc (.cells #[.int .i64 (i : Int), .int .i64 p] 33)
            have XS := Bx.new wr 33 (.int .i64 (i : Int)) (.int .i64 p)
            have l0 := XB0.c0
            have l1 := XB0.c1
            clear XB
            go_wp2_with fail
            have hbo : Below w.heap.size w (wr.alloc (.cells #[.int .i64 (i : Int), .int .i64 p] 33)) := hb.alloc hsz _
            have hyo := hyi (.cells #[.int .i64 (i : Int), .int .i64 p] 33)
            have hso : wr.heap.size ≤ (wr.alloc (.cells #[.int .i64 (i : Int), .int .i64 p] 33)).heap.size := by simp
            clear hyi
            generalize (wr.alloc (.cells #[.int .i64 (i : Int), .int .i64 p] 33)) = W0 at *
            with_reducible refine (HC.out _ hyo hso).mono ?_
            rintro e w4 ⟨rfl, hb4⟩
            have XB4 := XB0.next hb4
            have XS4 := XS.next hb4
            have s4 := hb4.size
            clear l0 l1
            have l0 := XB4.c0
            have l1 := XB4.c1
            have k0 := XS4.c0
            have k1 := XS4.c1
            go_wp2_with fail
            with_reducible refine (HM.out _ (hyo.below hb4 hso) (by omega)).mono ?_
            rintro e w5 ⟨g5, c5, rfl, hg5, hg5', hc5, hc5', hown5, hb5⟩
            have XB5 := XB4.next hb5
            have s5 := hb5.size
            clear l0 l1 k0 k1
            have l0 := XB5.c0
            have l1 := XB5.c1
            have m0 := XB5.f 0
            have m1 := XB5.f 1
            have V := (XB5.set0 (.int .i64 r)).set1 (.slice (some ⟨g5, 0, none⟩) (smade i p ys).length c5)
            have hbf := ((below_next (below_next hbo hb4) hb5).setCell (p := ⟨br, 0, none⟩) (by have := HA; simp; omega) (.int .i64 r)).setCell (p := ⟨br, 1, none⟩) (by simp; omega) (.slice (some ⟨g5, 0, none⟩) (smade i p ys).length c5)
            have hap : Apart (some ⟨g5, 0, none⟩) br := fun ad e => by injection e with e; subst e; simp; omega
            have HF := hide (And.intro ((hown5.ints.setApart (a := ⟨br, 0, none⟩) hap (.int .i64 r)).setApart (a := ⟨br, 1, none⟩) hap (.slice (some ⟨g5, 0, none⟩) (smade i p ys).length c5)) hap)
            clear XB5 XB4 XS4 hown5 hb5
            go_wp2_with fail
            go_roundw
            case rel => exact ⟨k + 1, smade i p ys, _, c5, by omega, by go_num, HNx, V, hide ⟨HF.out.1.more (by simp), HF.out.2⟩, hbf⟩
            case measure => simp [intOf]; omega
        · have hfull : splay r zs ds = some ys := by
            have := HP.out
            rwa [List.take_of_length_le (by omega)] at this
          have Hy := hide (splayOk_yes HA.out hl hfull)
          have HE := hide (show splayL r zs ds = ys from splayL_yes Hy.out hfull)
          have HCl := hide (Clone_any Ak ys.length ck wr.heap.size ys wr HO.out.1 (Nat.le_refl _) hy1 (by omega))
          have l1 := XB.c1
          clear hfull
          go_wp2_with fail
          refine HCl.out.mono ?_
          rintro e w5 ⟨g5, c5, rfl, hg5, hg5', hc5, hc5', hown5, hb5⟩
          go_wp2_with fail
          go_ret2
          rw [HE.out, Hy.out]
          exact ⟨_, c5, rfl, hc5, hc5', hown5.less hsz, below_next hb hb5⟩
    · have H := hide (splayOk_long (r := r) (zs := zs) hl)
      rw [splayL_no H.out, H.out]
      clear ha
      go_enter Try.func22, Try.ntmps22
      go_wp2_with fail
      refine HG.out.mono ?_; rintro e w1 ⟨rfl, hb1⟩
      go_wp2_with fail
      go_ret2
      exact madeR_none (hb1.alloc hb1.size _)

theorem one_sps (w : World) (T : TypeId) (m : Sp) : Sps (w.alloc (.cells #[.int .i64 m.x0, .int .i64 m.x1] T)) (w.heap.size + 1) (some ⟨w.heap.size, 0, none⟩) 1 [m] :=
  ⟨rfl, fun _ => ⟨w.heap.size, 0, rfl, Nat.lt_succ_self _, fun i hi => by
    have h : i = 0 ∨ i = 1 := by omega
    rcases h with rfl | rfl <;> simp [cellSp, numSp, List.getD]⟩⟩

/-- The program's MakeSplit. -/
theorem MakeSplit_any (r : Int) (A : Option Addr) (n c B : Nat) (zs : List Int) (m : Sp) (w : World) (hr : Ints w B A n zs) (hB : B ≤ w.heap.size) (hn : n ≤ 17592186044416) :
    Calls Try.prog 16 #[.int .i64 r, .slice A n c, .agg #[.int .i64 m.x0, .int .i64 m.x1]] w (MadeR (splayL r zs [m]) (splayOk r zs [m]) w) := by
  obtain rfl := hr.len
  go_enter Try.func16, Try.ntmps16
  go_wp2_with fail
  have hmv := one_sps (w.alloc (.cells #[.int .i64 m.x0, .int .i64 m.x1] 33)) 33 m
  rw [show (w.alloc (.cells #[.int .i64 m.x0, .int .i64 m.x1] 33)).heap.size = w.heap.size + 1 from by simp] at hmv
  refine (PlaySplits_any _ _ _ _ _ _ _ _ _ zs [m] _ (((hr.alloc hB _).alloc (by simp; omega) _)) (by simp; omega) hn hmv (by simp) (by omega)).mono ?_
  rintro e w3 ⟨A3, c3, rfl, h31, h32, hown3, hb3⟩
  go_wp2_with fail
  go_ret2
  exact madeR_below (((Below.refl _ _).alloc (Nat.le_refl _) _).alloc (by simp) _) ⟨A3, c3, rfl, h31, h32, hown3, hb3⟩

/-- The score of splits of one heap. -/
def scOk (h : Int) (ds : List Sp) : Bool := splayOk 1 [h] ds
def scN (h : Int) (ds : List Sp) : Int := if scOk h ds then ssum 1 [h] ds else 0
theorem sask_one (h : Int) : sask 1 [h] = decide (1 ≤ h ∧ h ≤ 60) := by
  simp [sask, srule, sgood, within]
theorem one_ints' (w : World) (p : Int) (t : TypeId) : Ints (w.alloc (.cells #[.int .i64 p] t)) (w.heap.size + 1) (some ⟨w.heap.size, 0, none⟩) [p].length [p] := one_ints w p t

/-- The model's ScoreOfSplits. -/
theorem specScoreOfSplits_any (h : Int) (A' : Option Addr) (n' c' B' : Nat) (ds : List Sp) (w : World) (hd : Sps w B' A' n' ds) (hB' : B' ≤ w.heap.size) (hn' : n' ≤ 1099511627776) :
    Calls Try.prog 25 #[.int .i64 h, .slice A' n' c'] w fun e w' => e = .returned (.tuple #[.int .i64 (scN h ds), .bool (scOk h ds)]) ∧ Below w.heap.size w w' := by
  obtain rfl := hd.len
  have HI := hide (fun W => l1In_any h 1 60 W)
  by_cases hh : 1 ≤ h ∧ h ≤ 60
  · rw [decide_eq_true hh] at HI
    have ha : sask 1 [h] = true := by rw [sask_one, decide_eq_true hh]
    by_cases hl : ds.length ≤ 60
    · have hz : within 1 60 [h] = true := (sgood_of (sask_of ha).2).2.2
      have HP := hide (fun W (hr : Ints W (w.heap.size + 1) (some ⟨w.heap.size, 0, none⟩) 1 [h]) (h1 : w.heap.size + 1 ≤ W.heap.size) (h3 : Sps W B' A' ds.length ds) (h4 : B' ≤ W.heap.size) =>
        slPlay_any 1 (some ⟨w.heap.size, 0, none⟩) 1 1 (w.heap.size + 1) A' ds.length c' B' [h] ds W hr h1 h3 h4 (Nat.le_refl _) (by omega) hl rfl hz)
      have HE := hide (show scN h ds = plS 1 [h] ds ∧ scOk h ds = plOk 1 [h] ds from by
        have e := (splay_pl ha hl).2
        unfold scN scOk plS; rw [e]; exact ⟨rfl, rfl⟩)
      rw [HE.out.1, HE.out.2]
      clear HE hz
      generalize plL 1 [h] ds = L at *
      generalize plS 1 [h] ds = S at *
      generalize plOk 1 [h] ds = o at *
      have ho := one_ints w h 3
      have hs := hd.alloc hB' (.cells #[.int .i64 h] 3)
      go_enter Try.func25, Try.ntmps25
      go_wp2_with fail
      refine (HI.out _).mono ?_; rintro e w' ⟨rfl, rfl⟩
      go_wp2_with fail
      refine (HP.out _ ho (by simp) hs (by simp; omega)).mono ?_; rintro e w1 ⟨A1, c1, rfl, h1, h2, hown, hb⟩
      go_wp2_with fail
      go_ret2
      exact ⟨rfl, below_next ((Below.refl _ _).alloc (Nat.le_refl _) _) hb⟩
    · have HE := hide (show scN h ds = 0 ∧ scOk h ds = false from by
        unfold scN scOk; rw [splayOk_long hl]; exact ⟨rfl, rfl⟩)
      rw [HE.out.1, HE.out.2]
      go_enter Try.func25, Try.ntmps25
      go_wp2_with fail
      refine (HI.out _).mono ?_; rintro e w' ⟨rfl, rfl⟩
      go_wp2_with fail
      go_ret2
      exact ⟨rfl, Below.refl _ _⟩
  · rw [decide_eq_false hh] at HI
    have HE := hide (show scN h ds = 0 ∧ scOk h ds = false from by
      unfold scN scOk; rw [splayOk_bad (by rw [sask_one, decide_eq_false hh])]; exact ⟨rfl, rfl⟩)
    rw [HE.out.1, HE.out.2]
    go_enter Try.func25, Try.ntmps25
    go_wp2_with fail
    refine (HI.out _).mono ?_; rintro e w' ⟨rfl, rfl⟩
    go_wp2_with fail
    go_ret2
    exact ⟨rfl, Below.refl _ _⟩

theorem spairs_bd {h : Int} (h0 : 1 ≤ h) (h6 : h ≤ 60) : 0 ≤ spairs h ∧ spairs h ≤ 1770 := by
  have h1 : 0 ≤ h * (h - 1) := Int.mul_nonneg (by omega) (by omega)
  have h2 : h * (h - 1) ≤ 60 * 59 := Int.mul_le_mul h6 (by omega) (by omega) (by omega)
  unfold spairs
  omega
theorem pairs_take (zs : List Int) (hz : within 1 60 zs = true) : ∀ k, k ≤ zs.length → 0 ≤ spairsAll (zs.take k) ∧ spairsAll (zs.take k) ≤ 1770 * k
  | 0, _ => by simp [spairsAll, tot]
  | k + 1, hk => by
    have ih := pairs_take zs hz k (by omega)
    have hb := within_get hz k (by omega)
    have := spairs_bd hb.1 hb.2
    rw [List.take_succ_eq_append_getElem (by omega)]
    unfold spairsAll at ih ⊢
    rw [List.map_append, tot_append]
    simp only [List.map_cons, List.map_nil, tot]
    omega
theorem pairs_succ (zs : List Int) (k : Nat) (hk : k < zs.length) : spairsAll (zs.take (k + 1)) = spairsAll (zs.take k) + spairs zs[k] := by
  rw [List.take_succ_eq_append_getElem hk]
  unfold spairsAll
  rw [List.map_append, tot_append]
  simp [tot]

/-- The program's ScoreOfSplits. -/
theorem ScoreOfSplits_any (h : Int) (A' : Option Addr) (n' c' B' : Nat) (ds : List Sp) (w : World) (hd : Sps w B' A' n' ds) (hB' : B' ≤ w.heap.size) (hn' : n' ≤ 1099511627776) :
    Calls Try.prog 26 #[.int .i64 h, .slice A' n' c'] w fun e w' => e = .returned (.tuple #[.int .i64 (scN h ds), .bool (scOk h ds)]) ∧ Below w.heap.size w w' := by
  obtain rfl := hd.len
  have HP := hide (fun W (hr : Ints W (w.heap.size + 1) (some ⟨w.heap.size, 0, none⟩) 1 [h]) (h1 : w.heap.size + 1 ≤ W.heap.size) (h3 : Sps W B' A' ds.length ds) (h4 : B' ≤ W.heap.size) =>
    PlaySplits_any 1 (some ⟨w.heap.size, 0, none⟩) 1 1 (w.heap.size + 1) A' ds.length c' B' [h] ds W hr h1 (by omega) h3 h4 hn')
  have ho := one_ints w h 3
  have hs := hd.alloc hB' (.cells #[.int .i64 h] 3)
  have hb0 : Below w.heap.size w (w.alloc (.cells #[.int .i64 h] 3)) := (Below.refl _ _).alloc (Nat.le_refl _) _
  cases hok : scOk h ds
  · have HE := hide (show scN h ds = 0 from by unfold scN; rw [hok]; rfl)
    have hok' : splayOk 1 [h] ds = false := hok
    rw [HE.out]
    rw [hok'] at HP
    clear hok hok' HE
    generalize splayL 1 [h] ds = L at *
    go_enter Try.func26, Try.ntmps26
    go_wp2_with fail
    refine (HP.out _ ho (by simp) hs (by simp; omega)).mono ?_; rintro e w1 ⟨A1, c1, rfl, h1, h2, hown, hb⟩
    go_wp2_with fail
    go_ret2
    exact ⟨rfl, below_next hb0 hb⟩
  · have hok' : splayOk 1 [h] ds = true := hok
    obtain ⟨ha, hl, ys, hys⟩ := splayOk_of hok'
    have hz : within 1 60 [h] = true := (sgood_of (sask_of ha).2).2.2
    have hh : 1 ≤ h ∧ h ≤ 60 := by rw [sask_one] at ha; simpa using ha
    have hyb := splay_bd _ _ _ _ hz hys
    have HE := hide (show scN h ds = spairs h - spairsAll ys from by
      unfold scN; rw [hok, if_pos rfl, spairsAll_play 1 [h] ds ys hys]; simp [spairsAll, tot])
    rw [hok', splayL_yes hok' hys] at HP
    have HY := hide hyb.1
    have hyl : ys.length ≤ 61 := by rw [hyb.2]; simp; omega
    have HPh := hide (fun W => pairsOf_any h (by omega) hh.2 W)
    have hph := spairs_bd hh.1 hh.2
    rw [HE.out]
    clear hok hok' ha hl hz hyb hys HE
    generalize spairs h = P at *
    go_enter Try.func26, Try.ntmps26
    go_wp2_with fail
    refine (HP.out _ ho (by simp) hs (by simp; omega)).mono ?_; rintro e w1 ⟨A1, c1, rfl, h1, h2, hown, hb⟩
    have hr1 := hown.ints
    have hbb := below_next hb0 hb
    clear ho hs hown
    go_wp2_with fail
    refine (HPh.out _).mono ?_; rintro e w' ⟨rfl, rfl⟩
    go_wp2_with fail
    go_loop [8, 24] (fun s i => ∃ k : Nat, k ≤ ys.length ∧ i = .int .i64 k ∧ s = .int .i64 (P - spairsAll (ys.take k)))
      (fun _ i => ys.length - (intOf i).toNat)
    case atStart => exact ⟨0, Nat.zero_le _, rfl, by simp [spairsAll, tot]⟩
    case round =>
      obtain ⟨k, hk, rfl, rfl⟩ := hrel
      have hb1 := pairs_take ys HY.out k hk
      by_cases hlt : k < ys.length
      · have hyk := within_get HY.out k hlt
        have Hs := hide (pairs_succ ys k hlt)
        have HPk := hide (fun W => pairsOf_any ys[k] (by omega) hyk.2 W)
        have hpk := spairs_bd hyk.1 hyk.2
        obtain ⟨ad, rfl, hab, hcell⟩ := hr1.at_ hlt
        rw [show ys.getD k 0 = ys[k] from by simp [List.getD, List.getElem?_eq_getElem hlt]] at hcell
        generalize spairsAll (ys.take k) = Q at *
        generalize ys[k] = y at *
        go_wp2_with fail
        refine (HPk.out _).mono ?_; rintro e w' ⟨rfl, rfl⟩
        generalize spairs y = py at *
        go_wp2_with fail
        go_round
        case rel => exact ⟨k + 1, by omega, by go_num, by rw [Hs.out]; congr 1; omega⟩
        case measure => simp [intOf]; omega
      · go_wp2_with fail
        go_ret2
        exact ⟨by rw [List.take_of_length_le (by omega)]; rfl, hbb⟩
end Go.Proofs.Ytpeblkbbnkinaaa
