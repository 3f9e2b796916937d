import Derived.Test.YtcbcgapnoompbaaMg11
import Derived.Test.YtcbcgapnoompbaaMg12

/-
  RINGS LIFTED AND SCALED, BOTH WAYS: riMap, changedRing and its closures.
-/
namespace Go.Proofs.Ytcbcgapnoompbaa
open Go.RowKit Go.Deep

theorem mul_bd {z t : Int} (h1 : 0 ≤ z ∧ z ≤ 1000) (h2 : 0 ≤ t ∧ t ≤ 1000) : 0 ≤ z * t ∧ z * t ≤ 1000000 := by
  constructor
  · exact Int.mul_nonneg h1.1 h2.1
  · have := Int.mul_le_mul h1.2 h2.2 h2.1 (by omega)
    omega

/-- The model's riMap. -/
theorem riMap_any (A : Option Addr) (n c B : Nat) (zs : List Int) (t m : Int) (w : World) (hr : Ints w B A n zs) (hB : B ≤ w.heap.size) (h0 : 0 < n) (hn : n < 1000000) (hc : within 0 1000 zs = true) (ht : 0 ≤ t ∧ t ≤ 1000) (hm : 0 ≤ m ∧ m ≤ 1000) :
    Calls Try.prog 54 #[.slice A n c, .int .i64 t, .int .i64 m] w (MadeR (rmap t m zs) (rgood (rmap t m zs)) w) := by
  obtain rfl := hr.len
  have HE := hide (rmap_length t m zs)
  have HC := hide hc
  clear hc
  go_enter Try.func54, Try.ntmps54
  go_wp2_with fail
  go_loopw [8, 13] (fun v i wr => ∃ k : Nat, k ≤ zs.length ∧ i = .int .i64 k ∧ Own wr w.heap.size 3 v ((rmap t m zs).take k) ∧ Below w.heap.size w wr)
    (fun _ i _ => zs.length - (intOf i).toNat)
  case atStart => exact ⟨0, Nat.zero_le _, rfl, Own.nil _ _ _, Below.refl _ _⟩
  case round =>
    obtain ⟨k, hk, rfl, hown, hb⟩ := hrel
    have hsz := hb.size
    have hll : ((rmap t m zs).take k).length < 1000000 := by rw [List.length_take, HE.out]; omega
    by_cases hlt : k < zs.length
    · have Hs := hide (rmap_take_succ t m zs k hlt)
      have hcz := within_get HC.out k hlt
      have hp := mul_bd hcz ht
      obtain ⟨ad, rfl, hab, hcell⟩ := (hr.below hb hB).at_ hlt
      rw [rget hlt] at hcell
      generalize zs[k] = zk at *
      go_wp2_with (at_builtin; refine wpList_app_int rfl _ _ 24 3 rfl Try.underlying24 infoInt w.heap.size _ _ rfl hown _ _ rfl hsz hll ?_; intro v' w' hown' hb')
      go_roundw
      case rel => exact ⟨k + 1, by omega, by go_num, by rw [Hs.out]; exact hown', hb.trans hb'⟩
      case measure => simp [intOf]; omega
    · rw [List.take_of_length_le (by rw [HE.out]; omega)] at hown
      obtain ⟨A', c', rfl, hc1, hc2⟩ := hown.shape
      have hi := hown.ints
      have HG := hide (riGood_any A' (rmap t m zs).length c' _ (rmap t m zs) wr hi (by rw [HE.out]; omega))
      go_wp2_with fail
      refine HG.out.mono ?_; rintro e w' ⟨rfl, rfl⟩
      generalize rgood (rmap t m zs) = b at *
      go_wp2_with fail
      go_ret2
      exact ⟨A', c', rfl, hc1, hc2, hown, hb⟩

theorem lift_no {zs : List Int} {t m b : Int} (h : rgood zs = false ∨ ¬ (0 ≤ b ∧ b ≤ 1000) ∨ rgood (rmap t m zs) = false) : rmapOk t m b zs = false ∧ rmapR t m b zs = [] := by
  have h1 : rmapOk t m b zs = false := by
    unfold rmapOk
    rcases h with h | h | h
    · simp [h]
    · rw [decide_eq_false h]; simp
    · simp [h]
  exact ⟨h1, by simp [rmapR, h1]⟩
theorem lift_yes {zs : List Int} {t m b : Int} (h1 : rgood zs = true) (h2 : 0 ≤ b ∧ b ≤ 1000) (h3 : rgood (rmap t m zs) = true) : rmapOk t m b zs = true ∧ rmapR t m b zs = rmap t m zs := by
  have h : rmapOk t m b zs = true := by unfold rmapOk; rw [h1, h3, decide_eq_true h2]; rfl
  exact ⟨h, by simp [rmapR, h]⟩

/-- The model's LiftRing. -/
theorem specLiftRing_any (A : Option Addr) (n c B : Nat) (zs : List Int) (b : Int) (w : World) (hr : Ints w B A n zs) (hB : B ≤ w.heap.size) (hn : n ≤ 17592186044416) :
    Calls Try.prog 26 #[.slice A n c, .int .i64 b] w (MadeR (liftR zs b) (liftOk zs b) w) := by
  obtain rfl := hr.len
  unfold liftR liftOk
  cases hg : rgood zs
  · obtain ⟨h1, h2⟩ := lift_no (t := 1) (m := b) (b := b) (.inl hg)
    rw [h1, h2]
    go_enter Try.func26, Try.ntmps26
    go_wp2_with fail
    refine (riGood_any _ _ _ _ _ _ hr hn).mono ?_; rintro e w' ⟨rfl, rfl⟩; rw [hg]
    go_wp2_with fail
    go_ret2
    exact madeR_none (Below.refl _ _)
  · obtain ⟨hg1, hg2, hg3⟩ := rgood_of hg
    have HW := hide hg3
    clear hg3
    by_cases hin : 0 ≤ b ∧ b ≤ 1000
    · have hd1 : decide (0 ≤ b ∧ b ≤ 1000) = true := by simpa using hin
      have HM := hide (riMap_any A zs.length c B zs 1 b w hr hB (by omega) (by omega) HW.out (by omega) (by omega))
      cases hgm : rgood (rmap 1 b zs)
      · obtain ⟨h1, h2⟩ := lift_no (t := 1) (m := b) (b := b) (zs := zs) (.inr (.inr hgm))
        rw [h1, h2]
        rw [hgm] at HM
        clear h1 h2
        have HL := hide (rmap_length 1 b zs)
        generalize rmap 1 b zs = fs at *
        clear hin
        go_enter Try.func26, Try.ntmps26
        go_wp2_with fail
        refine (riGood_any _ _ _ _ _ _ hr hn).mono ?_; rintro e w' ⟨rfl, rfl⟩; rw [hg]
        go_wp2_with fail
        refine (l1In_any _ _ _ _).mono ?_; rintro e w' ⟨rfl, rfl⟩; rw [hd1]
        go_wp2_with fail
        refine HM.out.mono ?_; rintro e w1 ⟨A1, c1, rfl, hc1, hc2, hown, hb1⟩
        go_wp2_with fail
        go_ret2
        exact madeR_none hb1
      · obtain ⟨h1, h2⟩ := lift_yes hg hin hgm
        rw [h1, h2]
        rw [hgm] at HM
        clear h1 h2
        have HL := hide (rmap_length 1 b zs)
        generalize rmap 1 b zs = fs at *
        clear hin
        go_enter Try.func26, Try.ntmps26
        go_wp2_with fail
        refine (riGood_any _ _ _ _ _ _ hr hn).mono ?_; rintro e w' ⟨rfl, rfl⟩; rw [hg]
        go_wp2_with fail
        refine (l1In_any _ _ _ _).mono ?_; rintro e w' ⟨rfl, rfl⟩; rw [hd1]
        go_wp2_with fail
        refine HM.out.mono ?_; rintro e w1 ⟨A1, c1, rfl, hc1, hc2, hown, hb1⟩
        go_wp2_with fail
        go_ret2
        exact ⟨A1, c1, rfl, hc1, hc2, hown, hb1⟩
    · have hd1 : decide (0 ≤ b ∧ b ≤ 1000) = false := by simpa using hin
      obtain ⟨h1, h2⟩ := lift_no (zs := zs) (t := 1) (m := b) (b := b) (.inr (.inl hin))
      rw [h1, h2]
      clear hin h1 h2
      go_enter Try.func26, Try.ntmps26
      go_wp2_with fail
      refine (riGood_any _ _ _ _ _ _ hr hn).mono ?_; rintro e w' ⟨rfl, rfl⟩; rw [hg]
      go_wp2_with fail
      refine (l1In_any _ _ _ _).mono ?_; rintro e w' ⟨rfl, rfl⟩; rw [hd1]
      go_wp2_with fail
      go_ret2
      exact madeR_none (Below.refl _ _)

/-- The model's ScaleRing. -/
theorem specScaleRing_any (A : Option Addr) (n c B : Nat) (zs : List Int) (b : Int) (w : World) (hr : Ints w B A n zs) (hB : B ≤ w.heap.size) (hn : n ≤ 17592186044416) :
    Calls Try.prog 28 #[.slice A n c, .int .i64 b] w (MadeR (scaleR zs b) (scaleOk zs b) w) := by
  obtain rfl := hr.len
  unfold scaleR scaleOk
  cases hg : rgood zs
  · obtain ⟨h1, h2⟩ := lift_no (t := b) (m := 0) (b := b) (.inl hg)
    rw [h1, h2]
    go_enter Try.func28, Try.ntmps28
    go_wp2_with fail
    refine (riGood_any _ _ _ _ _ _ hr hn).mono ?_; rintro e w' ⟨rfl, rfl⟩; rw [hg]
    go_wp2_with fail
    go_ret2
    exact madeR_none (Below.refl _ _)
  · obtain ⟨hg1, hg2, hg3⟩ := rgood_of hg
    have HW := hide hg3
    clear hg3
    by_cases hin : 0 ≤ b ∧ b ≤ 1000
    · have hd1 : decide (0 ≤ b ∧ b ≤ 1000) = true := by simpa using hin
      have HM := hide (riMap_any A zs.length c B zs b 0 w hr hB (by omega) (by omega) HW.out (by omega) (by omega))
      cases hgm : rgood (rmap b 0 zs)
      · obtain ⟨h1, h2⟩ := lift_no (t := b) (m := 0) (b := b) (zs := zs) (.inr (.inr hgm))
        rw [h1, h2]
        rw [hgm] at HM
        clear h1 h2
        have HL := hide (rmap_length b 0 zs)
        generalize rmap b 0 zs = fs at *
        clear hin
        go_enter Try.func28, Try.ntmps28
        go_wp2_with fail
        refine (riGood_any _ _ _ _ _ _ hr hn).mono ?_; rintro e w' ⟨rfl, rfl⟩; rw [hg]
        go_wp2_with fail
        refine (l1In_any _ _ _ _).mono ?_; rintro e w' ⟨rfl, rfl⟩; rw [hd1]
        go_wp2_with fail
        refine HM.out.mono ?_; rintro e w1 ⟨A1, c1, rfl, hc1, hc2, hown, hb1⟩
        go_wp2_with fail
        go_ret2
        exact madeR_none hb1
      · obtain ⟨h1, h2⟩ := lift_yes hg hin hgm
        rw [h1, h2]
        rw [hgm] at HM
        clear h1 h2
        have HL := hide (rmap_length b 0 zs)
        generalize rmap b 0 zs = fs at *
        clear hin
        go_enter Try.func28, Try.ntmps28
        go_wp2_with fail
        refine (riGood_any _ _ _ _ _ _ hr hn).mono ?_; rintro e w' ⟨rfl, rfl⟩; rw [hg]
        go_wp2_with fail
        refine (l1In_any _ _ _ _).mono ?_; rintro e w' ⟨rfl, rfl⟩; rw [hd1]
        go_wp2_with fail
        refine HM.out.mono ?_; rintro e w1 ⟨A1, c1, rfl, hc1, hc2, hown, hb1⟩
        go_wp2_with fail
        go_ret2
        exact ⟨A1, c1, rfl, hc1, hc2, hown, hb1⟩
    · have hd1 : decide (0 ≤ b ∧ b ≤ 1000) = false := by simpa using hin
      obtain ⟨h1, h2⟩ := lift_no (zs := zs) (t := b) (m := 0) (b := b) (.inr (.inl hin))
      rw [h1, h2]
      clear hin h1 h2
      go_enter Try.func28, Try.ntmps28
      go_wp2_with fail
      refine (riGood_any _ _ _ _ _ _ hr hn).mono ?_; rintro e w' ⟨rfl, rfl⟩; rw [hg]
      go_wp2_with fail
      refine (l1In_any _ _ _ _).mono ?_; rintro e w' ⟨rfl, rfl⟩; rw [hd1]
      go_wp2_with fail
      go_ret2
      exact madeR_none (Below.refl _ _)

/-- The program's changedRing, the closure a function of one number that reads a variable. -/
theorem changedLift_any (A : Option Addr) (n c B g : Nat) (zs : List Int) (t m b : Int) (w : World) (hr : Ints w B A n zs) (hB : B ≤ w.heap.size) (hn : n ≤ 17592186044416) (hg0 : g < w.heap.size) (hc : w.cell? ⟨g, 0, none⟩ = some (.int .i64 b))
    (hF : ∀ (z : Int) (W : World), W.cell? ⟨g, 0, none⟩ = some (.int .i64 b) → 0 ≤ z ∧ z ≤ 1000 → 0 ≤ b ∧ b ≤ 1000 → Calls Try.prog 52 #[.int .i64 z, .pointer (some ⟨g, 0, none⟩)] W fun e w' => e = .returned (.int .i64 (z * t + m)) ∧ W = w') :
    Calls Try.prog 51 #[.slice A n c, .int .i64 b, .func (.func 52) #[] #[.pointer (some ⟨g, 0, none⟩)]] w (MadeR (rmapR t m b zs) (rmapOk t m b zs) w) := by
  have HF := hide hF
  clear hF
  obtain rfl := hr.len
  cases hg : rgood zs
  · obtain ⟨h1, h2⟩ := lift_no (t := t) (m := m) (b := b) (.inl hg)
    rw [h1, h2]
    go_enter Try.func51, Try.ntmps51
    go_wp2_with fail
    refine (IsRing_any _ _ _ _ _ _ hr hn).mono ?_; rintro e w' ⟨rfl, rfl⟩; rw [hg]
    go_wp2_with fail
    go_ret2
    exact madeR_none (Below.refl _ _)
  · obtain ⟨hg1, hg2, hg3⟩ := rgood_of hg
    have HW := hide hg3
    clear hg3
    by_cases hin : 0 ≤ b ∧ b ≤ 1000
    · obtain ⟨hin1, hin2⟩ := hin
      have hmk := run_make_row' (P := Try.prog) 24 3 (.int .i64 0) 8 Try.underlying24 infoInt rfl .i64 .i64 zs.length (by omega) (by omega)
      have HL := hide (rmap_length t m zs)
      have HG := hide (fun k (hk : k < zs.length) => rmap_get t m zs k hk)
      have HY := hide (fun h3 => lift_yes (t := t) (m := m) (b := b) hg ⟨hin1, hin2⟩ h3)
      have HN := hide (fun h3 => lift_no (t := t) (m := m) (b := b) (zs := zs) (.inr (.inr h3)))
      go_enter Try.func51, Try.ntmps51
      go_wp2_with fail
      refine (IsRing_any _ _ _ _ _ _ hr hn).mono ?_; rintro e w' ⟨rfl, rfl⟩; rw [hg]
      go_wp2_with fail
      go_loopw [27] (fun i wr => ∃ k : Nat, k ≤ zs.length ∧ i = .int .i64 k ∧ wr.rowIs w.heap.size 3 zs.length (fun j => if j < k then .int .i64 ((rmap t m zs).getD j 0) else .int .i64 0) ∧ Below w.heap.size w wr ∧ w.heap.size < wr.heap.size)
        (fun i _ => zs.length - (intOf i).toNat)
      case atStart => exact ⟨0, Nat.zero_le _, rfl, (World.rowIs_made w _ zs.length _).congr (fun i _ => by simp), (Below.refl _ _).alloc (Nat.le_refl _) _, by simp⟩
      case round =>
        obtain ⟨k, hk, rfl, hrow, hb, hs⟩ := hrel
        by_cases hlt : k < zs.length
        · have hcz := within_get HW.out k hlt
          have hgk : (rmap t m zs).getD k 0 = zs[k] * t + m := by rw [rget (by rw [HL.out]; exact hlt), HG.out k hlt]
          have HGK := hide hgk
          clear hgk
          obtain ⟨ad, rfl, hab, hcell⟩ := (hr.below hb hB).at_ hlt
          rw [rget hlt] at hcell
          have hold := hrow.cell hlt
          have hfz := hrow.frozen k
          have hcb := (hb.cell (p := ⟨g, 0, none⟩) hg0).trans hc
          have HCL := hide (HF.out zs[k] wr hcb ⟨hcz.1, hcz.2⟩ ⟨hin1, hin2⟩)
          clear hcb
          generalize zs[k] = zk at *
          generalize zk * t + m = v at *
          go_wp2_with fail
          refine HCL.out.mono ?_; rintro e w' ⟨rfl, rfl⟩
          go_wp2_with fail
          go_roundw
          case rel =>
            refine ⟨k + 1, by omega, by go_num, (hrow.set k _).congr (fun i hi => ?_), hb.setCell (Nat.le_refl _) _, by simpa using hs⟩
            by_cases e : i = k
            · subst e; simp [← HGK.out]
            · simp [e, show (i < k + 1) ↔ i < k from by omega]
          case measure => simp [intOf]; omega
        · obtain rfl : k = zs.length := by omega
          have hrow' : Row wr w.heap.size 3 (rmap t m zs) := by
            unfold Row
            rw [HL.out]
            exact hrow.congr (fun i hi => by rw [if_pos (by omega)])
          have hI := hrow'.ints (B := wr.heap.size) hs
          rw [HL.out] at hI
          have HO := hide (Own.of_row hrow' (Nat.le_refl w.heap.size) (by rw [HL.out]; unfold maxLen; omega))
          have HI := hide (IsRing_any _ _ zs.length _ _ wr hI (by omega))
          clear hrow hI hrow'
          cases hgm : rgood (rmap t m zs)
          all_goals
            rw [hgm] at HI
            go_wp2_with fail
            refine HI.out.mono ?_; rintro e w' ⟨rfl, rfl⟩
            go_wp2_with fail
            go_ret2
          · obtain ⟨h1, h2⟩ := HN.out hgm
            rw [h1, h2]
            exact madeR_none hb
          · obtain ⟨h1, h2⟩ := HY.out hgm
            rw [h1, h2]
            exact ⟨_, zs.length, by rw [HL.out]; rfl, by rw [HL.out]; exact Nat.le_refl _, by unfold maxLen; omega, by have := HO.out; rw [HL.out] at this ⊢; exact this, hb⟩
    · obtain ⟨h1, h2⟩ := lift_no (zs := zs) (t := t) (m := m) (b := b) (.inr (.inl hin))
      rw [h1, h2]
      clear h1 h2
      by_cases hb0 : 0 ≤ b
      · have hb1 : ¬ b ≤ 1000 := fun h => hin ⟨hb0, h⟩
        clear hin
        go_enter Try.func51, Try.ntmps51
        go_wp2_with fail
        refine (IsRing_any _ _ _ _ _ _ hr hn).mono ?_; rintro e w' ⟨rfl, rfl⟩; rw [hg]
        go_wp2_with fail
        go_ret2
        exact madeR_none (Below.refl _ _)
      · clear hin
        go_enter Try.func51, Try.ntmps51
        go_wp2_with fail
        refine (IsRing_any _ _ _ _ _ _ hr hn).mono ?_; rintro e w' ⟨rfl, rfl⟩; rw [hg]
        go_wp2_with fail
        go_ret2
        exact madeR_none (Below.refl _ _)

/-- The program's changedRing, the closure a function of one number that reads a variable. -/
theorem changedScale_any (A : Option Addr) (n c B g : Nat) (zs : List Int) (t m b : Int) (w : World) (hr : Ints w B A n zs) (hB : B ≤ w.heap.size) (hn : n ≤ 17592186044416) (hg0 : g < w.heap.size) (hc : w.cell? ⟨g, 0, none⟩ = some (.int .i64 b))
    (hF : ∀ (z : Int) (W : World), W.cell? ⟨g, 0, none⟩ = some (.int .i64 b) → 0 ≤ z ∧ z ≤ 1000 → 0 ≤ b ∧ b ≤ 1000 → Calls Try.prog 55 #[.int .i64 z, .pointer (some ⟨g, 0, none⟩)] W fun e w' => e = .returned (.int .i64 (z * t + m)) ∧ W = w') :
    Calls Try.prog 51 #[.slice A n c, .int .i64 b, .func (.func 55) #[] #[.pointer (some ⟨g, 0, none⟩)]] w (MadeR (rmapR t m b zs) (rmapOk t m b zs) w) := by
  have HF := hide hF
  clear hF
  obtain rfl := hr.len
  cases hg : rgood zs
  · obtain ⟨h1, h2⟩ := lift_no (t := t) (m := m) (b := b) (.inl hg)
    rw [h1, h2]
    go_enter Try.func51, Try.ntmps51
    go_wp2_with fail
    refine (IsRing_any _ _ _ _ _ _ hr hn).mono ?_; rintro e w' ⟨rfl, rfl⟩; rw [hg]
    go_wp2_with fail
    go_ret2
    exact madeR_none (Below.refl _ _)
  · obtain ⟨hg1, hg2, hg3⟩ := rgood_of hg
    have HW := hide hg3
    clear hg3
    by_cases hin : 0 ≤ b ∧ b ≤ 1000
    · obtain ⟨hin1, hin2⟩ := hin
      have hmk := run_make_row' (P := Try.prog) 24 3 (.int .i64 0) 8 Try.underlying24 infoInt rfl .i64 .i64 zs.length (by omega) (by omega)
      have HL := hide (rmap_length t m zs)
      have HG := hide (fun k (hk : k < zs.length) => rmap_get t m zs k hk)
      have HY := hide (fun h3 => lift_yes (t := t) (m := m) (b := b) hg ⟨hin1, hin2⟩ h3)
      have HN := hide (fun h3 => lift_no (t := t) (m := m) (b := b) (zs := zs) (.inr (.inr h3)))
      go_enter Try.func51, Try.ntmps51
      go_wp2_with fail
      refine (IsRing_any _ _ _ _ _ _ hr hn).mono ?_; rintro e w' ⟨rfl, rfl⟩; rw [hg]
      go_wp2_with fail
      go_loopw [27] (fun i wr => ∃ k : Nat, k ≤ zs.length ∧ i = .int .i64 k ∧ wr.rowIs w.heap.size 3 zs.length (fun j => if j < k then .int .i64 ((rmap t m zs).getD j 0) else .int .i64 0) ∧ Below w.heap.size w wr ∧ w.heap.size < wr.heap.size)
        (fun i _ => zs.length - (intOf i).toNat)
      case atStart => exact ⟨0, Nat.zero_le _, rfl, (World.rowIs_made w _ zs.length _).congr (fun i _ => by simp), (Below.refl _ _).alloc (Nat.le_refl _) _, by simp⟩
      case round =>
        obtain ⟨k, hk, rfl, hrow, hb, hs⟩ := hrel
        by_cases hlt : k < zs.length
        · have hcz := within_get HW.out k hlt
          have hgk : (rmap t m zs).getD k 0 = zs[k] * t + m := by rw [rget (by rw [HL.out]; exact hlt), HG.out k hlt]
          have HGK := hide hgk
          clear hgk
          obtain ⟨ad, rfl, hab, hcell⟩ := (hr.below hb hB).at_ hlt
          rw [rget hlt] at hcell
          have hold := hrow.cell hlt
          have hfz := hrow.frozen k
          have hcb := (hb.cell (p := ⟨g, 0, none⟩) hg0).trans hc
          have HCL := hide (HF.out zs[k] wr hcb ⟨hcz.1, hcz.2⟩ ⟨hin1, hin2⟩)
          clear hcb
          generalize zs[k] = zk at *
          generalize zk * t + m = v at *
          go_wp2_with fail
          refine HCL.out.mono ?_; rintro e w' ⟨rfl, rfl⟩
          go_wp2_with fail
          go_roundw
          case rel =>
            refine ⟨k + 1, by omega, by go_num, (hrow.set k _).congr (fun i hi => ?_), hb.setCell (Nat.le_refl _) _, by simpa using hs⟩
            by_cases e : i = k
            · subst e; simp [← HGK.out]
            · simp [e, show (i < k + 1) ↔ i < k from by omega]
          case measure => simp [intOf]; omega
        · obtain rfl : k = zs.length := by omega
          have hrow' : Row wr w.heap.size 3 (rmap t m zs) := by
            unfold Row
            rw [HL.out]
            exact hrow.congr (fun i hi => by rw [if_pos (by omega)])
          have hI := hrow'.ints (B := wr.heap.size) hs
          rw [HL.out] at hI
          have HO := hide (Own.of_row hrow' (Nat.le_refl w.heap.size) (by rw [HL.out]; unfold maxLen; omega))
          have HI := hide (IsRing_any _ _ zs.length _ _ wr hI (by omega))
          clear hrow hI hrow'
          cases hgm : rgood (rmap t m zs)
          all_goals
            rw [hgm] at HI
            go_wp2_with fail
            refine HI.out.mono ?_; rintro e w' ⟨rfl, rfl⟩
            go_wp2_with fail
            go_ret2
          · obtain ⟨h1, h2⟩ := HN.out hgm
            rw [h1, h2]
            exact madeR_none hb
          · obtain ⟨h1, h2⟩ := HY.out hgm
            rw [h1, h2]
            exact ⟨_, zs.length, by rw [HL.out]; rfl, by rw [HL.out]; exact Nat.le_refl _, by unfold maxLen; omega, by have := HO.out; rw [HL.out] at this ⊢; exact this, hb⟩
    · obtain ⟨h1, h2⟩ := lift_no (zs := zs) (t := t) (m := m) (b := b) (.inr (.inl hin))
      rw [h1, h2]
      clear h1 h2
      by_cases hb0 : 0 ≤ b
      · have hb1 : ¬ b ≤ 1000 := fun h => hin ⟨hb0, h⟩
        clear hin
        go_enter Try.func51, Try.ntmps51
        go_wp2_with fail
        refine (IsRing_any _ _ _ _ _ _ hr hn).mono ?_; rintro e w' ⟨rfl, rfl⟩; rw [hg]
        go_wp2_with fail
        go_ret2
        exact madeR_none (Below.refl _ _)
      · clear hin
        go_enter Try.func51, Try.ntmps51
        go_wp2_with fail
        refine (IsRing_any _ _ _ _ _ _ hr hn).mono ?_; rintro e w' ⟨rfl, rfl⟩; rw [hg]
        go_wp2_with fail
        go_ret2
        exact madeR_none (Below.refl _ _)

/-- The closure of LiftRing. -/
theorem LiftFn_any (g : Nat) (b z : Int) (W : World) (hc : W.cell? ⟨g, 0, none⟩ = some (.int .i64 b)) (hz : 0 ≤ z ∧ z ≤ 1000) (hb : 0 ≤ b ∧ b ≤ 1000) :
    Calls Try.prog 52 #[.int .i64 z, .pointer (some ⟨g, 0, none⟩)] W fun e w' => e = .returned (.int .i64 (z * 1 + b)) ∧ W = w' := by
  have hp := mul_bd hz hb
  go_enter Try.func52, Try.ntmps52
  go_wp2_with fail
  go_ret
  exact ⟨ret_int (by omega), rfl⟩

/-- The closure of ScaleRing. -/
theorem ScaleFn_any (g : Nat) (b z : Int) (W : World) (hc : W.cell? ⟨g, 0, none⟩ = some (.int .i64 b)) (hz : 0 ≤ z ∧ z ≤ 1000) (hb : 0 ≤ b ∧ b ≤ 1000) :
    Calls Try.prog 55 #[.int .i64 z, .pointer (some ⟨g, 0, none⟩)] W fun e w' => e = .returned (.int .i64 (z * b + 0)) ∧ W = w' := by
  have hp := mul_bd hz hb
  go_enter Try.func55, Try.ntmps55
  go_wp2_with fail
  go_ret
  exact ⟨ret_int (by omega), rfl⟩

/-- The program's LiftRing. -/
theorem LiftRing_any (A : Option Addr) (n c B : Nat) (zs : List Int) (b : Int) (w : World) (hr : Ints w B A n zs) (hB : B ≤ w.heap.size) (hn : n ≤ 17592186044416) :
    Calls Try.prog 25 #[.slice A n c, .int .i64 b] w (MadeR (liftR zs b) (liftOk zs b) w) := by
  have hmf : ∀ (fn : Fn) (first cap : Array Value) (w : World), (Instr.makeFunc fn first cap).run Try.prog w = .ok (.func fn first cap) w := fun _ _ _ _ => rfl
  have ob := One.made w 3 (.int .i64 b)
  have hc0 := ob.cell
  have HC := hide (changedLift_any A n c B w.heap.size zs 1 b b (w.alloc (.cells #[.int .i64 b] 3)) (hr.alloc hB _) (by simp; omega) hn (by simp) hc0
    (fun z W h1 h2 h3 => LiftFn_any _ b z W h1 h2 h3))
  have bb : Below w.heap.size w (w.alloc (.cells #[.int .i64 b] 3)) := (Below.refl _ _).alloc (Nat.le_refl _) _
  have HB := hide bb
  clear ob bb hr
  unfold liftR liftOk
  go_enter Try.func25, Try.ntmps25
  go_wp2_with fail
  refine HC.out.mono ?_
  rintro e w1 ⟨A1, c1, rfl, hc1, hc2, hown, hb1⟩
  generalize rmapR 1 b b zs = fs at *
  generalize rmapOk 1 b b zs = ok at *
  go_wp2_with fail
  go_ret2
  exact ⟨A1, c1, rfl, hc1, hc2, hown.less HB.out.size, below_next HB.out hb1⟩

/-- The program's ScaleRing. -/
theorem ScaleRing_any (A : Option Addr) (n c B : Nat) (zs : List Int) (b : Int) (w : World) (hr : Ints w B A n zs) (hB : B ≤ w.heap.size) (hn : n ≤ 17592186044416) :
    Calls Try.prog 27 #[.slice A n c, .int .i64 b] w (MadeR (scaleR zs b) (scaleOk zs b) w) := by
  have hmf : ∀ (fn : Fn) (first cap : Array Value) (w : World), (Instr.makeFunc fn first cap).run Try.prog w = .ok (.func fn first cap) w := fun _ _ _ _ => rfl
  have ob := One.made w 3 (.int .i64 b)
  have hc0 := ob.cell
  have HC := hide (changedScale_any A n c B w.heap.size zs b 0 b (w.alloc (.cells #[.int .i64 b] 3)) (hr.alloc hB _) (by simp; omega) hn (by simp) hc0
    (fun z W h1 h2 h3 => ScaleFn_any _ b z W h1 h2 h3))
  have bb : Below w.heap.size w (w.alloc (.cells #[.int .i64 b] 3)) := (Below.refl _ _).alloc (Nat.le_refl _) _
  have HB := hide bb
  clear ob bb hr
  unfold scaleR scaleOk
  go_enter Try.func27, Try.ntmps27
  go_wp2_with fail
  refine HC.out.mono ?_
  rintro e w1 ⟨A1, c1, rfl, hc1, hc2, hown, hb1⟩
  generalize rmapR b 0 b zs = fs at *
  generalize rmapOk b 0 b zs = ok at *
  go_wp2_with fail
  go_ret2
  exact ⟨A1, c1, rfl, hc1, hc2, hown.less HB.out.size, below_next HB.out hb1⟩
end Go.Proofs.Ytcbcgapnoompbaa
