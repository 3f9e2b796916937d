import Derived.Test.YtcbcgapnoompbaaMg01
import Derived.Test.YtcbcgapnoompbaaMg11
import Derived.Test.YtcbcgapnoompbaaMg16

/-
  ONE AMONG SO MANY: the program's isOneAmong.
-/
namespace Go.Proofs.Ytcbcgapnoompbaa
open Go.RowKit Go.Deep

/-- One among n. -/
def isOne (n p : Int) : Bool := decide (0 ≤ p ∧ p < n)
theorem isOne_yes {n p : Int} (h : 0 ≤ p ∧ p < n) : isOne n p = true := decide_eq_true h
theorem isOne_no {n p : Int} (h : ¬ (0 ≤ p ∧ p < n)) : isOne n p = false := decide_eq_false h

theorem isOneAmong_any (n p : Int) (w : World) :
    Calls Try.prog 57 #[.int .i64 n, .int .i64 p] w fun e w' => e = .returned (.bool (isOne n p)) ∧ w = w' := by
  by_cases h1 : 0 ≤ p
  · have e : isOne n p = decide (p < n) := by unfold isOne; simp [h1]
    have HE := hide e
    clear e
    go_enter Try.func57, Try.ntmps57
    go_wp2
    go_ret
    exact ⟨by rw [HE.out]; rfl, rfl⟩
  · have HE := hide (isOne_no (n := n) (p := p) (by omega))
    go_enter Try.func57, Try.ntmps57
    go_wp2
    go_ret
    exact ⟨by rw [HE.out]; rfl, rfl⟩
end Go.Proofs.Ytcbcgapnoompbaa

/-
  RINGS, BOTH WAYS: MirrorRing and TurnRing.
-/
namespace Go.Proofs.Ytcbcgapnoompbaa
open Go.RowKit Go.Deep

/-- The model's MirrorRing. -/
theorem specMirrorRing_any (A : Option Addr) (n c B : Nat) (zs : List Int) (w : World) (hr : Ints w B A n zs) (hB : B ≤ w.heap.size) (hn : n ≤ 17592186044416) :
    Calls Try.prog 15 #[.slice A n c] w (MadeR (rmirR zs) (rgood zs) w) := by
  obtain rfl := hr.len
  cases hg : rgood zs
  · rw [show rmirR zs = [] from by simp [rmirR, hg]]
    go_enter Try.func15, Try.ntmps15
    go_wp2_with fail
    refine (riGood_any _ _ _ _ _ _ hr hn).mono ?_; rintro e w' ⟨rfl, rfl⟩; rw [hg]
    go_wp2_with fail
    go_ret2
    exact madeR_none (Below.refl _ _)
  · rw [show rmirR zs = zs.reverse from by simp [rmirR, hg]]
    obtain ⟨hg1, hg2, _⟩ := rgood_of hg
    have HL := hide (show zs.reverse.length = zs.length from List.length_reverse)
    go_enter Try.func15, Try.ntmps15
    go_wp2_with fail
    refine (riGood_any _ _ _ _ _ _ hr hn).mono ?_; rintro e w' ⟨rfl, rfl⟩; rw [hg]
    go_wp2_with fail
    refine (cyMirror_any _ _ _ _ _ _ hr hB (by omega) (by omega)).mono ?_
    rintro e w1 ⟨g, c1, rfl, _, _, hc1, hc2, hown, hb1⟩
    go_wp2_with fail
    go_ret2
    exact ⟨some ⟨g, 0, none⟩, c1, by rw [HL.out]; rfl, hc1, hc2, hown, hb1⟩

/-- The program's MirrorRing. -/
theorem MirrorRing_any (A : Option Addr) (n c B : Nat) (zs : List Int) (w : World) (hr : Ints w B A n zs) (hB : B ≤ w.heap.size) (hn : n ≤ 17592186044416) :
    Calls Try.prog 14 #[.slice A n c] w (MadeR (rmirR zs) (rgood zs) w) := by
  obtain rfl := hr.len
  cases hg : rgood zs
  · rw [show rmirR zs = [] from by simp [rmirR, hg]]
    go_enter Try.func14, Try.ntmps14
    go_wp2_with fail
    refine (IsRing_any _ _ _ _ _ _ hr hn).mono ?_; rintro e w' ⟨rfl, rfl⟩; rw [hg]
    go_wp2_with fail
    go_ret2
    exact madeR_none (Below.refl _ _)
  · rw [show rmirR zs = zs.reverse from by simp [rmirR, hg]]
    obtain ⟨hg1, hg2, _⟩ := rgood_of hg
    have HL := hide (show zs.reverse.length = zs.length from List.length_reverse)
    go_enter Try.func14, Try.ntmps14
    go_wp2_with fail
    refine (IsRing_any _ _ _ _ _ _ hr hn).mono ?_; rintro e w' ⟨rfl, rfl⟩; rw [hg]
    go_wp2_with fail
    refine (reversed_any _ _ _ _ _ _ hr hB (by omega) (by omega)).mono ?_
    rintro e w1 ⟨g, c1, rfl, _, _, hc1, hc2, hown, hb1⟩
    go_wp2_with fail
    go_ret2
    exact ⟨some ⟨g, 0, none⟩, c1, by rw [HL.out]; rfl, hc1, hc2, hown, hb1⟩

/-- The program's TurnRing. -/
theorem TurnRing_any (A : Option Addr) (n c B : Nat) (zs : List Int) (b : Int) (w : World) (hr : Ints w B A n zs) (hB : B ≤ w.heap.size) (hn : n ≤ 17592186044416) (hnc : n ≤ c) (hc : c ≤ maxLen) :
    Calls Try.prog 30 #[.slice A n c, .int .i64 b] w (MadeR (rturnR zs b) (rturnOk zs b) w) := by
  obtain rfl := hr.len
  cases hg : rgood zs
  · rw [show rturnOk zs b = false from by simp [rturnOk, hg], show rturnR zs b = [] from by simp [rturnR, rturnOk, hg]]
    go_enter Try.func30, Try.ntmps30
    go_wp2_with fail
    refine (IsRing_any _ _ _ _ _ _ hr hn).mono ?_; rintro e w' ⟨rfl, rfl⟩; rw [hg]
    go_wp2_with fail
    go_ret2
    exact madeR_none (Below.refl _ _)
  · obtain ⟨hg1, hg2, _⟩ := rgood_of hg
    by_cases hb0 : b < 0
    · have ho : rturnOk zs b = false := by simp [rturnOk]; omega
      have HI := hide (isOne_no (n := (zs.length : Int)) (p := b) (by omega))
      rw [ho, show rturnR zs b = [] from by simp [rturnR, ho]]
      go_enter Try.func30, Try.ntmps30
      go_wp2_with fail
      refine (IsRing_any _ _ _ _ _ _ hr hn).mono ?_; rintro e w' ⟨rfl, rfl⟩; rw [hg]
      go_wp2_with fail
      refine (isOneAmong_any _ _ _).mono ?_; rintro e w' ⟨rfl, rfl⟩; rw [HI.out]
      go_wp2_with fail
      go_ret2
      exact madeR_none (Below.refl _ _)
    · obtain ⟨k, rfl⟩ := Int.eq_ofNat_of_zero_le (show 0 ≤ b by omega)
      by_cases hb1 : k < zs.length
      · have ho : rturnOk zs k = true := by simp [rturnOk, hg]; omega
        have HI := hide (isOne_yes (n := (zs.length : Int)) (p := (k : Int)) (by omega))
        rw [ho, show rturnR zs k = zs.drop k ++ zs.take k from by simp [rturnR, ho]]
        have HL := hide (show (zs.drop k ++ zs.take k).length = zs.length by rw [List.length_append, List.length_drop, List.length_take]; omega)
        clear hb0 ho
        unfold maxLen at hc
        have hck : ¬ c = k := by omega
        have hkl : k ≤ zs.length := by omega
        have hkc : k ≤ c := by omega
        have hc0 : ¬ c = 0 := by omega
        obtain ⟨ad, rfl, hab, _⟩ := hr.at_ (show 0 < zs.length by omega)
        have hd := hr.dropAt (i := k) (by omega)
        have ht := hr.takeAt (i := k) (by omega)
        go_enter Try.func30, Try.ntmps30
        go_wp2_with fail
        refine (IsRing_any _ _ _ _ _ _ hr hn).mono ?_; rintro e w' ⟨rfl, rfl⟩; rw [hg]
        go_wp2_with fail
        refine (isOneAmong_any _ _ _).mono ?_; rintro e w' ⟨rfl, rfl⟩; rw [HI.out]
        go_wp2_with fail
        go_still_tail 6, (by kernel_rfl)
        change wpList _ _ _ _ _ w.drew
        generalize hw2 : w.drew = w2
        have hd2 : Ints w2 B (some (ad.add k)) (zs.length - k) (zs.drop k) := hw2 ▸ hd.drew
        have ht2 : Ints w2 B (some ad) k (zs.take k) := hw2 ▸ ht.drew
        have hb2 : Below w.heap.size w w2 := hw2 ▸ (Below.refl _ _).drew
        have hs2 := hide (show w2.heap.size = w.heap.size by rw [← hw2]; rfl)
        clear hw2 hd ht hr
        have HC := hide (Concat_any w2.heap.size 2 B (ad.add k) ad (zs.length - k) (c - k) k c (zs.drop k) (zs.take k)
          (w2.alloc (.cells #[.slice (some (ad.add k)) (zs.length - k) (c - k), .slice (some ad) k c] 24))
          (by simp) (by have := hs2.out; simp; omega) (by simp) (by simp) (hd2.alloc (by have := hs2.out; omega) _) (ht2.alloc (by have := hs2.out; omega) _) (by omega) (by omega))
        clear hd2 ht2
        go_wp2_with fail
        (with_reducible refine HC.out.mono ?_)
        rintro e w3 ⟨v, rfl, hown, hb3⟩
        have hs2' := hs2.out
        have hbb : Below w.heap.size w w3 := (hb2.alloc (by omega) _).trans (hb3.mono (by simp; omega))
        have hown' : Own w3 w.heap.size 3 v (zs.drop k ++ zs.take k) := hown.less (by simp; omega)
        obtain ⟨A', c', rfl, hc1, hc2⟩ := hown'.shape
        clear hown hb3 hs2'
        rw [HL.out] at hc1 hown'
        rw [HL.out]
        go_wp2_with fail
        go_ret2
        exact ⟨A', c', by rw [HL.out]; rfl, by rw [HL.out]; exact hc1, hc2, by rw [HL.out]; exact hown', hbb⟩
      · have ho : rturnOk zs k = false := by simp [rturnOk]; omega
        have HI := hide (isOne_no (n := (zs.length : Int)) (p := (k : Int)) (by omega))
        rw [ho, show rturnR zs k = [] from by simp [rturnR, ho]]
        go_enter Try.func30, Try.ntmps30
        go_wp2_with fail
        refine (IsRing_any _ _ _ _ _ _ hr hn).mono ?_; rintro e w' ⟨rfl, rfl⟩; rw [hg]
        go_wp2_with fail
        refine (isOneAmong_any _ _ _).mono ?_; rintro e w' ⟨rfl, rfl⟩; rw [HI.out]
        go_wp2_with fail
        go_ret2
        exact madeR_none (Below.refl _ _)

/-- The model's TurnRing. -/
theorem specTurnRing_any (A : Option Addr) (n c B : Nat) (zs : List Int) (b : Int) (w : World) (hr : Ints w B A n zs) (hB : B ≤ w.heap.size) (hn : n ≤ 17592186044416) (hnc : n ≤ c) (hc : c ≤ maxLen) :
    Calls Try.prog 31 #[.slice A n c, .int .i64 b] w (MadeR (rturnR zs b) (rturnOk zs b) w) := by
  obtain rfl := hr.len
  cases hg : rgood zs
  · rw [show rturnOk zs b = false from by simp [rturnOk, hg], show rturnR zs b = [] from by simp [rturnR, rturnOk, hg]]
    go_enter Try.func31, Try.ntmps31
    go_wp2_with fail
    refine (riGood_any _ _ _ _ _ _ hr hn).mono ?_; rintro e w' ⟨rfl, rfl⟩; rw [hg]
    go_wp2_with fail
    go_ret2
    exact madeR_none (Below.refl _ _)
  · obtain ⟨hg1, hg2, _⟩ := rgood_of hg
    by_cases hin : 0 ≤ b ∧ b ≤ zs.length - 1
    · have hd1 : decide ((0 : Int) ≤ b ∧ b ≤ (zs.length : Int) - 1) = true := by simpa using hin
      obtain ⟨k, rfl⟩ := Int.eq_ofNat_of_zero_le hin.1
      have hb1 : k < zs.length := by omega
      have ho : rturnOk zs k = true := by simp [rturnOk, hg]; omega
      rw [ho, show rturnR zs k = zs.drop k ++ zs.take k from by simp [rturnR, ho]]
      have HL := hide (show (zs.drop k ++ zs.take k).length = zs.length by rw [List.length_append, List.length_drop, List.length_take]; omega)
      clear hin ho
      unfold maxLen at hc
      have hck : ¬ c = k := by omega
      have hkl : k ≤ zs.length := by omega
      have hkc : k ≤ c := by omega
      have hc0 : ¬ c = 0 := by omega
      obtain ⟨ad, rfl, hab, _⟩ := hr.at_ (show 0 < zs.length by omega)
      have hd := hide (hr.dropAt (i := k) (by omega))
      have ht := hide (hr.takeAt (i := k) (by omega))
      go_enter Try.func31, Try.ntmps31
      go_wp2_with fail
      refine (riGood_any _ _ _ _ _ _ hr hn).mono ?_; rintro e w' ⟨rfl, rfl⟩; rw [hg]
      go_wp2_with fail
      refine (l1In_any _ _ _ _).mono ?_; rintro e w' ⟨rfl, rfl⟩; rw [hd1]
      go_wp2_with fail
      have HO := hide (l1Own_any (some (ad.add k)) (zs.length - k) (c - k) B (zs.drop k) w.drew hd.out.drew hB (by omega) (by omega))
      refine wp_region_any (by kernel_rfl) ?_
      change wpAny _ _ _ _ _ _ _ (World.drew _)
      refine wpAny_take (i := 0) (v := ?_) rfl (by kernel_rfl) (by kernel_rfl) (by kernel_rfl) (fun _ _ _ h => h) (Or.inl ⟨rfl, ?_⟩) ?_
      rotate_left
      · intro w; go_simp; first | done | (with_reducible rfl)
      refine wpAny_take (i := 1) (v := ?_) rfl (by kernel_rfl) (by kernel_rfl) (by kernel_rfl) (fun _ _ _ h => h) (Or.inl ⟨rfl, ?_⟩) ?_
      rotate_left
      · intro w; go_simp; first | done | (with_reducible rfl)
      refine wpAny_take (i := 4) (v := ?_) rfl (by kernel_rfl) (by kernel_rfl) (by kernel_rfl) (fun _ _ _ h => h) (Or.inl ⟨rfl, ?_⟩) ?_
      rotate_left
      · intro w; go_simp; first | done | (with_reducible rfl)
      refine wpAny_take (i := 5) (v := ?_) rfl (by kernel_rfl) (by kernel_rfl) (by kernel_rfl) (fun _ _ _ h => h) (Or.inl ⟨rfl, ?_⟩) ?_
      rotate_left
      · intro w; go_simp; first | done | (with_reducible rfl)
      refine wpAny_take (i := 2) (v := ?_) rfl (by kernel_rfl) (by kernel_rfl) (by kernel_rfl) (fun _ _ _ h => h) (Or.inl ⟨rfl, ?_⟩) ?_
      rotate_left
      · intro w; go_simp; first | done | (with_reducible rfl)
      refine wpAny_take (i := 6) (v := ?_) rfl (by kernel_rfl) (by kernel_rfl) (by kernel_rfl) (fun _ _ _ h => h) (Or.inl ⟨rfl, ?_⟩) ?_
      rotate_left
      · intro w; go_simp; first | done | (with_reducible rfl)
      refine wpAny_ready (rs := [3]) (by kernel_rfl) (by simp) ?_
      refine AllReady.cons rfl (fun K hK => ?_) AllReady.nil
      go_simp
      refine HO.out.mono ?_
      rintro e w2 ⟨g, c1, rfl, _, _, _, _, hown, hb2⟩
      refine hK _ _ ?_
      clear hK K
      refine wpAny_ready (rs := [7]) (by kernel_rfl) (by simp) ?_
      refine AllReady.cons rfl (fun K hK => ?_) AllReady.nil
      refine step_app_ints rfl _ _ 24 3 rfl Try.underlying24 infoInt w.heap.size _ (zs.drop k) rfl hown ad k c B (zs.take k) rfl ((ht.out.drew).below hb2 hB) hb2.size (by rw [List.length_drop]; omega) ?_
      intro v' w' hown' hb'
      refine hK _ _ ?_
      clear hK K
      refine wpAny_ready (rs := [8]) (by kernel_rfl) (by simp) ?_
      refine AllReady.cons rfl (fun K hK => ?_) AllReady.nil
      go_simp
      refine hK _ _ ?_
      clear hK K
      refine wpAny_ready (rs := [9]) (by kernel_rfl) (by simp) ?_
      refine AllReady.cons rfl (fun K hK => ?_) AllReady.nil
      go_simp
      refine hK _ _ ?_
      clear hK K
      refine wpAny_done (by kernel_rfl) ?_ _
      have hbb : Below w.heap.size w w' := ((Below.refl _ _).drew.trans hb2).trans hb'
      obtain ⟨A', c', rfl, hc1, hc2⟩ := hown'.shape
      rw [HL.out] at hc1 hown'
      rw [HL.out]
      clear hb' hb2 hown
      go_wp2_with fail
      go_ret2
      exact ⟨A', c', by rw [HL.out]; rfl, by rw [HL.out]; exact hc1, hc2, by rw [HL.out]; exact hown', hbb⟩
    · have hd1 : decide ((0 : Int) ≤ b ∧ b ≤ (zs.length : Int) - 1) = false := by simpa using hin
      have ho : rturnOk zs b = false := by simp [rturnOk]; omega
      rw [ho, show rturnR zs b = [] from by simp [rturnR, ho]]
      clear hin ho
      go_enter Try.func31, Try.ntmps31
      go_wp2_with fail
      refine (riGood_any _ _ _ _ _ _ hr hn).mono ?_; rintro e w' ⟨rfl, rfl⟩; rw [hg]
      go_wp2_with fail
      refine (l1In_any _ _ _ _).mono ?_; rintro e w' ⟨rfl, rfl⟩; rw [hd1]
      go_wp2_with fail
      go_ret2
      exact madeR_none (Below.refl _ _)
end Go.Proofs.Ytcbcgapnoompbaa
