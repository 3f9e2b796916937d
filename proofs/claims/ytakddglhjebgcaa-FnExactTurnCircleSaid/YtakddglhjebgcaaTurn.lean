
/-
  A CIRCLE TOLD FROM ANOTHER CHILD ON, BOTH WAYS: slices.Grow of a nil list, slices.Concat of two parts, TurnCircle.
-/
import Derived.Test.YtakddglhjebgcaaCyB
import Derived.Test.YtakddglhjebgcaaApp
import Derived.Lib.AppendZeros
import Derived.StillTailTactics
import Derived.Deep.RegionWith
namespace Go.Proofs.Ytakddglhjebgcaa
open Go.RowKit Go.Deep

theorem heap_new_drew (w : World) (o : Obj) : (w.alloc o).drew.heap[w.heap.size]? = some o := by
  show (w.alloc o).heap[w.heap.size]? = some o
  show (w.heap.push o)[w.heap.size]? = some o
  rw [Array.getElem?_push]; simp

/-- WHAT slices.Grow LEAVES of a nil list: room, and no number. -/
def Grown0 (w : World) (e : Ending) (w' : World) : Prop := ∃ v, e = .returned v ∧ Own w' w.heap.size 3 v [] ∧ Below w.heap.size w w'

theorem Grow_any (k : Nat) (w : World) (h0 : 0 < k) (hk : k ≤ 1000000) :
    Calls Try.prog 38 #[.slice none 0 0, .int .i64 k] w (Grown0 w) := by
  obtain ⟨i0, hi, hz0, hz1, hz2⟩ := info_parts infoInt
  have hrun := fun ty => Lib.run_append_nil_zeros (P := Try.prog) w 22 3 ty 3 i0 (.int .i64 0) .i64 .i64 Try.underlying22 Try.underlying3 hi hz0 k h0 (by rw [hz1]; omega) (by omega) (by rw [hz2]; omega)
  have hge := grownCap_ge w k 0 3
  have hle := grownCap_le_maxLen w k 0 3 (by unfold maxLen; omega)
  go_enter Try.func38, Try.ntmps38
  go_wp2_with (at_builtin; refine Lib.wpList_append_run _ rfl _ _ _ _ rfl _ _ rfl rfl _ _ (hrun _) ?_)
  go_ret
  refine ⟨_, rfl, ⟨rfl, .inr ⟨w.heap.size, _, _, rfl, Nat.le_refl _, heap_new_drew _ _, Nat.zero_le _, hle, ?_, by simp⟩⟩, ((Below.refl _ _).alloc (Nat.le_refl _) _).drew⟩
  simp [Builtin.zeroCells, Value.cells]
  omega

/-- slices.Concat of two parts. -/
theorem Concat_any (g c B : Nat) (a1 a2 : Addr) (n1 c1 n2 c2 : Nat) (ys1 ys2 : List Int) (w : World) (hg : g < w.heap.size) (hB : B ≤ w.heap.size)
    (hq1 : w.cell? ⟨g, 0, none⟩ = some (.slice (some a1) n1 c1)) (hq2 : w.cell? ⟨g, 1, none⟩ = some (.slice (some a2) n2 c2))
    (hr1 : Ints w B (some a1) n1 ys1) (hr2 : Ints w B (some a2) n2 ys2) (h0 : 0 < n1 + n2) (hn : n1 + n2 < 1000000) :
    Calls Try.prog 30 #[.slice (some ⟨g, 0, none⟩) 2 c] w fun e w' => ∃ v, e = .returned v ∧ Own w' w.heap.size 3 v (ys1 ++ ys2) ∧ Below w.heap.size w w' := by
  have hl1 := hr1.len
  have hl2 := hr2.len
  go_enter Try.func30, Try.ntmps30
  go_wp2_with fail
  go_loop [3, 11] (fun s i => (i = .int .i64 0 ∧ s = .int .i64 0) ∨ (i = .int .i64 1 ∧ s = .int .i64 (n1 : Int)) ∨ (i = .int .i64 2 ∧ s = .int .i64 ((n1 + n2 : Nat) : Int)))
    (fun _ i => 2 - (intOf i).toNat)
  case atStart => exact .inl ⟨rfl, rfl⟩
  case round =>
    rcases hrel with ⟨rfl, rfl⟩ | ⟨rfl, rfl⟩ | ⟨rfl, rfl⟩
    · go_wp2_with fail
      go_round
      case rel => exact .inr (.inl ⟨rfl, by go_num⟩)
      case measure => simp [intOf]
    · go_wp2_with fail
      go_round
      case rel => exact .inr (.inr ⟨rfl, by go_num⟩)
      case measure => simp [intOf]
    · go_wp2_with fail
      refine (Grow_any _ _ h0 (by omega)).mono ?_
      rintro e w1 ⟨v1, rfl, hown1, hb1⟩
      have hs1 := hb1.size
      have hq1' := (hb1.cell (p := ⟨g, 0, none⟩) hg).trans hq1
      have hq2' := (hb1.cell (p := ⟨g, 1, none⟩) hg).trans hq2
      go_wp2_with fail
      go_loopw [6, 27] (fun v i wr => (Below w.heap.size w wr) ∧ ((i = .int .i64 0 ∧ Own wr w.heap.size 3 v []) ∨ (i = .int .i64 1 ∧ Own wr w.heap.size 3 v ys1) ∨ (i = .int .i64 2 ∧ Own wr w.heap.size 3 v (ys1 ++ ys2))))
        (fun _ i _ => 2 - (intOf i).toNat)
      case atStart => exact ⟨hb1, .inl ⟨rfl, hown1⟩⟩
      case round =>
        obtain ⟨hb, hrel⟩ := hrel
        clear hq1' hq2'
        have hsz := hb.size
        have hc1 := (hb.cell (p := ⟨g, 0, none⟩) hg).trans hq1
        have hc2 := (hb.cell (p := ⟨g, 1, none⟩) hg).trans hq2
        rcases hrel with ⟨rfl, hown⟩ | ⟨rfl, hown⟩ | ⟨rfl, hown⟩
        · go_wp2_with (at_builtin; refine wpList_app_ints rfl _ _ 22 3 rfl Try.underlying22 infoInt w.heap.size _ [] rfl hown a1 n1 c1 B ys1 rfl (hr1.below hb hB) hsz (by simp; omega) ?_; intro v' w' hown' hb')
          go_roundw
          case rel => exact ⟨hb.trans hb', .inr (.inl ⟨rfl, hown'⟩)⟩
          case measure => simp [intOf]
        · go_wp2_with (at_builtin; refine wpList_app_ints rfl _ _ 22 3 rfl Try.underlying22 infoInt w.heap.size _ ys1 rfl hown a2 n2 c2 B ys2 rfl (hr2.below hb hB) hsz (by omega) ?_; intro v' w' hown' hb')
          go_roundw
          case rel => exact ⟨hb.trans hb', .inr (.inr ⟨rfl, hown'⟩)⟩
          case measure => simp [intOf]
        · go_wp2_with fail
          go_ret
          exact ⟨_, rfl, hown, hb⟩

/-- What TurnCircle tells. -/
def turnOk (zs : List Int) (b : Int) : Bool := cgood zs && decide (0 ≤ b ∧ b ≤ zs.length - 1)
def turnR (zs : List Int) (b : Int) : List Int := if turnOk zs b then zs.drop b.toNat ++ zs.take b.toNat else []
theorem turnR_short (zs : List Int) (b : Int) (h : zs.length ≤ 1048576) : (turnR zs b).length ≤ 1048576 := by
  unfold turnR; split
  · rw [List.length_append, List.length_drop, List.length_take]; omega
  · simp

/-- The program's TurnCircle. -/
theorem TurnCircle_any (A : Option Addr) (n c B : Nat) (zs : List Int) (b : Int) (w : World) (hr : Ints w B A n zs) (hB : B ≤ w.heap.size) (hn : n ≤ 17592186044416) (hnc : n ≤ c) (hc : c ≤ maxLen) :
    Calls Try.prog 19 #[.slice A n c, .int .i64 b] w (MadeR (turnR zs b) (turnOk zs b) w) := by
  obtain rfl := hr.len
  cases hg : cgood zs
  · rw [show turnOk zs b = false from by simp [turnOk, hg], show turnR zs b = [] from by simp [turnR, turnOk, hg]]
    go_enter Try.func19, Try.ntmps19
    go_wp2_with fail
    refine (AreCandies_any _ _ _ _ _ _ hr hn).mono ?_; rintro e w' ⟨rfl, rfl⟩; rw [hg]
    go_wp2_with fail
    go_ret2
    exact madeR_none (Below.refl _ _)
  · obtain ⟨hg1, hg2, _⟩ := cgood_of hg
    by_cases hb0 : b < 0
    · have ho : turnOk zs b = false := by simp [turnOk]; omega
      rw [ho, show turnR zs b = [] from by simp [turnR, ho]]
      go_enter Try.func19, Try.ntmps19
      go_wp2_with fail
      refine (AreCandies_any _ _ _ _ _ _ hr hn).mono ?_; rintro e w' ⟨rfl, rfl⟩; rw [hg]
      go_wp2_with fail
      go_ret2
      exact madeR_none (Below.refl _ _)
    · obtain ⟨k, rfl⟩ := Int.eq_ofNat_of_zero_le (show 0 ≤ b by omega)
      by_cases hb1 : k < zs.length
      · have ho : turnOk zs k = true := by simp [turnOk, hg]; omega
        rw [ho, show turnR zs k = zs.drop k ++ zs.take k from by simp [turnR, ho]]
        have HL := hide (show (zs.drop k ++ zs.take k).length = zs.length by rw [List.length_append, List.length_drop, List.length_take]; omega)
        clear hb0 ho
        unfold maxLen at hc
        have hck : ¬ c = k := by omega
        have hkl : k ≤ zs.length := by omega
        have hkc : k ≤ c := by omega
        have hc0 : ¬ c = 0 := by omega
        obtain ⟨ad, rfl, hab, _⟩ := hr.at_ (show 0 < zs.length by omega)
        have hd := hr.dropAt (i := k) (by omega)
        have ht := hr.takeAt (i := k) (by omega)
        go_enter Try.func19, Try.ntmps19
        go_wp2_with fail
        refine (AreCandies_any _ _ _ _ _ _ hr hn).mono ?_; rintro e w' ⟨rfl, rfl⟩; rw [hg]
        go_wp2_with fail
        go_still_tail 6, (by kernel_rfl)
        change wpList _ _ _ _ _ w.drew
        generalize hw2 : w.drew = w2
        have hd2 : Ints w2 B (some (ad.add k)) (zs.length - k) (zs.drop k) := hw2 ▸ hd.drew
        have ht2 : Ints w2 B (some ad) k (zs.take k) := hw2 ▸ ht.drew
        have hb2 : Below w.heap.size w w2 := hw2 ▸ (Below.refl _ _).drew
        have hs2 := hide (show w2.heap.size = w.heap.size by rw [← hw2]; rfl)
        clear hw2 hd ht hr
        have HC := hide (Concat_any w2.heap.size 2 B (ad.add k) ad (zs.length - k) (c - k) k c (zs.drop k) (zs.take k)
          (w2.alloc (.cells #[.slice (some (ad.add k)) (zs.length - k) (c - k), .slice (some ad) k c] 22))
          (by simp) (by have := hs2.out; simp; omega) (by simp) (by simp) (hd2.alloc (by have := hs2.out; omega) _) (ht2.alloc (by have := hs2.out; omega) _) (by omega) (by omega))
        clear hd2 ht2
        go_wp2_with fail
        (with_reducible refine HC.out.mono ?_)
        rintro e w3 ⟨v, rfl, hown, hb3⟩
        have hs2' := hs2.out
        have hbb : Below w.heap.size w w3 := (hb2.alloc (by omega) _).trans (hb3.mono (by simp; omega))
        have hown' : Own w3 w.heap.size 3 v (zs.drop k ++ zs.take k) := hown.less (by simp; omega)
        obtain ⟨A', c', rfl, hc1, hc2⟩ := hown'.shape
        clear hown hb3 hs2'
        rw [HL.out] at hc1 hown'
        rw [HL.out]
        go_wp2_with fail
        go_ret2
        exact ⟨A', c', by rw [HL.out]; rfl, by rw [HL.out]; exact hc1, hc2, by rw [HL.out]; exact hown', hbb⟩
      · have ho : turnOk zs k = false := by simp [turnOk]; omega
        rw [ho, show turnR zs k = [] from by simp [turnR, ho]]
        go_enter Try.func19, Try.ntmps19
        go_wp2_with fail
        refine (AreCandies_any _ _ _ _ _ _ hr hn).mono ?_; rintro e w' ⟨rfl, rfl⟩; rw [hg]
        go_wp2_with fail
        go_ret2
        exact madeR_none (Below.refl _ _)

/-- The model's TurnCircle. -/
theorem specTurnCircle_any (A : Option Addr) (n c B : Nat) (zs : List Int) (b : Int) (w : World) (hr : Ints w B A n zs) (hB : B ≤ w.heap.size) (hn : n ≤ 17592186044416) (hnc : n ≤ c) (hc : c ≤ maxLen) :
    Calls Try.prog 18 #[.slice A n c, .int .i64 b] w (MadeR (turnR zs b) (turnOk zs b) w) := by
  obtain rfl := hr.len
  cases hg : cgood zs
  · rw [show turnOk zs b = false from by simp [turnOk, hg], show turnR zs b = [] from by simp [turnR, turnOk, hg]]
    go_enter Try.func18, Try.ntmps18
    go_wp2_with fail
    refine (cyGood_any _ _ _ _ _ _ hr hn).mono ?_; rintro e w' ⟨rfl, rfl⟩; rw [hg]
    go_wp2_with fail
    go_ret2
    exact madeR_none (Below.refl _ _)
  · obtain ⟨hg1, hg2, _⟩ := cgood_of hg
    by_cases hin : 0 ≤ b ∧ b ≤ zs.length - 1
    · have hd1 : decide ((0 : Int) ≤ b ∧ b ≤ (zs.length : Int) - 1) = true := by simpa using hin
      obtain ⟨k, rfl⟩ := Int.eq_ofNat_of_zero_le hin.1
      have hb1 : k < zs.length := by omega
      have ho : turnOk zs k = true := by simp [turnOk, hg]; omega
      rw [ho, show turnR zs k = zs.drop k ++ zs.take k from by simp [turnR, ho]]
      have HL := hide (show (zs.drop k ++ zs.take k).length = zs.length by rw [List.length_append, List.length_drop, List.length_take]; omega)
      clear hin ho
      unfold maxLen at hc
      have hck : ¬ c = k := by omega
      have hkl : k ≤ zs.length := by omega
      have hkc : k ≤ c := by omega
      have hc0 : ¬ c = 0 := by omega
      obtain ⟨ad, rfl, hab, _⟩ := hr.at_ (show 0 < zs.length by omega)
      have hd := hide (hr.dropAt (i := k) (by omega))
      have ht := hide (hr.takeAt (i := k) (by omega))
      go_enter Try.func18, Try.ntmps18
      go_wp2_with fail
      refine (cyGood_any _ _ _ _ _ _ hr hn).mono ?_; rintro e w' ⟨rfl, rfl⟩; rw [hg]
      go_wp2_with fail
      refine (l1In_any _ _ _ _).mono ?_; rintro e w' ⟨rfl, rfl⟩; rw [hd1]
      go_wp2_with fail
      have HO := hide (l1Own_any (some (ad.add k)) (zs.length - k) (c - k) B (zs.drop k) w.drew hd.out.drew hB (by omega) (by omega))
      refine wp_region_any (by kernel_rfl) ?_
      change wpAny _ _ _ _ _ _ _ (World.drew _)
      refine wpAny_take (i := 0) (v := ?_) rfl (by kernel_rfl) (by kernel_rfl) (by kernel_rfl) (fun _ _ _ h => h) (Or.inl ⟨rfl, ?_⟩) ?_
      rotate_left
      · intro w; go_simp; first | done | (with_reducible rfl)
      refine wpAny_take (i := 1) (v := ?_) rfl (by kernel_rfl) (by kernel_rfl) (by kernel_rfl) (fun _ _ _ h => h) (Or.inl ⟨rfl, ?_⟩) ?_
      rotate_left
      · intro w; go_simp; first | done | (with_reducible rfl)
      refine wpAny_take (i := 4) (v := ?_) rfl (by kernel_rfl) (by kernel_rfl) (by kernel_rfl) (fun _ _ _ h => h) (Or.inl ⟨rfl, ?_⟩) ?_
      rotate_left
      · intro w; go_simp; first | done | (with_reducible rfl)
      refine wpAny_take (i := 5) (v := ?_) rfl (by kernel_rfl) (by kernel_rfl) (by kernel_rfl) (fun _ _ _ h => h) (Or.inl ⟨rfl, ?_⟩) ?_
      rotate_left
      · intro w; go_simp; first | done | (with_reducible rfl)
      refine wpAny_take (i := 2) (v := ?_) rfl (by kernel_rfl) (by kernel_rfl) (by kernel_rfl) (fun _ _ _ h => h) (Or.inl ⟨rfl, ?_⟩) ?_
      rotate_left
      · intro w; go_simp; first | done | (with_reducible rfl)
      refine wpAny_take (i := 6) (v := ?_) rfl (by kernel_rfl) (by kernel_rfl) (by kernel_rfl) (fun _ _ _ h => h) (Or.inl ⟨rfl, ?_⟩) ?_
      rotate_left
      · intro w; go_simp; first | done | (with_reducible rfl)
      refine wpAny_ready (rs := [3]) (by kernel_rfl) (by simp) ?_
      refine AllReady.cons rfl (fun K hK => ?_) AllReady.nil
      go_simp
      refine HO.out.mono ?_
      rintro e w2 ⟨g, c1, rfl, _, _, _, _, hown, hb2⟩
      refine hK _ _ ?_
      clear hK K
      refine wpAny_ready (rs := [7]) (by kernel_rfl) (by simp) ?_
      refine AllReady.cons rfl (fun K hK => ?_) AllReady.nil
      refine step_app_ints rfl _ _ 22 3 rfl Try.underlying22 infoInt w.heap.size _ (zs.drop k) rfl hown ad k c B (zs.take k) rfl ((ht.out.drew).below hb2 hB) hb2.size (by rw [List.length_drop]; omega) ?_
      intro v' w' hown' hb'
      refine hK _ _ ?_
      clear hK K
      refine wpAny_ready (rs := [8]) (by kernel_rfl) (by simp) ?_
      refine AllReady.cons rfl (fun K hK => ?_) AllReady.nil
      go_simp
      refine hK _ _ ?_
      clear hK K
      refine wpAny_ready (rs := [9]) (by kernel_rfl) (by simp) ?_
      refine AllReady.cons rfl (fun K hK => ?_) AllReady.nil
      go_simp
      refine hK _ _ ?_
      clear hK K
      refine wpAny_done (by kernel_rfl) ?_ _
      have hbb : Below w.heap.size w w' := ((Below.refl _ _).drew.trans hb2).trans hb'
      obtain ⟨A', c', rfl, hc1, hc2⟩ := hown'.shape
      rw [HL.out] at hc1 hown'
      rw [HL.out]
      clear hb' hb2 hown
      go_wp2_with fail
      go_ret2
      exact ⟨A', c', by rw [HL.out]; rfl, by rw [HL.out]; exact hc1, hc2, by rw [HL.out]; exact hown', hbb⟩
    · have hd1 : decide ((0 : Int) ≤ b ∧ b ≤ (zs.length : Int) - 1) = false := by simpa using hin
      have ho : turnOk zs b = false := by simp [turnOk]; omega
      rw [ho, show turnR zs b = [] from by simp [turnR, ho]]
      clear hin ho
      go_enter Try.func18, Try.ntmps18
      go_wp2_with fail
      refine (cyGood_any _ _ _ _ _ _ hr hn).mono ?_; rintro e w' ⟨rfl, rfl⟩; rw [hg]
      go_wp2_with fail
      refine (l1In_any _ _ _ _).mono ?_; rintro e w' ⟨rfl, rfl⟩; rw [hd1]
      go_wp2_with fail
      go_ret2
      exact madeR_none (Below.refl _ _)
end Go.Proofs.Ytakddglhjebgcaa
