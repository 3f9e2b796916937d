
/-
  CHIPS TOLD FROM THE RIGHT END ON, BOTH WAYS.
-/
import Derived.Test.YtbfkbmkikgmmcaaCh
import Derived.Test.YtbfkbmkikgmmcaaMir
namespace Go.Proofs.Ytbfkbmkikgmmcaa
open Go.RowKit Go.Deep Go.Sort

/-- The program's reversed. -/
theorem reversed_any (A : Option Addr) (n c B : Nat) (zs : List Int) (w : World) (hr : Ints w B A n zs) (hB : B ≤ w.heap.size) (h0 : 0 < n) (hn : n < 1000000) :
    Calls Try.prog 36 #[.slice A n c] w (Made1 zs.reverse w) := by
  obtain rfl := hr.len
  have HL := hide (show zs.reverse.length = zs.length from List.length_reverse)
  go_enter Try.func36, Try.ntmps36
  go_wp2_with fail
  refine (Clone_any _ _ _ _ _ _ hr hB (by omega) (by omega)).mono ?_
  rintro e w1 ⟨g, c1, rfl, hg1, hg2, hc1, hc2, hown, hb1⟩
  go_wp2_with fail
  refine (Reverse_any w.heap.size _ _ _ _ _ hown (by omega)).mono ?_
  rintro e w2 ⟨rfl, hown2, hb2, hg3, _⟩
  go_wp2_with fail
  go_ret
  exact ⟨g, c1, by rw [HL.out]; rfl, hg1, hg3, by rw [HL.out]; exact hc1, hc2, by rw [HL.out]; exact hown2, hb1.trans hb2⟩

/-- What MirrorChips tells. -/
def mirH (zs : List Int) : List Int := if hgood zs then zs.reverse else []
theorem mirH_short (zs : List Int) (h : zs.length ≤ 1048576) : (mirH zs).length ≤ 1048576 := by
  unfold mirH; split
  · rw [List.length_reverse]; exact h
  · simp

/-- The program's MirrorChips. -/
theorem MirrorChips_any (A : Option Addr) (n c B : Nat) (zs : List Int) (w : World) (hr : Ints w B A n zs) (hB : B ≤ w.heap.size) (hn : n ≤ 17592186044416) :
    Calls Try.prog 22 #[.slice A n c] w (MadeR (mirH zs) (hgood zs) w) := by
  obtain rfl := hr.len
  cases hg : hgood zs
  · rw [show mirH zs = [] from by simp [mirH, hg]]
    go_enter Try.func22, Try.ntmps22
    go_wp2_with fail
    refine (AreChips_any _ _ _ _ _ _ hr hn).mono ?_; rintro e w' ⟨rfl, rfl⟩; rw [hg]
    go_wp2_with fail
    go_ret2
    exact madeR_none (Below.refl _ _)
  · rw [show mirH zs = zs.reverse from by simp [mirH, hg]]
    obtain ⟨hg1, hg2, _⟩ := hgood_of hg
    have HL := hide (show zs.reverse.length = zs.length from List.length_reverse)
    go_enter Try.func22, Try.ntmps22
    go_wp2_with fail
    refine (AreChips_any _ _ _ _ _ _ hr hn).mono ?_; rintro e w' ⟨rfl, rfl⟩; rw [hg]
    go_wp2_with fail
    refine (reversed_any _ _ _ _ _ _ hr hB (by omega) (by omega)).mono ?_
    rintro e w1 ⟨g, c1, rfl, _, _, hc1, hc2, hown, hb1⟩
    go_wp2_with fail
    go_ret2
    exact ⟨some ⟨g, 0, none⟩, c1, by rw [HL.out]; rfl, hc1, hc2, hown, hb1⟩

/-- The model's MirrorChips. -/
theorem specMirrorChips_any (A : Option Addr) (n c B : Nat) (zs : List Int) (w : World) (hr : Ints w B A n zs) (hB : B ≤ w.heap.size) (hn : n ≤ 17592186044416) :
    Calls Try.prog 21 #[.slice A n c] w (MadeR (mirH zs) (hgood zs) w) := by
  obtain rfl := hr.len
  cases hg : hgood zs
  · rw [show mirH zs = [] from by simp [mirH, hg]]
    go_enter Try.func21, Try.ntmps21
    go_wp2_with fail
    refine (chGood_any _ _ _ _ _ _ hr hn).mono ?_; rintro e w' ⟨rfl, rfl⟩; rw [hg]
    go_wp2_with fail
    go_ret2
    exact madeR_none (Below.refl _ _)
  · rw [show mirH zs = zs.reverse from by simp [mirH, hg]]
    obtain ⟨hg1, hg2, _⟩ := hgood_of hg
    have HL := hide (show zs.reverse.length = zs.length from List.length_reverse)
    have hCG := hide (chGood_any A zs.length c B zs w hr hn)
    have HG := hide hg
    clear hg
    go_enter Try.func21, Try.ntmps21
    go_wp2_with fail
    refine hCG.out.mono ?_; rintro e w' ⟨rfl, rfl⟩; rw [HG.out]
    clear hCG
    go_wp2_with fail
    go_loopw [4, 5] (fun v i wr => ∃ m : Nat, m ≤ zs.length ∧ i = .int .i64 ((m : Int) - 1) ∧ Own wr w.heap.size 3 v (zs.reverse.take (zs.length - m)) ∧ Below w.heap.size w wr)
      (fun _ i _ => (intOf i + 1).toNat)
    case atStart => exact ⟨zs.length, Nat.le_refl _, rfl, by rw [Nat.sub_self]; exact Own.nil _ _ _, Below.refl _ _⟩
    case round =>
      obtain ⟨m, hm, rfl, hown, hb⟩ := hrel
      have hsz := hb.size
      have hll : (zs.reverse.take (zs.length - m)).length < 1000000 := by rw [List.length_take, List.length_reverse]; omega
      cases m with
      | zero =>
        rw [Nat.sub_zero, List.take_of_length_le (by rw [List.length_reverse]; exact Nat.le_refl _)] at hown
        go_wp2_with fail
        go_ret2
        obtain ⟨g, c1, e1, _, _, hc1, hc2, hown', hb'⟩ := made1_of (by rw [List.length_reverse]; exact hg1) hown hb
        injection e1 with e1
        subst e1
        exact ⟨some ⟨g, 0, none⟩, c1, by rw [HL.out]; rfl, hc1, hc2, hown', hb'⟩
      | succ j =>
        have hlt : j < zs.length := by omega
        have Hs := hide (rev_take zs j hlt)
        obtain ⟨ad, rfl, hab, hcell⟩ := (hr.below hb hB).at_ hlt
        rw [getD_ge hlt] at hcell
        rw [show ((j + 1 : Nat) : Int) - 1 = (j : Int) by omega]
        go_wp2_with (at_builtin; refine wpList_app_int rfl _ _ 22 3 rfl Try.underlying22 infoInt w.heap.size _ _ rfl hown _ _ rfl hsz hll ?_; intro v' w' hown' hb')
        go_roundw
        case rel => exact ⟨j, by omega, by go_num, by rw [Hs.out]; exact hown', hb.trans hb'⟩
        case measure => simp [intOf]
end Go.Proofs.Ytbfkbmkikgmmcaa
