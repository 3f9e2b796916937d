
/-
  THE PROGRAM'S CanFire, and the walk of its law.
-/
import Derived.Test.YtpcckckmloeanaaLnO
import Derived.Test.YtpcckckmloeanaaLaws0
namespace Go.Proofs.Ytpcckckmloeanaa
open Go.RowKit Go.Deep
set_option linter.unusedVariables false

theorem able_first (zs : List Int) (p : Int) (hg : hgood zs = true) : ableAt zs (noF zs.length) p = ableN zs p := by
  unfold ableAt ableN hasked
  rw [hg, Bool.true_and, rowAt_noF, getD_cons0]
  congr 1

set_option maxRecDepth 100000 in
theorem CanFire_any (A : Option Addr) (n c B : Nat) (zs : List Int) (p : Int) (w : World) (hr : Ints w B A n zs) (hB : B ≤ w.heap.size) (hn : n ≤ 17592186044416) :
    Calls Try.prog 6 #[.slice A n c, .int .i64 p] w fun e w' => e = .returned (.tuple #[.bool (ableN zs p), .bool (hasked zs p)]) ∧ Below w.heap.size w w' := by
  obtain rfl := hr.len
  have hzl := hide zero43_len
  have HI := hide (fun W => isPlaceAmong_any zs.length p W)
  cases hg : hgood zs
  · have HF := hide (lineOf_no A zs.length c B zs w hr hB hn hg)
    have H1 := hide (show hasked zs p = false from by unfold hasked; rw [hg]; rfl)
    have H2 := hide (ableN_no H1.out)
    rw [H1.out, H2.out]
    clear hg
    go_enter Try.func6, Try.ntmps6
    go_wp2_with fail
    refine HF.out.mono ?_; rintro e w2 ⟨rfl, hb2⟩
    have HB2 := hide hb2
    have hle := HB2.out.size
    clear hb2
    go_wp2_with (first
      | (with_reducible refine wpList_line_new (o := ⟨some 6, _, _, _, _, _⟩) rfl rfl ?_; intro w3 hL3 hb3 hs3
         have HL3 := hide hL3; have HB3 := hide (HB2.out.trans (hb3.mono hle)); clear hL3 hb3 hs3)
      | (with_reducible refine wpList_line_store rfl (.tmp 6) (.tmp 11) rfl w2.heap.size _ (zero43) rfl rfl hzl.out hzl.out HL3.out ?_; intro w4 hL4 ho4
         have HB4 := hide (HB3.out.trans (ho4.below.mono hle)); have HL4 := hide hL4; clear hL4 ho4))
    go_ret2
    exact ⟨rfl, HB4.out⟩
  · have HF := hide (lineOf_yes A zs.length c B zs w hr hB hg)
    have hll := hide (lineL_length zs (noF zs.length))
    have h20 := (hgood_of hg).2.1
    cases hi : isAt p zs.length
    · have H1 := hide (show hasked zs p = false from by unfold hasked; rw [hg, hi]; rfl)
      have H2 := hide (ableN_no H1.out)
      rw [H1.out, H2.out]
      rw [hi] at HI
      clear hg hi
      go_enter Try.func6, Try.ntmps6
      go_wp2_with fail
      refine HF.out.mono ?_; rintro e w2 ⟨rfl, hb2⟩
      have HB2 := hide hb2
      have hle := HB2.out.size
      clear hb2
      go_wp2_with (first
        | (with_reducible refine wpList_line_new (o := ⟨some 6, _, _, _, _, _⟩) rfl rfl ?_; intro w3 hL3 hb3 hs3
           have HL3 := hide hL3; have HB3 := hide (HB2.out.trans (hb3.mono hle)); clear hL3 hb3 hs3)
        | (with_reducible refine wpList_line_store rfl (.tmp 6) (.tmp 11) rfl w2.heap.size _ (lineL zs (noF zs.length)) rfl rfl hll.out hzl.out HL3.out ?_; intro w4 hL4 ho4
           have HB4 := hide (HB3.out.trans (ho4.below.mono hle)); have HL4 := hide hL4; clear hL4 ho4))
      refine (HI.out _).mono ?_; rintro e w' ⟨rfl, rfl⟩
      go_wp2_with fail
      go_ret2
      exact ⟨rfl, HB4.out⟩
    · have H1 := hide (show hasked zs p = true from by unfold hasked; rw [hg, hi]; rfl)
      have HC := hide (fun b W (hL : LineAt W b 32 (lineL zs (noF zs.length))) => canFire_any b 32 p zs (noF zs.length) W hL h20)
      rw [able_first zs p hg] at HC
      rw [H1.out]
      rw [hi] at HI
      generalize ableN zs p = an at *
      clear hg hi
      go_enter Try.func6, Try.ntmps6
      go_wp2_with fail
      refine HF.out.mono ?_; rintro e w2 ⟨rfl, hb2⟩
      have HB2 := hide hb2
      have hle := HB2.out.size
      clear hb2
      go_wp2_with (first
        | (with_reducible refine wpList_line_new (o := ⟨some 6, _, _, _, _, _⟩) rfl rfl ?_; intro w3 hL3 hb3 hs3
           have HL3 := hide hL3; have HB3 := hide (HB2.out.trans (hb3.mono hle)); clear hL3 hb3 hs3)
        | (with_reducible refine wpList_line_store rfl (.tmp 6) (.tmp 11) rfl w2.heap.size _ (lineL zs (noF zs.length)) rfl rfl hll.out hzl.out HL3.out ?_; intro w4 hL4 ho4
           have HB4 := hide (HB3.out.trans (ho4.below.mono hle)); have HL4 := hide hL4; clear hL4 ho4))
      refine (HI.out _).mono ?_; rintro e w' ⟨rfl, rfl⟩
      go_wp2_with fail
      refine (HC.out _ _ HL4.out).mono ?_; rintro e w' ⟨rfl, rfl⟩
      go_wp2_with fail
      go_ret2
      exact ⟨rfl, HB4.out⟩

theorem lawCanFire (A : Option Addr) (n c : Nat) (zs : List Int) (p : Int) (w : World) (hr : Ints w w.heap.size A n zs) :
    Calls Try.prog 3 #[.slice A n c, .int .i64 p] w fun e w' => e = .returned (.bool true) ∧ Below w.heap.size w w' := by
  obtain rfl := hr.len
  by_cases hbig : 1048576 < zs.length
  · go_enter Try.func3, Try.ntmps3
    go_wp2_with fail
    go_ret
    exact ⟨rfl, Below.refl _ _⟩
  · have hcap : zs.length ≤ 17592186044416 := by omega
    go_enter Try.func3, Try.ntmps3
    go_wp2_with fail
    refine (toIntS_any _ _ _ _ _ hr hcap).mono ?_
    rintro e w1 ⟨g1, _, hz1, rfl, hrow1, hb1⟩
    have hr1 := hr.next hb1
    go_wp2_with fail
    refine (to_below (specCanFire_any _ _ _ _ _ _ _ (hrow1.ints hz1) (by omega))).mono ?_
    rintro e w2 ⟨rfl, hb2⟩
    have hr2 := hr1.next hb2
    go_wp2_with fail
    refine (toIntS_any _ _ _ _ _ hr2 hcap).mono ?_
    rintro e w3 ⟨g2, _, hz2, rfl, hrow2, hb3⟩
    have hr3 := hr2.next hb3
    have hx3 := hrow2.ints hz2
    go_wp2_with fail
    refine (CanFire_any _ _ _ _ _ _ _ hx3 (Nat.le_refl _) (by omega)).mono ?_
    rintro e w4 ⟨rfl, hb4⟩
    have hr4 := hr3.next hb4
    have hx4 := hx3.next hb4
    go_wp2_with fail
    refine (toIntS_any _ _ _ _ _ hr4 hcap).mono ?_
    rintro e w5 ⟨g3, _, hz3, rfl, hrow3, hb5⟩
    have hx5 := hx4.next hb5
    go_wp2_with fail
    refine (eqIntS_same _ _ _ _ _ _ _ _ _ hx5 (hrow3.ints hz3) (Nat.le_refl _) (Nat.le_refl _) (by omega)).mono ?_
    rintro e w6 ⟨rfl, hb6⟩
    go_wp2_with fail
    go_ret
    exact ⟨rfl, below_next (below_next (below_next (below_next (below_next hb1 hb2) hb3) hb4) hb5) hb6⟩
end Go.Proofs.Ytpcckckmloeanaa
