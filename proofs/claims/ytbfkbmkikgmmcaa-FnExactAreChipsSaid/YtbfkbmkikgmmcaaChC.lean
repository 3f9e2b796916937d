
/-
  THE PROGRAM'S DoComeAgain.
-/
import Derived.Test.YtbfkbmkikgmmcaaChB
import Derived.Test.YtbfkbmkikgmmcaaCyB
namespace Go.Proofs.Ytbfkbmkikgmmcaa
open Go.RowKit Go.Deep

theorem rested_mx {zs : List Int} (h0 : 0 < zs.length) : rested zs = decide (mx zs < 2) := by
  by_cases h : mx zs < 2
  · rw [decide_eq_true h]
    refine rested_of fun k hk => ?_
    rw [getD_ge hk]
    have := le_mx (List.getElem_mem hk)
    omega
  · rw [decide_eq_false h]
    obtain ⟨k, hk, e⟩ := List.getElem_of_mem (mx_mem h0)
    exact rested_no k hk (by rw [getD_ge hk, e]; omega)

/-- The program's DoComeAgain. -/
theorem DoComeAgain_any (A : Option Addr) (n c B : Nat) (zs : List Int) (w : World) (hr : Ints w B A n zs) (hn : n ≤ 17592186044416) :
    Calls Try.prog 20 #[.slice A n c] w fun e w' => e = .returned (.tuple #[.bool (comesN zs), .bool (hgood zs)]) ∧ w = w' := by
  obtain rfl := hr.len
  cases hg : hgood zs
  · have H1 := hide (comesN_no hg)
    have hgb : hgood zs = false := hg
    go_enter Try.func20, Try.ntmps20
    go_wp2_with fail
    refine (AreChips_any _ _ _ _ _ _ hr hn).mono ?_; rintro e w' ⟨rfl, rfl⟩; rw [hgb]
    go_wp2_with fail
    go_ret2
    exact ⟨by rw [H1.out]; rfl, rfl⟩
  · have H1 := hide (comesN_yes hg)
    have HG := hide hg
    have hAC := hide (AreChips_any A zs.length c B zs w hr hn)
    obtain ⟨hg1, hg2, _⟩ := hgood_of hg
    have HM := hide (Max_any A zs.length c B zs w hr (by omega) (by omega))
    have HX := hide (rested_mx (zs := zs) (by omega))
    clear hg
    go_enter Try.func20, Try.ntmps20
    go_wp2_with fail
    refine hAC.out.mono ?_; rintro e w' ⟨rfl, rfl⟩; rw [HG.out]
    clear hAC
    go_wp2_with fail
    go_loop [4, 12] (fun s i => ∃ k : Nat, k ≤ zs.length ∧ i = .int .i64 k ∧ s = .int .i64 (noneTo zs k : Int))
      (fun _ i => zs.length - (intOf i).toNat)
    case atStart => exact ⟨0, Nat.zero_le _, rfl, rfl⟩
    case round =>
      obtain ⟨k, hk, rfl, rfl⟩ := hrel
      have hs := noneTo_bd zs k
      by_cases hlt : k < zs.length
      · have hk2 := hgood_getD HG.out k hlt
        have HY := hide (noneTo_yes zs k)
        have HO := hide (noneTo_no zs k)
        obtain ⟨ad, rfl, hab, hcell⟩ := hr.at_ hlt
        generalize zs.getD k 0 = a at *
        by_cases h0 : a = 0
        · subst h0
          go_wp2
          go_round
          case rel => exact ⟨k + 1, by omega, by go_num, by rw [HY.out rfl]; push_cast; rfl⟩
          case measure => simp [intOf]; omega
        · go_wp2
          go_round
          case rel => exact ⟨k + 1, by omega, by go_num, by rw [HO.out h0]⟩
          case measure => simp [intOf]; omega
      · obtain rfl : k = zs.length := by omega
        have HC := hide (show comes zs = (decide (mx zs < 2) && decide ((noneTo zs zs.length : Int) ≤ 1)) from by
          unfold comes
          rw [HX.out]
          congr 1
          apply decide_eq_decide.2
          omega)
        generalize noneTo zs zs.length = b at *
        generalize mx zs = m at *
        by_cases hm : m < 2
        · have HD := hide (show comes zs = decide ((b : Int) ≤ 1) from by rw [HC.out, decide_eq_true hm, Bool.true_and])
          go_wp2_with fail
          refine HM.out.mono ?_; rintro e w' ⟨rfl, rfl⟩
          go_wp2_with fail
          go_ret2
          exact ⟨by rw [H1.out, HD.out]; rfl, rfl⟩
        · have HD := hide (show comes zs = false from by rw [HC.out, decide_eq_false hm, Bool.false_and])
          go_wp2_with fail
          refine HM.out.mono ?_; rintro e w' ⟨rfl, rfl⟩
          go_wp2_with fail
          go_ret2
          exact ⟨by rw [H1.out, HD.out]; rfl, rfl⟩
end Go.Proofs.Ytbfkbmkikgmmcaa
