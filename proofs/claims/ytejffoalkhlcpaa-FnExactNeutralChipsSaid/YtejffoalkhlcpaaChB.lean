
/-
  CLASSES AND CHIPS THAT COME AGAIN, BOTH WAYS: ClassOfChips, AreSameClass, DoComeAgain.
-/
import Derived.Test.YtejffoalkhlcpaaCh
namespace Go.Proofs.Ytejffoalkhlcpaa
open Go.RowKit Go.Deep

/-- The program's ClassOfChips. -/
theorem ClassOfChips_any (A : Option Addr) (n c B : Nat) (zs : List Int) (w : World) (hr : Ints w B A n zs) (hn : n ≤ 17592186044416) :
    Calls Try.prog 16 #[.slice A n c] w fun e w' => e = .returned (.tuple #[.int .i64 (classN zs), .bool (hgood zs)]) ∧ w = w' := by
  obtain rfl := hr.len
  cases hg : hgood zs
  · have H1 := hide (classN_no hg)
    have hgb : hgood zs = false := hg
    go_enter Try.func16, Try.ntmps16
    go_wp2_with fail
    refine (AreChips_any _ _ _ _ _ _ hr hn).mono ?_; rintro e w' ⟨rfl, rfl⟩; rw [hgb]
    go_wp2_with fail
    go_ret2
    exact ⟨by rw [H1.out]; rfl, rfl⟩
  · have H1 := hide (classN_yes hg)
    have HG := hide hg
    have hAC := hide (AreChips_any A zs.length c B zs w hr hn)
    obtain ⟨hg1, hg2, _⟩ := hgood_of hg
    clear hg
    go_enter Try.func16, Try.ntmps16
    go_wp2_with fail
    refine hAC.out.mono ?_; rintro e w' ⟨rfl, rfl⟩; rw [HG.out]
    clear hAC
    go_wp2_with fail
    go_loop [4, 12] (fun s i => ∃ k : Nat, k ≤ zs.length ∧ i = .int .i64 k ∧ s = .int .i64 (csumTo zs k))
      (fun _ i => zs.length - (intOf i).toNat)
    case atStart => exact ⟨0, Nat.zero_le _, rfl, rfl⟩
    case round =>
      obtain ⟨k, hk, rfl, rfl⟩ := hrel
      have hs := csumTo_bd HG.out k hk
      by_cases hlt : k < zs.length
      · have hs2 := csumTo_bd HG.out (k + 1) (by omega)
        have Hs := hide (show csumTo zs (k + 1) = csumTo zs k + zs.getD k 0 * ((k : Int) + 1) from rfl)
        have hk2 := hgood_getD HG.out k hlt
        obtain ⟨ad, rfl, hab, hcell⟩ := hr.at_ hlt
        rw [Hs.out] at hs2
        have hp1 : 0 ≤ zs.getD k 0 * ((k : Int) + 1) := Int.mul_nonneg hk2.1 (by omega)
        generalize zs.getD k 0 = a at *
        generalize csumTo zs k = b at *
        go_wp2
        go_round
        case rel => exact ⟨k + 1, by omega, by go_num, by rw [Hs.out]⟩
        case measure => simp [intOf]; omega
      · obtain rfl : k = zs.length := by omega
        have hc : clsOf zs = csumTo zs zs.length % ((zs.length : Int) + 1) := rfl
        have HC := hide hc
        clear hc
        generalize csumTo zs zs.length = b at *
        go_wp2
        go_ret2
        exact ⟨by rw [H1.out, HC.out]; rfl, rfl⟩

theorem hboth_of {zs ys : List Int} (h : hboth zs ys = true) : hgood zs = true ∧ hgood ys = true ∧ zs.length = ys.length := by
  unfold hboth at h; simpa [and_assoc] using h
end Go.Proofs.Ytejffoalkhlcpaa
