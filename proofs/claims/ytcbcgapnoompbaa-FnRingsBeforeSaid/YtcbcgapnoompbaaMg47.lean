import Derived.Test.YtcbcgapnoompbaaMg36
import Derived.Test.YtcbcgapnoompbaaMg22
import Derived.StillTailTactics

/-
  THE LAWS' OWN HELPER kRows: the same lists.
-/
namespace Go.Proofs.Ytcbcgapnoompbaa
open Go.RowKit Go.Deep
set_option linter.unusedVariables false
set_option linter.unusedVariables false

theorem kRows_same (A A' : Option Addr) (n c c' B : Nat) (vs vs' : List Value) (zss : List (List Int)) (w : World) (h : Vals w B A n vs) (hr : IntVs w B vs zss) (h' : Vals w B A' n vs') (hr' : IntVs w B vs' zss) (hB : B ≤ w.heap.size) (hn : n ≤ 17592186044416)
    (hz : ∀ k, k < zss.length → (zss.getD k []).length ≤ 17592186044416) :
    Calls Try.prog 16 #[.slice A n c, .slice A' n c'] w fun e w' => e = .returned (.bool true) ∧ Below w.heap.size w w' := by
  obtain rfl : zss.length = n := (h.1.symm.trans hr.1).symm
  have hne : ((zss.length : Int) != (zss.length : Int)) = false := by simp
  have HV := hide h
  have HV' := hide h'
  have HR := hide hr
  have HR' := hide hr'
  have HZ := hide hz
  clear h h' hr hr' hz
  go_enter Try.func16, Try.ntmps16
  go_wp2_with fail
  go_loopw [13] (fun i wr => ∃ k : Nat, k ≤ zss.length ∧ i = .int .i64 k ∧ Below w.heap.size w wr)
    (fun i _ => zss.length - (intOf i).toNat)
  case atStart => exact ⟨0, Nat.zero_le _, rfl, Below.refl _ _⟩
  case round =>
    obtain ⟨k, hk, rfl, hb⟩ := hrel
    have BB := hide hb
    have hsz := hb.size
    clear hb
    by_cases hlt : k < zss.length
    · obtain ⟨ad, rfl, hab, hcell⟩ := (HV.out.below BB.out hB).at_ hlt
      obtain ⟨ad', rfl, hab', hcell'⟩ := (HV'.out.below BB.out hB).at_ hlt
      obtain ⟨A1, c1, e1, r1⟩ := (HR.out.below BB.out hB).2 k (by omega)
      obtain ⟨A2, c2, e2, r2⟩ := (HR'.out.below BB.out hB).2 k (by omega)
      rw [e1] at hcell
      rw [e2] at hcell'
      have hzk := HZ.out k (by omega)
      have HE := hide (fun (W : World) (hb : Below wr.heap.size wr W) => kSame_same A1 A2 (zss.getD k []).length c1 c2 B B (zss.getD k []) W (r1.below hb (by omega)) (r2.below hb (by omega)) (by have := hb.size; omega) (by have := hb.size; omega) hzk)
      clear e1 e2 r1 r2 hzk
      generalize (zss.getD k []).length = L at *
      go_wp2_with fail
      go_still_tail 8, (by kernel_rfl)
      change wpList _ _ _ _ _ wr.drew
      go_wp2_with fail
      refine (HE.out wr.drew (Below.refl _ _).drew).mono ?_; rintro e w2 ⟨rfl, hb2⟩
      have B2 := hide (BB.out.trans (((Below.refl wr.heap.size wr).drew.trans hb2).mono hsz))
      clear hb2
      go_wp2_with fail
      go_roundw
      case rel => exact ⟨k + 1, by omega, by go_num, B2.out⟩
      case measure => simp [intOf]; omega
    · go_wp2_with fail
      go_ret
      exact ⟨rfl, BB.out⟩

end Go.Proofs.Ytcbcgapnoompbaa
