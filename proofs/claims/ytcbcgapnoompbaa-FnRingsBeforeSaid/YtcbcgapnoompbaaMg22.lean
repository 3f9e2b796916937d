import Derived.Test.YtcbcgapnoompbaaMg20
import Derived.Test.YtcbcgapnoompbaaMg21
import Derived.Deep.QuietTactic
import Derived.BigQuiet
import Derived.Test.YtcbcgapnoompbaaMg10
import Derived.Test.YtcbcgapnoompbaaMg01

/-
  LEADS, PERIODS, RINGS BEHIND MANY STEPS, ZEROS, GREATEST NUMBERS AT LAST, THE PROGRAM's WAY.
-/
namespace Go.Proofs.Ytcbcgapnoompbaa
open Go.RowKit Go.Deep
set_option linter.unusedVariables false

theorem lastF_pad {zs : List Int} (h : rgood zs = true) : (pad10 (lastF zs)).length = 10 := pad10_len (by rw [lastF_length]; exact (rgood_of h).2.1)

set_option maxRecDepth 100000 in
/-- The program's LeadOfRing. -/
theorem LeadOfRing_any (A : Option Addr) (n c : Nat) (zs : List Int) (w : World) (hr : Ints w w.heap.size A n zs) (hn : n ≤ 17592186044416) :
    Calls Try.prog 22 #[.slice A n c] w fun e w' => e = .returned (.tuple #[.int .i64 (leadR zs), .bool (rgood zs)]) ∧ Below w.heap.size w w' := by
  obtain rfl := hr.len
  have hzl := hide zero10_len
  cases hg : rgood zs
  · have HR := hide (show leadR zs = 0 by simp [leadR, hg])
    go_enter Try.func22, Try.ntmps22
    go_wp2_with fail
    refine (walkFrom_no A zs.length c zs w hr hn hg).mono ?_; rintro e w1 ⟨rfl, hb1⟩
    have B1 := hide hb1
    clear hb1
    go_wp2_with (first
      | (with_reducible refine wpList_wk_new (o := ⟨some 4, _, _, _, _, _⟩) rfl rfl ?_; intro w4 hW4 hb4; have N4 := hide hW4; have B4 := hide (below_next B1.out hb4); clear hW4 hb4)
      | (with_reducible refine wpList_wk_put rfl (.tmp 4) (.tmp 9) rfl w1.heap.size _ _ _ _ _ _ _ _ _ _ _ _ rfl rfl nilF_one hzl.out hzl.out N4.out ?_; intro w5 hW5 ho5; have W5 := hide hW5; have B5 := hide (B4.out.trans (ho5.below.mono B1.out.size)); have hcl := hW5.cl; have hcp := hW5.cp; have hc0 := hW5.c0; clear hW5 ho5))
    go_ret2
    exact ⟨by rw [HR.out]; rfl, B5.out⟩
  · have HR := hide (show leadR zs = (leadF zs : Int) by simp [leadR, hg])
    have HP := hide (pad10_len (rgood_of hg).2.1)
    have HPl := hide (lastF_pad hg)
    go_enter Try.func22, Try.ntmps22
    go_wp2_with fail
    refine (walkFrom_yes A zs.length c zs w hr hg).mono ?_; rintro e w1 ⟨bd, bs, rfl, hbd, hbs, hs1, hb1⟩
    have S1 := hide hs1
    have hbd1 : bd < w1.heap.size := hs1.2.2.1
    have hbs1 : bs < w1.heap.size := hs1.2.2.2
    have B1 := hide hb1
    clear hs1 hb1
    go_wp2_with (first
      | (with_reducible refine wpList_wk_new (o := ⟨some 4, _, _, _, _, _⟩) rfl rfl ?_; intro w4 hW4 hb4; have N4 := hide hW4; have B4 := hide (below_next B1.out hb4); have S4 := hide (S1.out.next hb4); clear hW4 hb4)
      | (with_reducible refine wpList_wk_put rfl (.tmp 4) (.tmp 9) rfl w1.heap.size _ _ _ _ _ _ _ _ _ _ _ _ rfl rfl (stepF_one bd bs) HP.out HPl.out N4.out ?_; intro w5 hW5 ho5; have W5 := hide hW5; have B5 := hide (B4.out.trans (ho5.below.mono B1.out.size)); have S5 := hide (S4.out.same (ho5.rest bd (Nat.ne_of_lt hbd1)) (ho5.rest bs (Nat.ne_of_lt hbs1)) (by rw [ho5.size]; exact Nat.le_refl _)); have hcl := hW5.cl; have hcp := hW5.cp; have hc0 := hW5.c0; clear hW5 ho5))
    go_ret2
    exact ⟨by rw [HR.out]; rfl, B5.out⟩

set_option maxRecDepth 100000 in
/-- The program's PeriodOfRing. -/
theorem PeriodOfRing_any (A : Option Addr) (n c : Nat) (zs : List Int) (w : World) (hr : Ints w w.heap.size A n zs) (hn : n ≤ 17592186044416) :
    Calls Try.prog 21 #[.slice A n c] w fun e w' => e = .returned (.tuple #[.int .i64 (perR zs), .bool (rgood zs)]) ∧ Below w.heap.size w w' := by
  obtain rfl := hr.len
  have hzl := hide zero10_len
  cases hg : rgood zs
  · have HR := hide (show perR zs = 0 by simp [perR, hg])
    go_enter Try.func21, Try.ntmps21
    go_wp2_with fail
    refine (walkFrom_no A zs.length c zs w hr hn hg).mono ?_; rintro e w1 ⟨rfl, hb1⟩
    have B1 := hide hb1
    clear hb1
    go_wp2_with (first
      | (with_reducible refine wpList_wk_new (o := ⟨some 4, _, _, _, _, _⟩) rfl rfl ?_; intro w4 hW4 hb4; have N4 := hide hW4; have B4 := hide (below_next B1.out hb4); clear hW4 hb4)
      | (with_reducible refine wpList_wk_put rfl (.tmp 4) (.tmp 9) rfl w1.heap.size _ _ _ _ _ _ _ _ _ _ _ _ rfl rfl nilF_one hzl.out hzl.out N4.out ?_; intro w5 hW5 ho5; have W5 := hide hW5; have B5 := hide (B4.out.trans (ho5.below.mono B1.out.size)); have hcl := hW5.cl; have hcp := hW5.cp; have hc0 := hW5.c0; clear hW5 ho5))
    go_ret2
    exact ⟨by rw [HR.out]; rfl, B5.out⟩
  · have HR := hide (show perR zs = (perF zs : Int) by simp [perR, hg])
    have HP := hide (pad10_len (rgood_of hg).2.1)
    have HPl := hide (lastF_pad hg)
    go_enter Try.func21, Try.ntmps21
    go_wp2_with fail
    refine (walkFrom_yes A zs.length c zs w hr hg).mono ?_; rintro e w1 ⟨bd, bs, rfl, hbd, hbs, hs1, hb1⟩
    have S1 := hide hs1
    have hbd1 : bd < w1.heap.size := hs1.2.2.1
    have hbs1 : bs < w1.heap.size := hs1.2.2.2
    have B1 := hide hb1
    clear hs1 hb1
    go_wp2_with (first
      | (with_reducible refine wpList_wk_new (o := ⟨some 4, _, _, _, _, _⟩) rfl rfl ?_; intro w4 hW4 hb4; have N4 := hide hW4; have B4 := hide (below_next B1.out hb4); have S4 := hide (S1.out.next hb4); clear hW4 hb4)
      | (with_reducible refine wpList_wk_put rfl (.tmp 4) (.tmp 9) rfl w1.heap.size _ _ _ _ _ _ _ _ _ _ _ _ rfl rfl (stepF_one bd bs) HP.out HPl.out N4.out ?_; intro w5 hW5 ho5; have W5 := hide hW5; have B5 := hide (B4.out.trans (ho5.below.mono B1.out.size)); have S5 := hide (S4.out.same (ho5.rest bd (Nat.ne_of_lt hbd1)) (ho5.rest bs (Nat.ne_of_lt hbs1)) (by rw [ho5.size]; exact Nat.le_refl _)); have hcl := hW5.cl; have hcp := hW5.cp; have hc0 := hW5.c0; clear hW5 ho5))
    go_ret2
    exact ⟨by rw [HR.out]; rfl, B5.out⟩
end Go.Proofs.Ytcbcgapnoompbaa

/-
  THE LAWS' OWN HELPERS: big, kSame, kSize.
-/
namespace Go.Proofs.Ytcbcgapnoompbaa
open Go.RowKit Go.Deep
set_option linter.unusedVariables false

theorem big_no (A A' : Option Addr) (n c n' c' : Nat) (w : World) (h : n + n' ≤ 1048576) :
    Calls Try.prog 4 #[.slice A n c, .slice A' n' c'] w fun e w' => e = .returned (.bool false) ∧ w = w' := by
  go_enter Try.func4, Try.ntmps4
  go_wp2_with fail
  go_ret
  exact ⟨congrArg (fun b => Ending.returned (.bool b)) (by simp; omega), rfl⟩
theorem big_yes (A A' : Option Addr) (n c n' c' : Nat) (w : World) (h : ¬ n + n' ≤ 1048576) :
    Calls Try.prog 4 #[.slice A n c, .slice A' n' c'] w fun e w' => e = .returned (.bool true) ∧ w = w' := by
  by_cases h1 : 1048576 < n
  · go_enter Try.func4, Try.ntmps4
    go_wp2_with fail
    go_ret
    exact ⟨rfl, rfl⟩
  · go_enter Try.func4, Try.ntmps4
    go_wp2_with fail
    go_ret
    exact ⟨congrArg (fun b => Ending.returned (.bool b)) (by simp; omega), rfl⟩
theorem kSame_same (A A' : Option Addr) (n c c' B B' : Nat) (zs : List Int) (w : World) (hr : Ints w B A n zs) (hr' : Ints w B' A' n zs) (hB : B ≤ w.heap.size) (hB' : B' ≤ w.heap.size) (hn : n ≤ 17592186044416) :
    Calls Try.prog 17 #[.slice A n c, .slice A' n c'] w fun e w' => e = .returned (.bool true) ∧ Below w.heap.size w w' := by
  have hlen := hr.len
  have hne : ((n : Int) != (n : Int)) = false := by simp
  go_enter Try.func17, Try.ntmps17
  go_wp2
  go_loopw [13] (fun i wr => ∃ k : Nat, k ≤ n ∧ i = .int .i64 k ∧ Below w.heap.size w wr)
    (fun i _ => n - (intOf i).toNat)
  case atStart => exact ⟨0, Nat.zero_le _, rfl, Below.refl _ _⟩
  case round =>
    obtain ⟨k, hk, rfl, hb⟩ := hrel
    by_cases hlt : k < n
    · obtain ⟨ad, rfl, hab, hcell⟩ := (hr.below hb (by omega)).at_ hlt
      obtain ⟨ad', rfl, hab', hcell'⟩ := (hr'.below hb (by omega)).at_ hlt
      have hxx : ∀ x : Int, (x != x) = false := fun x => by simp
      go_wp2
      go_quiet (fail)
      go_wp2
      go_roundw
      case rel => exact ⟨k + 1, by omega, by go_num, below_drewN hb _⟩
      case measure => simp [intOf]; omega
    · go_wp2
      go_ret
      exact ⟨rfl, hb⟩
end Go.Proofs.Ytcbcgapnoompbaa
