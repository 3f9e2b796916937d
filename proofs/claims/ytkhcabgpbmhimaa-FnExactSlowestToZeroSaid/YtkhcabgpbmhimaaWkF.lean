
/-
  WHERE THE STEPS FROM A RING LEAD, THE PROGRAM's WAY: walkFrom; LeadOfRing and PeriodOfRing.
-/
import Derived.Test.YtkhcabgpbmhimaaWkL
import Derived.Test.YtkhcabgpbmhimaaWkB
import Derived.Test.YtkhcabgpbmhimaaRiS
namespace Go.Proofs.Ytkhcabgpbmhimaa
open Go.RowKit Go.Deep
set_option linter.unusedVariables false

set_option maxRecDepth 100000 in
theorem walkFrom_no (A : Option Addr) (n c : Nat) (zs : List Int) (w : World) (hr : Ints w w.heap.size A n zs) (hn : n ≤ 17592186044416) (hg : rgood zs = false) :
    Calls Try.prog 19 #[.slice A n c] w fun e w' => e = .returned (.tuple #[aggW 0 .nilFunc zero10 zero10 0 0, .bool false]) ∧ Below w.heap.size w w' := by
  have HI := hide (fun W (hb : Below w.heap.size w W) => IsRing_any A n c w.heap.size zs W (hr.below hb (Nat.le_refl _)) hn)
  have hzl := hide zero10_len
  go_enter Try.func19, Try.ntmps19
  go_wp2_with (with_reducible refine wpList_wk_new (o := ⟨some 2, _, _, _, _, _⟩) rfl rfl ?_; intro w1 hW1 hb1; have W1 := hide hW1; have B1 := hide hb1; clear hW1 hb1)
  refine (HI.out w1 B1.out).mono ?_; rintro e w' ⟨rfl, rfl⟩; rw [hg]
  go_wp2_with (first
    | (with_reducible refine wpList_wk_build0 (o := ⟨some 8, _, _, _, _, _⟩) rfl rfl ?_)
    | (with_reducible refine wpList_wk_put rfl (.tmp 2) (.tmp 8) rfl w.heap.size _ _ _ _ _ _ _ _ _ _ _ _ rfl rfl nilF_one hzl.out hzl.out W1.out ?_; intro w2 hW2 ho2; have W2 := hide hW2; have B2 := hide (B1.out.trans ho2.below); clear hW2 ho2))
  exact bodyPost_ret (results_wk2 rfl _ _ _ _ _ _ _ _ _ rfl W2.out) rfl ⟨rfl, B2.out⟩

/-- WHAT walkFrom LEAVES of a ring. -/
def Walked (zs : List Int) (w : World) (e : Ending) (w' : World) : Prop :=
  ∃ bd bs, e = .returned (.tuple #[aggW zs.length (stepF bd bs) (pad10 zs) (pad10 (lastF zs)) (leadF zs) (perF zs), .bool true]) ∧ w.heap.size ≤ bd ∧ w.heap.size ≤ bs ∧ StepAt w' bd bs zs.length ∧ Below w.heap.size w w'

set_option maxRecDepth 100000 in
set_option maxHeartbeats 2000000 in
theorem walkFrom_yes (A : Option Addr) (n c : Nat) (zs : List Int) (w : World) (hr : Ints w w.heap.size A n zs) (hg : rgood zs = true) :
    Calls Try.prog 19 #[.slice A n c] w (Walked zs w) := by
  obtain rfl := hr.len
  obtain ⟨hg1, hg2, hg3⟩ := rgood_of hg
  obtain ⟨hcy, hmp⟩ := cycF hg
  have HI := hide (fun W (hb : Below w.heap.size w W) => IsRing_any A zs.length c w.heap.size zs W (hr.below hb (Nat.le_refl _)) (by omega))
  have HRo := hide (fun W (hb : Below w.heap.size w W) => ringRowOf_any A zs.length c w.heap.size zs W (hr.below hb (Nat.le_refl _)) hb.size hg2)
  have HG := hide hg
  have HCY := hide hcy
  have hzl := hide zero10_len
  have HP := hide (pad10_len hg2)
  clear hcy hr hg3
  go_enter Try.func19, Try.ntmps19
  go_wp2_with (with_reducible refine wpList_wk_new (o := ⟨some 2, _, _, _, _, _⟩) rfl rfl ?_; intro w1 hW1 hb1; have W1 := hide hW1; have B1 := hide hb1; clear hW1 hb1)
  refine (HI.out w1 B1.out).mono ?_; rintro e w' ⟨rfl, rfl⟩; rw [hg]
  go_wp2_with fail
  refine (stepFor_any _ _).mono ?_; rintro e w2 ⟨bd, bs, rfl, hbd, hbs, hs2, hb2⟩
  have S2 := hide hs2
  have B2 := hide (B1.out.trans (hb2.mono B1.out.size))
  have W2 := hide (W1.out.next hb2)
  have hs1 := B1.out.size
  have hlt1 := W1.out.lt
  clear hs2 hb2
  go_wp2_with fail
  refine (HRo.out w2 B2.out).mono ?_; rintro e w3 ⟨rfl, hb3⟩
  have S3 := hide (S2.out.next hb3)
  have B3 := hide (B2.out.trans (hb3.mono B2.out.size))
  have W3 := hide (W2.out.next hb3)
  have hbd3 : bd < w3.heap.size := S3.out.2.2.1
  have hbs3 : bs < w3.heap.size := S3.out.2.2.2
  have hs3 := B3.out.size
  clear hb3
  go_wp2_with (first
    | (with_reducible refine wpList_wk_build (o := ⟨some 16, _, _, _, _, _⟩) rfl (.tmp 10) (.tmp 13) (.tmp 15) zs.length bd bs (pad10 zs) rfl rfl rfl rfl HP.out ?_)
    | (with_reducible refine wpList_wk_new (o := ⟨some 4, _, _, _, _, _⟩) rfl rfl ?_; intro w4 hW4 hb4; have N4 := hide hW4; have W4 := hide (W3.out.next hb4); have B4 := hide (B3.out.trans (hb4.mono hs3)); have S4 := hide (S3.out.next hb4); clear hW4 hb4)
    | (with_reducible refine wpList_wk_put rfl (.tmp 4) (.tmp 16) rfl w3.heap.size _ _ _ _ _ _ _ _ _ _ _ _ rfl rfl (stepF_one bd bs) HP.out hzl.out N4.out ?_; intro w5 hN5 ho5; have N5 := hide hN5; have W5 := hide (W4.out.same (ho5.rest w.heap.size (by have := W3.out.lt; omega))); have B5 := hide (B4.out.trans (ho5.below.mono hs3)); have S5 := hide (S4.out.same (ho5.rest bd (Nat.ne_of_lt hbd3)) (ho5.rest bs (Nat.ne_of_lt hbs3)) (by rw [ho5.size]; exact Nat.le_refl _)); clear hN5 ho5))
  have hne1 : bd ≠ w3.heap.size := Nat.ne_of_lt hbd3
  have hne2 : bs ≠ w3.heap.size := Nat.ne_of_lt hbs3
  have hw3 : w.heap.size < w3.heap.size := W3.out.lt
  refine (findPeriod_any w3.heap.size bd bs zs zero10 (leadF zs) (perF zs) 0 0 w5 HG.out HCY.out hmp N5.out S5.out hne1 hne2).mono ?_
  rintro e w6 ⟨rfl, hN6, hb6⟩
  have N6 := hide hN6
  have W6 := hide (W5.out.same (hb6.rest w.heap.size W5.out.lt (Nat.ne_of_lt hw3)))
  have B6 := hide (B5.out.trans (hb6.below.mono hs3))
  have S6 := hide (hb6.step S5.out hne1 hne2)
  clear hN6 hb6
  go_wp2_with fail
  refine (findLead_any w3.heap.size bd bs zs zero10 (leadF zs) (perF zs) w6 HG.out HCY.out hmp N6.out S6.out hne1 hne2).mono ?_
  rintro e w7 ⟨rfl, hN7, hb7⟩
  have N7 := hide hN7
  have W7 := hide (W6.out.same (hb7.rest w.heap.size W6.out.lt (Nat.ne_of_lt hw3)))
  have B7 := hide (B6.out.trans (hb7.below.mono hs3))
  have S7 := hide (hb7.step S6.out hne1 hne2)
  clear hN7 hb7
  go_wp2_with (first
    | (with_reducible refine wpList_wk_get rfl (.tmp 4) rfl w3.heap.size _ _ _ _ _ _ rfl N7.out ?_)
    | (with_reducible refine wpList_wk_put rfl (.tmp 2) (.tmp 19) rfl w.heap.size _ _ _ _ _ _ _ _ _ _ _ _ rfl rfl (stepF_one bd bs) HP.out N7.out.ha W7.out ?_; intro w8 hW8 ho8; have W8 := hide hW8; have B8 := hide (B7.out.trans ho8.below); have S8 := hide (S7.out.same (ho8.rest bd (by omega)) (ho8.rest bs (by omega)) (by rw [ho8.size]; exact Nat.le_refl _)); clear hW8 ho8))
  exact bodyPost_ret (results_wk2 rfl _ _ _ _ _ _ _ _ _ rfl W8.out) rfl ⟨bd, bs, rfl, by omega, by omega, S8.out, B8.out⟩
end Go.Proofs.Ytkhcabgpbmhimaa
