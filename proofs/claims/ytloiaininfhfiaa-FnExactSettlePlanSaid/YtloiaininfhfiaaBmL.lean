
/-
  MOVES THAT HELP, THE PROGRAM's WAY: BestMove, IsSettledPlan.
-/
import Derived.Test.YtloiaininfhfiaaBmK
import Derived.Test.YtloiaininfhfiaaBmS
namespace Go.Proofs.Ytloiaininfhfiaa
open Go.RowKit Go.Deep
set_option linter.unusedVariables false

theorem jobQ_at' (fl M : Nat) : jobQ M (fl : Int) = ((fl / M : Nat) : Int) ∧ macQ M (fl : Int) = ((fl % M : Nat) : Int) := by
  unfold jobQ macQ
  rw [if_neg (by omega), if_neg (by omega)]
  exact ⟨rfl, rfl⟩
theorem bmA_if {zs ps : List Int} {M : Nat} (h : jboth zs M ps = true) :
    flAt (endsL zs ps M) (ps.length * M) < ps.length * M ∧
    (¬ endZ zs (mvd ps M (flAt (endsL zs ps M) (ps.length * M))) M < endZ zs ps M → bmA zs ps M = -1) ∧
    (endZ zs (mvd ps M (flAt (endsL zs ps M) (ps.length * M))) M < endZ zs ps M → bmA zs ps M = (flAt (endsL zs ps M) (ps.length * M) : Int)) := by
  have hm := jboth_m h
  have hl := (jfit_of (jboth_of h).2).1
  have hg := (jgood_of (jask_of (jboth_of h).1).1).1
  have hp : 0 < ps.length * M := Nat.mul_pos (by omega) (by omega)
  have hf := flAt_lt (endsL zs ps M) (by rw [endsL_length]; exact hp) (ps.length * M) (by rw [endsL_length]; exact Nat.le_refl _)
  rw [endsL_length] at hf
  have he := endsL_at zs ps hf
  have hless : less (endsL zs ps M) (endZ zs ps M) (ps.length * M) = decide (endZ zs (mvd ps M (flAt (endsL zs ps M) (ps.length * M))) M < endZ zs ps M) := by
    unfold less
    rw [he, show decide (0 < ps.length * M) = true from by simpa using hp, Bool.true_and]
  refine ⟨hf, fun hc => ?_, fun hc => ?_⟩
  · unfold bmA bmQ
    rw [hless, if_neg (by simpa using hc)]
  · unfold bmA bmQ
    rw [hless, if_pos (by simpa using hc)]

theorem OwnIJm.form2 {w : World} {base n : Nat} {v : Value} {xs : List Int} (h : OwnIJm w base v n xs) (h0 : 0 < n) : ∃ g c, v = .slice (some ⟨g, 0, none⟩) n c ∧ base ≤ g ∧ g < w.heap.size ∧ n ≤ c ∧ c ≤ maxLen := by
  rcases h.1.2 with ⟨_, h1⟩ | ⟨g, cap, cur, rfl, hb, hg, hn, hm, _⟩
  · omega
  · exact ⟨g, cap, rfl, hb, (Array.getElem?_eq_some_iff.1 hg).1, hn, hm⟩
theorem Moves.of {w : World} {base g c M K : Nat} (h : OwnIJm w base (.slice (some ⟨g, 0, none⟩) K c) K (numsJm (jms M K))) (hg : g < w.heap.size) : Moves w g M K := by
  refine ⟨hg, fun k hk => ?_⟩
  obtain ⟨b, off, e, _, h1, h2⟩ := h.list.at_ (k := k) hk (by rw [jms_length]; exact hk)
  injection e with e
  injection e with e1 e2
  subst e1; subst e2
  rw [jms_at hk] at h1 h2
  rw [Nat.zero_add] at h1 h2
  exact ⟨h1, h2⟩

set_option maxRecDepth 100000 in
set_option maxHeartbeats 1000000 in
/-- The program's BestMove. -/
theorem BestMove_any (A : Option Addr) (n c : Nat) (zs : List Int) (m : Int) (A' : Option Addr) (n' c' : Nat) (ps : List Int) (w : World) (hr : Ints w w.heap.size A n zs) (hs : Ints w w.heap.size A' n' ps)
    (hn : n ≤ 17592186044416) (hn' : n' ≤ 17592186044416) :
    Calls Try.prog 8 #[.slice A n c, .int .i64 m, .slice A' n' c'] w fun e w' => e = .returned (.tuple #[.int .i64 (bestJ zs m ps), .int .i64 (bestM zs m ps), .bool (bestOk zs m ps)]) ∧ Below w.heap.size w w' := by
  obtain rfl := hr.len
  obtain rfl := hs.len
  have hmf : ∀ (fn : Fn) (first cap : Array Value) (w : World), (Instr.makeFunc fn first cap).run Try.prog w = .ok (.func fn first cap) w := fun _ _ _ _ => rfl
  -- the three variables
  have o1 := One.made w 22 (.slice A zs.length c)
  have b1 : Below w.heap.size w (w.alloc (.cells #[.slice A zs.length c] 22)) := (Below.refl _ _).alloc (Nat.le_refl _) _
  have z1 : (w.alloc (.cells #[.slice A zs.length c] 22)).heap.size = w.heap.size + 1 := by simp
  have o2 := One.made (w.alloc (.cells #[.slice A zs.length c] 22)) 3 (.int .i64 m)
  have b2 := b1.alloc (by omega) (.cells #[.int .i64 m] 3)
  have o1 := o1.new (.cells #[.int .i64 m] 3)
  have z2 : ((w.alloc (.cells #[.slice A zs.length c] 22)).alloc (.cells #[.int .i64 m] 3)).heap.size = w.heap.size + 1 + 1 := by simp
  have o3 := One.made ((w.alloc (.cells #[.slice A zs.length c] 22)).alloc (.cells #[.int .i64 m] 3)) 22 (.slice A' ps.length c')
  have b3 := b2.alloc (by omega) (.cells #[.slice A' ps.length c'] 22)
  have o1 := o1.new (.cells #[.slice A' ps.length c'] 22)
  have o2 := o2.new (.cells #[.slice A' ps.length c'] 22)
  rw [z1] at o2
  rw [z2] at o3
  have z3 : (((w.alloc (.cells #[.slice A zs.length c] 22)).alloc (.cells #[.int .i64 m] 3)).alloc (.cells #[.slice A' ps.length c'] 22)).heap.size = w.heap.size + 1 + 1 + 1 := by simp
  have HZ := hide z3
  have HB3 := hide b3
  have O1 := hide o1
  have O2 := hide o2
  have O3 := hide o3
  have c1 := o1.cell
  have c2 := o2.cell
  have c3 := o3.cell
  have HR := hide hr
  have HS := hide hs
  clear z1 z2 z3 b1 b2 b3 o1 o2 o3 hr hs
  go_enter Try.func8, Try.ntmps8
  go_wp2_with fail
  generalize (((w.alloc (.cells #[.slice A zs.length c] 22)).alloc (.cells #[.int .i64 m] 3)).alloc (.cells #[.slice A' ps.length c'] 22)) = W at *
  have HEP := hide (EndOfPlan_any A zs.length c zs m A' ps.length c' ps W (HR.out.next HB3.out) (HS.out.next HB3.out) hn hn')
  cases hg : jboth zs m ps
  · have H0 := hide (bestOk_no hg)
    have H1 := hide (bestJ_no H0.out)
    rw [hg] at HEP
    refine HEP.out.mono ?_; rintro e w1 ⟨rfl, hb1⟩
    go_wp2_with fail
    go_ret3
    exact ⟨by rw [H1.out.1, H1.out.2, H0.out]; rfl, HB3.out.trans (hb1.mono HB3.out.size)⟩
  · have hm := jboth_m hg
    obtain ⟨M, rfl⟩ := Int.eq_ofNat_of_zero_le (show 0 ≤ m by omega)
    rw [hg, endN_yes hg, show ((M : Int).toNat) = M from rfl] at HEP
    have hpl := (jfit_of (jboth_of hg).2).1
    have hgd := jgood_of (jask_of (jboth_of hg).1).1
    have hK1 : 0 < ps.length * M := Nat.mul_pos (by omega) (by omega)
    have hMM : M ≤ 4 := by omega
    have hPP : ps.length ≤ 9 := by omega
    have HPL := hide hpl
    have HH := hide (show Held W w.heap.size (w.heap.size + 1 + 1) w.heap.size (w.heap.size + 1) A A' c c' zs ps M from
      ⟨O3.out, O1.out, O2.out, HR.out.below HB3.out (Nat.le_refl _), HS.out.below HB3.out (Nat.le_refl _), HB3.out.size⟩)
    have HFL := hide (fun gl cl X h1 h2 h3 h4 => firstLeastJm_any gl cl w.heap.size (w.heap.size + 1 + 1) w.heap.size (w.heap.size + 1) A A' c c' zs ps M X h1 hg h2 h3 h4)
    have HBY := hide (fun q X h1 h2 => byEnd_any w.heap.size (w.heap.size + 1 + 1) w.heap.size (w.heap.size + 1) A A' c c' zs ps M q X h1 hg h2)
    obtain ⟨hfl, hno, hyes⟩ := bmA_if hg
    have HNO := hide hno
    have HYES := hide hyes
    have HOK := hide (bestOk_yes hg)
    have HJY := hide (fun h => bestJ_yes (zs := zs) (m := (M : Int)) (ps := ps) h)
    have HJN := hide (fun h => bestJ_no (zs := zs) (m := (M : Int)) (ps := ps) h)
    rw [show ((M : Int).toNat) = M from rfl] at HOK HJY
    have HBYF := hide (fun X h1 => HBY.out (flAt (endsL zs ps M) (ps.length * M)) X h1 hfl)
    generalize flAt (endsL zs ps M) (ps.length * M) = fl at *
    generalize hee : endZ zs ps M = e0 at *
    have Hee := hide hee
    generalize hef : endZ zs (mvd ps M fl) M = ef at *
    clear hno hyes hpl hgd hee hef HBY
    refine HEP.out.mono ?_; rintro e w1 ⟨rfl, hb1⟩
    have HH1 := hide (HH.out.next hb1)
    have HB1 := hide (HB3.out.trans (hb1.mono HB3.out.size))
    have d1 := HH1.out.jb.cell
    have d2 := HH1.out.mc.cell
    clear hb1 c1 c2 c3
    go_wp2_with fail
    rw [HPL.out.symm]
    refine (allJobMoves_any ps.length M w1 hPP hMM).mono ?_
    rintro e w2 ⟨v, rfl, hown, hb2⟩
    obtain ⟨gl, cl, rfl, _, hgl, hcl1, hcl2⟩ := hown.form2 hK1
    have HMV := hide (Moves.of hown hgl)
    have HH2 := hide (HH1.out.next hb2)
    have HB2 := hide (HB1.out.trans (hb2.mono HB1.out.size))
    clear hown hb2 d1 d2
    go_wp2_with fail
    refine (HFL.out gl cl w2 HH2.out HMV.out hcl1 hcl2).mono ?_
    rintro e w3 ⟨rfl, hb3⟩
    have hA : Below w3.heap.size w3 (w3.alloc (.cells #[.int .i64 ((fl / M : Nat) : Int), .int .i64 ((fl % M : Nat) : Int)] 38)) := (Below.refl _ _).alloc (Nat.le_refl _) _
    have BX := hide (Bx.new w3 38 (.int .i64 ((fl / M : Nat) : Int)) (.int .i64 ((fl % M : Nat) : Int)))
    have HC4 := hide (HBYF.out _ ((HH2.out.next hb3).next hA))
    have HB4 := hide (HB2.out.trans ((below_next hb3 hA).mono HB2.out.size))
    have HQM := hide (jobQ_at' fl M)
    generalize fl / M = ji at *
    generalize fl % M = mj at *
    clear hb3 hA hcl1 hcl2
    by_cases hc : ef < e0
    · have HA := hide (HYES.out hc)
      have H0 := hide (show bestOk zs (M : Int) ps = true from by rw [HOK.out, HA.out]; simp)
      have H1 := hide (HJY.out H0.out)
      have H2 := hide (show bestJ zs (M : Int) ps = (ji : Int) ∧ bestM zs (M : Int) ps = (mj : Int) from by rw [H1.out.1, H1.out.2, HA.out]; exact HQM.out)
      go_wp2_with fail
      refine HC4.out.mono ?_
      rintro e w5 ⟨rfl, hb5⟩
      have x0 := (BX.out.next hb5).c0
      have x1 := (BX.out.next hb5).c1
      have HB5 := hide (HB4.out.trans (hb5.mono HB4.out.size))
      clear hb5
      go_wp2_with fail
      go_quiet (fail)
      go_wp2_with fail
      go_ret3
      exact ⟨by rw [H2.out.1, H2.out.2, H0.out]; rfl, below_drewN HB5.out _⟩
    · have HA := hide (HNO.out (by omega))
      have H0 := hide (show bestOk zs (M : Int) ps = false from by rw [HOK.out, HA.out]; simp)
      have H1 := hide (HJN.out H0.out)
      go_wp2_with fail
      refine HC4.out.mono ?_
      rintro e w5 ⟨rfl, hb5⟩
      have HB5 := hide (HB4.out.trans (hb5.mono HB4.out.size))
      clear hb5
      go_wp2_with fail
      go_ret3
      exact ⟨by rw [H1.out.1, H1.out.2, H0.out]; rfl, HB5.out⟩

/-- The program's IsSettledPlan. -/
theorem IsSettledPlan_any (A : Option Addr) (n c : Nat) (zs : List Int) (m : Int) (A' : Option Addr) (n' c' : Nat) (ps : List Int) (w : World) (hr : Ints w w.heap.size A n zs) (hs : Ints w w.heap.size A' n' ps)
    (hn : n ≤ 17592186044416) (hn' : n' ≤ 17592186044416) :
    Calls Try.prog 11 #[.slice A n c, .int .i64 m, .slice A' n' c'] w fun e w' => e = .returned (.tuple #[.bool (setlB zs m ps), .bool (jboth zs m ps)]) ∧ Below w.heap.size w w' := by
  cases hg : jboth zs m ps
  · have H1 := hide (show setlB zs m ps = false from by simp [setlB, hg])
    go_enter Try.func11, Try.ntmps11
    go_wp2_with fail
    refine (IsLoadPlan_any _ _ _ _ _ _ _ _ _ _ _ _ hr hs hn hn').mono ?_; rintro e w' ⟨rfl, rfl⟩; rw [hg]
    go_wp2_with fail
    go_ret2
    exact ⟨by rw [H1.out]; rfl, Below.refl _ _⟩
  · have H1 := hide (show setlB zs m ps = !bestOk zs m ps from by simp [setlB, hg])
    have HM := hide (BestMove_any A n c zs m A' n' c' ps w hr hs hn hn')
    generalize bestOk zs m ps = ok at *
    generalize bestJ zs m ps = x at *
    generalize bestM zs m ps = y at *
    cases ok
    all_goals
      go_enter Try.func11, Try.ntmps11
      go_wp2_with fail
      refine (IsLoadPlan_any _ _ _ _ _ _ _ _ _ _ _ _ hr hs hn hn').mono ?_; rintro e w' ⟨rfl, rfl⟩; rw [hg]
      go_wp2_with fail
      refine HM.out.mono ?_; rintro e w1 ⟨rfl, hb1⟩
      go_wp2_with fail
      go_ret2
      exact ⟨by rw [H1.out]; rfl, hb1⟩
end Go.Proofs.Ytloiaininfhfiaa
