
/-
  QUOTIENTS, THE PROGRAM's WAY: hasEmpty, division.
-/
import Derived.Test.YtkpcncgmljapeaaQdS
import Derived.Test.YtkpcncgmljapeaaDbM
import Derived.Test.YtkpcncgmljapeaaHas
namespace Go.Proofs.Ytkpcncgmljapeaa
open Go.RowKit Go.Deep
set_option linter.unusedVariables false

theorem row4_ints {w : World} {g B : Nat} {t : TypeId} {zs : List Int} (h : w.rowIs g t 4 (fun j => .int .i64 (pd zs j))) (hg : g < B) : Ints w B (some ⟨g, 0, none⟩) 4 [pd zs 0, pd zs 1, pd zs 2, pd zs 3] := by
  refine Row.ints (t := t) (zs := [pd zs 0, pd zs 1, pd zs 2, pd zs 3]) ?_ hg
  unfold Row
  refine h.congr (fun i hi => ?_)
  match i, hi with
  | 0, _ => rfl
  | 1, _ => rfl
  | 2, _ => rfl
  | 3, _ => rfl
theorem hasEmpty_any (zs : List Int) (w : World) :
    Calls Try.prog 18 #[.agg #[.int .i64 (pd zs 0), .int .i64 (pd zs 1), .int .i64 (pd zs 2), .int .i64 (pd zs 3)]] w fun e w' => e = .returned (.bool (inL [pd zs 0, pd zs 1, pd zs 2, pd zs 3] 0)) ∧ Below w.heap.size w w' := by
  have hrow := row4_alloc w zs 36
  have hb : Below w.heap.size w (w.alloc (.cells #[.int .i64 (pd zs 0), .int .i64 (pd zs 1), .int .i64 (pd zs 2), .int .i64 (pd zs 3)] 36)) := (Below.refl _ _).alloc (Nat.le_refl _) _
  have hz : w.heap.size < (w.alloc (.cells #[.int .i64 (pd zs 0), .int .i64 (pd zs 1), .int .i64 (pd zs 2), .int .i64 (pd zs 3)] 36)).heap.size := by simp
  have HI := hide (Contains_in (some ⟨w.heap.size, 0, none⟩) 4 4 _ _ 0 _ (row4_ints hrow hz) (by omega))
  have HB := hide hb
  clear hrow hz hb
  generalize inL [pd zs 0, pd zs 1, pd zs 2, pd zs 3] 0 = b at *
  go_enter Try.func18, Try.ntmps18
  go_wp2_with fail
  refine HI.out.mono ?_; rintro e w' ⟨rfl, rfl⟩
  go_wp2_with fail
  go_ret
  exact ⟨rfl, HB.out⟩

theorem row3 (w : World) (t : TypeId) : Row (w.alloc (.cells #[.int .i64 0, .int .i64 1, .int .i64 2] t)) w.heap.size t (rng 3) := by
  unfold Row
  refine (World.rowIs_alloc w _ t (fun i => .int .i64 ((rng 3).getD i 0)) (fun i hi => ?_))
  match i, hi with
  | 0, _ => rfl
  | 1, _ => rfl
  | 2, _ => rfl

set_option maxRecDepth 100000 in
theorem division_any (zs : List Int) (ia ib ic : Nat) (w : World) (hs : small zs) (hl : zs.length = 3) (o : QOrd zs ia ib ic) (h0 : 0 < zs.getD ia 0) (hq40 : (zs.getD ib 0 / zs.getD ia 0).toNat ≤ 40) :
    Calls Try.prog 19 #[.agg #[.int .i64 (pd zs 0), .int .i64 (pd zs 1), .int .i64 (pd zs 2), .int .i64 (pd zs 3)]] w
      fun e w' => ∃ A' c', e = .returned (.slice A' (digs ia ib ic (zs.getD ib 0 / zs.getD ia 0).toNat).length c') ∧ OwnIDb w' w.heap.size (.slice A' (digs ia ib ic (zs.getD ib 0 / zs.getD ia 0).toNat).length c') (digs ia ib ic (zs.getD ib 0 / zs.getD ia 0).toNat).length (numsDb (digs ia ib ic (zs.getD ib 0 / zs.getD ia 0).toNat)) ∧ Below w.heap.size w w' := by
  have hmf : ∀ (fn : Fn) (first cap : Array Value) (w : World), (Instr.makeFunc fn first cap).run Try.prog w = .ok (.func fn first cap) w := fun _ _ _ _ => rfl
  have hrow := row4_alloc w zs 36
  have Hrow := hide hrow
  have HS := hide hs
  have HL := hide hl
  have HEQ := hide o.eq
  have ha3 := o.ha; have hb3 := o.hb; have hc3 := o.hc
  have hxab := o.le1
  have hy40 := o.hi ib hb3
  have hdl := hide (digs_len ia ib ic (zs.getD ib 0 / zs.getD ia 0).toNat)
  have hqt : zs.getD ib 0 / zs.getD ia 0 = ((zs.getD ib 0 / zs.getD ia 0).toNat : Int) := by
    have : 0 ≤ zs.getD ib 0 / zs.getD ia 0 := Int.ediv_nonneg (by omega) (by omega)
    omega
  have HQT := hide hqt
  have HPA := hide (show pd zs ia = zs.getD ia 0 from by rw [pd_lt (by omega), getD_at (by omega)])
  have HPB := hide (show pd zs ib = zs.getD ib 0 from by rw [pd_lt (by omega), getD_at (by omega)])
  clear hrow hs hl o hqt
  generalize hq0e : (zs.getD ib 0 / zs.getD ia 0).toNat = q0 at *
  clear hq0e
  generalize hxx : zs.getD ia 0 = x at *
  generalize hyy : zs.getD ib 0 = y at *
  clear hxx hyy
  have ha4 : (ia : Int) < 4 := by omega
  have hb4 : (ib : Int) < 4 := by omega
  go_enter Try.func19, Try.ntmps19
  go_wp2_with fail
  have hA0 : Below w.heap.size w (w.alloc (.cells #[.int .i64 (pd zs 0), .int .i64 (pd zs 1), .int .i64 (pd zs 2), .int .i64 (pd zs 3)] 36)) := (Below.refl _ _).alloc (Nat.le_refl _) _
  have zA : (w.alloc (.cells #[.int .i64 (pd zs 0), .int .i64 (pd zs 1), .int .i64 (pd zs 2), .int .i64 (pd zs 3)] 36)).heap.size = w.heap.size + 1 := by simp
  have Hrow := hide (Hrow.out)
  generalize (w.alloc (.cells #[.int .i64 (pd zs 0), .int .i64 (pd zs 1), .int .i64 (pd zs 2), .int .i64 (pd zs 3)] 36)) = WA at *
  have r3 := row3 WA 3
  have hA1 : Below WA.heap.size WA (WA.alloc (.cells #[.int .i64 0, .int .i64 1, .int .i64 2] 3)) := (Below.refl _ _).alloc (Nat.le_refl _) _
  have zB : (WA.alloc (.cells #[.int .i64 0, .int .i64 1, .int .i64 2] 3)).heap.size = w.heap.size + 2 := by simp; omega
  rw [zA] at r3 hA1
  generalize (WA.alloc (.cells #[.int .i64 0, .int .i64 1, .int .i64 2] 3)) = WB at *
  have hrowB := Hrow.out.of_block (hA1.block w.heap.size (by omega))
  have hsort := sortStable_any w.heap.size 0 0 (w.heap.size + 1) 3 (w.heap.size + 1) none zs WB hrowB HS.out (by rw [HL.out]; omega) (by rw [HL.out]; omega) (by rw [HL.out]; exact r3) (Nat.zero_le _) (by omega) (Nat.le_refl _)
  rw [HL.out, HEQ.out] at hsort
  refine hsort.mono ?_; rintro e w2 ⟨rfl, hrq, hb2⟩
  have e0 : w2.cell? ⟨w.heap.size + 1, 0, none⟩ = some (.int .i64 (ia : Int)) := World.rowIs.cell hrq (by show 0 < 3; omega)
  have e1 : w2.cell? ⟨w.heap.size + 1, 1, none⟩ = some (.int .i64 (ib : Int)) := World.rowIs.cell hrq (by show 1 < 3; omega)
  have e2 : w2.cell? ⟨w.heap.size + 1, 2, none⟩ = some (.int .i64 (ic : Int)) := World.rowIs.cell hrq (by show 2 < 3; omega)
  have hrow2 := hrowB.of_block (hb2.block w.heap.size (by omega))
  have pa := World.rowIs.cell hrow2 (show ia < 4 by omega)
  have pb := World.rowIs.cell hrow2 (show ib < 4 by omega)
  rw [HPA.out] at pa
  rw [HPB.out] at pb
  have hsz2 := hb2.size
  have HBB := hide (hA0.trans ((hA1.trans hb2).mono (by omega)))
  clear hsort hrq hb2 hrow2 hrowB r3 hA1 hA0 Hrow HPA HPB
  go_wp2_with fail
  go_region
  go_wp2_with fail
  go_region
  go_wp2_with fail
  go_simp
  rw [HQT.out]
  have HCL := hide (fun (q : Nat) (h : q ≠ 0) (h1 : q % 2 = 1) => digs_one (a := ia) (b := ib) (c := ic) h1)
  have HCE := hide (fun (q : Nat) (h : q ≠ 0) (h1 : ¬ q % 2 = 1) => digs_two (a := ia) (b := ib) (c := ic) h h1)
  have HZ := hide (digs_zero ia ib ic)
  generalize hRe : digs ia ib ic q0 = R at *
  have HRE := hide hRe
  clear hRe HQT e0 e1 e2 pa pb
  have hRl := hdl.out
  go_loopw [7, 8] (fun v qv wr => ∃ (q : Nat) (L : List Db), qv = .int .i64 q ∧ q ≤ 40 ∧ OwnIDb wr w.heap.size v L.length (numsDb L) ∧ Hid (L ++ digs ia ib ic q = R) ∧ Below w.heap.size w wr)
    (fun _ qv _ => (intOf qv).toNat)
  case atStart => exact ⟨q0, [], rfl, hq40, OwnIDb.nil _ _, hide HRE.out, below_drewN HBB.out 2⟩
  case round =>
    obtain ⟨q, L, rfl, hq, hown, HR, hb⟩ := hrel
    have hL1 : L.length < 1000000 := by
      have e1 := congrArg List.length HR.out
      simp only [List.length_append] at e1
      omega
    have hsz := hb.size
    have HOW := hide hown
    clear hown
    by_cases h0q : q = 0
    · subst h0q
      have hLR : L = R := by have := HR.out; rwa [HZ.out, List.append_nil] at this
      subst hLR
      obtain ⟨A7, c7, rfl⟩ := HOW.out.shape
      go_wp2_with fail
      go_ret
      exact ⟨A7, c7, by rw [HRE.out]; rfl, by rw [HRE.out]; exact HOW.out, hb⟩
    · have hq0 : (0 : Int) < (q : Int) := by omega
      by_cases hod : q % 2 = 1
      · have hodI : (q : Int) % 2 = 1 := by omega
        have HR2 := hide (show (L ++ [⟨(ib : Int), (ia : Int)⟩]) ++ digs ia ib ic (q / 2) = R from by have := HR.out; rw [HCL.out q h0q hod] at this; rw [List.append_assoc]; exact this)
        go_wp2_with (at_builtin; refine wpList_app_Db rfl _ _ 23 rfl Try.underlying23 w.heap.size _ L rfl HOW.out ⟨(ib : Int), (ia : Int)⟩ _ rfl hsz hL1 ?_; intro v' w' hown' hb')
        go_roundw
        case rel => exact ⟨q / 2, _, by rw [show ((q / 2 : Nat) : Int) = (q : Int) / 2 from by omega], by omega, hown', HR2, hb.trans hb'⟩
        case measure => simp [intOf]; omega
      · have hodI : ¬ (q : Int) % 2 = 1 := by omega
        have HR2 := hide (show (L ++ [⟨(ic : Int), (ia : Int)⟩]) ++ digs ia ib ic (q / 2) = R from by have := HR.out; rw [HCE.out q h0q hod] at this; rw [List.append_assoc]; exact this)
        go_wp2_with (at_builtin; refine wpList_app_Db rfl _ _ 23 rfl Try.underlying23 w.heap.size _ L rfl HOW.out ⟨(ic : Int), (ia : Int)⟩ _ rfl hsz hL1 ?_; intro v' w' hown' hb')
        go_roundw
        case rel => exact ⟨q / 2, _, by rw [show ((q / 2 : Nat) : Int) = (q : Int) / 2 from by omega], by omega, hown', HR2, hb.trans hb'⟩
        case measure => simp [intOf]; omega
end Go.Proofs.Ytkpcncgmljapeaa
