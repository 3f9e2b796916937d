
/-
  ZEROS, GREATEST NUMBERS AT LAST, THE PROGRAM's WAY.
-/
import Derived.Test.YtkhcabgpbmhimaaWkG
import Derived.Test.YtkhcabgpbmhimaaCyB
namespace Go.Proofs.Ytkhcabgpbmhimaa
open Go.RowKit Go.Deep
set_option linter.unusedVariables false

theorem fold_zeros (a : Int) (h : 0 ≤ a) (k : Nat) : (List.replicate k (0 : Int)).foldl max a = a := by
  induction k with
  | zero => rfl
  | succ k ih => rw [List.replicate_succ, List.foldl_cons, show max a 0 = a by omega, ih]
theorem mx_pad {zs : List Int} (h0 : 0 < zs.length) (h : within 0 1000 zs = true) : mx (pad10 zs) = mx zs := by
  have h1 := (mx_bd h0 h).1
  cases zs with
  | nil => simp at h0
  | cons x xs =>
    unfold mx at *
    unfold pad10
    have e : ((x :: xs) ++ List.replicate (10 - (x :: xs).length) (0 : Int)).headD 0 = x := by simp
    rw [e, List.foldl_append]
    exact fold_zeros _ h1 _
theorem pad_zero {zs : List Int} (h0 : 0 < zs.length) (h10 : zs.length ≤ 10) (h : within 0 1000 zs = true) : (pad10 zs == zero10) = (mx zs == 0) := by
  rw [Bool.eq_iff_iff, beq_iff_eq, beq_iff_eq, mx_zeros h0 h]
  constructor
  · intro e
    have e1 := pad10_take zs
    rw [e] at e1
    rw [← e1]
    unfold zero10
    rw [List.take_replicate]
    simp
  · intro e
    unfold pad10 zero10
    rw [e, List.length_replicate, List.replicate_append_replicate]
    congr 1
    omega
theorem lastF_within {zs : List Int} (h : rgood zs = true) : within 0 1000 (lastF zs) = true := rit_within (rgood_of h).2.2 _
theorem WkAt.againInts {w : World} {b : Nat} {n : Int} {F : Value} {st ag : List Int} {l p : Int} (h : WkAt w b n F st ag l p) : Ints w w.heap.size (some ⟨b, 12, none⟩) 10 ag :=
  ⟨h.ha, fun _ => ⟨_, rfl, h.lt, fun k hk => by
    rw [Addr.add_mid]
    have hk' : k < ag.length := by rw [h.ha]; exact hk
    exact h.again k _ (by rw [List.getElem?_map, List.getElem?_eq_getElem hk']; simp [List.getD, List.getElem?_eq_getElem hk'])⟩⟩

section
variable {ops : Array Oper} {rest : List Oper} {o : Oper} {a : Act} {w : World} {Q : Exit → Act → World → Prop}
theorem eql_rowsR (xs ys : List Int) (hx : xs.length = 10) (hy : ys.length = 10) (w : World) : (binOp .eql 43 (aggA xs) (aggA ys)).run Try.prog w = .ok (.bool (xs == ys)) w := by
  have h := equal_rows xs ys hx hy w
  unfold aggA at *
  rw [run_eql_struct, h]
  rfl
theorem wpList_arr_eql (hgd : o.guard = none) (x y : Operand) (r : TypeId) (ho : o.op = .binOp .eql 43 x y r) (xs ys : List Int)
    (hx : a.eval x = aggA xs) (hy : a.eval y = aggA ys) (hlx : xs.length = 10) (hly : ys.length = 10) (e : Bool) (he : (xs == ys) = e)
    (h : wpList Try.prog ops Q rest (a.put o.dst (.bool e)) w) :
    wpList Try.prog ops Q (o :: rest) a w := by
  refine wpList_plain hgd fun K hK => ?_
  subst he
  unfold Oper.wp execOp
  have hgd2 : (eqGuard .eql 43 x y (aggA xs) (aggA ys)).run Try.prog w = .ok () w := run_eqGuard_agg w .eql 43 x y _ _ rowGuardR
  simp only [ho, hx, hy, Sem.run_bind, hgd2, Result.andThen_ok, eql_rowsR xs ys hlx hly w]
  exact hK _ _ h
theorem built_arr0 : Try.prog.built 43 [] = some (zero10.map (Value.int .i64)).toArray := by kernel_rfl
theorem wpList_arr_build0 (hgd : o.guard = none) (ho : o.op = .build 43 #[])
    (h : wpList Try.prog ops Q rest (a.put o.dst (aggA zero10)) w) : wpList Try.prog ops Q (o :: rest) a w := by
  refine wpList_build hgd 43 _ ho ?_ ?_
  · simp [built_arr0]
  · simp only [List.map_toArray, List.map_nil, built_arr0, Option.getD_some]
    exact h
end
theorem comesToZero_any (b : Nat) (n : Int) (F : Value) (st ag : List Int) (l p : Int) (w : World) (hW : WkAt w b n F st ag l p) (e : Bool) (he : (ag == zero10) = e) :
    Calls Try.prog 20 #[.pointer (some ⟨b, 0, none⟩)] w fun e' w' => e' = .returned (.bool e) ∧ w = w' := by
  have HW := hide hW
  have HE := hide he
  have hzl := hide zero10_len
  clear hW he
  go_enter Try.func20, Try.ntmps20
  go_wp2_with (first
    | (with_reducible refine wpList_wk_load rfl (.tmp 5) rfl b 12 ag rfl HW.out.ha HW.out.again ?_)
    | (with_reducible refine wpList_arr_build0 (o := ⟨some 7, _, _, _, _, _⟩) rfl rfl ?_)
    | (with_reducible refine wpList_arr_eql rfl (.tmp 6) (.tmp 7) _ rfl ag zero10 rfl rfl HW.out.ha hzl.out e HE.out ?_))
  go_ret
  exact ⟨rfl, rfl⟩

set_option maxRecDepth 100000 in
/-- The program's StepsToZero. -/
theorem StepsToZero_any (A : Option Addr) (n c : Nat) (zs : List Int) (w : World) (hr : Ints w w.heap.size A n zs) (hn : n ≤ 17592186044416) :
    Calls Try.prog 13 #[.slice A n c] w fun e w' => e = .returned (.tuple #[.int .i64 (stzR zs), .bool (ctzR zs)]) ∧ Below w.heap.size w w' := by
  obtain rfl := hr.len
  have hzl := hide zero10_len
  cases hg : rgood zs
  · have HR := hide (show ctzR zs = false by simp [ctzR, hg])
    have HR2 := hide (show stzR zs = 0 by simp [stzR, HR.out])
    go_enter Try.func13, Try.ntmps13
    go_wp2_with fail
    refine (walkFrom_no A zs.length c zs w hr hn hg).mono ?_; rintro e w1 ⟨rfl, hb1⟩
    have B1 := hide hb1
    clear hb1
    go_wp2_with (first
      | (with_reducible refine wpList_wk_new (o := ⟨some 4, _, _, _, _, _⟩) rfl rfl ?_; intro w4 hW4 hb4; have N4 := hide hW4; have B4 := hide (below_next B1.out hb4); clear hW4 hb4)
      | (with_reducible refine wpList_wk_put rfl (.tmp 4) (.tmp 9) rfl w1.heap.size _ _ _ _ _ _ _ _ _ _ _ _ rfl rfl nilF_one hzl.out hzl.out N4.out ?_; intro w5 hW5 ho5; have W5 := hide hW5; have B5 := hide (B4.out.trans (ho5.below.mono B1.out.size)); have hcl := hW5.cl; have hcp := hW5.cp; have hc0 := hW5.c0; clear hW5 ho5))
    go_ret2
    exact ⟨by rw [HR.out, HR2.out]; rfl, B5.out⟩
  · have HR := hide (show (pad10 (lastF zs) == zero10) = ctzR zs by rw [pad_zero (by rw [lastF_length]; have := (rgood_of hg).1; omega) (by rw [lastF_length]; exact (rgood_of hg).2.1) (lastF_within hg)]; simp [ctzR, hg])
    have HP := hide (pad10_len (rgood_of hg).2.1)
    have HPl := hide (lastF_pad hg)
    cases hz : ctzR zs
    · have HR2 := hide (show stzR zs = 0 by simp [stzR, hz])
      rw [hz] at HR
      go_enter Try.func13, Try.ntmps13
      go_wp2_with fail
      refine (walkFrom_yes A zs.length c zs w hr hg).mono ?_; rintro e w1 ⟨bd, bs, rfl, hbd, hbs, hs1, hb1⟩
      have S1 := hide hs1
      have hbd1 : bd < w1.heap.size := hs1.2.2.1
      have hbs1 : bs < w1.heap.size := hs1.2.2.2
      have B1 := hide hb1
      clear hs1 hb1
      go_wp2_with (first
        | (with_reducible refine wpList_wk_new (o := ⟨some 4, _, _, _, _, _⟩) rfl rfl ?_; intro w4 hW4 hb4; have N4 := hide hW4; have B4 := hide (below_next B1.out hb4); have S4 := hide (S1.out.next hb4); clear hW4 hb4)
        | (with_reducible refine wpList_wk_put rfl (.tmp 4) (.tmp 9) rfl w1.heap.size _ _ _ _ _ _ _ _ _ _ _ _ rfl rfl (stepF_one bd bs) HP.out HPl.out N4.out ?_; intro w5 hW5 ho5; have W5 := hide hW5; have B5 := hide (B4.out.trans (ho5.below.mono B1.out.size)); have S5 := hide (S4.out.same (ho5.rest bd (Nat.ne_of_lt hbd1)) (ho5.rest bs (Nat.ne_of_lt hbs1)) (by rw [ho5.size]; exact Nat.le_refl _)); have hcl := hW5.cl; have hcp := hW5.cp; have hc0 := hW5.c0; clear hW5 ho5))
      refine (comesToZero_any _ _ _ _ _ _ _ w5 W5.out false HR.out).mono ?_
      rintro e w' ⟨rfl, rfl⟩
      go_wp2_with fail
      go_ret2
      exact ⟨by rw [HR2.out]; rfl, B5.out⟩
    · have HR2 := hide (show stzR zs = (leadF zs : Int) by simp [stzR, hz])
      rw [hz] at HR
      go_enter Try.func13, Try.ntmps13
      go_wp2_with fail
      refine (walkFrom_yes A zs.length c zs w hr hg).mono ?_; rintro e w1 ⟨bd, bs, rfl, hbd, hbs, hs1, hb1⟩
      have S1 := hide hs1
      have hbd1 : bd < w1.heap.size := hs1.2.2.1
      have hbs1 : bs < w1.heap.size := hs1.2.2.2
      have B1 := hide hb1
      clear hs1 hb1
      go_wp2_with (first
        | (with_reducible refine wpList_wk_new (o := ⟨some 4, _, _, _, _, _⟩) rfl rfl ?_; intro w4 hW4 hb4; have N4 := hide hW4; have B4 := hide (below_next B1.out hb4); have S4 := hide (S1.out.next hb4); clear hW4 hb4)
        | (with_reducible refine wpList_wk_put rfl (.tmp 4) (.tmp 9) rfl w1.heap.size _ _ _ _ _ _ _ _ _ _ _ _ rfl rfl (stepF_one bd bs) HP.out HPl.out N4.out ?_; intro w5 hW5 ho5; have W5 := hide hW5; have B5 := hide (B4.out.trans (ho5.below.mono B1.out.size)); have S5 := hide (S4.out.same (ho5.rest bd (Nat.ne_of_lt hbd1)) (ho5.rest bs (Nat.ne_of_lt hbs1)) (by rw [ho5.size]; exact Nat.le_refl _)); have hcl := hW5.cl; have hcp := hW5.cp; have hc0 := hW5.c0; clear hW5 ho5))
      refine (comesToZero_any _ _ _ _ _ _ _ w5 W5.out true HR.out).mono ?_
      rintro e w' ⟨rfl, rfl⟩
      go_wp2_with fail
      go_ret2
      exact ⟨by rw [HR2.out]; rfl, B5.out⟩
end Go.Proofs.Ytkhcabgpbmhimaa
