
/-
  ZEROS, GREATEST NUMBERS AT LAST, THE PROGRAM's WAY.
-/
import Derived.Test.YthmagflffffgfaaWkG
import Derived.Test.YthmagflffffgfaaCyB
namespace Go.Proofs.Ythmagflffffgfaa
open Go.RowKit Go.Deep
set_option linter.unusedVariables false

theorem fold_zeros (a : Int) (h : 0 ≤ a) (k : Nat) : (List.replicate k (0 : Int)).foldl max a = a := by
  induction k with
  | zero => rfl
  | succ k ih => rw [List.replicate_succ, List.foldl_cons, show max a 0 = a by omega, ih]
theorem mx_pad {zs : List Int} (h0 : 0 < zs.length) (h : within 0 1000 zs = true) : mx (pad10 zs) = mx zs := by
  have h1 := (mx_bd h0 h).1
  cases zs with
  | nil => simp at h0
  | cons x xs =>
    unfold mx at *
    unfold pad10
    have e : ((x :: xs) ++ List.replicate (10 - (x :: xs).length) (0 : Int)).headD 0 = x := by simp
    rw [e, List.foldl_append]
    exact fold_zeros _ h1 _
theorem pad_zero {zs : List Int} (h0 : 0 < zs.length) (h10 : zs.length ≤ 10) (h : within 0 1000 zs = true) : (pad10 zs == zero10) = (mx zs == 0) := by
  rw [Bool.eq_iff_iff, beq_iff_eq, beq_iff_eq, mx_zeros h0 h]
  constructor
  · intro e
    have e1 := pad10_take zs
    rw [e] at e1
    rw [← e1]
    unfold zero10
    rw [List.take_replicate]
    simp
  · intro e
    unfold pad10 zero10
    rw [e, List.length_replicate, List.replicate_append_replicate]
    congr 1
    omega
theorem lastF_within {zs : List Int} (h : rgood zs = true) : within 0 1000 (lastF zs) = true := rit_within (rgood_of h).2.2 _
theorem WkAt.againInts {w : World} {b : Nat} {n : Int} {F : Value} {st ag : List Int} {l p : Int} (h : WkAt w b n F st ag l p) : Ints w w.heap.size (some ⟨b, 12, none⟩) 10 ag :=
  ⟨h.ha, fun _ => ⟨_, rfl, h.lt, fun k hk => by
    rw [Addr.add_mid]
    have hk' : k < ag.length := by rw [h.ha]; exact hk
    exact h.again k _ (by rw [List.getElem?_map, List.getElem?_eq_getElem hk']; simp [List.getD, List.getElem?_eq_getElem hk'])⟩⟩

section
variable {ops : Array Oper} {rest : List Oper} {o : Oper} {a : Act} {w : World} {Q : Exit → Act → World → Prop}
theorem eql_rowsR (xs ys : List Int) (hx : xs.length = 10) (hy : ys.length = 10) (w : World) : (binOp .eql 30 (aggA xs) (aggA ys)).run Try.prog w = .ok (.bool (xs == ys)) w := by
  have h := equal_rows xs ys hx hy w
  unfold aggA at *
  rw [run_eql_struct, h]
  rfl
theorem wpList_arr_eql (hgd : o.guard = none) (x y : Operand) (r : TypeId) (ho : o.op = .binOp .eql 30 x y r) (xs ys : List Int)
    (hx : a.eval x = aggA xs) (hy : a.eval y = aggA ys) (hlx : xs.length = 10) (hly : ys.length = 10) (e : Bool) (he : (xs == ys) = e)
    (h : wpList Try.prog ops Q rest (a.put o.dst (.bool e)) w) :
    wpList Try.prog ops Q (o :: rest) a w := by
  refine wpList_plain hgd fun K hK => ?_
  subst he
  unfold Oper.wp execOp
  have hgd2 : (eqGuard .eql 30 x y (aggA xs) (aggA ys)).run Try.prog w = .ok () w := run_eqGuard_agg w .eql 30 x y _ _ rowGuardR
  simp only [ho, hx, hy, Sem.run_bind, hgd2, Result.andThen_ok, eql_rowsR xs ys hlx hly w]
  exact hK _ _ h
theorem built_arr0 : Try.prog.built 30 [] = some (zero10.map (Value.int .i64)).toArray := by kernel_rfl
theorem wpList_arr_build0 (hgd : o.guard = none) (ho : o.op = .build 30 #[])
    (h : wpList Try.prog ops Q rest (a.put o.dst (aggA zero10)) w) : wpList Try.prog ops Q (o :: rest) a w := by
  refine wpList_build hgd 30 _ ho ?_ ?_
  · simp [built_arr0]
  · simp only [List.map_toArray, List.map_nil, built_arr0, Option.getD_some]
    exact h
end
end Go.Proofs.Ythmagflffffgfaa
