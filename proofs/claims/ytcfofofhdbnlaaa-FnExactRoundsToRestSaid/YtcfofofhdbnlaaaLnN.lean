
/-
  THE ROW OF A LINE: loaded as one value, compared with another.
-/
import Derived.Test.YtcfofofhdbnlaaaLnY
import Derived.Deep.MidRow
import Derived.ChangeKeysEq
namespace Go.Proofs.Ytcfofofhdbnlaaa
open Go.RowKit Go.Deep
set_option linter.unusedVariables false

def rowL (zs ts : List Int) : List Int := (List.range 22).map (rowAt zs ts)
theorem rowL_length (zs ts : List Int) : (rowL zs ts).length = 22 := by simp [rowL]
theorem rowL_get (zs ts : List Int) (q : Nat) (h : q < 22) : (rowL zs ts)[q]? = some (rowAt zs ts q) := by
  unfold rowL; rw [List.getElem?_map, List.getElem?_range h]; rfl
theorem rowL_eq {zs ts us : List Int} (h : rowL zs ts = rowL zs us) (q : Nat) (hq : q < 22) : rowAt zs ts q = rowAt zs us q := by
  have h1 := rowL_get zs ts q hq
  rw [h, rowL_get zs us q hq] at h1
  exact (Option.some.inj h1).symm

/-- Firings that change no row are none. -/
theorem no_change {zs ts us : List Int} (h1 : ts.length = zs.length) (h2 : us.length = zs.length) (h20 : zs.length ≤ 20) (h : rowL zs (plus ts us) = rowL zs ts) : ∀ j : Nat, us.getD j 0 = 0 ∧ (0 :: us : List Int).getD j 0 = 0
  | 0 => by
    have e := rowL_eq h 0 (by omega)
    rw [rowAt_zero, rowAt_zero, plus_getD _ _ _ (by omega)] at e
    exact ⟨by omega, rfl⟩
  | j + 1 => by
    obtain ⟨a, b⟩ := no_change h1 h2 h20 h j
    refine ⟨?_, by rw [getD_cons0]; exact a⟩
    by_cases hj : j + 1 < zs.length
    · have e := rowL_eq h (j + 1) (by omega)
      rw [rowAt_succ, rowAt_succ, plus_getD _ _ _ (by omega), plus_getD _ _ _ (by omega), cons_plus _ _ _ (by omega)] at e
      omega
    · exact getD_over _ _ (by omega)
theorem rows_next {zs : List Int} (hg : hgood zs = true) (r : Nat) : (rowL zs (seqF zs (r + 1)) == rowL zs (seqF zs r)) = restAt zs r := by
  have h20 := (hgood_of hg).2.1
  cases hr : restAt zs r
  · rw [beq_eq_false_iff_ne]
    intro h
    obtain ⟨j, hj, h1⟩ := rested_find hr
    have := (no_change (seqF_length zs r) (by rw [readyF_length]) h20 h j).1
    rw [show readyF zs (seqF zs r) = readyL (chipsOf zs (seqF zs r)) from rfl, readyL_getD, if_pos h1] at this
    omega
  · rw [beq_iff_eq]
    have hz : ∀ j : Nat, (readyF zs (seqF zs r)).getD j 0 = 0 := fun j => by
      rw [show readyF zs (seqF zs r) = readyL (chipsOf zs (seqF zs r)) from rfl, readyL_getD]
      refine if_neg fun h1 => ?_
      by_cases hj : j < (chipsOf zs (seqF zs r)).length
      · have := rested_no j hj h1
        unfold restAt at hr
        rw [hr] at this; cases this
      · rw [getD_over _ _ (by omega)] at h1; omega
    have e : seqF zs (r + 1) = seqF zs r := list_ext_getD (by rw [seqF_length, seqF_length]) fun j _ => by rw [seqF_getD, hz]; omega
    rw [e]

/-- The value of a row. -/
def aggR (xs : List Int) : Value := .agg (xs.map (Value.int .i64)).toArray
theorem rowSize : (Try.prog.info? 39).map (·.size) = some 22 := by kernel_rfl
theorem rowArr : Try.prog.underlying 39 = some (.array 22 3) := by kernel_rfl
theorem rowGuard : Try.prog.eqGuardType Try.prog.depth 39 = false := by kernel_rfl
theorem cellsInt : Try.prog.cellsOf 3 = 1 := by kernel_rfl

theorem row_range {w : World} {b : Nat} {t : TypeId} {zs ts : List Int} (h : LineAt w b t (lineL zs ts)) : w.rangeAt b 1 ((rowL zs ts).map (Value.int .i64)) := fun j v hv => by
  rw [List.getElem?_map] at hv
  obtain ⟨z, hz, rfl⟩ := Option.map_eq_some_iff.1 hv
  have hj : j < 22 := by
    have := (List.getElem?_eq_some_iff.1 hz).1
    rw [rowL_length] at this; exact this
  rw [rowL_get _ _ _ hj] at hz
  injection hz with hz
  subst hz
  exact lineL_cell h j hj

/-- Numbers are compared one by one. -/
theorem eq_ints (d : Nat) (xs ys : List Int) (w : World) : ∀ is : List Nat, (∀ i ∈ is, i < xs.length ∧ i < ys.length) →
    (Op.eqItems (d + 1) 3 1 (xs.map (Value.int .i64)).toArray (ys.map (Value.int .i64)).toArray is).run Try.prog w = .ok (is.all fun i => xs.getD i 0 == ys.getD i 0) w
  | [], _ => rfl
  | i :: is, h => by
    obtain ⟨hx, hy⟩ := h i List.mem_cons_self
    have ih := eq_ints d xs ys w is (fun j hj => h j (List.mem_cons_of_mem _ hj))
    have part_at : ∀ (zs : List Int), i < zs.length → (part 3 (zs.map (Value.int .i64)).toArray (i * 1)).run Try.prog w = .ok (.int .i64 (zs.getD i 0)) w := fun zs hz => by
      have e : ((zs.map (Value.int .i64)).toArray)[i]? = some (.int .i64 (zs.getD i 0)) := by
        rw [List.getElem?_toArray, List.getElem?_map, List.getElem?_eq_getElem hz, getD_ge hz]; rfl
      simp [part, isAgg, Sem.run_bind, run_underlying Try.underlying3, List.getElem?_eq_getElem hz, List.getD]
    rw [Op.eqItems, Sem.run_bind, part_at xs hx, Result.andThen_ok, Sem.run_bind, part_at ys hy, Result.andThen_ok, Sem.run_bind, run_equalIn_int w d 3 .i64 .i64 _ _ Try.underlying3, Result.andThen_ok, List.all_cons]
    cases hb : (xs.getD i 0 == ys.getD i 0)
    · rfl
    · exact ih
theorem all_eq (xs ys : List Int) (h : xs.length = ys.length) : ((List.range xs.length).all fun i => xs.getD i 0 == ys.getD i 0) = (xs == ys) := by
  rw [Bool.eq_iff_iff, List.all_eq_true, beq_iff_eq]
  constructor
  · intro h1
    exact list_ext_getD h fun j hj => by simpa using h1 j (List.mem_range.2 hj)
  · rintro rfl j _
    simp
theorem neq_rows (xs ys : List Int) (hx : xs.length = 22) (hy : ys.length = 22) (w : World) : (binOp .neq 39 (aggR xs) (aggR ys)).run Try.prog w = .ok (.bool (!(xs == ys))) w := by
  unfold aggR
  cases hi : Try.prog.info? 3 with
  | none => have := infoInt; rw [hi] at this; simp at this
  | some i =>
    rw [run_neq_struct, run_equalIn_array w 9999 _ _ rowArr hi, cellsInt, eq_ints 9998 xs ys w _ (fun i hi => by have := List.mem_range.1 hi; omega), show 22 = xs.length from hx.symm, all_eq xs ys (by omega)]
    rfl

section
variable {ops : Array Oper} {rest : List Oper} {o : Oper} {a : Act} {w : World} {Q : Exit → Act → World → Prop}
theorem wpList_row_load (hgd : o.guard = none) (x : Operand) (ho : o.op = .load 39 x) (b : Nat) (t : TypeId) (zs ts : List Int)
    (hx : a.eval x = .pointer (some ⟨b, 1, none⟩)) (hL : LineAt w b t (lineL zs ts))
    (h : wpList Try.prog ops Q rest (a.put o.dst (aggR (rowL zs ts))) w) :
    wpList Try.prog ops Q (o :: rest) a w :=
  wpList_load_mid hgd 39 x ho b 1 hx _ _ (row_range hL) rowArr rfl (by rw [rowSize, List.length_map, rowL_length]) h
theorem wpList_row_neq (hgd : o.guard = none) (x y : Operand) (r : TypeId) (ho : o.op = .binOp .neq 39 x y r) (xs ys : List Int)
    (hx : a.eval x = aggR xs) (hy : a.eval y = aggR ys) (hlx : xs.length = 22) (hly : ys.length = 22) (e : Bool) (he : (xs == ys) = e)
    (h : wpList Try.prog ops Q rest (a.put o.dst (.bool (!e))) w) :
    wpList Try.prog ops Q (o :: rest) a w := by
  refine wpList_plain hgd fun K hK => ?_
  subst he
  unfold Oper.wp execOp
  have hgd2 : (eqGuard .neq 39 x y (aggR xs) (aggR ys)).run Try.prog w = .ok () w := run_eqGuard_agg w .neq 39 x y _ _ rowGuard
  simp only [ho, hx, hy, Sem.run_bind, hgd2, Result.andThen_ok, neq_rows xs ys hlx hly w]
  exact hK _ _ h
end
end Go.Proofs.Ytcfofofhdbnlaaa
