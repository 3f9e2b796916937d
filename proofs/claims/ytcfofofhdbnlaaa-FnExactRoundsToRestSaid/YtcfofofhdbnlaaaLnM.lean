
/-
  A LINE OF CHIPS AS ONE VALUE: made, built, stored, loaded, copied into; no operation is told cell by cell.
-/
import Derived.Test.YtcfofofhdbnlaaaLnB
import Derived.Laws.Tables
import Derived.Laws.CopyOwn
import Derived.Deep.WholeRow
namespace Go.Proofs.Ytcfofofhdbnlaaa
open Go.RowKit Go.Deep
set_option linter.unusedVariables false

/-- The value of a line. -/
def aggL (xs : List Int) : Value := .agg (xs.map (Value.int .i64)).toArray
theorem one_ints (xs : List Int) : (xs.map (Value.int .i64)).toArray.all (·.oneCell') = true := by
  rw [Array.all_eq_true_iff_forall_mem]
  intro v hv
  simp at hv
  obtain ⟨z, _, rfl⟩ := hv
  rfl
def zero43 : List Int := List.replicate 43 0
theorem zero43_len : zero43.length = 43 := by simp [zero43]
theorem infoLine : (Try.prog.info? 42).map (fun i => (i.zero, i.size)) = some (some (aggL zero43), 43) := by kernel_rfl
theorem sizeLine : (Try.prog.info? 42).map (·.size) = some 43 := by kernel_rfl

section
variable {ops : Array Oper} {rest : List Oper} {o : Oper} {a : Act} {w : World} {Q : Exit → Act → World → Prop}

/-- A line of its own is made. -/
theorem wpList_line_new (hgd : o.guard = none) (ho : o.op = .alloc 42)
    (h : ∀ w', LineAt w' w.heap.size 42 zero43 → Below w.heap.size w w' → w'.heap.size = w.heap.size + 1 → wpList Try.prog ops Q rest (a.put o.dst (.pointer (some ⟨w.heap.size, 0, none⟩))) w') :
    wpList Try.prog ops Q (o :: rest) a w := by
  refine wpList_plain hgd fun K hK => ?_
  have hz := (zero_of_info (P := Try.prog) infoLine).1 w
  unfold Oper.wp
  simp only [execOp, ho, Sem.run_bind, hz, Result.andThen_ok]
  simp [aggL, Value.cells, newVar, newRow, Sem.run_bind]
  exact hK _ _ (h _ (by unfold LineAt; exact heap_alloc_new _ _) ((Below.refl _ _).alloc (Nat.le_refl _) _) (by simp))

/-- A line is stored. -/
theorem wpList_line_store (hgd : o.guard = none) (x y : Operand) (ho : o.op = .store 42 x y) (b : Nat) (xs ys : List Int)
    (hx : a.eval x = .pointer (some ⟨b, 0, none⟩)) (hy : a.eval y = aggL ys) (hl : ys.length = 43) (hl' : xs.length = 43) (hL : LineAt w b 42 xs)
    (h : ∀ w', LineAt w' b 42 ys → Only b w w' → wpList Try.prog ops Q rest (a.put o.dst undef) w') :
    wpList Try.prog ops Q (o :: rest) a w := by
  refine wpList_store_row hgd 42 x y ho b _ hx hy 42 _ hL (by rw [sizeLine]; simp [hl]) (by simp [hl, hl']) (one_ints ys) ?_
  refine h _ (setRow_heap w b _ _ _ _ hL) ⟨below_setRow (Below.refl _ _) (Nat.le_refl _) _, by simp, fun k hk => setRow_other w b k _ hk⟩

/-- A line is loaded. -/
theorem wpList_line_load (hgd : o.guard = none) (x : Operand) (ho : o.op = .load 42 x) (b : Nat) (xs : List Int)
    (hx : a.eval x = .pointer (some ⟨b, 0, none⟩)) (hl : xs.length = 43) (hL : LineAt w b 42 xs)
    (h : wpList Try.prog ops Q rest (a.put o.dst (aggL xs)) w) :
    wpList Try.prog ops Q (o :: rest) a w := by
  exact wpList_load_row hgd 42 x ho b hx 42 _ (0, 0) _ hL Try.underlying42 rfl (by rw [sizeLine]; simp [hl]) h

/-- A line is built that has so many places and no chips. -/
def newL (n : Int) : List Int := n :: List.replicate 42 0
theorem newL_len (n : Int) : (newL n).length = 43 := by simp [newL]
theorem built_places (n : Int) : Try.prog.built 42 [(0, .int .i64 n)] = some ((newL n).map (Value.int .i64)).toArray := by kernel_rfl
theorem built_none : Try.prog.built 42 [] = some (zero43.map (Value.int .i64)).toArray := by kernel_rfl
theorem wpList_line_build (hgd : o.guard = none) (x : Operand) (n : Int) (ho : o.op = .build 42 #[(0, x)]) (hx : a.eval x = .int .i64 n)
    (h : wpList Try.prog ops Q rest (a.put o.dst (aggL (newL n))) w) : wpList Try.prog ops Q (o :: rest) a w := by
  refine wpList_build hgd 42 _ ho ?_ ?_
  · simp [hx, built_places]
  · simp only [List.map_toArray, List.map_cons, List.map_nil, hx, built_places, Option.getD_some]
    exact h
theorem wpList_line_build0 (hgd : o.guard = none) (ho : o.op = .build 42 #[])
    (h : wpList Try.prog ops Q rest (a.put o.dst (aggL zero43)) w) : wpList Try.prog ops Q (o :: rest) a w := by
  refine wpList_build hgd 42 _ ho ?_ ?_
  · simp [built_none]
  · simp only [List.map_toArray, List.map_nil, built_none, Option.getD_some]
    exact h
end

/-- What a function hands out of a variable that holds a line, beside a bool. -/
theorem results_line2 {fn : Func} {p u : Tmp} (h : fn.results = #[.cell p 42, .tmp u]) (tmps : Array Value) (w : World) (b : Nat) (xs : List Int)
    (hp : tmps.getD p undef = .pointer (some ⟨b, 0, none⟩)) (hl : xs.length = 43) (hL : LineAt w b 42 xs) :
    (results fn tmps).run Try.prog w = .ok (.tuple #[aggL xs, tmps.getD u undef]) w := by
  have hp' : tmps[p]?.getD undef = .pointer (some ⟨b, 0, none⟩) := by simpa using hp
  simp [results, h, hp', asAddr, Sem.run_bind, run_loadVar_row (P := Try.prog) w b 42 42 _ (0, 0) _ hL Try.underlying42 rfl (by rw [sizeLine]; simp [hl]), aggL]
theorem results_line1 {fn : Func} {p : Tmp} (h : fn.results = #[.cell p 42]) (tmps : Array Value) (w : World) (b : Nat) (xs : List Int)
    (hp : tmps.getD p undef = .pointer (some ⟨b, 0, none⟩)) (hl : xs.length = 43) (hL : LineAt w b 42 xs) :
    (results fn tmps).run Try.prog w = .ok (aggL xs) w := by
  exact results_cell_row h tmps w b 42 _ (0, 0) _ hp hL Try.underlying42 rfl (by rw [sizeLine]; simp [hl])
end Go.Proofs.Ytcfofofhdbnlaaa
