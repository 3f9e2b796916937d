
/-
  THE STRUCT AS ONE VALUE: made, built, stored, loaded, handed out; the row of a ring.
-/
import Derived.Test.YtkhcabgpbmhimaaWk
namespace Go.Proofs.Ytkhcabgpbmhimaa
open Go.RowKit Go.Deep
set_option linter.unusedVariables false

/-- The value of such a struct. -/
def aggW (n : Int) (F : Value) (st ag : List Int) (l p : Int) : Value := .agg (wkL n F st ag l p).toArray
theorem wk_one {n : Int} {F : Value} {st ag : List Int} {l p : Int} (hF : F.oneCell' = true) : ((wkL n F st ag l p).toArray).all (·.oneCell') = true := by
  rw [Array.all_eq_true_iff_forall_mem]
  intro v hv
  simp [wkL] at hv
  rcases hv with rfl | rfl | ⟨z, _, rfl⟩ | ⟨z, _, rfl⟩ | rfl | rfl <;> first | rfl | exact hF
theorem stepF_one (bd bs : Nat) : (stepF bd bs).oneCell' = true := rfl
theorem nilF_one : (Value.nilFunc).oneCell' = true := rfl

section
variable {ops : Array Oper} {rest : List Oper} {o : Oper} {a : Act} {w : World} {Q : Exit → Act → World → Prop}
theorem wpList_wk_new (hgd : o.guard = none) (ho : o.op = .alloc 45)
    (h : ∀ w', WkAt w' w.heap.size 0 .nilFunc zero10 zero10 0 0 → Below w.heap.size w w' → wpList Try.prog ops Q rest (a.put o.dst (.pointer (some ⟨w.heap.size, 0, none⟩))) w') :
    wpList Try.prog ops Q (o :: rest) a w := by
  refine wpList_plain hgd fun K hK => ?_
  have hz := (zero_of_info (P := Try.prog) wkInfo).1 w
  unfold Oper.wp
  simp only [execOp, ho, Sem.run_bind, hz, Result.andThen_ok]
  simp only [Value.cells, newVar, newRow, Sem.run_bind, run_newObj_alloc, Sem.run_pure, Result.andThen_ok]
  exact hK _ _ (h _ ⟨zero10_len, zero10_len, heap_alloc_new _ _⟩ ((Below.refl _ _).alloc (Nat.le_refl _) _))
theorem wpList_wk_put (hgd : o.guard = none) (x y : Operand) (ho : o.op = .store 45 x y) (b : Nat) (n n' : Int) (F F' : Value) (st ag st' ag' : List Int) (l p l' p' : Int)
    (hx : a.eval x = .pointer (some ⟨b, 0, none⟩)) (hy : a.eval y = aggW n' F' st' ag' l' p') (hF : F'.oneCell' = true) (hs : st'.length = 10) (ha : ag'.length = 10) (hL : WkAt w b n F st ag l p)
    (h : ∀ w', WkAt w' b n' F' st' ag' l' p' → Lone b w w' → wpList Try.prog ops Q rest (a.put o.dst undef) w') :
    wpList Try.prog ops Q (o :: rest) a w := by
  refine wpList_store_row hgd 45 x y ho b _ hx hy _ _ hL.at_ (by rw [wkSize]; simp [wkL_len hs ha]) (by simp [wkL_len hs ha, wkL_len hL.hs hL.ha]) (wk_one hF) ?_
  exact h _ ⟨hs, ha, setRow_heap w b _ _ _ _ hL.at_⟩ ⟨below_setRow (Below.refl _ _) (Nat.le_refl _) _, by simp, fun k hk => setRow_other w b k _ hk⟩
theorem wpList_wk_get (hgd : o.guard = none) (x : Operand) (ho : o.op = .load 45 x) (b : Nat) (n : Int) (F : Value) (st ag : List Int) (l p : Int)
    (hx : a.eval x = .pointer (some ⟨b, 0, none⟩)) (hL : WkAt w b n F st ag l p)
    (h : wpList Try.prog ops Q rest (a.put o.dst (aggW n F st ag l p)) w) :
    wpList Try.prog ops Q (o :: rest) a w :=
  wpList_load_row hgd 45 x ho b hx _ _ (0, 0) _ hL.at_ Try.underlying45 rfl (by rw [wkSize]; simp [wkL_len hL.hs hL.ha]) h
theorem built_wk0 : Try.prog.built 45 [] = some (wkL 0 .nilFunc zero10 zero10 0 0).toArray := by kernel_rfl
theorem built_wk10 (n : Int) (bd bs : Nat) (x0 x1 x2 x3 x4 x5 x6 x7 x8 x9 : Int) : Try.prog.built 45 [(0, .int .i64 n), (1, stepF bd bs), (2, aggA [x0, x1, x2, x3, x4, x5, x6, x7, x8, x9])] = some (wkL n (stepF bd bs) [x0, x1, x2, x3, x4, x5, x6, x7, x8, x9] zero10 0 0).toArray := by kernel_rfl
theorem built_wk (n : Int) (bd bs : Nat) (xs : List Int) (h : xs.length = 10) : Try.prog.built 45 [(0, .int .i64 n), (1, stepF bd bs), (2, aggA xs)] = some (wkL n (stepF bd bs) xs zero10 0 0).toArray := by
  match xs, h with
  | [x0, x1, x2, x3, x4, x5, x6, x7, x8, x9], _ => exact built_wk10 n bd bs x0 x1 x2 x3 x4 x5 x6 x7 x8 x9
theorem wpList_wk_build0 (hgd : o.guard = none) (ho : o.op = .build 45 #[])
    (h : wpList Try.prog ops Q rest (a.put o.dst (aggW 0 .nilFunc zero10 zero10 0 0)) w) : wpList Try.prog ops Q (o :: rest) a w := by
  refine wpList_build hgd 45 _ ho ?_ ?_
  · simp [built_wk0]
  · simp only [List.map_toArray, List.map_nil, built_wk0, Option.getD_some]
    exact h
theorem wpList_wk_build (hgd : o.guard = none) (x y z : Operand) (n : Int) (bd bs : Nat) (xs : List Int) (ho : o.op = .build 45 #[(0, x), (1, y), (2, z)]) (hx : a.eval x = .int .i64 n) (hy0 : a.eval y = .func (.func 33) #[] #[.pointer (some ⟨bd, 0, none⟩), .pointer (some ⟨bs, 0, none⟩)]) (hz : a.eval z = aggA xs) (hl : xs.length = 10)
    (h : wpList Try.prog ops Q rest (a.put o.dst (aggW n (stepF bd bs) xs zero10 0 0)) w) : wpList Try.prog ops Q (o :: rest) a w := by
  have hy : a.eval y = stepF bd bs := hy0
  refine wpList_build hgd 45 _ ho ?_ ?_
  · simp [hx, hy, hz, built_wk n bd bs xs hl]
  · simp only [List.map_toArray, List.map_cons, List.map_nil, hx, hy, hz, built_wk n bd bs xs hl, Option.getD_some]
    exact h
end
theorem results_wk2 {fn : Func} {p u : Tmp} (h : fn.results = #[.cell p 45, .tmp u]) (tmps : Array Value) (w : World) (b : Nat) (n : Int) (F : Value) (st ag : List Int) (l q : Int)
    (hp : tmps.getD p undef = .pointer (some ⟨b, 0, none⟩)) (hL : WkAt w b n F st ag l q) :
    (results fn tmps).run Try.prog w = .ok (.tuple #[aggW n F st ag l q, tmps.getD u undef]) w := by
  have hp' : tmps[p]?.getD undef = .pointer (some ⟨b, 0, none⟩) := by simpa using hp
  simp [results, h, hp', asAddr, Sem.run_bind, run_loadVar_row (P := Try.prog) w b 45 45 _ (0, 0) _ hL.at_ Try.underlying45 rfl (by rw [wkSize]; simp [wkL_len hL.hs hL.ha]), aggW]

/-- Where a copy's source lies, told in one word. -/
def SrcR (w : World) (dp : Option Addr) (g off : Nat) (sp : Option Addr) (cs : List Value) : Prop :=
  0 < cs.length → dp = some ⟨g, off, none⟩ ∧ ∃ ad, sp = some ad ∧ ∀ j v, cs[j]? = some v → w.cell? (ad.add j) = some v
theorem SrcR.out {w : World} {dp : Option Addr} {g off : Nat} {sp : Option Addr} {cs : List Value} (h : SrcR w dp g off sp cs) :
    0 < cs.length → dp = some ⟨g, off, none⟩ ∧ ∃ ad, sp = some ad ∧ ∀ j v, cs[j]? = some v → w.cell? (ad.add j) = some v := h
theorem srcR_of_ints {w : World} {B n g off : Nat} {A : Option Addr} {zs : List Int} (hr : Ints w B A n zs) : SrcR w (some ⟨g, off, none⟩) g off A (zs.map (Value.int .i64)) := fun h => by
  have hl := hr.len
  rw [List.length_map] at h
  obtain ⟨ad, e, _, hcell⟩ := hr.2 (by omega)
  refine ⟨rfl, ad, e, fun j v hv => ?_⟩
  rw [List.getElem?_map] at hv
  obtain ⟨z, hz, rfl⟩ := Option.map_eq_some_iff.1 hv
  obtain ⟨hj, rfl⟩ := List.getElem?_eq_some_iff.1 hz
  rw [hcell j (by omega), rget hj]
theorem splice_row (zs : List Int) (h : zs.length ≤ 10) : splice (zero10.map (Value.int .i64)) 0 (zs.map (Value.int .i64)) = (pad10 zs).map (Value.int .i64) := by
  unfold splice pad10 zero10
  rw [List.map_replicate, List.map_append, List.map_replicate]
  simp only [List.take_zero, List.length_map, Nat.zero_add, List.drop_replicate, List.nil_append]

set_option maxRecDepth 100000 in
theorem ringRowOf_any (A : Option Addr) (n c B : Nat) (zs : List Int) (w : World) (hr : Ints w B A n zs) (hB : B ≤ w.heap.size) (h10 : n ≤ 10) :
    Calls Try.prog 25 #[.slice A n c] w fun e w' => e = .returned (aggA (pad10 zs)) ∧ Below w.heap.size w w' := by
  obtain rfl := hr.len
  have hzl := hide zero10_len
  have HPL := hide (pad10_len h10)
  have HSp := hide (splice_row zs h10)
  have HS := hide (fun W (hb : Below w.heap.size w W) (g : Nat) => srcR_of_ints (g := g) (off := 0) (hr.below hb hB))
  have H1 : Hid (∀ v ∈ zs.map (Value.int .i64), v.oneCell' = true) := hide fun v hv => by obtain ⟨z, _, rfl⟩ := List.mem_map.1 hv; rfl
  have HC : Hid ((zs.map (Value.int .i64)).length = Nat.min zs.length 10) := hide (by rw [List.length_map]; exact (Nat.min_eq_left (by omega)).symm)
  have HF : Hid (0 + (zs.map (Value.int .i64)).length ≤ (zero10.map (Value.int .i64)).length) := hide (by rw [List.length_map, List.length_map, zero10_len]; omega)
  clear hr
  go_enter Try.func25, Try.ntmps25
  go_wp2_with (first
    | (with_reducible refine wpList_arr_new (o := ⟨some 2, _, _, _, _, _⟩) rfl rfl ?_; intro w1 hA1 hb1 hs1; have A1 := hide hA1; have B1 := hide hb1; have hcut := ring_cut_all w1.heap.size 0; clear hA1 hb1 hs1)
    | (with_reducible refine wpList_arr_new (o := ⟨some 3, _, _, _, _, _⟩) rfl rfl ?_; intro w2 hA2 hb2 hs2
       have HG := hide (show w2.heap[w1.heap.size]? = some (.cells (zero10.map (Value.int .i64)).toArray 43 (0, 0)) from hA2)
       have A2 := hide (A1.out.next hb2); have B2 := hide (B1.out.trans (hb2.mono B1.out.size)); have HB2 := hide hb2; have HP := HS.out w2 B2.out w1.heap.size; clear hA2 hb2 hs2)
    | (with_reducible refine wpList_copy_splice rfl (.tmp 4) (.tmp 5) 22 22 rfl 3 Try.underlying22 (by kernel_rfl) (some ⟨w1.heap.size, 0, none⟩) A 10 10 zs.length c rfl rfl w1.heap.size 0 (zero10.map (Value.int .i64)) 43 HG.out (zs.map (Value.int .i64)) HC.out HP.out HF.out H1.out w1.heap.size w1 HB2.out (Nat.le_refl _) ?_; intro w4 hg4 hb4
       have N4 := hide (show ArrAt w4 w1.heap.size 43 (pad10 zs) from by have := hg4.out; rw [HSp.out] at this; exact this); have A4 := hide (A1.out.same (hb4.block _ A1.out.lt)); have B4 := hide (B1.out.trans (hb4.mono B1.out.size)); clear hg4 hb4)
    | (with_reducible refine wpList_arr_load rfl (.tmp 3) rfl w1.heap.size _ _ rfl HPL.out N4.out ?_)
    | (with_reducible refine wpList_arr_store rfl (.tmp 2) (.tmp 7) rfl w.heap.size _ _ (pad10 zs) rfl rfl HPL.out hzl.out A4.out ?_; intro w5 hL5 ho5))
  exact bodyPost_ret (results_arr1 rfl _ _ _ _ _ rfl HPL.out hL5) rfl ⟨rfl, B4.out.trans ho5.below⟩
end Go.Proofs.Ytkhcabgpbmhimaa
