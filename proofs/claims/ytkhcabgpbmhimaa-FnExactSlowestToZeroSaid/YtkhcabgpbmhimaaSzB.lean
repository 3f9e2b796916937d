
/-
  A LOOP OVER slices.Backward, whatever its body is.
-/
import Derived.Test.YtkhcabgpbmhimaaSzP
import Derived.Test.YtkhcabgpbmhimaaMark
import Derived.RangeFuncNested
import Derived.RangeFuncBound
import Derived.RangeFuncCalls
import Derived.RangeFuncLeaves
import Derived.Shelf.Abstract
import Derived.Shelf.RegionOpen
import Derived.OwnWalkIn
import Derived.TacticsInMore
import Derived.LoopNIn
import Derived.LoopIn
namespace Go.Proofs.Ytkhcabgpbmhimaa
open Go.RowKit Go.Deep Go.Shelf
attribute [local go_sem] Oper.semAt_some
set_option linter.unusedVariables false

theorem below_putObj {B k : Nat} (W : World) (o : Obj) (h : B ≤ k) : Below B W (W.putObj k o) := ⟨rfl, rfl, rfl, by simp, fun i hi => World.putObj_heap_other (by omega)⟩
theorem zip_two (p q : Tmp) (u v : Value) (ts : Array Value) : ((#[p, q] : Array Tmp).zip #[u, v]).foldl (fun t (p, v) => t.setIfInBounds p v) ts = (ts.setIfInBounds p u).setIfInBounds q v := by
  show (([p, q].toArray.zip [u, v].toArray).foldl (fun t (p, v) => t.setIfInBounds p v) ts) = _
  rw [List.zip_toArray]
  rfl

set_option maxRecDepth 100000 in
set_option maxHeartbeats 4000000 in
/-- slices.Backward's closure: J k: the places from k on have come. -/
theorem bwd1_in (F : Fence) (n : Nat) (hf : F.fn 22) (hro : F.round = none) (hn : 1 ≤ n) (l Bs gb N c : Nat) (hN : N ≤ 1000000) (J : Nat → World → Prop) (Jx : World → Prop)
    (hJ : ∀ k W, J k W → W.cell? ⟨Bs, 0, none⟩ = some (.slice (some ⟨gb, 0, none⟩) N c))
    (hY : ∀ k W, k < N → J (k + 1) W → ∃ x : Int, W.cell? ⟨gb, k, none⟩ = some (.int .i64 x) ∧ YieldAt F (n - 1) Try.prog l #[.int .i64 (k : Int), .int .i64 x] W fun e W' => (e = .returned (.bool true) ∧ J k W') ∨ (e = .returned (.bool false) ∧ Jx W'))
    (W : World) (h0 : J N W) :
    CallsIn F n Try.prog 22 #[.func (.yield l) #[] #[], .pointer (some ⟨Bs, 0, none⟩)] W fun e W' => (∃ v, e = .returned v) ∧ (J 0 W' ∨ Jx W') := by
  have hc0 := hJ _ _ h0
  refine callsIn_of_wp Try.func22 rfl hf ?_ hro
  simp only [Try.ntmps22, List.size_toArray, List.length_cons, List.length_nil, Nat.reduceAdd, Nat.reduceSub, Array.replicate_succ, Array.replicate_zero, List.push_toArray, List.append_toArray, List.nil_append, List.cons_append]
  gi_wp2
  gi_loopw [3] (fun i wr => ∃ k : Nat, k ≤ N ∧ i = .int .i64 ((k : Int) - 1) ∧ J k wr)
    (fun i _ => (intOf i + 1).toNat)
  case atStart => exact ⟨N, Nat.le_refl _, rfl, h0⟩
  case round =>
    obtain ⟨k, hk, rfl, hJs⟩ := hrel
    cases k with
    | zero =>
      have hneg : ¬ (0 : Int) ≤ ((0 : Nat) : Int) - 1 := by omega
      gi_wp2
      go_end0
      exact ⟨⟨_, rfl⟩, .inl hJs⟩
    | succ j =>
      have hpos : (0 : Int) ≤ (j : Int) := by omega
      have hjN : (j : Int) < (N : Int) := by omega
      have hcs := hJ _ _ hJs
      rw [show ((j + 1 : Nat) : Int) - 1 = (j : Int) by omega]
      obtain ⟨x, hcx, fn, tmps, assign, body, hy, hR⟩ := hY j wr (by omega) hJs
      gi_wp2
      refine hR.mono ?_
      rintro e W3 (⟨rfl, hJ3⟩ | ⟨rfl, hJx3⟩)
      · gi_wp2
        go_roundw
        case rel => exact ⟨j, by omega, by go_num, hJ3⟩
        case measure => simp [intOf]
      · gi_wp2
        refine bodyPost_ret (results_none rfl _ _ _) rfl ?_
        exact ⟨⟨_, rfl⟩, .inr hJx3⟩

/-- HOW A ROUND MAY BE LEFT: the loop's own two blocks, L and L + 1, lie as they lay. -/
def bwdPost (L : Nat) (I : Nat → World → Prop) (Ix : Code → World → Prop) (k : Nat) (Y : World) : Exit → Act → World → Prop
  | .normal, _, W' => (W'.heap[L]? = Y.heap[L]? ∧ W'.heap[L + 1]? = Y.heap[L + 1]?) ∧ I k W'
  | .ret, _, W' => (W'.heap[L]? = Y.heap[L]? ∧ W'.heap[L + 1]? = Y.heap[L + 1]?) ∧ Ix .ret W'
  | .exit id, _, W' => (W'.heap[L]? = Y.heap[L]? ∧ W'.heap[L + 1]? = Y.heap[L + 1]?) ∧ Ix (.exit id) W'
  | .goto t, _, W' => (W'.heap[L]? = Y.heap[L]? ∧ W'.heap[L + 1]? = Y.heap[L + 1]?) ∧ Ix (.goto t) W'
  | .panic _, _, _ => False
  | .outgrown, _, _ => False

theorem wpIn_rangeBwd {n : Nat} {g : Operand} {p q : Tmp} {assign body : Code} {Q : Exit → Act → World → Prop} {a : Act} {w : World} (Bs gb N c : Nat) (hN : N ≤ 1000000) (hn2 : 2 ≤ n)
    (hg : a.eval g = .func (.func 22) #[] #[.pointer (some ⟨Bs, 0, none⟩)])
    (I : Nat → World → Prop) (Ix : Code → World → Prop) (hI : ∀ k X Y, I k X → Below w.heap.size X Y → I k Y) (hIx : ∀ cd X Y, Ix cd X → Below w.heap.size X Y → Ix cd Y)
    (hcell : ∀ k X, I k X → X.cell? ⟨Bs, 0, none⟩ = some (.slice (some ⟨gb, 0, none⟩) N c)) (hel : ∀ k X, k < N → I (k + 1) X → ∃ x : Int, X.cell? ⟨gb, k, none⟩ = some (.int .i64 x)) (h0 : I N w)
    (a₁ : Int → Int → Act)
    (hassign : ∀ (l : Nat) (k x : Int) (W : World) (K : Act → World → Prop), K (a₁ k x) W →
      assign.wpIn (Fence.wide.inRound l) (n - 1 - 1) Try.prog (Exit.then K (fun _ _ _ => False)) { tmps := (a.tmps.setIfInBounds p (.int .i64 k)).setIfInBounds q (.int .i64 x), defers := [] } W)
    (hbody : ∀ (l k : Nat) (x : Int) (Y : World), k < N → I (k + 1) Y → Y.cell? ⟨gb, k, none⟩ = some (.int .i64 x) →
      body.wpIn (Fence.wide.inRound l) (n - 1 - 1) Try.prog (bwdPost w.heap.size I Ix k Y) (a₁ k x) Y)
    (hdone : ∀ (W : World), I 0 W → W.heap[w.heap.size]? = some (.deferred (some [])) → Q .normal { a with defers := { target := .collected w.heap.size, args := #[] } :: a.defers } W)
    (hstop : ∀ (cd : Code) (W : World), Ix cd W → W.heap[w.heap.size]? = some (.deferred (some [])) → cd.wpIn Fence.wide n Try.prog Q { a with defers := { target := .collected w.heap.size, args := #[] } :: a.defers } W) :
    (Code.rangeFunc g #[p, q] assign body).wpIn Fence.wide n Try.prog Q a w := by
  refine wpIn_rangeFunc ?_
  intro fn hfn
  obtain ⟨rec, hrec⟩ : ∃ rec : LoopState → Option Code → Loop, rec = fun st pe => { state := st, pending := pe, fn, tmps := a.tmps, params := #[p, q], assign, body, defers := w.heap.size } := ⟨_, rfl⟩
  obtain ⟨W1, hW1⟩ : ∃ W1, (w.alloc (.deferred (some []))).alloc (.loop (rec .ready none)) = W1 := ⟨_, rfl⟩
  have hS1 : W1.heap.size = w.heap.size + 2 := by rw [← hW1]; simp
  have hL1 : W1.heap[w.heap.size + 1]? = some (.loop (rec .ready none)) := by
    rw [← hW1]; have := World.alloc_heap_new (w.alloc (.deferred (some []))) (.loop (rec .ready none)); rwa [World.size_alloc] at this
  have hK1 : W1.heap[w.heap.size]? = some (.deferred (some [])) := by
    rw [← hW1]; exact (Below.heap_alloc _ _ _ (by simp)).trans (World.alloc_heap_new w _)
  have hb1 : Below w.heap.size w W1 := by rw [← hW1]; exact ((Below.refl _ w).alloc (Nat.le_refl _) _).alloc (by simp) _
  have hI1 : I N W1 := hI _ _ _ h0 hb1
  refine ⟨w.heap.size + 1, [{ target := .collected w.heap.size, args := #[] }], W1, { target := .fn (.func 22) #[.pointer (some ⟨Bs, 0, none⟩)], args := #[.func (.yield (w.heap.size + 1)) #[] #[]] }, W1, 22,
    #[.func (.yield (w.heap.size + 1)) #[] #[], .pointer (some ⟨Bs, 0, none⟩)], W1, ?_, ?_, fun _ _ => trivial, ?_, fun h => (by cases h), ?_⟩
  · rw [← hW1, hrec]; exact run_enterLoop_outer _ _ _ _ _
  · simp only [resolve, hg]
    simp [go_sem]
  · simp [invoke, go_sem]
  · refine (bwd1_in Fence.wide (n - 1) trivial rfl (by omega) (w.heap.size + 1) Bs gb N c hN
      (fun k W => I k W ∧ W.heap[w.heap.size + 1]? = some (.loop (rec .ready none)) ∧ W.heap[w.heap.size]? = some (.deferred (some [])))
      (fun W => ∃ cd, Ix cd W ∧ W.heap[w.heap.size + 1]? = some (.loop (rec .done (some cd))) ∧ W.heap[w.heap.size]? = some (.deferred (some [])))
      (fun k W h => hcell k W h.1) ?_ W1 ⟨hI1, hL1, hK1⟩).mono ?_
    · rintro k Y hk ⟨hi, hl, hk'⟩
      obtain ⟨x, hx⟩ := hel k Y hk hi
      refine ⟨x, hx, ?_⟩
      have hy := run_yield (P := Try.prog) (args := #[.int .i64 (k : Int), .int .i64 x]) hl (by rw [hrec]; rfl)
      rw [hrec] at hy
      dsimp only at hy
      rw [zip_two] at hy
      refine ⟨fn, _, assign, body, hy, roundIn_of_wpIn hfn (hassign _ k x Y _ ⟨_, run_beginRound hl (by rw [hrec]), ?_⟩)⟩
      have hltY : w.heap.size + 1 < Y.heap.size := (Array.getElem?_eq_some_iff.1 hl).1
      obtain ⟨Y2, hY2⟩ : ∃ Y2, Y2 = Y.putObj (w.heap.size + 1) (.loop { rec .ready none with state := .busy }) := ⟨_, rfl⟩
      rw [← hY2]
      have hl2 : Y2.heap[w.heap.size + 1]? = some (.loop { rec .ready none with state := .busy }) := by rw [hY2]; exact World.putObj_heap_same hltY
      have hk2 : Y2.heap[w.heap.size]? = some (.deferred (some [])) := by rw [hY2]; exact (World.putObj_heap_other (by omega)).trans hk'
      have hbY : Below w.heap.size Y Y2 := by rw [hY2]; exact below_putObj _ _ (by omega)
      have hi2 : I (k + 1) Y2 := hI _ _ _ hi hbY
      have hx2 : Y2.cell? ⟨gb, k, none⟩ = some (.int .i64 x) := by
        obtain ⟨x', hx'⟩ := hel k Y2 hk hi2
        have e : gb ≠ w.heap.size + 1 := fun e => by
          unfold World.cell? at hx'
          rw [show (⟨gb, k, none⟩ : Addr).block = w.heap.size + 1 from e, hl2] at hx'
          simp at hx'
        exact (cell_of_block (show Y2.heap[gb]? = Y.heap[gb]? by rw [hY2]; exact World.putObj_heap_other e)).trans hx
      refine wpIn_mono (hbody _ k x Y2 hk hi2 hx2) ?_
      have fin : ∀ (jump : Option Code) (W3 : World), (W3.heap[w.heap.size]? = Y2.heap[w.heap.size]? ∧ W3.heap[w.heap.size + 1]? = Y2.heap[w.heap.size + 1]?) →
          (Instr.endRound (w.heap.size + 1) jump).run Try.prog W3 = .ok (.bool jump.isNone) (W3.putObj (w.heap.size + 1) (.loop (rec (if jump.isNone then .ready else .done) jump))) ∧
          (W3.putObj (w.heap.size + 1) (.loop (rec (if jump.isNone then .ready else .done) jump))).heap[w.heap.size + 1]? = some (.loop (rec (if jump.isNone then .ready else .done) jump)) ∧
          (W3.putObj (w.heap.size + 1) (.loop (rec (if jump.isNone then .ready else .done) jump))).heap[w.heap.size]? = some (.deferred (some [])) := fun jump W3 hk3 => by
        have hl3 := hk3.2.trans hl2
        have := run_endRound (P := Try.prog) jump hl3
        rw [hrec] at this ⊢
        exact ⟨this, World.putObj_heap_same (Array.getElem?_eq_some_iff.1 hl3).1, (World.putObj_heap_other (by omega)).trans (hk3.1.trans hk2)⟩
      rintro e a3 W3 hp
      cases e with
      | normal =>
        obtain ⟨hk3, hi3⟩ := hp
        obtain ⟨h1, h2, h3⟩ := fin none W3 hk3
        exact ⟨_, _, h1, .inl ⟨rfl, hI _ _ _ hi3 (below_putObj _ _ (by omega)), h2, h3⟩⟩
      | ret =>
        obtain ⟨hk3, hi3⟩ := hp
        obtain ⟨h1, h2, h3⟩ := fin (some .ret) W3 hk3
        exact ⟨_, _, h1, .inr ⟨rfl, .ret, hIx _ _ _ hi3 (below_putObj _ _ (by omega)), h2, h3⟩⟩
      | exit id =>
        obtain ⟨hk3, hi3⟩ := hp
        obtain ⟨h1, h2, h3⟩ := fin (some (.exit id)) W3 hk3
        exact ⟨_, _, h1, .inr ⟨rfl, .exit id, hIx _ _ _ hi3 (below_putObj _ _ (by omega)), h2, h3⟩⟩
      | goto t =>
        obtain ⟨hk3, hi3⟩ := hp
        obtain ⟨h1, h2, h3⟩ := fin (some (.goto t)) W3 hk3
        exact ⟨_, _, h1, .inr ⟨rfl, .goto t, hIx _ _ _ hi3 (below_putObj _ _ (by omega)), h2, h3⟩⟩
      | panic ch => exact hp.elim
      | outgrown => exact hp.elim
    · rintro e W2 ⟨⟨v, rfl⟩, (⟨hi, hl, hk⟩ | ⟨cd, hi, hl, hk⟩)⟩
      · exact ⟨none, _, by have := run_endLoop (P := Try.prog) hl (by rw [hrec]; simp); rw [hrec] at this; exact this, hdone _ (hI _ _ _ hi (below_putObj _ _ (by omega))) ((World.putObj_heap_other (by omega)).trans hk)⟩
      · exact ⟨some cd, _, by have := run_endLoop (P := Try.prog) hl (by rw [hrec]; simp); rw [hrec] at this; exact this, hstop cd _ (hIx _ _ _ hi (below_putObj _ _ (by omega))) ((World.putObj_heap_other (by omega)).trans hk)⟩
end Go.Proofs.Ytkhcabgpbmhimaa
