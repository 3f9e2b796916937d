
/-
  A LOOP OVER ALL SOLUTIONS, whatever its body is.
-/
import Derived.Test.YtmhnihdgggblmaaPzI
namespace Go.Proofs.Ytmhnihdgggblmaa
open Go.RowKit Go.Deep Go.Shelf
attribute [local go_sem] Oper.semAt_some
set_option linter.unusedVariables false

theorem below_putObj {B k : Nat} (W : World) (o : Obj) (h : B ≤ k) : Below B W (W.putObj k o) := ⟨rfl, rfl, rfl, by simp, fun i hi => World.putObj_heap_other (by omega)⟩
theorem side_putObj {lo hi k : Nat} (W : World) (o : Obj) (h : lo ≤ k) (h2 : k < hi) : Side lo hi W (W.putObj k o) := ⟨below_putObj W o h, fun i hi' _ => World.putObj_heap_other (by omega)⟩

/-- HOW A ROUND MAY BE LEFT. -/
def solPost (B lo hi : Nat) (I : List (List Int) → World → Prop) (Ix : Code → List (List Int) → World → Prop) (z : List (List Int)) (W : World) : Exit → Act → World → Prop
  | .normal, _, W' => Kept B lo hi W W' ∧ I z W'
  | .ret, _, W' => Kept B lo hi W W' ∧ Ix .ret z W'
  | .exit id, _, W' => Kept B lo hi W W' ∧ Ix (.exit id) z W'
  | .goto t, _, W' => Kept B lo hi W W' ∧ Ix (.goto t) z W'
  | .panic _, _, _ => False
  | .outgrown, _, _ => False

theorem zip_one (p : Tmp) (v : Value) (ts : Array Value) : ((#[p] : Array Tmp).zip #[v]).foldl (fun t (p, v) => t.setIfInBounds p v) ts = ts.setIfInBounds p v := by
  show (([p].toArray.zip [v].toArray).foldl (fun t (p, v) => t.setIfInBounds p v) ts) = _
  rw [List.zip_toArray]
  rfl
theorem wpIn_rangeSol {n : Nat} {g : Operand} {p : Tmp} {assign body : Code} {Q : Exit → Act → World → Prop} {a : Act} {w : World} (A : Option Addr) (m c B : Nat) (cs : List Cl) (h : Nat)
    (hg : a.eval g = .func (.func 28) #[.agg #[.int .i64 (h : Int), .slice A m c]] #[])
    (hr : Cls w B A m cs) (hB : B ≤ w.heap.size) (hm : m ≤ 1000000) (hh : 2 ≤ h ∧ h ≤ 4) (hs : ∀ (j : Nat) (hj : j < cs.length), subOk h cs[j].x0 cs[j].x1 cs[j].x2)
    (I : List (List Int) → World → Prop) (Ix : Code → List (List Int) → World → Prop) (hI : ∀ z X Y, I z X → Side w.heap.size (w.heap.size + 4) X Y → I z Y) (hIx : ∀ cd z X Y, Ix cd z X → Side w.heap.size (w.heap.size + 4) X Y → Ix cd z Y) (h0 : I [] w)
    (a₁ : Value → Act)
    (hassign : ∀ (l : Nat) (v : Value) (W : World) (K : Act → World → Prop), K (a₁ v) W →
      assign.wpIn (Fence.wide.inRound l) (n - 1 - 1) Try.prog (Exit.then K (fun _ _ _ => False)) { tmps := a.tmps.setIfInBounds p v, defers := [] } W)
    (hbody : ∀ (l : Nat) (z : List (List Int)) (zs : List Int) (v : Value) (X Y : World), I z X → w.heap.size + 4 ≤ X.heap.size → Side w.heap.size (w.heap.size + 4) X Y → Own Y X.heap.size 3 v zs → zs.length = h → z ++ [zs] <+: solsL (fitAll cs) h →
      body.wpIn (Fence.wide.inRound l) (n - 1 - 1) Try.prog (solPost B w.heap.size (w.heap.size + 4) I Ix (z ++ [zs]) Y) (a₁ v) Y)
    (hdone : ∀ (W : World), I (solsL (fitAll cs) h) W → W.heap[w.heap.size]? = some (.deferred (some [])) → Q .normal { a with defers := { target := .collected w.heap.size, args := #[] } :: a.defers } W)
    (hstop : ∀ (cd : Code) (z : List (List Int)) (W : World), z <+: solsL (fitAll cs) h → Ix cd z W → W.heap[w.heap.size]? = some (.deferred (some [])) → cd.wpIn Fence.wide n Try.prog Q { a with defers := { target := .collected w.heap.size, args := #[] } :: a.defers } W) :
    (Code.rangeFunc g #[p] assign body).wpIn Fence.wide n Try.prog Q a w := by
  refine wpIn_rangeFunc ?_
  intro fn hfn
  obtain ⟨rec, hrec⟩ : ∃ rec : LoopState → Option Code → Loop, rec = fun st pe => { state := st, pending := pe, fn, tmps := a.tmps, params := #[p], assign, body, defers := w.heap.size } := ⟨_, rfl⟩
  obtain ⟨W1, hW1⟩ : ∃ W1, (w.alloc (.deferred (some []))).alloc (.loop (rec .ready none)) = W1 := ⟨_, rfl⟩
  have hS1 : W1.heap.size = w.heap.size + 2 := by rw [← hW1]; simp
  have hL1 : W1.heap[w.heap.size + 1]? = some (.loop (rec .ready none)) := by
    rw [← hW1]; have := World.alloc_heap_new (w.alloc (.deferred (some []))) (.loop (rec .ready none)); rwa [World.size_alloc] at this
  have hK1 : W1.heap[w.heap.size]? = some (.deferred (some [])) := by
    rw [← hW1]; exact (Below.heap_alloc _ _ _ (by simp)).trans (World.alloc_heap_new w _)
  have hb1 : Below w.heap.size w W1 := by rw [← hW1]; exact ((Below.refl _ w).alloc (Nat.le_refl _) _).alloc (by simp) _
  have hI1 : I [] W1 := hI _ _ _ h0 (Side.of_below hb1 (Nat.le_refl _))
  refine ⟨w.heap.size + 1, [{ target := .collected w.heap.size, args := #[] }], W1, { target := .fn (.func 28) #[], args := #[.agg #[.int .i64 (h : Int), .slice A m c], .func (.yield (w.heap.size + 1)) #[] #[]] }, W1, 28,
    #[.agg #[.int .i64 (h : Int), .slice A m c], .func (.yield (w.heap.size + 1)) #[] #[]], W1, ?_, ?_, fun _ _ => trivial, ?_, fun h => (by cases h), ?_⟩
  · rw [← hW1, hrec]; exact run_enterLoop_outer _ _ _ _ _
  · simp only [resolve, hg]
    simp [go_sem]
  · simp [invoke, go_sem]
  · refine (solutions_in (n - 1) A m c B cs h (w.heap.size + 1) W1
      (fun z W => I z W ∧ W.heap[w.heap.size + 1]? = some (.loop (rec .ready none)) ∧ W.heap[w.heap.size]? = some (.deferred (some [])))
      (fun z W => ∃ cd, Ix cd z W ∧ W.heap[w.heap.size + 1]? = some (.loop (rec .done (some cd))) ∧ W.heap[w.heap.size]? = some (.deferred (some [])))
      (hr.below hb1 hB) (by omega) hm hh hs ?_ ?_ ⟨hI1, hL1, hK1⟩).mono ?_
    · rintro z X Y ⟨hi, hl, hk⟩ hsd
      rw [hS1] at hsd
      have hlt : w.heap.size + 1 < X.heap.size := (Array.getElem?_eq_some_iff.1 hl).1
      exact ⟨hI _ _ _ hi (hsd.wide (by omega) (by omega)), (hsd.below.block _ (by omega)).trans hl, (hsd.below.block _ (by omega)).trans hk⟩
    · rintro z zs v X Y ⟨hi, hl, hk⟩ hX hb hown hlen hpre
      rw [hS1] at hX ⊢
      have hl' : Y.heap[w.heap.size + 1]? = some (.loop (rec .ready none)) := (hb.block _ (by omega)).trans hl
      have hk' : Y.heap[w.heap.size]? = some (.deferred (some [])) := (hb.block _ (by omega)).trans hk
      have hy := run_yield (P := Try.prog) (args := #[v]) hl' (by rw [hrec]; rfl)
      rw [hrec] at hy
      dsimp only at hy
      rw [zip_one] at hy
      refine ⟨fn, _, assign, body, hy, roundIn_of_wpIn hfn (hassign _ v Y _ ⟨_, run_beginRound hl' (by rw [hrec]), ?_⟩)⟩
      have hltY : w.heap.size + 1 < Y.heap.size := (Array.getElem?_eq_some_iff.1 hl').1
      obtain ⟨Y2, hY2⟩ : ∃ Y2, Y2 = Y.putObj (w.heap.size + 1) (.loop { rec .ready none with state := .busy }) := ⟨_, rfl⟩
      rw [← hY2]
      have hl2 : Y2.heap[w.heap.size + 1]? = some (.loop { rec .ready none with state := .busy }) := by rw [hY2]; exact World.putObj_heap_same hltY
      have hk2 : Y2.heap[w.heap.size]? = some (.deferred (some [])) := by rw [hY2]; exact (World.putObj_heap_other (by omega)).trans hk'
      have hsd : Side w.heap.size (w.heap.size + 4) X Y2 := by
        rw [hY2]
        exact (Side.of_below hb (by omega)).trans (side_putObj _ _ (by omega) (by omega))
      have hown2 : Own Y2 X.heap.size 3 v zs := by rw [hY2]; exact hown.keep fun g hg _ => World.putObj_heap_other (by omega)
      refine wpIn_mono (hbody _ z zs v X Y2 hi hX hsd hown2 hlen hpre) ?_
      have fin : ∀ (jump : Option Code) (W3 : World), Kept B w.heap.size (w.heap.size + 4) Y2 W3 →
          (Instr.endRound (w.heap.size + 1) jump).run Try.prog W3 = .ok (.bool jump.isNone) (W3.putObj (w.heap.size + 1) (.loop (rec (if jump.isNone then .ready else .done) jump))) ∧
          (W3.putObj (w.heap.size + 1) (.loop (rec (if jump.isNone then .ready else .done) jump))).heap[w.heap.size + 1]? = some (.loop (rec (if jump.isNone then .ready else .done) jump)) ∧
          (W3.putObj (w.heap.size + 1) (.loop (rec (if jump.isNone then .ready else .done) jump))).heap[w.heap.size]? = some (.deferred (some [])) ∧
          Kept B (w.heap.size + 2) (w.heap.size + 2 + 2) Y (W3.putObj (w.heap.size + 1) (.loop (rec (if jump.isNone then .ready else .done) jump))) := fun jump W3 hk3 => by
        have hl3 := (hk3.own (w.heap.size + 1) (by omega) (by omega)).trans hl2
        have := run_endRound (P := Try.prog) jump hl3
        rw [hrec] at this ⊢
        refine ⟨this, World.putObj_heap_same (Array.getElem?_eq_some_iff.1 hl3).1, (World.putObj_heap_other (by omega)).trans ((hk3.own w.heap.size (Nat.le_refl _) (by omega)).trans hk2), ?_, fun i h1 h2 => ?_⟩
        · exact ((by rw [hY2]; exact below_putObj Y _ (by omega) : Below B Y Y2).trans hk3.below).trans (below_putObj _ _ (by omega))
        · exact (World.putObj_heap_other (by omega)).trans ((hk3.own i (by omega) (by omega)).trans (by rw [hY2]; exact World.putObj_heap_other (by omega)))
      rintro e a3 W3 hp
      cases e with
      | normal =>
        obtain ⟨hk3, hi3⟩ := hp
        obtain ⟨h1, h2, h3, h4⟩ := fin none W3 hk3
        exact ⟨_, _, h1, .inl ⟨rfl, ⟨hI _ _ _ hi3 (side_putObj _ _ (by omega) (by omega)), h2, h3⟩, h4⟩⟩
      | ret =>
        obtain ⟨hk3, hi3⟩ := hp
        obtain ⟨h1, h2, h3, h4⟩ := fin (some .ret) W3 hk3
        exact ⟨_, _, h1, .inr ⟨rfl, .ret, hIx _ _ _ _ hi3 (side_putObj _ _ (by omega) (by omega)), h2, h3⟩⟩
      | exit id =>
        obtain ⟨hk3, hi3⟩ := hp
        obtain ⟨h1, h2, h3, h4⟩ := fin (some (.exit id)) W3 hk3
        exact ⟨_, _, h1, .inr ⟨rfl, .exit id, hIx _ _ _ _ hi3 (side_putObj _ _ (by omega) (by omega)), h2, h3⟩⟩
      | goto t =>
        obtain ⟨hk3, hi3⟩ := hp
        obtain ⟨h1, h2, h3, h4⟩ := fin (some (.goto t)) W3 hk3
        exact ⟨_, _, h1, .inr ⟨rfl, .goto t, hIx _ _ _ _ hi3 (side_putObj _ _ (by omega) (by omega)), h2, h3⟩⟩
      | panic ch => exact hp.elim
      | outgrown => exact hp.elim
    · rintro e W2 ⟨⟨v, rfl⟩, (⟨hi, hl, hk⟩ | ⟨z, hz, cd, hi, hl, hk⟩)⟩
      · exact ⟨none, _, by have := run_endLoop (P := Try.prog) hl (by rw [hrec]; simp); rw [hrec] at this; exact this, hdone _ (hI _ _ _ hi (side_putObj _ _ (by omega) (by omega))) ((World.putObj_heap_other (by omega)).trans hk)⟩
      · exact ⟨some cd, _, by have := run_endLoop (P := Try.prog) hl (by rw [hrec]; simp); rw [hrec] at this; exact this, hstop cd z _ hz (hIx _ _ _ _ hi (side_putObj _ _ (by omega) (by omega))) ((World.putObj_heap_other (by omega)).trans hk)⟩
end Go.Proofs.Ytmhnihdgggblmaa
