
/-
  HOW MANY SOLUTIONS, BOTH WAYS.
-/
import Derived.Test.YtpgjhmgmfajelaaPzJ
import Derived.Test.YtpgjhmgmfajelaaPzM
namespace Go.Proofs.Ytpgjhmgmfajelaa
open Go.RowKit Go.Deep Go.Shelf
attribute [local go_sem] Oper.semAt_some
set_option linter.unusedVariables false

theorem sols_len (fit : List Int → Bool) {h : Nat} (hh : 2 ≤ h ∧ h ≤ 4) : (solsL fit h).length ≤ 1296 :=
  Nat.le_trans (lookL_len fit h []) (Nat.le_trans (Nat.pow_le_pow_right (by omega) hh.2) (by decide))
theorem prefix_len {fit : List Int → Bool} {h : Nat} (hh : 2 ≤ h ∧ h ≤ 4) {z : List (List Int)} (hz : z <+: solsL fit h) : z.length ≤ 1296 := Nat.le_trans hz.length_le (sols_len fit hh)

set_option maxHeartbeats 8000000 in
set_option maxRecDepth 100000 in
/-- The program's countSolutions. -/
theorem countSolutions_any (A : Option Addr) (m c B : Nat) (cs : List Cl) (h : Nat) (w : World) (hr : Cls w B A m cs) (hB : B ≤ w.heap.size) (hm : m ≤ 1000000) (hh : 2 ≤ h ∧ h ≤ 4) (hs : ∀ (j : Nat) (hj : j < cs.length), subOk h cs[j].x0 cs[j].x1 cs[j].x2) :
    Calls Try.prog 45 #[.agg #[.int .i64 (h : Int), .slice A m c]] w fun e w' => e = .returned (.int .i64 ((solsL (fitAll cs) h).length : Int)) ∧ Below w.heap.size w w' := by
  have hmf : ∀ (fn : Fn) (first cap : Array Value) (w : World), (Instr.makeFunc fn first cap).run Try.prog w = .ok (.func fn first cap) w := fun _ _ _ _ => rfl
  have hb2 : Below w.heap.size w ((w.alloc (.cells #[.int .i64 (h : Int), .slice A m c] 40)).alloc (.cells #[.int .i64 0] 3)) := ((Below.refl _ _).alloc (Nat.le_refl _) _).alloc (by simp) _
  have hO := One.made (w.alloc (.cells #[.int .i64 (h : Int), .slice A m c] 40)) 3 (.int .i64 0)
  rw [show (w.alloc (.cells #[.int .i64 (h : Int), .slice A m c] 40)).heap.size = w.heap.size + 1 from by simp] at hO
  have hS2 : ((w.alloc (.cells #[.int .i64 (h : Int), .slice A m c] 40)).alloc (.cells #[.int .i64 0] 3)).heap.size = w.heap.size + 2 := by simp
  refine (callsIn_wide (n := 9)).1 ?_
  refine callsIn_of_wp_marks Try.func45 rfl trivial ?_
  simp only [Try.ntmps45, List.size_toArray, List.length_cons, List.length_nil, Nat.reduceAdd, Nat.reduceSub, Array.replicate_succ, Array.replicate_zero, List.push_toArray, List.append_toArray, List.nil_append, List.cons_append]
  gi_wp2
  generalize ((w.alloc (.cells #[.int .i64 (h : Int), .slice A m c] 40)).alloc (.cells #[.int .i64 0] 3)) = w2 at *
  refine wpIn_rangeSol A m c B cs h rfl (hr.below hb2 hB) (by omega) hm hh hs
    (fun z W => One W (w.heap.size + 1) 3 (.int .i64 (z.length : Int)) ∧ Below w.heap.size w W) (fun _ _ _ => False) ?_ (fun _ _ _ _ h _ => h) ⟨hO, hb2⟩
    (fun v => { tmps := #[.agg #[.int .i64 (h : Int), .slice A m c], .pointer (some ⟨w.heap.size, 0, none⟩), .int .i64 0, .pointer (some ⟨w.heap.size + 1, 0, none⟩), .agg #[.int .i64 (h : Int), .slice A m c],
      .func (.func 68) #[.agg #[.int .i64 (h : Int), .slice A m c]] #[], v, undef, undef, undef], defers := [] }) ?assign ?body ?done ?stop
  · rintro z X Y ⟨h1, h2⟩ hsd
    exact ⟨h1.below hsd.below (by omega), h2.trans (hsd.below.mono (by omega))⟩
  case assign =>
    intro l v W K hK
    gi_wp2
    exact hK
  case body =>
    rintro l z zs v X Y ⟨h1, h2⟩ hX hsd hown hlen hpre
    have hO2 := h1.below hsd.below (by omega)
    have hc := hO2.cell
    have hf := hO2.free
    have hl := prefix_len hh hpre
    rw [List.length_append, List.length_singleton] at hl
    have HO := hide (hO2.put (.int .i64 ((z.length : Int) + 1)))
    have HB := hide ((h2.trans (hsd.below.mono (by omega))).setCell (p := ⟨w.heap.size + 1, 0, none⟩) (by simp) (.int .i64 ((z.length : Int) + 1)))
    have HKp := hide (show Kept B w2.heap.size (w2.heap.size + 4) Y (Y.setCell ⟨w.heap.size + 1, 0, none⟩ (.int .i64 ((z.length : Int) + 1))) from ⟨(Below.refl _ _).setCell (p := ⟨w.heap.size + 1, 0, none⟩) (by simp; omega) _, fun i h1 _ => Below.heap_setCell _ _ _ _ (by simp; omega)⟩)
    clear h1 h2 hX hsd hown hlen hpre hO2
    gi_wp2
    exact ⟨HKp.out, by rw [List.length_append, List.length_singleton]; exact HO.out, HB.out⟩
  case done =>
    rintro W ⟨h1, h2⟩ hK
    have hc := h1.cell
    have HB := hide (h2.trans (below_putObj W (.deferred none) (show w.heap.size ≤ w2.heap.size by omega)))
    clear h1 h2
    gi_wp2
    refine ⟨by simp, .inl ⟨_, _, rfl, run_takeDeferred hK, ?_⟩⟩
    exact ⟨_, results_tmp rfl _ _ _, rfl, HB.out⟩
  case stop =>
    rintro cd z W _ h _
    exact h.elim
end Go.Proofs.Ytpgjhmgmfajelaa
