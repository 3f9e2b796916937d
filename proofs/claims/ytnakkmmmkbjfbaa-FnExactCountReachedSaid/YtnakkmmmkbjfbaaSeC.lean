
/-
  HOW MANY ARE REACHED, THE PROGRAM's WAY: CountReached.
-/
import Derived.Test.YtnakkmmmkbjfbaaSeS
import Derived.Test.YtnakkmmmkbjfbaaSeX
import Derived.Test.YtnakkmmmkbjfbaaFewH
namespace Go.Proofs.Ytnakkmmmkbjfbaa
open Go.RowKit Go.Deep
open Go.Maps (Keyed)
set_option linter.unusedVariables false

theorem neverEnd_any (q : List Int) (X : World) : Calls Try.prog 33 (#[.agg #[.int .i64 (pd q 0), .int .i64 (pd q 1), .int .i64 (pd q 2), .int .i64 (pd q 3)]] ++ #[]) X fun e X' => e = .returned (.bool false) ∧ Below X.heap.size X X' := by
  go_enter Try.func33, Try.ntmps33
  go_wp2_with fail
  go_ret
  exact ⟨rfl, (Below.refl _ _).alloc (Nat.le_refl _) _⟩
theorem enters (f : FuncId) {fn : Func} (hf : Try.prog.funcs[f]? = some fn) (hn : (fn.name == "runtime.NumGoroutine") = false) (hb : fn.body.isNone = false) (args : Array Value) (X : World) : (callFunc f args).run Try.prog X = .ok (.enter f args) X := by
  have h1 : ¬ fn.name = "runtime.NumGoroutine" := fun e => by rw [e] at hn; exact absurd hn (by decide)
  have h2 : ¬ fn.body = none := fun e => by rw [e] at hb; exact absurd hb (by decide)
  simp [callFunc, go_sem, hf, h1, h2]

set_option maxRecDepth 100000 in
set_option maxHeartbeats 8000000 in
theorem CountReached_any (A : Option Addr) (n c : Nat) (zs : List Int) (w : World) (hr : Ints w w.heap.size A n zs) (hn : n ≤ 17592186044416) :
    Calls Try.prog 18 #[.slice A n c] w fun e w' => e = .returned (.tuple #[.int .i64 (crN zs), .bool (few zs)]) ∧ Below w.heap.size w w' := by
  obtain rfl := hr.len
  have HG := hide (AreFewHeaps_any A zs.length c w.heap.size zs w hr hn)
  cases hg : few zs
  · rw [show crN zs = 0 from by unfold crN; rw [hg]; rfl]
    rw [hg] at HG
    go_enter Try.func18, Try.ntmps18
    go_wp2_with fail
    refine HG.out.mono ?_; rintro e w' ⟨rfl, rfl⟩
    go_wp2_with fail
    go_ret2
    exact ⟨rfl, Below.refl _ _⟩
  · rw [show crN zs = ((Qf zs).length : Int) from by unfold crN; rw [hg]; rfl]
    rw [hg] at HG
    obtain ⟨hs, h2, h4, _⟩ := few_small hg
    have HRO := hide (rowOf_any A zs.length c w.heap.size zs w hr (Nat.le_refl _) (by omega) (by omega))
    have HSF := hide (fun W => searchFrom_any zs 33 #[] (fun _ => false) W hs h2 h4 (enters _ Try.func33 rfl rfl) fun q X _ _ _ => neverEnd_any q X)
    have HS := hide hs
    clear hr hs hg
    go_enter Try.func18, Try.ntmps18
    go_wp2_with fail
    refine HG.out.mono ?_; rintro e w' ⟨rfl, rfl⟩
    go_wp2_with fail
    refine HRO.out.mono ?_; rintro e w1 ⟨rfl, hb1⟩
    go_wp2_with fail
    refine (HSF.out w1).mono ?_; rintro e w2 ⟨k, x, fd, rfl, hm, hno, hfd, hb2⟩
    have hk : (Qn zs k)[k]? = none := by
      rcases hfd with ⟨_, p, _, h, _⟩ | ⟨_, h⟩
      · cases h
      · exact h
    have hQ := Qf_at HS.out (by omega) h4 hk
    have ok := Qn_ok HS.out k
    have hsz := size_mapD h4 (Qn zs k) ok.state ok.nodup
    have HM := hide hm
    have HB := hide (hb1.trans (hb2.mono hb1.size))
    have HQ := hide hQ
    clear hm hno hfd hb1 hb2 ok hk hQ
    go_wp2_with (refine wpList_len_own _ rfl _ 50 rfl 42 38 Try.underlying50 dElem (w1.heap.size + 2) _ _ rfl (MapQ.below HM.out ((Below.refl w2.heap.size w2).alloc (Nat.le_refl _) _)) ?_; rw [hsz])
    go_ret2
    exact ⟨by rw [HQ.out]; rfl, HB.out.alloc (by have := HB.out.size; omega) _⟩
end Go.Proofs.Ytnakkmmmkbjfbaa
