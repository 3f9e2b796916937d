
/-
  FEWEST MACHINES, THE PROGRAM's WAY: fewestMachines, MachinesFor.
-/
import Derived.Test.YtaplnbjljgeakaaMfB
import Derived.Test.YtaplnbjljgeakaaMfC
import Derived.Test.YtaplnbjljgeakaaLkP
import Derived.Laws.EntriesVeiled
namespace Go.Proofs.Ytaplnbjljgeakaa
open Go.RowKit Go.Deep
set_option linter.unusedVariables false

/-- Five variables, laid one behind the other. -/
theorem five (w : World) (t1 t2 t3 t4 t5 : TypeId) (v1 v2 v3 v4 v5 : Value) :
    ∃ W, ((((w.alloc (.cells #[v1] t1)).alloc (.cells #[v2] t2)).alloc (.cells #[v3] t3)).alloc (.cells #[v4] t4)).alloc (.cells #[v5] t5) = W ∧
      One W w.heap.size t1 v1 ∧ One W (w.heap.size + 1) t2 v2 ∧ One W (w.heap.size + 1 + 1) t3 v3 ∧ One W (w.heap.size + 1 + 1 + 1) t4 v4 ∧ One W (w.heap.size + 1 + 1 + 1 + 1) t5 v5 ∧ Below w.heap.size w W ∧ W.heap.size = w.heap.size + 1 + 1 + 1 + 1 + 1 := by
  refine ⟨_, rfl, ((((One.made w t1 v1).new _).new _).new _).new _, ?_, ?_, ?_, ?_, ?_, by simp⟩
  · have := One.made (w.alloc (.cells #[v1] t1)) t2 v2
    rw [show (w.alloc (.cells #[v1] t1)).heap.size = w.heap.size + 1 by simp] at this
    exact ((this.new _).new _).new _
  · have := One.made ((w.alloc (.cells #[v1] t1)).alloc (.cells #[v2] t2)) t3 v3
    rw [show ((w.alloc (.cells #[v1] t1)).alloc (.cells #[v2] t2)).heap.size = w.heap.size + 1 + 1 by simp] at this
    exact (this.new _).new _
  · have := One.made (((w.alloc (.cells #[v1] t1)).alloc (.cells #[v2] t2)).alloc (.cells #[v3] t3)) t4 v4
    rw [show (((w.alloc (.cells #[v1] t1)).alloc (.cells #[v2] t2)).alloc (.cells #[v3] t3)).heap.size = w.heap.size + 1 + 1 + 1 by simp] at this
    exact this.new _
  · have := One.made ((((w.alloc (.cells #[v1] t1)).alloc (.cells #[v2] t2)).alloc (.cells #[v3] t3)).alloc (.cells #[v4] t4)) t5 v5
    rw [show ((((w.alloc (.cells #[v1] t1)).alloc (.cells #[v2] t2)).alloc (.cells #[v3] t3)).alloc (.cells #[v4] t4)).heap.size = w.heap.size + 1 + 1 + 1 + 1 by simp] at this
    exact this
  · exact (((((Below.refl _ _).alloc (Nat.le_refl _) _).alloc (by simp) _).alloc (by simp; omega) _).alloc (by simp; omega) _).alloc (by simp; omega) _

set_option maxRecDepth 100000 in
set_option maxHeartbeats 4000000 in
theorem fewestMachines_any (A : Option Addr) (n c : Nat) (zs : List Int) (E : Int) (w : World) (hr : Ints w w.heap.size A n zs) (hn9 : zs.length ≤ 9) (hE : 1 ≤ E ∧ E ≤ 10000) (hz : ∀ k, k < zs.length → 0 ≤ zs.getD k 0 ∧ zs.getD k 0 ≤ E) :
    Calls Try.prog 15 #[.slice A n c, .int .i64 E] w fun e w' => e = .returned (.int .i64 (mfN zs E : Int)) ∧ Below w.heap.size w w' := by
  obtain rfl := hr.len
  have hmf : ∀ (fn : Fn) (first cap : Array Value) (w : World), (Instr.makeFunc fn first cap).run Try.prog w = .ok (.func fn first cap) w := fun _ _ _ _ => rfl
  go_enter Try.func15, Try.ntmps15
  go_wp2_with fail
  obtain ⟨W, hW, o1, o2, o3, o4, o5, hb, hs⟩ := five w 22 3 3 22 34 (.slice A zs.length c) (.int .i64 E) (.int .i64 (zs.length : Int)) (.slice none 0 0) (cloV w.heap.size (w.heap.size + 1 + 1) (w.heap.size + 1 + 1 + 1) (w.heap.size + 1) (w.heap.size + 1 + 1 + 1 + 1))
  have HB := hide hb
  have HG := hide (giveM_any w.heap.size w.heap.size (w.heap.size + 1 + 1) (w.heap.size + 1 + 1 + 1) (w.heap.size + 1) (w.heap.size + 1 + 1 + 1 + 1) (w.heap.size + 1 + 1 + 1 + 1 + 1) A c zs E hn9 hE hz (by constructor <;> omega)
    zs.length 0 [] zs.length W (by omega) (Nat.le_refl _) (fun i hi => absurd hi (by simp))
    ⟨o1, o2, o3, ⟨none, 0, o4, Own.nil _ _ _, Nat.le_refl _, Nat.zero_le _⟩, o5, hr.below hb (Nat.le_refl _), by omega⟩)
  unfold cloV at hW
  rw [hW]
  clear o1 o2 o3 o4 o5 hb hs hW
  rw [show ((0 : Nat) : Int) = 0 from rfl, List.drop_zero] at HG
  refine HG.out.mono ?_
  rintro e w1 ⟨rfl, hm, hb1⟩
  have HB1 := hide (HB.out.trans hb1)
  have c1 := hm.fb.cell
  rw [show giveF E zs [] zs.length = mfN zs E from rfl] at c1
  clear hm hb1
  go_wp2_with fail
  go_ret
  exact ⟨rfl, HB1.out⟩

theorem within_up {zs : List Int} {E : Int} (hj : jgood zs = true) : within 1 E zs = decide (up (zs.getD 0 0) zs ≤ E) := by
  have h1 := within_mem (jgood_of hj).2.2
  obtain ⟨x, t, rfl⟩ : ∃ x t, zs = x :: t := by
    cases zs with
    | nil => have := (jgood_of hj).1; simp at this
    | cons x t => exact ⟨x, t, rfl⟩
  by_cases h : up ((x :: t).getD 0 0) (x :: t) ≤ E
  · rw [decide_eq_true h]
    unfold within
    rw [List.all_eq_true]
    intro y hy
    have h2 := h1 y hy
    have h3 := up_mem ((x :: t).getD 0 0) hy
    simp; omega
  · rw [decide_eq_false h]
    cases hw : within 1 E (x :: t)
    · rfl
    · exact absurd (up_le (by have := within_mem hw x (by simp); simpa [List.getD] using this.2) (fun y hy => (within_mem hw y hy).2)) h

/-- The program's MachinesFor. -/
theorem MachinesFor_any (A : Option Addr) (n c : Nat) (zs : List Int) (E : Int) (w : World) (hr : Ints w w.heap.size A n zs) (hn : n ≤ 17592186044416) :
    Calls Try.prog 6 #[.slice A n c, .int .i64 E] w (MfR zs E w) := by
  obtain rfl := hr.len
  have HAJ := hide (AreJobs_any A zs.length c w.heap.size zs w hr hn)
  cases hj : jgood zs
  · have hof : mfOk zs E = false := by unfold mfOk; rw [hj]; rfl
    have HN := hide (mfI_no hof)
    unfold MfR
    rw [HN.out, hof]
    rw [hj] at HAJ
    go_enter Try.func6, Try.ntmps6
    go_wp2_with fail
    refine HAJ.out.mono ?_; rintro e w' ⟨rfl, rfl⟩
    go_wp2_with fail
    go_ret2
    exact ⟨rfl, Below.refl _ _⟩
  · rw [hj] at HAJ
    have HMX := hide (Max_any A zs.length c w.heap.size zs w hr hn (jgood_of hj).1)
    have HU := hide (within_up (E := E) hj)
    by_cases hE : 1 ≤ E ∧ E ≤ 10000
    · have HOK : Hid (mfOk zs E = decide (up (zs.getD 0 0) zs ≤ E)) := hide (by unfold mfOk; rw [hj, decide_eq_true hE, HU.out]; rfl)
      by_cases hu : up (zs.getD 0 0) zs ≤ E
      · have hok : mfOk zs E = true := by rw [HOK.out]; exact decide_eq_true hu
        have hw : within 1 E zs = true := by rw [HU.out]; exact decide_eq_true hu
        have HF := hide (fewestMachines_any A zs.length c zs E w hr (jgood_of hj).2.1 hE (fun k hk => by
          have := within_get hw k hk
          rw [getD_at hk]; omega))
        have HY := hide (mfI_yes hok)
        unfold MfR
        rw [HY.out, hok]
        obtain ⟨hE1, hE2⟩ := hE
        generalize up (zs.getD 0 0) zs = um at *
        clear hok hw HOK HU HY hj hr
        go_enter Try.func6, Try.ntmps6
        go_wp2_with fail
        refine HAJ.out.mono ?_; rintro e w' ⟨rfl, rfl⟩
        go_wp2_with fail
        refine HMX.out.mono ?_; rintro e w' ⟨rfl, rfl⟩
        go_wp2_with fail
        refine HF.out.mono ?_; rintro e w' ⟨rfl, hb⟩
        have HB := hide hb
        clear hb
        go_wp2_with fail
        go_ret2
        exact ⟨rfl, HB.out⟩
      · have hok : mfOk zs E = false := by rw [HOK.out]; exact decide_eq_false hu
        have HN := hide (mfI_no hok)
        unfold MfR
        rw [HN.out, hok]
        obtain ⟨hE1, hE2⟩ := hE
        generalize up (zs.getD 0 0) zs = um at *
        clear hok HOK HU HN hj hr
        go_enter Try.func6, Try.ntmps6
        go_wp2_with fail
        refine HAJ.out.mono ?_; rintro e w' ⟨rfl, rfl⟩
        go_wp2_with fail
        refine HMX.out.mono ?_; rintro e w' ⟨rfl, rfl⟩
        go_wp2_with fail
        go_ret2
        exact ⟨rfl, Below.refl _ _⟩
    · have hok : mfOk zs E = false := by unfold mfOk; rw [hj, decide_eq_false hE]; rfl
      have HN := hide (mfI_no hok)
      unfold MfR
      rw [HN.out, hok]
      have hE' : E < 1 ∨ (1 ≤ E ∧ 10000 < E) := by omega
      clear hok HU HN hj hr hE HMX
      rcases hE' with hE' | ⟨hE1, hE'⟩
      all_goals
        go_enter Try.func6, Try.ntmps6
        go_wp2_with fail
        refine HAJ.out.mono ?_; rintro e w' ⟨rfl, rfl⟩
        go_wp2_with fail
        go_ret2
        exact ⟨rfl, Below.refl _ _⟩
end Go.Proofs.Ytaplnbjljgeakaa
