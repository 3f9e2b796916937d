
/-
  THE DOOR: areClues recovers what is raised by a clue that is none. IsPuzzle, the program's way.
-/
import Derived.Test.YtmjlfmlbmegheaaDoorPzR
import Derived.Test.YtmjlfmlbmegheaaDoorBox
import Derived.Defers
import Derived.Recover
import Derived.Laws.Pointers
namespace Go.Proofs.YtmjlfmlbmegheaaDoor
open Go.RowKit Go.Deep
set_option linter.unusedVariables false

theorem assert_clue (v : Value) (w : World) : (Instr.typeAssert (.iface 44 v) 20 44 true).run Tryd.prog w = .ok (.tuple #[v, .bool true]) w := by kernel_rfl
theorem assert_none (w : World) : (Instr.typeAssert .nilIface 20 44 true).run Tryd.prog w = .ok (.tuple #[.agg #[.int .i64 0, .int .i64 0, .int .i64 0, .int .i64 0], .bool false]) w := by kernel_rfl

set_option maxRecDepth 100000 in
theorem catch_raised (p : Addr) (x : Value) (c : Cl) (w : World) (hc : w.cell? p = some x) (hz : w.frozen? p = false) :
    CallsD Tryd.prog 47 #[.pointer (some p)] (.panicking (raisedBy c)) w fun e u' w' =>
      e = .returned (.tuple #[]) ∧ (∃ pe, u' = .panicking [pe] ∧ pe.recovered = true) ∧ w' = (w.alloc (.cells #[.int .i64 c.x0, .int .i64 c.x1, .int .i64 c.x2, .int .i64 c.x3] 44)).setCell p (.bool false) := by
  refine callsD_of_wpS Tryd.func47 rfl fun c₀ cs hu => ?_
  unfold raisedBy at hu
  apply wpS_seq
  apply wpS_region
  simp [wpOpsS, go_sem, recoverD, hu, assert_clue, Tryd.ntmps47, Exit.thenS]
  have hlt : p.block < w.heap.size := lt_of_cell? hc
  have hc1 : (w.alloc (.cells #[.int .i64 c.x0, .int .i64 c.x1, .int .i64 c.x2, .int .i64 c.x3] 44)).cell? p = some x := (World.cell?_alloc_lt _ _ _ hlt).trans hc
  have hz1 : (w.alloc (.cells #[.int .i64 c.x0, .int .i64 c.x1, .int .i64 c.x2, .int .i64 c.x3] 44)).frozen? p = false := (World.frozen?_alloc_old _ _ _ (Nat.ne_of_lt hlt)).trans hz
  apply wpS_region
  simp [wpOpsS, go_sem, hc1, hz1, bodyPostS, results, Tryd.results47]

set_option maxRecDepth 100000 in
theorem catch_none (p : Addr) (x : Value) (w : World) (hc : w.cell? p = some x) (hz : w.frozen? p = false) :
    CallsD Tryd.prog 47 #[.pointer (some p)] .returning w fun e u' w' =>
      e = .returned (.tuple #[]) ∧ u' = .returning ∧ w' = (w.alloc (.cells #[.int .i64 0, .int .i64 0, .int .i64 0, .int .i64 0] 44)).setCell p (.bool true) := by
  refine callsD_of_wpS Tryd.func47 rfl fun c₀ cs hu => ?_
  have hlt : p.block < w.heap.size := lt_of_cell? hc
  have hc1 : (w.alloc (.cells #[.int .i64 0, .int .i64 0, .int .i64 0, .int .i64 0] 44)).cell? p = some x := (World.cell?_alloc_lt _ _ _ hlt).trans hc
  have hz1 : (w.alloc (.cells #[.int .i64 0, .int .i64 0, .int .i64 0, .int .i64 0] 44)).frozen? p = false := (World.frozen?_alloc_old _ _ _ (Nat.ne_of_lt hlt)).trans hz
  apply wpS_seq
  apply wpS_region
  simp [wpOpsS, go_sem, recoverD, hu, assert_none, Tryd.ntmps47, Exit.thenS]
  apply wpS_region
  simp [wpOpsS, go_sem, hc1, hz1, bodyPostS, results, Tryd.results47]
  cases c₀
  simp_all

set_option maxHeartbeats 4000000 in
set_option maxRecDepth 100000 in
theorem areClues_any (A : Option Addr) (n c B : Nat) (cs : List Cl) (h : Int) (w : World) (hr : Cls w B A n cs) (hB : B ≤ w.heap.size) (hn : n ≤ 17592186044416) :
    Calls Tryd.prog 34 #[.int .i64 h, .slice A n c] w fun e w' => e = .returned (.bool (cluesIs h cs)) ∧ Below w.heap.size w w' := by
  obtain rfl := hr.len
  have hmf : ∀ (fn : Fn) (first cap : Array Value) (w : World), (Instr.makeFunc fn first cap).run Tryd.prog w = .ok (.func fn first cap) w := fun _ _ _ _ => rfl
  go_enter_defers Tryd.func34, Tryd.ntmps34
  go_wp2_with fail
  have O0 := hide (One.made w 4 (.bool false))
  have B0 := hide (show Below w.heap.size w (w.alloc (.cells #[.bool false] 4)) from (Below.refl _ _).alloc (Nat.le_refl _) _)
  have HR := hide (fun cl W => require_any h cl W)
  have HQ := hide (reqOk_eq h)
  have HCR := hide (fun cl W (hc : One W w.heap.size 4 (.bool false)) => catch_raised ⟨w.heap.size, 0, none⟩ (.bool false) cl W hc.cell hc.free)
  have HCN := hide (fun W (hc : One W w.heap.size 4 (.bool true)) => catch_none ⟨w.heap.size, 0, none⟩ (.bool true) W hc.cell hc.free)
  go_loopw [10] (fun i wr => ∃ k : Nat, k ≤ cs.length ∧ i = .int .i64 k ∧ Hid (∀ (j : Nat) (hj : j < cs.length), j < k → clueIs h cs[j] = true) ∧ One wr w.heap.size 4 (.bool false) ∧ Below w.heap.size w wr)
    (fun i _ => cs.length - (intOf i).toNat)
  case atStart => exact ⟨0, Nat.zero_le _, rfl, hide (fun j _ hj => by omega), O0.out, B0.out⟩
  case round =>
    obtain ⟨k, hk, rfl, Hall, X, hb⟩ := hrel
    have hsz := hb.size
    by_cases hlt : k < cs.length
    · obtain ⟨b, off, rfl, hab, hc0, hc1, hc2, hc3⟩ := (hr.below hb hB).at_ hlt hlt
      have HCk := hide (HR.out cs[k])
      have HX := hide X
      clear X
      cases ho : clueIs h cs[k]
      · have HN := hide (cluesIs_not k hlt ho)
        have e := HQ.out cs[k]
        rw [ho] at e
        rw [if_neg (by rw [e]; simp)] at HCk
        clear ho e
        go_wp2_with fail
        refine (HCk.out _).mono ?_; rintro e w2 ⟨rfl, hb2⟩
        have HB2 := hide (hb.trans (((Below.refl _ wr).alloc (Nat.le_refl _) _).trans (hb2.mono (by simp)) |>.mono hsz))
        have HX2 := hide ((HX.out.new _).below hb2 (by have := HX.out.lt; simp; omega))
        clear hb2
        refine leaves_cons (f := 47) (args := #[.pointer (some ⟨w.heap.size, 0, none⟩)]) (by simp) (by simp [go_sem]) ?_
        refine (HCR.out cs[k] w2 HX2.out).mono ?_
        rintro e u' w3 ⟨rfl, ⟨pe, rfl, hpe⟩, rfl⟩
        have hB3 := (HB2.out.alloc HB2.out.size (.cells #[.int .i64 cs[k].x0, .int .i64 cs[k].x1, .int .i64 cs[k].x2, .int .i64 cs[k].x3] 44)).setCell (p := ⟨w.heap.size, 0, none⟩) (Nat.le_refl _) (.bool false)
        have hc3 := ((HX2.out.new (.cells #[.int .i64 cs[k].x0, .int .i64 cs[k].x1, .int .i64 cs[k].x2, .int .i64 cs[k].x3] 44)).put (.bool false)).cell
        obtain ⟨pv, pr, pg⟩ := pe
        obtain rfl : pr = true := hpe
        generalize ((w2.alloc (.cells #[.int .i64 cs[k].x0, .int .i64 cs[k].x1, .int .i64 cs[k].x2, .int .i64 cs[k].x3] 44)).setCell ⟨w.heap.size, 0, none⟩ (.bool false)) = w3 at *
        simp [Leaves, settle, results, Tryd.results34, go_sem, hc3, HN.out, hB3]
      · have HO := hide ho
        have e := HQ.out cs[k]
        rw [ho] at e
        rw [if_pos e] at HCk
        clear ho e
        go_wp2_with fail
        refine (HCk.out _).mono ?_; rintro e w2 ⟨rfl, hb2⟩
        have HB2 := hide (hb.trans (((Below.refl _ wr).alloc (Nat.le_refl _) _).trans (hb2.mono (by simp)) |>.mono hsz))
        have HX2 := hide ((HX.out.new _).below hb2 (by have := HX.out.lt; simp; omega))
        clear hb2
        go_wp2_with fail
        go_roundw
        case rel => exact ⟨k + 1, by omega, by go_num, hide (fun j hj hjk => if e : j = k then by subst e; exact HO.out else Hall.out j hj (by omega)), HX2.out, HB2.out⟩
        case measure => simp [intOf]; omega
    · have HY := hide (cluesIs_of (h := h) (cs := cs) (fun j hj => Hall.out j hj (by omega)))
      have hc := X.cell
      have hf := X.free
      have hX := X.put (.bool true)
      have hB := hb.setCell (p := ⟨w.heap.size, 0, none⟩) (Nat.le_refl _) (.bool true)
      clear X hb
      go_wp2_with fail
      refine leaves_cons (f := 47) (args := #[.pointer (some ⟨w.heap.size, 0, none⟩)]) (by simp) (by simp [go_sem]) ?_
      generalize (wr.setCell ⟨w.heap.size, 0, none⟩ (.bool true)) = w2 at *
      refine (HCN.out w2 hX).mono ?_
      rintro e u' w3 ⟨rfl, rfl, rfl⟩
      have hB3 := (hB.alloc hB.size (.cells #[.int .i64 0, .int .i64 0, .int .i64 0, .int .i64 0] 44)).setCell (p := ⟨w.heap.size, 0, none⟩) (Nat.le_refl _) (.bool true)
      have hc3 := ((hX.new (.cells #[.int .i64 0, .int .i64 0, .int .i64 0, .int .i64 0] 44)).put (.bool true)).cell
      generalize ((w2.alloc (.cells #[.int .i64 0, .int .i64 0, .int .i64 0, .int .i64 0] 44)).setCell ⟨w.heap.size, 0, none⟩ (.bool true)) = w3 at *
      simp [Leaves, settle, results, Tryd.results34, go_sem, hc3, HY.out, hB3]

/-- The program's IsPuzzle. -/
theorem IsPuzzle_any (A : Option Addr) (n c B : Nat) (cs : List Cl) (h : Int) (w : World) (hr : Cls w B A n cs) (hB : B ≤ w.heap.size) (hn : n ≤ 17592186044416) :
    Calls Tryd.prog 18 #[.agg #[.int .i64 h, .slice A n c]] w fun e w' => e = .returned (.bool (pzOk h cs)) ∧ Below w.heap.size w w' := by
  obtain rfl := hr.len
  have b1 : Below w.heap.size w (w.alloc (.cells #[.int .i64 h, .slice A cs.length c] 30)) := (Below.refl _ _).alloc (Nat.le_refl _) _
  have HH := hide (fun W => isHiddenCount_any h W)
  have HC := hide (areClues_any A cs.length c B cs h _ (hr.below b1 hB) (Nat.le_trans hB b1.size) hn)
  have HB := hide b1
  clear b1 hr
  by_cases hh : 2 ≤ h ∧ h ≤ 4
  · rw [decide_eq_true hh] at HH
    by_cases h6 : cs.length ≤ 6
    · have HP : Hid (pzOk h cs = cluesIs h cs) := hide (by rw [cluesIs_eq hh]; unfold pzOk; rw [decide_eq_true hh, decide_eq_true h6]; rfl)
      have h6' : (cs.length : Int) ≤ 6 := by omega
      have h6d : decide ((cs.length : Int) ≤ 6) = true := decide_eq_true h6'
      clear hh
      go_enter Tryd.func18, Tryd.ntmps18
      go_wp2_with fail
      refine (HH.out _).mono ?_; rintro e w' ⟨rfl, rfl⟩
      go_wp2_with fail
      refine HC.out.mono ?_; rintro e w2 ⟨rfl, hb2⟩
      have HB2 := hide (HB.out.trans (hb2.mono HB.out.size))
      clear hb2
      go_wp2_with fail
      go_ret
      exact ⟨ret_bool HP.out.symm, HB2.out⟩
    · have HP : Hid (pzOk h cs = false) := hide (by unfold pzOk; rw [decide_eq_false h6]; simp)
      have h6' : ¬ (cs.length : Int) ≤ 6 := by omega
      have h6d : decide ((cs.length : Int) ≤ 6) = false := decide_eq_false h6'
      clear hh
      go_enter Tryd.func18, Tryd.ntmps18
      go_wp2_with fail
      refine (HH.out _).mono ?_; rintro e w' ⟨rfl, rfl⟩
      go_wp2_with fail
      go_ret
      exact ⟨ret_bool HP.out.symm, HB.out⟩
  · rw [decide_eq_false hh] at HH
    have HP : Hid (pzOk h cs = false) := hide (by unfold pzOk; rw [decide_eq_false hh]; rfl)
    clear hh
    go_enter Tryd.func18, Tryd.ntmps18
    go_wp2_with fail
    refine (HH.out _).mono ?_; rintro e w' ⟨rfl, rfl⟩
    go_wp2_with fail
    go_ret
    exact ⟨ret_bool HP.out.symm, HB.out⟩

theorem run_one_clue (w : World) (x0 x1 x2 x3 : Int) : (Instr.buildSlice 28 1 #[(0, .agg #[.int .i64 x0, .int .i64 x1, .int .i64 x2, .int .i64 x3])]).run Tryd.prog w = .ok (.slice (some ⟨w.heap.size, 0, none⟩) 1 1) (w.alloc (.cells #[.int .i64 x0, .int .i64 x1, .int .i64 x2, .int .i64 x3] 44)) := by kernel_rfl
theorem one_clue (w : World) (c : Cl) : Cls (w.alloc (.cells #[.int .i64 c.x0, .int .i64 c.x1, .int .i64 c.x2, .int .i64 c.x3] 44)) (w.heap.size + 1) (some ⟨w.heap.size, 0, none⟩) 1 [c] := by
  have hX := CBox.new w 44 c
  refine ⟨rfl, fun _ => ⟨_, 0, rfl, Nat.lt_succ_self _, fun i hi => ?_⟩⟩
  match i, hi with
  | 0, _ => exact hX.c0
  | 1, _ => exact hX.c1
  | 2, _ => exact hX.c2
  | 3, _ => exact hX.c3
theorem areOne_any (h : Int) (c : Cl) (W : World) (g : Nat) (hg : g = W.heap.size) :
    Calls Tryd.prog 34 #[.int .i64 h, .slice (some ⟨g, 0, none⟩) 1 1] (W.alloc (.cells #[.int .i64 c.x0, .int .i64 c.x1, .int .i64 c.x2, .int .i64 c.x3] 44)) fun e w' => e = .returned (.bool (clueIs h c)) ∧ Below W.heap.size W w' := by
  subst hg
  have hs : W.heap.size + 1 ≤ (W.alloc (.cells #[.int .i64 c.x0, .int .i64 c.x1, .int .i64 c.x2, .int .i64 c.x3] 44)).heap.size := by simp
  have hb : Below W.heap.size W (W.alloc (.cells #[.int .i64 c.x0, .int .i64 c.x1, .int .i64 c.x2, .int .i64 c.x3] 44)) := (Below.refl _ _).alloc (Nat.le_refl _) _
  have hl := one_clue W c
  have e : cluesIs h [c] = clueIs h c := by simp [cluesIs]
  rw [← e]
  generalize (W.alloc (.cells #[.int .i64 c.x0, .int .i64 c.x1, .int .i64 c.x2, .int .i64 c.x3] 44)) = W1 at *
  refine (areClues_any (some ⟨W.heap.size, 0, none⟩) 1 1 (W.heap.size + 1) [c] h W1 hl hs (by omega)).mono ?_
  rintro e w' ⟨rfl, hb2⟩
  exact ⟨rfl, hb.trans (hb2.mono hb.size)⟩
end Go.Proofs.YtmjlfmlbmegheaaDoor
