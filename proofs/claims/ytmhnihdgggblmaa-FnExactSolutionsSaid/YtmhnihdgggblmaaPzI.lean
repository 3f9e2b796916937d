
/-
  ALL SOLUTIONS, ONE AFTER THE OTHER: the program's iterator, whatever is done with each.
-/
import Derived.Test.YtmhnihdgggblmaaPzN
import Derived.Test.YtmhnihdgggblmaaSsA
import Derived.Test.YtmhnihdgggblmaaCopy
import Derived.RangeFuncNested
import Derived.RangeFuncBound
import Derived.RangeFuncCalls
import Derived.RangeFuncLeaves
import Derived.Shelf.Abstract
import Derived.Shelf.RegionOpen
import Derived.OwnWalkIn
import Derived.TacticsInMore
import Derived.LoopNIn
import Derived.LoopIn
import Derived.Sort.LoopGhostIn
namespace Go.Proofs.Ytmhnihdgggblmaa
open Go.RowKit Go.Deep Go.Shelf
attribute [local go_sem] Oper.semAt_some
set_option linter.unusedVariables false

/-- Blocks between lo and hi apart, what was there is as it was. -/
structure Side (lo hi : Nat) (W W' : World) : Prop where
  below : Below lo W W'
  oth : ∀ h, hi ≤ h → h < W.heap.size → W'.heap[h]? = W.heap[h]?
theorem Side.refl (lo hi : Nat) (W : World) : Side lo hi W W := ⟨Below.refl _ _, fun _ _ _ => rfl⟩
theorem Side.trans {lo hi : Nat} {A B C : World} (h : Side lo hi A B) (k : Side lo hi B C) : Side lo hi A C :=
  ⟨h.below.trans k.below, fun i hi' hl => (k.oth i hi' (by have := h.below.size; omega)).trans (h.oth i hi' hl)⟩
theorem Side.of_below {lo hi : Nat} {W W' : World} (h : Below W.heap.size W W') (hl : lo ≤ W.heap.size) : Side lo hi W W' := ⟨h.mono hl, fun i _ hi => h.block i hi⟩
theorem Side.of_turned {lo hi g : Nat} {W W' : World} (h : Turned g W W') (h1 : lo ≤ g) (h2 : g < hi) : Side lo hi W W' := ⟨h.below.mono h1, fun i hi' _ => h.oth i (by omega)⟩
theorem Side.wide {lo hi lo' hi' : Nat} {W W' : World} (h : Side lo hi W W') (h1 : lo' ≤ lo) (h2 : hi ≤ hi') : Side lo' hi' W W' := ⟨h.below.mono h1, fun i hi'' hl => h.oth i (by omega) hl⟩
/-- What a round keeps: whatever lies below B, and the blocks between lo and hi. -/
structure Kept (B lo hi : Nat) (W W' : World) : Prop where
  below : Below B W W'
  own : ∀ h, lo ≤ h → h < hi → W'.heap[h]? = W.heap[h]?
theorem Kept.trans {B lo hi : Nat} {X Y Z : World} (h : Kept B lo hi X Y) (k : Kept B lo hi Y Z) : Kept B lo hi X Z := ⟨h.below.trans k.below, fun i h1 h2 => (k.own i h1 h2).trans (h.own i h1 h2)⟩

/-- THE CONTRACT OF p.solutions: J: what holds between two rounds, zss having come; Jx: where a round has said 'no more'. -/
def SolStops (n : Nat) (A : Option Addr) (m c B : Nat) (cs : List Cl) (h : Nat) (l : Nat) (W : World) (J Jx : List (List Int) → World → Prop) : Prop :=
  (∀ z X Y, J z X → Side W.heap.size (W.heap.size + 2) X Y → J z Y) →
  (∀ z zs v X Y, J z X → W.heap.size + 2 ≤ X.heap.size → Below X.heap.size X Y → Own Y X.heap.size 3 v zs → zs.length = h → z ++ [zs] <+: solsL (fitAll cs) h →
    YieldAt Fence.wide (n - 1) Try.prog l #[v] Y fun e Y' => (e = .returned (.bool true) ∧ J (z ++ [zs]) Y' ∧ Kept B W.heap.size (W.heap.size + 2) Y Y') ∨ (e = .returned (.bool false) ∧ Jx (z ++ [zs]) Y')) →
  J [] W →
  CallsIn Fence.wide n Try.prog 28 #[.agg #[.int .i64 (h : Int), .slice A m c], .func (.yield l) #[] #[]] W fun e W' => (∃ v, e = .returned v) ∧
    (J (solsL (fitAll cs) h) W' ∨ ∃ z, z <+: solsL (fitAll cs) h ∧ Jx z W')

/-- Between two rounds: v of the hidden heaps are over. -/
def SolRel (A : Option Addr) (m c B : Nat) (cs : List Cl) (h : Nat) (W : World) (J : List (List Int) → World → Prop) (k : Nat) (s : Value) (wr : World) : Prop :=
  ∃ v : Nat, k + v = 6 ^ h ∧ s = .bool (decide (v < 6 ^ h)) ∧ Hid (Row wr (W.heap.size + 1) 3 (digL h (v % 6 ^ h))) ∧ Hid (Bx wr W.heap.size 31 (.int .i64 (h : Int)) (.slice A m c)) ∧
    Hid (J (upTo (fitAll cs) h v) wr) ∧ Hid (Below B W wr) ∧ Hid (W.heap.size + 2 ≤ wr.heap.size)

set_option maxHeartbeats 8000000 in
set_option maxRecDepth 100000 in
theorem solutions_in (N : Nat) (A : Option Addr) (m c B : Nat) (cs : List Cl) (h l : Nat) (W : World) (J Jx : List (List Int) → World → Prop) (hr : Cls W B A m cs) (hB : B ≤ W.heap.size) (hm : m ≤ 1000000) (hh : 2 ≤ h ∧ h ≤ 4)
    (hs : ∀ (j : Nat) (hj : j < cs.length), subOk h cs[j].x0 cs[j].x1 cs[j].x2) : SolStops N A m c B cs h l W J Jx := by
  intro hJ hY h0
  have HJ := hide hJ
  have HY := hide hY
  have HR := hide hr
  have HS := hide hs
  clear hJ hY hr hs
  have hmk := fun W => run_make_row' (P := Try.prog) 38 3 (.int .i64 0) 8 Try.underlying38 infoInt rfl .i64 .i64 h (by omega) (by omega) W
  have hpow : 0 < 6 ^ h := Nat.pow_pos (by omega)
  have X0 := (Bx.new W 31 (.int .i64 (h : Int)) (.slice A m c)).alloc (.cells (madeCells #[.int .i64 0] h) 3)
  have R0 := Row.zeros (W.alloc (.cells #[.int .i64 (h : Int), .slice A m c] 31)) h 3
  rw [show (W.alloc (.cells #[.int .i64 (h : Int), .slice A m c] 31)).heap.size = W.heap.size + 1 from by simp] at R0
  have hz : List.replicate h (0 : Int) = digL h (0 % 6 ^ h) := by
    rw [Nat.zero_mod]
    obtain rfl | rfl | rfl : h = 2 ∨ h = 3 ∨ h = 4 := by omega
    all_goals rfl
  rw [hz] at R0
  have B0 : Below W.heap.size W ((W.alloc (.cells #[.int .i64 (h : Int), .slice A m c] 31)).alloc (.cells (madeCells #[.int .i64 0] h) 3)) := ((Below.refl _ _).alloc (Nat.le_refl _) _).alloc (by simp) _
  have J0 := hide (HJ.out [] _ _ h0 (Side.of_below B0 (Nat.le_refl _)))
  have HX0 := hide X0
  have HR0 := hide R0
  have HB0 := hide B0
  have hs0 : Hid (W.heap.size + 2 ≤ ((W.alloc (.cells #[.int .i64 (h : Int), .slice A m c] 31)).alloc (.cells (madeCells #[.int .i64 0] h) 3)).heap.size) := hide (by simp)
  clear X0 R0 B0 h0 hz
  refine callsIn_of_wp Try.func28 rfl trivial ?_ rfl
  simp only [Try.ntmps28, List.size_toArray, List.length_cons, List.length_nil, Nat.reduceAdd, Nat.reduceSub, Array.replicate_succ, Array.replicate_zero, List.push_toArray, List.append_toArray, List.nil_append, List.cons_append]
  gi_wp2
  gi_loopg [5] (6 ^ h) (SolRel A m c B cs h W J)
  case atStart => exact ⟨0, rfl, by simp [hpow], HR0, HX0, J0, hide (HB0.out.mono hB), hs0⟩
  case round =>
    obtain ⟨v, hkv, rfl, HRow, HX, HJJ, HBB, HSZ⟩ := hrel
    clear HR0 HX0 J0 HB0 hs0
    by_cases hlt : v < 6 ^ h
    · rw [decide_eq_true hlt]
      rw [Nat.mod_eq_of_lt hlt] at HRow
      have hsz := HSZ.out
      have HZ := hide (digL_hid hh hlt)
      have HL := hide (digL_length h v)
      have HI := hide (show Ints wr wr.heap.size (some ⟨W.heap.size + 1, 0, none⟩) h (digL h v) from by have := HRow.out.ints (B := wr.heap.size) (by omega); rw [HL.out] at this; exact this)
      have HD := hide (doAllFit_any A m c B cs (h : Int) (some ⟨W.heap.size + 1, 0, none⟩) h h wr.heap.size (digL h v) wr (HR.out.below HBB.out (Nat.le_refl _)) (by omega) (by omega) HI.out (Nat.le_refl _) HZ.out HS.out)
      have HADV := hide (adv_dig hh hlt)
      have HUS := hide (upTo_succ (fitAll cs) h v)
      have x0 := HX.out.c0
      have x1 := HX.out.c1
      have HNX : Hid (∀ (z : List (List Int)) (w2 : World), z = upTo (fitAll cs) h (v + 1) → Row w2 (W.heap.size + 1) 3 (digL h v) → Bx w2 W.heap.size 31 (.int .i64 (h : Int)) (.slice A m c) → J z w2 → Below B W w2 → W.heap.size + 2 ≤ w2.heap.size →
          Calls Try.prog 39 #[.slice (some ⟨W.heap.size + 1, 0, none⟩) h h] w2 fun e w3 => e = .returned (.bool (decide (v + 1 < 6 ^ h))) ∧ SolRel A m c B cs h W J (gk - 1) (.bool (decide (v + 1 < 6 ^ h))) w3) := hide fun z w2 hz hrow hx hj hb hsz2 => by
        subst hz
        refine (advanceHidden_any (W.heap.size + 1) h h (digL h v) w2 hrow HL.out (by omega) (hidOk_of HZ.out).2).mono ?_
        rintro e w3 ⟨rfl, hrow3, ht⟩
        rw [HADV.out] at hrow3 ⊢
        exact ⟨rfl, v + 1, by omega, rfl, hide hrow3, hide ((ht.oth _ (by omega)).trans hx), hide (HJ.out _ _ _ hj (Side.of_turned ht (by omega) (by omega))), hide (hb.trans (ht.below.mono (by omega))), hide (by rw [ht.size]; exact hsz2)⟩
      cases hf : fitAll cs (digL h v)
      · rw [hf] at HD HUS
        have HU := hide (show upTo (fitAll cs) h v = upTo (fitAll cs) h (v + 1) from by rw [HUS.out]; simp)
        clear hf HUS
        gi_wp2_with fail
        refine ⟨trivial, (fun h => by cases h), (callsIn_wide.2 HD.out).mono ?_⟩; rintro e w2 ⟨rfl, hb2⟩
        have HN2 := hide (HNX.out _ w2 HU.out (HRow.out.below hb2 (by omega)) (HX.out.next hb2) (HJ.out _ _ _ HJJ.out (Side.of_below hb2 (by omega))) (HBB.out.trans (hb2.mono (by omega))) (by have := hb2.size; omega))
        clear hb2 x0 x1
        gi_wp2_with fail
        refine ⟨trivial, ?_⟩
        gi_wp2_with fail
        refine ⟨fun _ h => (by cases h), ?_⟩
        gi_wp2_with fail
        refine ⟨trivial, (fun h => by cases h), (callsIn_wide.2 HN2.out).mono ?_⟩; rintro e w3 ⟨rfl, hrel⟩
        have HREL := hide hrel
        clear hrel
        gi_wp2_with fail
        gi_roundg (gk - 1)
        case measure => omega
        case rel => exact HREL.out
      · rw [hf] at HD HUS
        have HU := hide (show upTo (fitAll cs) h v ++ [digL h v] = upTo (fitAll cs) h (v + 1) from by rw [HUS.out]; simp)
        have HPR := hide (show upTo (fitAll cs) h (v + 1) <+: solsL (fitAll cs) h from by rw [solsL_upTo (fitAll cs) (n := h) (by omega)]; exact upTo_prefix _ _ (by omega))
        clear hf HUS
        have hlh : 0 < h := by omega
        have HCL := hide (fun w2 (hb2 : Below wr.heap.size wr w2) => Clone_any (some ⟨W.heap.size + 1, 0, none⟩) h h wr.heap.size (digL h v) w2 (HI.out.below hb2 (Nat.le_refl _)) hb2.size hlh (by omega))
        gi_wp2_with fail
        refine ⟨trivial, (fun h => by cases h), (callsIn_wide.2 HD.out).mono ?_⟩; rintro e w2 ⟨rfl, hb2⟩
        have HB2 := hide hb2
        clear hb2 x0 x1
        gi_wp2_with fail
        refine ⟨trivial, (fun h => by cases h), (callsIn_wide.2 (HCL.out w2 HB2.out)).mono ?_⟩; rintro e w3 ⟨g2, c2, rfl, hg2, hg2', hc2, hc2', hown, hb3⟩
        rw [HL.out] at hc2 hown ⊢
        have hs2 := HB2.out.size
        obtain ⟨fn, tmps, assign, body, hy, hR⟩ := HY.out (upTo (fitAll cs) h v) (digL h v) _ w2 w3 (HJ.out _ _ _ HJJ.out (Side.of_below HB2.out (by omega))) (by omega) hb3 hown HL.out (by rw [HU.out]; exact HPR.out)
        have HRR := hide hR
        have HB3 := hide (HB2.out.trans (hb3.mono HB2.out.size))
        clear hR hb3 hown hg2 hg2' hc2 hc2'
        gi_wp2_with fail
        refine ⟨(fun h => by cases h), HRR.out.mono ?_⟩
        rintro e w4 (⟨rfl, hj4, hk4⟩ | ⟨rfl, hx4⟩)
        · rw [HU.out] at hj4
          have hs3 := HB3.out.size
          have hw4 := hk4.below.size
          have HN4 := hide (HNX.out _ w4 rfl ((HRow.out.below HB3.out (by omega)).same (hk4.own _ (by omega) (by omega))) ((hk4.own _ (Nat.le_refl _) (by omega)).trans (HX.out.next HB3.out)) hj4 ((HBB.out.trans (HB3.out.mono (by omega))).trans hk4.below) (by omega))
          clear hj4 hk4 hs3 hw4
          gi_wp2_with fail
          refine ⟨trivial, (fun h => by cases h), (callsIn_wide.2 HN4.out).mono ?_⟩; rintro e w5 ⟨rfl, hrel⟩
          have HREL := hide hrel
          clear hrel
          gi_wp2_with fail
          gi_roundg (gk - 1)
          case measure => omega
          case rel => exact HREL.out
        · have HXX := hide (show ∃ z, z <+: solsL (fitAll cs) h ∧ Jx z w4 from ⟨_, HPR.out, HU.out ▸ hx4⟩)
          clear hx4
          gi_wp2_with fail
          refine bodyPost_ret (results_none rfl _ _ _) rfl ⟨⟨_, rfl⟩, .inr HXX.out⟩
    · obtain rfl : v = 6 ^ h := by omega
      have HF := hide (solsL_upTo (fitAll cs) (n := h) (by omega))
      rw [decide_eq_false hlt]
      clear hlt
      gi_wp2
      go_end0
      exact ⟨⟨_, rfl⟩, .inl (by rw [HF.out]; exact HJJ.out)⟩
end Go.Proofs.Ytmhnihdgggblmaa
