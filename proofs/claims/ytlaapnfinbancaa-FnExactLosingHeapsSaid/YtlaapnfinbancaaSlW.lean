
/-
  VALUES OF HEAPS, the program's way: leastNotIn, the closure of splitValues, toldOf, splitValues.
-/
import Derived.Test.YtlaapnfinbancaaSlV
import Derived.Test.YtlaapnfinbancaaBpA
namespace Go.Proofs.Ytlaapnfinbancaa
open Go.RowKit Go.Deep
set_option linter.unusedVariables false

theorem leastNotIn_any (A : Option Addr) (n c B : Nat) (L : List Int) (w : World) (hr : Ints w B A n L) (hn : n ≤ 1000) :
    Calls Try.prog 37 #[.slice A n c] w fun e w' => e = .returned (.int .i64 ((mex L : Nat) : Int)) ∧ w = w' := by
  obtain rfl := hr.len
  go_enter Try.func37, Try.ntmps37
  go_wp2
  go_loop [3] (fun v => ∃ k : Nat, v = .int .i64 (k : Int) ∧ Hid (∀ j : Nat, j < k → (j : Int) ∈ L)) (fun v => above (intOf v).toNat L)
  case atStart => exact ⟨0, rfl, hide (fun j hj => by omega)⟩
  case round =>
    obtain ⟨k, rfl, HK⟩ := hrel
    have hkb : k ≤ L.length := by
      have h1 := below_count L k HK.out
      have h2 : above 0 L ≤ L.length := List.countP_le_length
      omega
    have HC := hide (fun W (h : Ints W B A L.length L) => Contains_in A L.length c B L (k : Int) W h (by omega))
    by_cases hk : (k : Int) ∈ L
    · have HKn := hide (show ∀ j : Nat, j < k + 1 → (j : Int) ∈ L from fun j hj => by
        rcases Nat.lt_or_ge j k with h1 | h1
        · exact HK.out j h1
        · obtain rfl : j = k := by omega
          exact hk)
      have HAl := hide (above_less hk)
      rw [inL_yes hk] at HC
      clear hk
      go_wp2_with fail
      refine (HC.out _ hr).mono ?_; rintro e w' ⟨rfl, rfl⟩
      go_wp2_with fail
      go_round
      case rel => exact ⟨k + 1, by go_num, HKn⟩
      case measure => simp [intOf]; exact HAl.out
    · have HV := hide (show mex L = k from mex_is ⟨HK.out, hk⟩)
      rw [inL_no hk] at HC
      clear hk
      go_wp2_with fail
      refine (HC.out _ hr).mono ?_; rintro e w' ⟨rfl, rfl⟩
      go_wp2_with fail
      go_ret
      exact ⟨by rw [HV.out]; rfl, rfl⟩

/-- What is told of both parts, as numbers to be added digit by digit. -/
def xrs (ps : List Bp) : List Int := ps.map fun d => xr d.x0 d.x1
theorem xrs_get (ps : List Bp) (k : Nat) (h : k < ps.length) : (xrs ps).getD k 0 = xr ps[k].x0 ps[k].x1 := by simp [xrs, List.getD, h]
theorem xrs_length (ps : List Bp) : (xrs ps).length = ps.length := by simp [xrs]

theorem valueFn_any (n : Int) (A : Option Addr) (len c B : Nat) (ps : List Bp) (w : World) (hr : Bps w B A len ps) (hB : B ≤ w.heap.size) (hn : len ≤ 1000) :
    Calls Try.prog 36 #[.int .i64 n, .slice A len c] w fun e w' => e = .returned (.int .i64 ((mex (xrs ps) : Nat) : Int)) ∧ Below w.heap.size w w' := by
  obtain rfl := hr.len
  have hmk := run_make_row' (P := Try.prog) 25 3 (.int .i64 0) 8 Try.underlying25 infoInt rfl .i64 .i64 ps.length (by omega) (by omega)
  have HL := hide (fun A' B' W (h : Ints W B' A' ps.length (xrs ps)) => leastNotIn_any A' ps.length ps.length B' (xrs ps) W h hn)
  generalize mex (xrs ps) = v at *
  go_enter Try.func36, Try.ntmps36
  go_wp2_with fail
  go_loopw [13] (fun i wr => ∃ k : Nat, k ≤ ps.length ∧ i = .int .i64 k ∧ wr.rowIs w.heap.size 3 ps.length (fun j => if j < k then .int .i64 ((xrs ps).getD j 0) else .int .i64 0) ∧ Below w.heap.size w wr ∧ w.heap.size < wr.heap.size)
    (fun i _ => ps.length - (intOf i).toNat)
  case atStart => exact ⟨0, Nat.zero_le _, rfl, (World.rowIs_made w _ _ _).congr (fun i _ => by simp), (Below.refl _ _).alloc (Nat.le_refl _) _, by simp⟩
  case round =>
    obtain ⟨k, hk, rfl, hrow, hb, hs⟩ := hrel
    by_cases hlt : k < ps.length
    · obtain ⟨b, off, rfl, hab, hc0, hc1⟩ := (hr.below hb hB).at_ hlt hlt
      have HG := hide (xrs_get ps k hlt)
      have hb0 := hb.size
      generalize hd : ps[k] = d at *
      clear hd
      have hrow0 := hrow.of_block (w' := wr.alloc (.cells #[.int .i64 d.x0, .int .i64 d.x1] 50)) (Below.heap_alloc _ _ _ hs)
      have hold := hrow0.cell hlt
      have hfz := hrow0.frozen k
      have Hrow := hide hrow
      clear hrow hrow0
      have hki : (k : Int) < (ps.length : Int) := by omega
      go_wp2_with fail
      go_roundw
      case rel =>
        refine ⟨k + 1, by omega, by go_num, ((Hrow.out.set k _).of_block (Below.heap_alloc _ _ _ (by simpa using hs))).congr (fun i hi => ?_), (hb.setCell (Nat.le_refl _) _).alloc (by simp; omega) _, by simp; omega⟩
        by_cases e : i = k
        · subst e; rw [if_pos rfl, if_pos (by omega), HG.out]; rfl
        · rw [if_neg e]
          by_cases h2 : i < k
          · rw [if_pos h2, if_pos (by omega)]
          · rw [if_neg h2, if_neg (by omega)]
      case measure => simp [intOf]; omega
    · have hR : Row wr w.heap.size 3 (xrs ps) := by
        unfold Row; rw [xrs_length]; exact hrow.congr (fun i hi => by rw [if_pos (by omega)])
      have hI := hR.ints hs
      rw [xrs_length] at hI
      clear hR hrow
      go_wp2_with fail
      refine (HL.out _ _ _ hI).mono ?_; rintro e w' ⟨rfl, rfl⟩
      go_wp2_with fail
      go_ret
      exact ⟨rfl, hb⟩
end Go.Proofs.Ytlaapnfinbancaa
