
/-
  VALUES OF HEAPS, the program's way: toldOf, splitValues.
-/
import Derived.Test.YtlaapnfinbancaaSlW
namespace Go.Proofs.Ytlaapnfinbancaa
open Go.RowKit Go.Deep
set_option linter.unusedVariables false

def bpOf (x : Int × Int) : Bp := ⟨x.1, x.2⟩
def bps (l : List (Int × Int)) : List Bp := l.map bpOf
theorem bps_length (l : List (Int × Int)) : (bps l).length = l.length := by simp [bps]
theorem xrs_bps (l : List (Int × Int)) : xrs (bps l) = seenL l := by simp [xrs, bps, seenL, bpOf]
theorem told_len {α : Type} (t : List α) (z : α) (r : Int) (n p : Nat) : (told t z r n p).length ≤ p := by unfold told; rw [List.length_map]; exact pB_len _ _ _
theorem told_yes {t : List Int} {r : Int} {n p : Nat} (h : scan r n p = true) : bps (told t 0 r n (p + 1)) = bps (told t 0 r n p) ++ [⟨t.getD (n - p) 0, t.getD p 0⟩] := by
  unfold bps told
  rw [pB_yes h]; simp [bpOf]
/-- The least part, and the greatest one, as natural numbers. -/
def leastN (r : Int) : Nat := (leastP r).toNat
theorem leastN_is (r : Int) : ((leastN r : Nat) : Int) = leastP r ∧ 1 ≤ leastN r ∧ leastN r ≤ 2 := by
  unfold leastN leastP; split <;> omega
theorem told_least {α : Type} (t : List α) (z : α) (r : Int) (n : Nat) (hr : srule r = true) (hn : 1 ≤ n) : told t z r n (leastN r) = [] := by
  have h : pB r n (leastN r) = pB r n 0 := by
    have := pB_same (r := r) (n := n) (p := 0) (leastN r) (fun q _ hq => by
      rw [scan_parts hr (by omega)]
      have := (leastN_is r).1
      exact decide_eq_false (by omega))
    simpa using this
  unfold told; rw [h]; rfl
theorem told_past {α : Type} {t : List α} {z : α} {r : Int} {n p : Nat} (hr : srule r = true) (hn : 1 ≤ n) (h : ¬ (p : Int) ≤ mostP r n) (hp : p ≤ n + 1) : told t z r n p = told t z r n (n + 1) := by
  have e : pB r n (n + 1) = pB r n p := by
    have := pB_same (r := r) (n := n) (p := p) (n + 1 - p) (fun q hq _ => by
      rw [scan_parts hr (by omega)]
      exact decide_eq_false (by omega))
    rw [show n + 1 = p + (n + 1 - p) from by omega]; exact this
  unfold told; rw [e]
theorem mostP_bd {r : Int} {n : Nat} (hn : 1 ≤ n) : 0 ≤ mostP r n ∧ 2 * mostP r n ≤ n := by unfold mostP; split <;> omega
theorem vals_other (r : Int) (N j : Nat) (hN : 1 ≤ N) (h : j ≠ N) : (vals r N).getD j 0 = (vals r (N - 1)).getD j 0 := by
  rcases Nat.lt_or_ge j N with h1 | h1
  · exact tbl_get (by omega) (by omega)
  · rw [List.getD_eq_getElem?_getD, List.getD_eq_getElem?_getD, List.getElem?_eq_none (by rw [vals_length]; omega), List.getElem?_eq_none (by rw [vals_length]; omega)]
theorem vals_at (r : Int) (N : Nat) (hN : 1 ≤ N) : (vals r N).getD N 0 = ((mex (seenL (told (vals r (N - 1)) 0 r N (N + 1))) : Nat) : Int) := by
  obtain ⟨n, rfl⟩ : ∃ n, N = n + 1 := ⟨N - 1, by omega⟩
  exact tbl_last n

set_option maxHeartbeats 2000000 in
theorem toldV_any (r : Int) (m : Nat) (hm1 : 1 ≤ m) (hm : m ≤ 60) (hrule : srule r = true) (w : World) :
    Calls Try.prog 35 #[.int .i64 r, .int .i64 (m : Int), .func (.func 36) #[] #[]] w (Made (vals r m) w) := by
  have HR := hide hrule
  clear hrule
  have hmk := run_make_row' (P := Try.prog) 25 3 (.int .i64 0) 8 Try.underlying25 infoInt rfl .i64 .i64 (m + 1) (by omega) (by omega)
  rw [show ((m + 1 : Nat) : Int) = (m : Int) + 1 from by omega] at hmk
  go_enter Try.func35, Try.ntmps35
  go_wp2_with fail
  go_loopw [8] (fun i wr => ∃ N : Nat, 1 ≤ N ∧ N ≤ m + 1 ∧ i = .int .i64 (N : Int) ∧ Hid (wr.rowIs w.heap.size 3 (m + 1) (fun j => .int .i64 ((vals r (N - 1)).getD j 0))) ∧ Below w.heap.size w wr ∧ w.heap.size < wr.heap.size)
    (fun i _ => m + 1 - (intOf i).toNat)
  case atStart => exact ⟨1, Nat.le_refl _, by omega, rfl, hide ((World.rowIs_made w _ _ _).congr (fun i _ => by
    show _ = Value.int .i64 ([(0 : Int)].getD i 0)
    cases i <;> simp)), (Below.refl _ _).alloc (Nat.le_refl _) _, by simp⟩
  case round =>
    obtain ⟨N, hN1, hN, rfl, HRow, hb, hs⟩ := hrel
    have hsz := hb.size
    by_cases hlt : N ≤ m
    · have HT := hide (vals_bd r (N - 1))
      have HO := hide (fun j => vals_other r N j hN1)
      have HAt := hide (vals_at r N hN1)
      have HP := hide (fun W => partsOf_any r (N : Int) HR.out (by omega) (by omega) W)
      have hbd := mostP_bd (r := r) hN1
      have hle := leastN_is r
      rw [← hle.1] at HP
      have HPast := hide (fun p t h => told_past (α := Int) (t := t) (z := 0) (r := r) (n := N) (p := p) HR.out hN1 h)
      have HScan := hide (fun p : Nat => scan_parts (r := r) (h := (N : Int)) (p := (p : Int)) HR.out (by omega))
      rw [← hle.1] at HScan
      have hst := told_least (vals r (N - 1)) 0 r N HR.out hN1
      have HSt := hide hst
      have hle2 := hle.2.1
      have hle3 := hle.2.2
      clear hle hst
      generalize vals r (N - 1) = t at *
      generalize mostP r (N : Int) = b at *
      generalize leastN r = a at *
      have hcond : ((N : Int) ≤ (m : Int)) := by omega
      generalize wr = W1 at *
      go_wp2_with fail
      refine (HP.out _).mono ?_; rintro e w' ⟨rfl, rfl⟩
      go_wp2_with fail
      go_loopw [9, 12] (fun v q wq => ∃ p : Nat, a ≤ p ∧ p ≤ N + 1 ∧ q = .int .i64 (p : Int) ∧ Hid (OwnIBp wq W1.heap.size v (bps (told t 0 r N p)).length (numsBp (bps (told t 0 r N p)))) ∧ Below W1.heap.size W1 wq)
        (fun _ q _ => N + 1 - (intOf q).toNat)
      case atStart => exact ⟨a, Nat.le_refl _, by omega, rfl, by rw [HSt.out]; exact hide (OwnIBp.nil _ _), Below.refl _ _⟩
      case round =>
        obtain ⟨p, hp1, hp2, rfl, HQ, hbq⟩ := hrel
        have hsq := hbq.size
        by_cases hc : (p : Int) ≤ b
        · have hs1 : scan r (N : Int) (p : Int) = true := by rw [HScan.out]; exact decide_eq_true (by omega)
          have HN := hide (told_yes (t := t) hs1)
          have hlen := told_len t 0 r N p
          have hlen2 : (bps (told t 0 r N p)).length < 1000000 := by rw [bps_length]; omega
          have hrow1 := HRow.out.of_block (hbq.block _ hs)
          have hcell1 := hrow1.cell (i := N - p) (by omega)
          have hcell2 := hrow1.cell (i := p) (by omega)
          clear hs1 hrow1
          generalize t.getD p 0 = x at *
          generalize t.getD (N - p) 0 = y at *
          generalize bps (told t 0 r N p) = ms at *
          have hi1 : (p : Int) < (m : Int) + 1 := by omega
          have hi2 : (N : Int) - (p : Int) = ((N - p : Nat) : Int) := by omega
          have hi3 : ((N - p : Nat) : Int) < (m : Int) + 1 := by omega
          have hi4 : IntKind.i64.wrap ((N : Int) - (p : Int)) = ((N - p : Nat) : Int) := by rw [IntKind.wrap_i64]; omega
          have hi5 : IntKind.i64.wrap ((N - p : Nat) : Int) = ((N - p : Nat) : Int) := by rw [IntKind.wrap_i64]; omega
          have HSK : Hid (∀ W', Below W1.heap.size W1 W' → (Below W1.heap.size W1 W' ∧ W'.cell? ⟨w.heap.size, N - p, none⟩ = some (.int .i64 y) ∧ W'.cell? ⟨w.heap.size, p, none⟩ = some (.int .i64 x))) := hide fun W' h =>
            ⟨h, ((h.cell (p := ⟨w.heap.size, N - p, none⟩) hs).trans ((hbq.cell (p := ⟨w.heap.size, N - p, none⟩) hs).symm)).trans hcell1, ((h.cell (p := ⟨w.heap.size, p, none⟩) hs).trans ((hbq.cell (p := ⟨w.heap.size, p, none⟩) hs).symm)).trans hcell2⟩
          clear hcell1 hcell2
          go_wp2_with fail
          go_region_held3 (fun W => Below W1.heap.size W1 W ∧ W.cell? ⟨w.heap.size, N - p, none⟩ = some (.int .i64 y) ∧ W.cell? ⟨w.heap.size, p, none⟩ = some (.int .i64 x))
            (first | exact HSK.out _ hbq.drew | exact HSK.out _ (hbq.drew.trans hb') | exact HSK.out _ (Below.trans (And.left (by assumption)) hb') | exact HSK.out _ (Below.alloc (And.left (by assumption)) (Below.size (And.left (by assumption))) _) | go_keep)
            (first | (refine step_app_Bp rfl _ _ 48 rfl Try.underlying48 W1.heap.size _ ms rfl (wr := wr.drew) ?_ ⟨y, x⟩ _ rfl ?_ hlen2 ?_; (exact HQ.out.keep fun _ _ _ => rfl); (exact hbq.size); intro v' w' hown' hb'))
          have hbw : Below W1.heap.size W1 w' := And.left (by assumption : Below W1.heap.size W1 w' ∧ w'.cell? ⟨w.heap.size, N - p, none⟩ = some (.int .i64 y) ∧ _)
          clear hb' HSK
          go_wp2_with fail
          go_roundw
          case rel => exact ⟨p + 1, by omega, by omega, by go_num, by rw [HN.out]; exact hide hown', hbw⟩
          case measure => simp [intOf]; omega
        · have HE := hide (HPast.out p t (by omega) hp2)
          have hlen := told_len t 0 r N p
          have hl2 := bps_length (told t 0 r N p)
          rw [HE.out] at HQ hlen hl2
          clear HE
          obtain ⟨A', c', rfl⟩ := HQ.out.shape
          have hlen3 : (bps (told t 0 r N (N + 1))).length ≤ 1000 := by omega
          have HF := hide (fun W (h : Bps W W.heap.size A' (bps (told t 0 r N (N + 1))).length (bps (told t 0 r N (N + 1)))) => valueFn_any (N : Int) A' (bps (told t 0 r N (N + 1))).length c' W.heap.size (bps (told t 0 r N (N + 1))) W h (Nat.le_refl _) hlen3)
          rw [xrs_bps] at HF
          have HI := hide HQ.out.list
          have hrow1 := HRow.out.of_block (hbq.block _ hs)
          have Hrow1 := hide hrow1
          clear hrow1 hl2 hlen
          generalize ((mex (seenL (told t 0 r N (N + 1))) : Nat) : Int) = val at *
          generalize bps (told t 0 r N (N + 1)) = ms at *
          go_wp2_with fail
          refine (HF.out _ HI.out).mono ?_; rintro e w4 ⟨rfl, hb4⟩
          have hz4 : w.heap.size < wr.heap.size := by omega
          have hrow4 := Hrow1.out.of_block (hb4.block _ hz4)
          have hold := hrow4.cell (i := N) (by omega)
          have hfz := hrow4.frozen N
          have Hrow4 := hide hrow4
          have hbw := hide (hb.trans ((hbq.mono hsz).trans (hb4.mono (Nat.le_trans hsz hsq))))
          have s4 := hb4.size
          clear hrow4
          have hni : (N : Int) < (m : Int) + 1 := by omega
          go_wp2_with fail
          go_roundw
          case rel =>
            refine ⟨N + 1, by omega, by omega, by go_num, hide ((Hrow4.out.set N _).congr fun i hi => ?_), hbw.out.setCell (Nat.le_refl _) _, by simp; omega⟩
            rw [Nat.add_sub_cancel]
            by_cases e : i = N
            · subst e; rw [if_pos rfl, HAt.out]
            · rw [if_neg e, HO.out i e]
          case measure => simp [intOf]; omega
    · obtain rfl : N = m + 1 := by omega
      have hcond : ¬ (((m + 1 : Nat) : Int) ≤ (m : Int)) := by omega
      have HL := hide (vals_length r m)
      have hR : Row wr w.heap.size 3 (vals r m) := by
        unfold Row; rw [HL.out]; have := HRow.out; rw [Nat.add_sub_cancel] at this; exact this
      have hO := hide (Own.of_row (base := w.heap.size) hR (Nat.le_refl _) (by rw [HL.out]; unfold maxLen; omega))
      clear hR
      go_wp2_with fail
      go_ret
      exact ⟨some ⟨w.heap.size, 0, none⟩, m + 1, by rw [HL.out]; rfl, by rw [HL.out]; exact Nat.le_refl _, by unfold maxLen; omega, by have := hO.out; rw [HL.out] at this ⊢; exact this, hb⟩

theorem splitValues_any (r : Int) (m : Nat) (hm1 : 1 ≤ m) (hm : m ≤ 60) (hrule : srule r = true) (w : World) :
    Calls Try.prog 29 #[.int .i64 r, .int .i64 (m : Int)] w (Made (vals r m) w) := by
  have H := hide (toldV_any r m hm1 hm hrule w)
  generalize vals r m = L at *
  go_enter Try.func29, Try.ntmps29
  go_wp2_with fail
  refine H.out.mono ?_
  rintro e w1 ⟨A, c, rfl, h1, h2, hown, hb⟩
  go_wp2_with fail
  go_ret
  exact ⟨A, c, rfl, h1, h2, hown, hb⟩
end Go.Proofs.Ytlaapnfinbancaa
