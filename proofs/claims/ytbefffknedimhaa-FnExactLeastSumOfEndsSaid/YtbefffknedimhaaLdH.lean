
/-
  GIVING JOBS OUT, BOTH WAYS: ldGive; indicesOf, firstLeast of numbers, givenOut.
-/
import Derived.Test.YtbefffknedimhaaLdG
import Derived.Test.YtbefffknedimhaaLd
import Derived.Test.YtbefffknedimhaaCopy
import Derived.Test.YtbefffknedimhaaApp
import Derived.Test.YtbefffknedimhaaSums
namespace Go.Proofs.Ytbefffknedimhaa
open Go.RowKit Go.Deep
set_option linter.unusedVariables false

/-- An order of jobs. -/
def OrdOf (n : Nat) (os : List Int) : Prop := os.length ≤ n ∧ ∀ k (h : k < os.length), ∃ j : Nat, os[k] = (j : Int) ∧ j < n

theorem made1_row {w w' : World} {g : Nat} {fs : List Int} {n : Nat} (hn : fs.length = n) (h : Row w' g 3 fs) (hg : w.heap.size ≤ g) (hb : Below w.heap.size w w') (hm : n ≤ 1000000) :
    Made1 fs w (.returned (.slice (some ⟨g, 0, none⟩) n n)) w' := by
  subst hn
  exact ⟨g, fs.length, rfl, hg, h.lt, Nat.le_refl _, by unfold maxLen; omega, Own.of_row h hg (by unfold maxLen; omega), hb⟩

set_option maxRecDepth 100000 in
/-- The model's ldGive. -/
theorem ldGive_any (A : Option Addr) (n c B : Nat) (zs : List Int) (m : Nat) (A' : Option Addr) (n' c' B' : Nat) (os : List Int) (w : World) (hr : Ints w B A n zs) (hs : Ints w B' A' n' os)
    (hB : B ≤ w.heap.size) (hB' : B' ≤ w.heap.size) (hg : jgood zs = true) (hm1 : 1 ≤ m) (hm2 : m ≤ 4) (ho : OrdOf zs.length os) :
    Calls Try.prog 17 #[.slice A n c, .int .i64 (m : Int), .slice A' n' c'] w (Made1 (giveP zs os m) w) := by
  obtain rfl := hr.len
  obtain rfl := hs.len
  obtain ⟨hl1, hl9, hwz⟩ := jgood_of hg
  have HZ := hide (jgood_get hg)
  have HO := hide ho.2
  have hol := ho.1
  have HL := hide (giveS_len zs os m)
  have HB := hide (giveS_bd os m (within_wide hwz (lo' := 0) (hi' := 1000) (by omega) (by omega)))
  have HP := hide (show giveP zs os m = (giveS zs os m os.length).1 from rfl)
  have hmk := run_make_row' (P := Try.prog) 22 3 (.int .i64 0) 8 Try.underlying22 infoInt rfl .i64 .i64 zs.length (by omega) (by omega)
  have hmk2 := run_make_row' (P := Try.prog) 22 3 (.int .i64 0) 8 Try.underlying22 infoInt rfl .i64 .i64 m (by omega) (by omega)
  clear ho hg hwz
  go_enter Try.func17, Try.ntmps17
  go_wp2_with fail
  go_loopw [21] (fun i wr => ∃ k : Nat, k ≤ os.length ∧ i = .int .i64 k ∧ Row wr w.heap.size 3 (giveS zs os m k).1 ∧ Row wr (w.heap.size + 1) 3 (giveS zs os m k).2 ∧ Below w.heap.size w wr)
    (fun i _ => os.length - (intOf i).toNat)
  case atStart =>
    refine ⟨0, Nat.zero_le _, rfl, (Row.zeros w _ _).new _, ?_, ((Below.refl _ _).alloc (Nat.le_refl _) _).alloc (by simp) _⟩
    have := Row.zeros (w.alloc (.cells (madeCells #[.int .i64 0] zs.length) 3)) m 3
    simpa [giveS] using this
  case round =>
    obtain ⟨k, hk, rfl, hrp, hrl, hb⟩ := hrel
    by_cases hlt : k < os.length
    · obtain ⟨jb, hj, hjn⟩ := HO.out k hlt
      obtain ⟨ad', rfl, hab', hcell'⟩ := (hs.below hb hB').at_ hlt
      rw [getD_at hlt, hj] at hcell'
      obtain ⟨ad, rfl, hab, hcj⟩ := (hr.below hb hB).at_ hjn
      rw [getD_at hjn] at hcj
      have hzj := HZ.out jb hjn
      have hll := HL.out k
      have HW := hide (HB.out k)
      have HST := hide (fun f p l h hf x y hx hy => giveS_step zs os m k jb f p l h (by rw [getD_at hlt]; exact hj) hf x y hx hy)
      obtain ⟨p, l, hpl⟩ : ∃ p l, giveS zs os m k = (p, l) := ⟨_, _, rfl⟩
      rw [hpl] at hrp hrl hll HW
      have HPL := hide hpl
      obtain ⟨hpn, hln⟩ := hll
      simp only at hrp hrl hpn hln HW
      clear hpl hj
      have HN := hide hln
      have hl0 : 0 < l.length := by omega
      have HF := hide (flAt_lt l hl0)
      have HR := hide hrl
      have HRP := hide hrp
      clear hrl hrp hln
      have HYJ := hide (getD_at (l := zs) hjn)
      generalize zs[jb] = y at *
      go_wp2_with fail
      go_loop [11, 27] (fun b j => ∃ q : Nat, q ≤ m ∧ j = .int .i64 q ∧ b = .int .i64 (flAt l q))
        (fun _ j => m - (intOf j).toNat)
      case atStart => exact ⟨0, Nat.zero_le _, rfl, rfl⟩
      case round =>
        obtain ⟨q, hq, rfl, rfl⟩ := hrel
        have hfq := HF.out q (by have := HN.out; omega)
        have hfm : flAt l q < m := by have := HN.out; omega
        by_cases hqm : q < m
        · have hcq := HR.out.at_ (k := q) (by have := HN.out; omega)
          have hcf := HR.out.at_ hfq
          by_cases hc : l[q]'(by have := HN.out; omega) < l[flAt l q]
          · have HY := hide (flAt_yes (l := l) (k := q) (by rw [getD_at hfq, getD_at (by have := HN.out; omega)]; exact hc))
            go_wp2_with fail
            go_round
            case rel => exact ⟨q + 1, by omega, by go_num, by rw [HY.out]⟩
            case measure => simp [intOf]; omega
          · have HY := hide (flAt_no (l := l) (k := q) (by rw [getD_at hfq, getD_at (by have := HN.out; omega)]; exact hc))
            go_wp2_with fail
            go_round
            case rel => exact ⟨q + 1, by omega, by go_num, by rw [HY.out]⟩
            case measure => simp [intOf]; omega
        · obtain rfl : q = m := by omega
          generalize hf : flAt l q = f at *
          have hx := within_get HW.out f hfq
          have HX := hide (HST.out f p l HPL.out hf l[f] y (getD_at hfq) HYJ.out)
          have hcf := HR.out.at_ hfq
          have hff := HR.out.free f
          have hfp := HRP.out.free jb
          have hlp : jb < p.length := by omega
          have hcp := HRP.out.at_ hlp
          generalize l[f] = x at *
          clear hf
          have e2 : (wr.setCell ⟨w.heap.size, jb, none⟩ (.int .i64 (f : Int))).cell? ⟨w.heap.size + 1, f, none⟩ = some (.int .i64 x) := by
            rw [World.cell?_setCell_other _ _ _ _ (by simp)]; exact hcf
          have f2 : (wr.setCell ⟨w.heap.size, jb, none⟩ (.int .i64 (f : Int))).frozen? ⟨w.heap.size + 1, f, none⟩ = false :=
            ((HR.out.past (a := ⟨w.heap.size, jb, none⟩) (by simp) _).free f)
          have e3 : (wr.setCell ⟨w.heap.size, jb, none⟩ (.int .i64 (f : Int))).cell? (ad.add jb) = some (.int .i64 y) := by
            rw [World.cell?_setCell_other _ _ _ _ (by
              intro e
              have := congrArg Addr.block e
              rw [block_of_add] at this
              simp at this; omega)]; exact hcj
          go_wp2_with fail
          go_region
          go_wp2_with fail
          go_roundw
          case rel =>
            have r1 : Row ((wr.setCell ⟨w.heap.size, jb, none⟩ (.int .i64 (f : Int))).setCell ⟨w.heap.size + 1, f, none⟩ (.int .i64 (x + y))) w.heap.size 3 (p.set jb (f : Int)) := (HRP.out.put jb (f : Int)).past (by simp) _
            have r2 : Row ((wr.setCell ⟨w.heap.size, jb, none⟩ (.int .i64 (f : Int))).setCell ⟨w.heap.size + 1, f, none⟩ (.int .i64 (x + y))) (w.heap.size + 1) 3 (l.set f (x + y)) := (HR.out.past (by simp) _).put f _
            refine ⟨k + 1, by omega, by go_num, ?_, ?_, ((hb.setCell (Nat.le_refl _) _).setCell (by simp) _).drew⟩
            · rw [HX.out]; exact r1
            · rw [HX.out]; exact r2
          case measure => simp [intOf]; omega
    · obtain rfl : k = os.length := by omega
      go_wp2_with fail
      go_ret
      rw [HP.out]
      exact made1_row (HL.out _).1 hrp (Nat.le_refl _) hb (by omega)

/-- The program's indicesOf. -/
theorem indicesOf_row (A : Option Addr) (n c : Nat) (w : World) (hn : n ≤ 1000) :
    Calls Try.prog 30 #[.slice A n c] w fun e w' => e = .returned (.slice (some ⟨w.heap.size, 0, none⟩) n n) ∧ Row w' w.heap.size 3 (rng n) ∧ Below w.heap.size w w' := by
  have hmk := run_make_row' (P := Try.prog) 22 3 (.int .i64 0) 8 Try.underlying22 infoInt rfl .i64 .i64 n (by omega) (by omega)
  go_enter Try.func30, Try.ntmps30
  go_wp2_with fail
  go_loopw [10] (fun i wr => ∃ k : Nat, k ≤ n ∧ i = .int .i64 k ∧ wr.rowIs w.heap.size 3 n (fun j => if j < k then .int .i64 (j : Int) else .int .i64 0) ∧ Below w.heap.size w wr)
    (fun i _ => n - (intOf i).toNat)
  case atStart => exact ⟨0, Nat.zero_le _, rfl, (World.rowIs_made w _ n _).congr (fun i _ => by simp), (Below.refl _ _).alloc (Nat.le_refl _) _⟩
  case round =>
    obtain ⟨k, hk, rfl, hrow, hb⟩ := hrel
    by_cases hlt : k < n
    · have hold := hrow.cell hlt
      have hfz := hrow.frozen k
      go_wp2_with fail
      go_roundw
      case rel =>
        refine ⟨k + 1, by omega, by go_num, (hrow.set k _).congr (fun i hi => ?_), hb.setCell (Nat.le_refl _) _⟩
        by_cases e : i = k
        · subst e; rw [if_pos rfl, if_pos (by omega)]
        · simp [e, show (i < k + 1) ↔ i < k from by omega]
      case measure => simp [intOf]; omega
    · go_wp2_with fail
      go_ret
      refine ⟨rfl, ?_, hb⟩
      unfold Row
      rw [rng_length]
      exact hrow.congr (fun i hi => by rw [if_pos (by omega), rng_getD hi])
theorem indicesOf_any (A : Option Addr) (n c : Nat) (w : World) (hn : n ≤ 1000) :
    Calls Try.prog 30 #[.slice A n c] w (Made1 (rng n) w) := by
  refine (indicesOf_row A n c w hn).mono ?_
  rintro e w' ⟨rfl, hr, hb⟩
  exact made1_row (rng_length n) hr (Nat.le_refl _) hb (by omega)

theorem indicesOf_m (A : Option Addr) (n c : Nat) (w : World) (hn : n ≤ 1000) :
    Calls Try.prog 30 #[.slice A n c] w fun e w' => ∃ g c, e = .returned (.slice (some ⟨g, 0, none⟩) n c) ∧ w.heap.size ≤ g ∧ g < w'.heap.size ∧ n ≤ c ∧ c ≤ maxLen ∧ Ints w' w'.heap.size (some ⟨g, 0, none⟩) n (rng n) ∧ Below w.heap.size w w' := by
  refine (indicesOf_any A n c w hn).mono ?_
  rintro e w' ⟨g, c', he, h1, h2, h3, h4, h5, h6⟩
  have hi := h5.ints
  rw [rng_length] at he h3 hi
  exact ⟨g, c', he, h1, h2, h3, h4, hi, h6⟩

/-- What the closure reads: the loads through their variable. -/
def Reads (w : World) (bx g2 m : Nat) (l : List Int) : Prop := One w bx 22 (.slice (some ⟨g2, 0, none⟩) m m) ∧ Row w g2 3 l ∧ l.length = m
theorem Reads.drewN {w : World} {bx g2 m : Nat} {l : List Int} (h : Reads w bx g2 m l) (n : Nat) : Reads (w.drewN n) bx g2 m l := h
theorem Reads.below {w w' : World} {bx g2 m : Nat} {l : List Int} (h : Reads w bx g2 m l) (hb : Below w.heap.size w w') : Reads w' bx g2 m l := ⟨h.1.below hb h.1.lt, h.2.1.below hb h.2.1.lt, h.2.2⟩

def atL (l : List Int) (k : Nat) : Int := l.getD k 0
/-- The program's closure in givenOut. -/
theorem byLoad_any (bx g2 m k : Nat) (l : List Int) (w : World) (h : Reads w bx g2 m l) (hk : k < m) :
    Calls Try.prog 31 #[.int .i64 (k : Int), .pointer (some ⟨bx, 0, none⟩)] w fun e w' => e = .returned (.int .i64 (atL l k)) ∧ w = w' := by
  have h1 := h.1.cell
  have h2 := h.2.1.atD (k := k) (by have := h.2.2; omega)
  clear h
  unfold atL
  generalize l.getD k 0 = x at *
  go_enter Try.func31, Try.ntmps31
  go_wp2_with fail
  go_ret
  exact ⟨rfl, rfl⟩

set_option maxRecDepth 100000 in
/-- The program's firstLeast, over the indices of loads. -/
theorem firstLeast_any (g bx g2 m c B : Nat) (l : List Int) (w : World) (h : Reads w bx g2 m l) (hr : Ints w B (some ⟨g, 0, none⟩) m (rng m)) (hm1 : 1 ≤ m) (hm2 : m ≤ 4) (hmc : m ≤ c) (hc : c ≤ maxLen) :
    Calls Try.prog 29 #[.slice (some ⟨g, 0, none⟩) m c, .func (.func 31) #[] #[.pointer (some ⟨bx, 0, none⟩)]] w
      fun e w' => e = .returned (.int .i64 (flAt l m)) ∧ ∃ n, w' = w.drewN n := by
  have HB := hide (fun (k : Nat) (hk : k < m) n => byLoad_any bx g2 m k l (w.drewN n) (h.drewN n) hk)
  have HB0 := hide (fun n => quiet_left (HB.out 0 (by omega) n))
  have HC := hide (fun k (hk : k < m) => by
    obtain ⟨ad', hadd, hab, hcell0⟩ := hr.at_ hk
    obtain rfl : (⟨g, 0, none⟩ : Addr) = ad' := by injection hadd
    rw [rng_getD hk, add_head] at hcell0
    exact hcell0)
  have hcell0 := HC.out 0 (by omega)
  have hp : (0 : Int) < (m : Int) := by omega
  have HF := hide (flAt_lt l (by have := h.2.2; omega))
  have HL := hide h.2.2
  have H1 := hide (flAt_one l)
  unfold maxLen at hc
  clear h hr
  by_cases hc1 : c = 1
  · obtain rfl : m = 1 := by omega
    subst hc1
    go_enter Try.func29, Try.ntmps29
    go_wp2_with fail
    go_quiet ((go_at_call 31; exact HB0.out _))
    go_wp2_with fail
    refine wp_loop_rounds 1 ?_
    rw [rounds_succ]
    go_wp2_with fail
    go_ret
    exact ⟨ret_int (by rw [H1.out]; rfl), _, rfl⟩
  · have hm1c : m - 1 ≤ c - 1 := by omega
    go_enter Try.func29, Try.ntmps29
    go_wp2_with fail
    go_quiet ((go_at_call 31; exact HB0.out _))
    go_wp2_with fail
    go_loop [5, 6, 21] (fun f v i => ∃ j : Nat, j + 1 ≤ m ∧ i = .int .i64 j ∧ f = .int .i64 (flAt l (j + 1)) ∧ v = .int .i64 (atL l (flAt l (j + 1))))
      (fun _ _ i => m - (intOf i).toNat)
    case atStart => exact ⟨0, hm1, rfl, by rw [H1.out]; rfl, by rw [H1.out]⟩
    case round =>
      obtain ⟨j, hj, rfl, rfl, rfl⟩ := hrel
      have hfl : flAt l (j + 1) < m := by have := HF.out (j + 1) (by have := HL.out; omega); have := HL.out; omega
      by_cases hlt : j + 1 < m
      · have hcj := HC.out (j + 1) hlt
        rw [show ((j + 1 : Nat) : Int) = (j : Int) + 1 from by omega] at hcj
        have hcj : (w.drewN nq).cell? ⟨g, 1 + j, none⟩ = some (.int .i64 ((j : Int) + 1)) := by rw [Nat.add_comm 1 j]; exact hcj
        have hjm : (j : Int) < ((m - 1 : Nat) : Int) := by omega
        have HBJ := hide (HB.out (j + 1) hlt)
        rw [show ((j + 1 : Nat) : Int) = (j : Int) + 1 from by omega] at HBJ
        by_cases hcp : atL l (j + 1) < atL l (flAt l (j + 1))
        · have HY := hide (flAt_yes (l := l) (k := j + 1) hcp)
          generalize atL l (flAt l (j + 1)) = v at *
          generalize hu : atL l (j + 1) = u at *
          have HU := hide hu
          clear hu
          go_wp2_with fail
          refine (HBJ.out _).mono ?_; rintro e w' ⟨rfl, rfl⟩
          go_wp2_with fail
          go_round
          case rel => exact ⟨j + 1, by omega, by go_num, by rw [HY.out]; go_num, by rw [HY.out, HU.out]⟩
          case measure => simp [intOf]; omega
        · have HY := hide (flAt_no (l := l) (k := j + 1) hcp)
          generalize hv : atL l (flAt l (j + 1)) = v at *
          have HV := hide hv
          clear hv
          generalize atL l (j + 1) = u at *
          go_wp2_with fail
          refine (HBJ.out _).mono ?_; rintro e w' ⟨rfl, rfl⟩
          go_wp2_with fail
          go_round
          case rel => exact ⟨j + 1, by omega, by go_num, by rw [HY.out], by rw [HY.out, HV.out]⟩
          case measure => simp [intOf]; omega
      · obtain rfl : m = j + 1 := by omega
        go_wp2_with fail
        go_ret
        exact ⟨rfl, _, rfl⟩
end Go.Proofs.Ytbefffknedimhaa
