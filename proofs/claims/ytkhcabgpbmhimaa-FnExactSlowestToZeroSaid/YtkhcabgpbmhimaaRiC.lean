
/-
  LEAD AND PERIOD, THE MODEL's WAY: the hare and the tortoise.
-/
import Derived.Test.YtkhcabgpbmhimaaRiM
import Derived.Test.YtkhcabgpbmhimaaCyB
import Derived.Deep.LoopGhost
namespace Go.Proofs.Ytkhcabgpbmhimaa
open Go.RowKit Go.Deep
set_option linter.unusedVariables false

/-- Where the hare and the tortoise stand. -/
def MeetRel (zs : List Int) (m p : Nat) (w : World) (g : Nat) (v f : Value) (wr : World) : Prop :=
  ∃ t : Nat, 1 ≤ t ∧ t ≤ m + p ∧ g = m + p - t ∧ (∀ u, 1 ≤ u → u < t → rit zs u ≠ rit zs (2 * u)) ∧ Own wr w.heap.size 3 v (rit zs t) ∧ Own wr w.heap.size 3 f (rit zs (2 * t)) ∧ Below w.heap.size w wr
def AheadRel (zs : List Int) (m T : Nat) (w : World) (g : Nat) (v f l : Value) (wr : World) : Prop :=
  ∃ k : Nat, k ≤ m ∧ g = m - k ∧ l = .int .i64 (k : Int) ∧ Own wr w.heap.size 3 v (rit zs k) ∧ Own wr w.heap.size 3 f (rit zs (k + T)) ∧ Below w.heap.size w wr
def RoundRel (zs : List Int) (m p : Nat) (w : World) (v : Value) (g : Nat) (f q : Value) (wr : World) : Prop :=
  ∃ k : Nat, 1 ≤ k ∧ k ≤ p ∧ g = p - k ∧ q = .int .i64 (k : Int) ∧ Own wr w.heap.size 3 v (rit zs m) ∧ Own wr w.heap.size 3 f (rit zs (m + k)) ∧ Below w.heap.size w wr

theorem beq_of_eq {xs ys : List Int} (h : xs = ys) : (xs == ys) = true := by rw [h]; simp
theorem beq_of_ne {xs ys : List Int} (h : xs ≠ ys) : (xs == ys) = false := by rw [beq_eq_false_iff_ne]; exact h
theorem own_next {w wr w2 : World} {e : TypeId} {v : Value} {zs : List Int} (h : Own wr w.heap.size e v zs) (hb : Below wr.heap.size wr w2) : Own w2 w.heap.size e v zs := h.below hb

set_option maxRecDepth 100000 in
set_option maxHeartbeats 4000000 in
/-- The model's riCycle. -/
theorem riCycle_any (A : Option Addr) (n c B : Nat) (zs : List Int) (m p : Nat) (w : World) (hr : Ints w B A n zs) (hB : B ≤ w.heap.size) (hg : rgood zs = true) (hc : Cyc (rit zs) m p) (hmp : m + p ≤ 10024) :
    Calls Try.prog 11 #[.slice A n c] w fun e w' => e = .returned (.tuple #[.int .i64 (m : Int), .int .i64 (p : Int)]) ∧ Below w.heap.size w w' := by
  obtain rfl := hr.len
  obtain ⟨hg1, hg2, hg3⟩ := rgood_of hg
  have HR := hide hr
  have HC := hide hc
  have HW := hide hg3
  have HWt := hide (fun t => rit_within hg3 t)
  have HLt := hide (fun t => rit_length zs t)
  have HSt := hide (fun (A : Option Addr) (c t : Nat) (W : World) (h : Ints W W.heap.size A (rit zs t).length (rit zs t)) => riStep_any A (rit zs t).length c W.heap.size (rit zs t) W h (Nat.le_refl _) (by rw [rit_length]; omega) (by rw [rit_length]; omega) (rit_within hg3 t))
  have HPt := hide (fun (A : Option Addr) (c t : Nat) (W : World) (h : Ints W W.heap.size A (rit zs t).length (rit zs t)) => riPlay_any A (rit zs t).length c W.heap.size (rit zs t) 2 W h (Nat.le_refl _) (by rw [rit_length]; omega) (by rw [rit_length]; omega) (rit_within hg3 t) (by omega))
  clear hr hc hg3 hg
  go_enter Try.func11, Try.ntmps11
  go_wp2_with fail
  refine (riStep_any A zs.length c B zs w HR.out hB (by omega) (by omega) HW.out).mono ?_
  rintro e w1 ⟨g1, c1, rfl, _, _, hc1, hc1', hown1, hb1⟩
  have R1 := hide (HR.out.below hb1 hB)
  have O1 := hide hown1
  have B1 := hide hb1
  have hs1 := hb1.size
  clear hown1 hb1
  go_wp2_with fail
  refine (riPlay_any A zs.length c B zs 2 w1 R1.out (by omega) (by omega) (by omega) HW.out (by omega)).mono ?_
  rintro e w2 ⟨g2, c2, rfl, _, _, hc2, hc2', hown2, hb2⟩
  have O2 := hide (O1.out.below hb2)
  have F2 := hide (hown2.less hs1)
  have B2 := hide (below_next B1.out hb2)
  clear hown2 hb2 R1 O1 B1 hs1
  go_wp2_with fail
  have hp1 := HC.out.pos
  have HSame := hide (fun (A1 A2 : Option Addr) (c1 c2 t1 t2 : Nat) (W : World) (h1 : Ints W W.heap.size A1 (rit zs t1).length (rit zs t1)) (h2 : Ints W W.heap.size A2 (rit zs t2).length (rit zs t2)) =>
    l1Same_any A1 A2 _ _ c1 c2 W.heap.size W.heap.size (rit zs t1) (rit zs t2) W h1 h2 (Nat.le_refl _) (Nat.le_refl _) (by rw [rit_length]; omega) (by rw [rit_length]; omega))
  have hsB2 := B2.out.size
  go_simp
  go_loopg [4, 5] (m + p - 1) (MeetRel zs m p w)
  case atStart => exact ⟨1, Nat.le_refl _, by omega, rfl, fun u h1 h2 => absurd h2 (by omega), O2.out, F2.out, B2.out⟩
  case round =>
    obtain ⟨t, ht1, ht2, hgk, hne, hv, hf, hb⟩ := hrel
    have NE := hide hne
    have BB := hide hb
    have GK := hide hgk
    have hsb := hb.size
    clear hne hb hgk O2 F2 B2
    obtain ⟨A1, c1, rfl, _, _⟩ := hv.shape
    obtain ⟨A2, c2, rfl, _, _⟩ := hf.shape
    have VV := hide hv
    have FF := hide hf
    clear hv hf
    by_cases he : rit zs t = rit zs (2 * t)
    · have HE := hide (beq_of_eq he)
      have hmt := (HC.out.meet (rit_told zs) t ht1).1 he
      have HDV := hide (show p ∣ 2 * t from Nat.dvd_trans hmt.2 ⟨2, by omega⟩)
      clear he hmt
      go_wp2_with fail
      refine (HSame.out A1 A2 c1 c2 t (2 * t) wr VV.out.ints FF.out.ints).mono ?_; rw [HE.out]; rintro e w3 ⟨rfl, hb3⟩
      have F3 := hide (FF.out.below hb3)
      have B3 := hide (below_next BB.out hb3)
      have hs3 := B3.out.size
      clear hb3
      go_wp2_with fail
      refine (l1Own_any A zs.length c B zs w3 (HR.out.below B3.out hB) (by omega) (by omega) (by omega)).mono ?_
      rintro e w4 ⟨g4, c4, rfl, _, _, _, _, hown4, hb4⟩
      have V4 := hide (hown4.less hs3)
      have F4 := hide (F3.out.below hb4)
      have B4 := hide (below_next B3.out hb4)
      clear hown4 hb4 F3 B3 hs3
      have HZ := hide (show 0 + 2 * t = 2 * t by omega)
      go_wp2_with fail
      go_simp
      go_loopg [4, 5, 6] m (AheadRel zs m (2 * t) w)
      case atStart => exact ⟨0, Nat.zero_le _, rfl, rfl, V4.out, by rw [HZ.out]; exact F4.out, B4.out⟩
      case round =>
        clear V4 F4 B4 VV FF BB
        obtain ⟨k, hk, hgk, rfl, hv, hf, hb⟩ := hrel
        have BB := hide hb
        have GK := hide hgk
        have hsb := hb.size
        clear hb hgk
        obtain ⟨A3, c3, rfl, _, _⟩ := hv.shape
        obtain ⟨A4, c4', rfl, _, _⟩ := hf.shape
        have VV := hide hv
        have FF := hide hf
        clear hv hf
        by_cases hlt : k < m
        · have HE := hide (beq_of_ne (fun e => absurd ((HC.out.ahead (rit_told zs) (2 * t) k (by omega) HDV.out).1 e) (by omega)))
          go_wp2_with fail
          refine (HSame.out A3 A4 c3 c4' k (k + 2 * t) wr VV.out.ints FF.out.ints).mono ?_; rw [HE.out]; rintro e w3 ⟨rfl, hb3⟩
          have V3 := hide (VV.out.below hb3)
          have F3 := hide (FF.out.below hb3)
          have B3 := hide (below_next BB.out hb3)
          have hs3 := B3.out.size
          clear hb3
          go_wp2_with fail
          refine (HSt.out A3 c3 k w3 V3.out.ints).mono ?_
          rintro e w4 ⟨g4, c4, rfl, _, _, _, _, hown4, hb4⟩
          have V4 := hide (hown4.less hs3)
          have F4 := hide (F3.out.below hb4)
          have B4 := hide (below_next B3.out hb4)
          have hs4 := B4.out.size
          clear hown4 hb4
          go_wp2_with fail
          refine (HSt.out A4 c4' (k + 2 * t) w4 F4.out.ints).mono ?_
          rintro e w5 ⟨g5, c5, rfl, _, _, _, _, hown5, hb5⟩
          have V5 := hide (V4.out.below hb5)
          have F5 := hide (hown5.less hs4)
          have B5 := hide (below_next B4.out hb5)
          clear hown5 hb5
          have HT := hide (show k + 1 + 2 * t = k + 2 * t + 1 by omega)
          go_wp2_with fail
          go_simp
          go_roundg (m - (k + 1))
          case measure => have := GK.out; omega
          case rel => exact ⟨k + 1, by omega, rfl, by go_num, V5.out, by rw [HT.out]; exact F5.out, B5.out⟩
        · obtain rfl : k = m := by omega
          have HE := hide (beq_of_eq ((HC.out.ahead (rit_told zs) (2 * t) k (by omega) HDV.out).2 (Nat.le_refl _)))
          go_wp2_with fail
          refine (HSame.out A3 A4 c3 c4' k (k + 2 * t) wr VV.out.ints FF.out.ints).mono ?_; rw [HE.out]; rintro e w3 ⟨rfl, hb3⟩
          have V3 := hide (VV.out.below hb3)
          have B3 := hide (below_next BB.out hb3)
          have hs3 := B3.out.size
          clear hb3
          go_wp2_with fail
          refine (HSt.out A3 c3 k w3 V3.out.ints).mono ?_
          rintro e w4 ⟨g4, c4, rfl, _, _, _, _, hown4, hb4⟩
          have V4 := hide (V3.out.below hb4)
          have F4 := hide (hown4.less hs3)
          have B4 := hide (below_next B3.out hb4)
          clear hown4 hb4
          go_wp2_with fail
          go_simp
          go_loopg [5, 7] (p - 1) (RoundRel zs k p w (.slice A3 (rit zs k).length c3))
          case atStart => exact ⟨1, Nat.le_refl _, hp1, rfl, rfl, V4.out, F4.out, B4.out⟩
          case round =>
            clear V4 F4 B4 VV FF BB V3 B3 GK
            obtain ⟨q, hq1, hq2, hgk, rfl, hv, hf, hb⟩ := hrel
            have BB := hide hb
            have GK := hide hgk
            have hsb := hb.size
            clear hb hgk
            obtain ⟨A5, c5', rfl, _, _⟩ := hf.shape
            have VV := hide hv
            have FF := hide hf
            clear hv hf
            by_cases hlq : q < p
            · have HE := hide (beq_of_ne (fun e => HC.out.least q hq1 hlq e.symm))
              go_wp2_with fail
              refine (HSame.out A3 A5 c3 c5' k (k + q) wr VV.out.ints FF.out.ints).mono ?_; rw [HE.out]; rintro e w3 ⟨rfl, hb3⟩
              have V3 := hide (VV.out.below hb3)
              have F3 := hide (FF.out.below hb3)
              have B3 := hide (below_next BB.out hb3)
              have hs3 := B3.out.size
              clear hb3
              go_wp2_with fail
              refine (HSt.out A5 c5' (k + q) w3 F3.out.ints).mono ?_
              rintro e w5 ⟨g5, c5, rfl, _, _, _, _, hown5, hb5⟩
              have V5 := hide (V3.out.below hb5)
              have F5 := hide (hown5.less hs3)
              have B5 := hide (below_next B3.out hb5)
              clear hown5 hb5
              go_wp2_with fail
              go_simp
              go_roundg (p - (q + 1))
              case measure => have := GK.out; omega
              case rel => exact ⟨q + 1, by omega, by omega, rfl, by go_num, V5.out, F5.out, B5.out⟩
            · obtain rfl : q = p := by omega
              have HE := hide (beq_of_eq HC.out.again.symm)
              go_wp2_with fail
              refine (HSame.out A3 A5 c3 c5' k (k + q) wr VV.out.ints FF.out.ints).mono ?_; rw [HE.out]; rintro e w3 ⟨rfl, hb3⟩
              have B3 := hide (below_next BB.out hb3)
              go_wp2_with fail
              go_ret2
              exact ⟨rfl, B3.out⟩
    · have HE := hide (beq_of_ne he)
      have HNE := hide (show ∀ u, 1 ≤ u → u < t + 1 → rit zs u ≠ rit zs (2 * u) from fun u a b => if e : u = t then by subst e; exact he else NE.out u a (by omega))
      have hlt := HC.out.not_yet (rit_told zs) t (fun u a b => HNE.out u a (by omega))
      clear he
      go_wp2_with fail
      refine (HSame.out A1 A2 c1 c2 t (2 * t) wr VV.out.ints FF.out.ints).mono ?_; rw [HE.out]; rintro e w3 ⟨rfl, hb3⟩
      have V3 := hide (VV.out.below hb3)
      have F3 := hide (FF.out.below hb3)
      have B3 := hide (below_next BB.out hb3)
      have hs3 := B3.out.size
      clear hb3
      go_wp2_with fail
      refine (HSt.out A1 c1 t w3 V3.out.ints).mono ?_
      rintro e w4 ⟨g4, c4, rfl, _, _, _, _, hown4, hb4⟩
      have V4 := hide (hown4.less hs3)
      have F4 := hide (F3.out.below hb4)
      have B4 := hide (below_next B3.out hb4)
      have hs4 := B4.out.size
      clear hown4 hb4
      go_wp2_with fail
      refine (HPt.out A2 c2 (2 * t) w4 F4.out.ints).mono ?_
      rintro e w5 ⟨g5, c5, rfl, _, _, _, _, hown5, hb5⟩
      have V5 := hide (V4.out.below hb5)
      have F5 := hide (hown5.less hs4)
      have B5 := hide (below_next B4.out hb5)
      clear hown5 hb5
      have HT := hide (show rit (rit zs (2 * t)) 2 = rit zs (2 * (t + 1)) by rw [← rit_add]; congr 1)
      go_wp2_with fail
      go_simp
      go_roundg (m + p - (t + 1))
      case measure => have := GK.out; omega
      case rel => exact ⟨t + 1, by omega, by omega, rfl, HNE.out, V5.out, by rw [← HT.out]; exact F5.out, B5.out⟩
end Go.Proofs.Ytkhcabgpbmhimaa
