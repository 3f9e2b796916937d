
/-
  PAIRS, THE PROGRAM's WAY: lead, firstAgain, hasEmpty.
-/
import Derived.Test.YtfnobkfkacngkaaDoorPair
import Derived.Test.YtfnobkfkacngkaaDoorTz
import Derived.Deep.RegionWith
namespace Go.Proofs.YtfnobkfkacngkaaDoor
open Go.RowKit Go.Deep
set_option linter.unusedVariables false

theorem gcd_step (p q : Nat) : Nat.gcd q (p % q) = Nat.gcd p q := by rw [Nat.gcd_comm p q, Nat.gcd_rec q p, Nat.gcd_comm]
theorem tmod_nat (p q : Nat) : ((p : Int)).tmod (q : Int) = ((p % q : Nat) : Int) := by
  rw [Int.tmod_eq_emod_of_nonneg (by omega)]; omega

theorem lead_any (a b : Nat) (h1 : 1 ≤ a + b) (h : a + b ≤ 100000) (w : World) (hT : Tab w) :
    Calls Tryd.prog 18 #[.agg #[.int .i64 (a : Int), .int .i64 (b : Int)]] w fun e w' => e = .returned (.int .i64 ((leadN (a + b) a : Nat) : Int)) ∧ Below w.heap.size w w' := by
  have hg : Nat.gcd a (a + b) = Nat.gcd a b := by simp
  have hL : leadN (a + b) a = Lib.ctz 64 ((a + b) / Nat.gcd a b) := by
    have hp : 0 < Nat.gcd a b := Nat.pos_of_ne_zero (fun e => by have := Nat.gcd_eq_zero_iff.1 e; omega)
    have hd : Nat.gcd a b ∣ a + b := (Nat.dvd_add (Nat.gcd_dvd_left a b) (Nat.gcd_dvd_right a b))
    unfold leadN
    rw [hg, ctz_tz _ (Nat.div_pos (Nat.le_of_dvd (by omega) hd) hp) (by have := Nat.div_le_self (a + b) (Nat.gcd a b); omega)]
  rw [hL]
  have hgp : 1 ≤ Nat.gcd a b := Nat.pos_of_ne_zero (fun e => by have := Nat.gcd_eq_zero_iff.1 e; omega)
  have hq : 1 ≤ (a + b) / Nat.gcd a b := Nat.div_pos (Nat.le_of_dvd (by omega) (Nat.dvd_add (Nat.gcd_dvd_left a b) (Nat.gcd_dvd_right a b))) hgp
  have hq2 := Nat.div_le_self (a + b) (Nat.gcd a b)
  clear hL hg
  have HT := hide hT
  clear hT
  go_enter Tryd.func18, Tryd.ntmps18
  go_wp2_with fail
  go_quiet (fail)
  go_wp2_with fail
  have hw1 : Below w.heap.size w ((w.alloc (.cells #[.int .i64 (a : Int), .int .i64 (b : Int)] 30)).drewN nq) := below_drewN ((Below.refl _ _).alloc (Nat.le_refl _) _) _
  have k0 : ((w.alloc (.cells #[.int .i64 (a : Int), .int .i64 (b : Int)] 30)).drewN nq).cell? ⟨w.heap.size, 0, none⟩ = some (.int .i64 (a : Int)) := by simp
  have k1 : ((w.alloc (.cells #[.int .i64 (a : Int), .int .i64 (b : Int)] 30)).drewN nq).cell? ⟨w.heap.size, 1, none⟩ = some (.int .i64 (b : Int)) := by simp
  have s1 : w.heap.size < ((w.alloc (.cells #[.int .i64 (a : Int), .int .i64 (b : Int)] 30)).drewN nq).heap.size := by simp
  generalize ((w.alloc (.cells #[.int .i64 (a : Int), .int .i64 (b : Int)] 30)).drewN nq) = w1 at *
  go_loopw [3, 4] (fun p q wr => ∃ x y : Nat, p = .int .i64 x ∧ q = .int .i64 y ∧ Nat.gcd x y = Nat.gcd a b ∧ x ≤ 100000 ∧ y ≤ 100000 ∧ Below w1.heap.size w1 wr)
    (fun _ q _ => (intOf q).toNat)
  case atStart => exact ⟨a, b, rfl, rfl, rfl, by omega, by omega, Below.refl _ _⟩
  case round =>
    obtain ⟨x, y, rfl, rfl, hxy, hx, hy, hb⟩ := hrel
    have HXY := hide hxy
    clear hxy
    by_cases hy0 : y = 0
    · subst hy0
      have hxg : x = Nat.gcd a b := by rw [← HXY.out]; simp
      have c0 := (hb.cell (p := ⟨w.heap.size, 0, none⟩) s1).trans k0
      have c1 := (hb.cell (p := ⟨w.heap.size, 1, none⟩) s1).trans k1
      have HXG := hide hxg
      rw [← hxg] at hgp hq hq2
      clear hxg HXY
      have hr := tz_any ((a + b) / x) (by omega) (by omega) wr (((HT.out.next hw1)).next hb)
      rw [show ((((a + b) / x : Nat) : Int)) = IntKind.u64.wrap (((a : Int) + (b : Int)) / (x : Int)) from by
        rw [show ((a : Int) + (b : Int)) / (x : Int) = (((a + b) / x : Nat) : Int) from by simp, IntKind.wrap_u64]; omega] at hr
      have HR := hide hr
      clear hr
      go_wp2_with fail
      refine HR.out.mono ?_; rintro e w' ⟨rfl, rfl⟩
      go_wp2_with fail
      go_ret
      exact ⟨by rw [← HXG.out]; rfl, hw1.trans (hb.mono hw1.size)⟩
    · have hy1 : 1 ≤ y := by omega
      have hy' : ((y : Int) != 0) = true := by simp; omega
      have hm : (x % y : Nat) < y := Nat.mod_lt _ (by omega)
      clear hy0
      go_wp2_with fail
      go_quiet (fail)
      go_wp2_with fail
      go_roundw
      case rel => exact ⟨y, x % y, rfl, by simp, by rw [gcd_step]; exact HXY.out, by omega, by omega, below_drewN hb _⟩
      case measure => simp [intOf]; omega

/-- A heap of it is empty. -/
def empB (a b : Nat) : Bool := decide (a = 0 ∨ b = 0)
theorem hasEmpty_any (a b : Nat) (w : World) :
    Calls Tryd.prog 22 #[.agg #[.int .i64 (a : Int), .int .i64 (b : Int)]] w fun e w' => e = .returned (.bool (empB a b)) ∧ Below w.heap.size w w' := by
  by_cases ha : a = 0
  · subst ha
    have H := hide (show empB 0 b = true from by simp [empB])
    go_enter Tryd.func22, Tryd.ntmps22
    go_wp2_with fail
    go_ret
    exact ⟨by rw [H.out]; rfl, (Below.refl _ _).alloc (Nat.le_refl _) _⟩
  · have ha' : ((a : Int) == 0) = false := by simp; omega
    by_cases hb : b = 0
    · subst hb
      have H := hide (show empB a 0 = true from by simp [empB])
      clear ha
      go_enter Tryd.func22, Tryd.ntmps22
      go_wp2_with fail
      go_ret
      exact ⟨by rw [H.out]; rfl, (Below.refl _ _).alloc (Nat.le_refl _) _⟩
    · have hb' : ((b : Int) == 0) = false := by simp; omega
      have H := hide (show empB a b = false from by simp [empB, ha, hb])
      clear ha hb
      go_enter Tryd.func22, Tryd.ntmps22
      go_wp2_with fail
      go_ret
      exact ⟨by rw [H.out]; rfl, (Below.refl _ _).alloc (Nat.le_refl _) _⟩

theorem firstAgain_any (a b : Nat) (h1 : 1 ≤ a + b) (h : a + b ≤ 100000) (w : World) (hT : Tab w) :
    Calls Tryd.prog 19 #[.agg #[.int .i64 (a : Int), .int .i64 (b : Int)]] w fun e w' => e = .returned (.agg #[.int .i64 ((orb (a + b) a (leadN (a + b) a) : Nat) : Int), .int .i64 ((a + b - orb (a + b) a (leadN (a + b) a) : Nat) : Int)]) ∧ Below w.heap.size w w' := by
  have HL := hide (fun W (hW : Tab W) => lead_any a b h1 h W hW)
  have HA := hide (fun W => after_any a b (leadN (a + b) a) h (by have := leadN_le (a + b) a; omega) W)
  have HT := hide hT
  generalize leadN (a + b) a = L at *
  clear hT
  generalize orb (a + b) a L = p at *
  go_enter Tryd.func19, Tryd.ntmps19
  go_wp2_with fail
  have hw1 : Below w.heap.size w ((w.alloc (.cells #[.int .i64 (a : Int), .int .i64 (b : Int)] 30)).alloc (.cells #[.int .i64 0, .int .i64 0] 30)) := ((Below.refl _ _).alloc (Nat.le_refl _) _).alloc (by simp) _
  have hblk := two_alloc w (.int .i64 (a : Int)) (.int .i64 (b : Int)) 30 (.cells #[.int .i64 0, .int .i64 0] 30)
  have hres := two_last (w.alloc (.cells #[.int .i64 (a : Int), .int .i64 (b : Int)] 30)) (.int .i64 0) (.int .i64 0) 30
  rw [show (w.alloc (.cells #[.int .i64 (a : Int), .int .i64 (b : Int)] 30)).heap.size = w.heap.size + 1 from by simp] at hres
  have k0 := two_0 hblk
  have k1 := two_1 hblk
  have z0 := lt_of_block hblk
  have z1 := lt_of_block hres
  have r0 := two_0 hres
  have r1 := two_1 hres
  have q0 := two_free hres 0
  have q1 := two_free hres 1
  have HT1 := hide (HT.out.next hw1)
  generalize ((w.alloc (.cells #[.int .i64 (a : Int), .int .i64 (b : Int)] 30)).alloc (.cells #[.int .i64 0, .int .i64 0] 30)) = W0 at *
  clear hblk HT
  have HS : Hid (∀ W', Below W0.heap.size W0 W' → (W'.cell? ⟨w.heap.size, 0, none⟩ = some (.int .i64 (a : Int)) ∧ W'.cell? ⟨w.heap.size, 1, none⟩ = some (.int .i64 (b : Int)) ∧ W'.cell? ⟨w.heap.size + 1, 0, none⟩ = some (.int .i64 0) ∧ W'.cell? ⟨w.heap.size + 1, 1, none⟩ = some (.int .i64 0) ∧ W'.frozen? ⟨w.heap.size + 1, 0, none⟩ = false ∧ W'.frozen? ⟨w.heap.size + 1, 1, none⟩ = false)) :=
    hide fun W' h => ⟨(h.cell (p := ⟨w.heap.size, 0, none⟩) z0).trans k0, (h.cell (p := ⟨w.heap.size, 1, none⟩) z0).trans k1, (h.cell (p := ⟨w.heap.size + 1, 0, none⟩) z1).trans r0, (h.cell (p := ⟨w.heap.size + 1, 1, none⟩) z1).trans r1, (h.frozen (p := ⟨w.heap.size + 1, 0, none⟩) z1).trans q0, (h.frozen (p := ⟨w.heap.size + 1, 1, none⟩) z1).trans q1⟩
  go_region_with (first
    | (go_at_call 18; (with_reducible refine (HL.out _ (HT1.out.drew)).mono ?_); rintro e w2 ⟨rfl, hb2⟩; obtain ⟨i0, i1, i2, i3, i4, i5⟩ := HS.out _ (below_next (Below.refl _ _).drew hb2))
    | (go_at_call 27; (with_reducible refine (HA.out _).mono ?_); rintro e w3 ⟨rfl, hb3⟩; obtain ⟨j0, j1, j2, j3, j4, j5⟩ := HS.out _ (below_next (below_next (Below.refl _ _).drew hb2) hb3)))
  all_goals
    have hblk3 := (hb3.block _ ((Nat.lt_of_lt_of_le (show w.heap.size + 1 < W0.drew.heap.size from z1) hb2.size))).trans ((hb2.block _ (show w.heap.size + 1 < W0.drew.heap.size from z1)).trans hres)
    have g := two_set1 (x := .int .i64 ((a + b - p : Nat) : Int)) (two_set0 (x := .int .i64 ((p : Nat) : Int)) hblk3)
    have g0 := two_0 g
    have g1 := two_1 g
    have HB := hide (hw1.trans ((below_next (below_next (Below.refl W0.heap.size W0).drew hb2) hb3).mono hw1.size))
    go_wp2_with fail
    exact bodyPost_ret (v := .agg #[.int .i64 ((p : Nat) : Int), .int .i64 ((a + b - p : Nat) : Int)]) (by simp [results, Tryd.results19, go_sem, g0, g1]) rfl
      ⟨rfl, (HB.out.setCell (show w.heap.size ≤ w.heap.size + 1 by omega) _ (p := ⟨w.heap.size + 1, 0, none⟩)).setCell (show w.heap.size ≤ w.heap.size + 1 by omega) _ (p := ⟨w.heap.size + 1, 1, none⟩)⟩
end Go.Proofs.YtfnobkfkacngkaaDoor
