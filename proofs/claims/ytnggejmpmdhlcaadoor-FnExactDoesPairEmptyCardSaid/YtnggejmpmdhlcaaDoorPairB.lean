
/-
  PAIRS, THE PROGRAM's WAY: lead, firstAgain, hasEmpty.
-/
import Derived.Test.YtnggejmpmdhlcaaDoorPair
import Derived.Test.YtnggejmpmdhlcaaDoorTz
import Derived.Test.YtnggejmpmdhlcaaDoorGcd
import Derived.Deep.RegionWith
namespace Go.Proofs.YtnggejmpmdhlcaaDoor
open Go.RowKit Go.Deep
set_option linter.unusedVariables false

theorem quiet_leftP {P : Program} {f : FuncId} {args : Array Value} {w : World} {n : Nat} {v : Value}
    (h : Calls P f args (w.drewN n) fun e w' => e = .returned v ∧ w.drewN n = w') : Calls P f args (w.drewN n) fun e w'' => e = .returned v ∧ ∃ m, w'' = w.drewN m :=
  h.mono fun _ _ ⟨he, hm⟩ => ⟨he, n, hm.symm⟩
theorem lead_any (a b : Nat) (h1 : 1 ≤ a + b) (h : a + b ≤ 100000) (w : World) (hT : Tab w) :
    Calls Tryd.prog 18 #[.agg #[.int .i64 (a : Int), .int .i64 (b : Int)]] w fun e w' => e = .returned (.int .i64 ((leadN (a + b) a : Nat) : Int)) ∧ Below w.heap.size w w' := by
  have hg : Nat.gcd a (a + b) = Nat.gcd a b := by simp
  have hL : leadN (a + b) a = Lib.ctz 64 ((a + b) / Nat.gcd a b) := by
    have hp : 0 < Nat.gcd a b := Nat.pos_of_ne_zero (fun e => by have := Nat.gcd_eq_zero_iff.1 e; omega)
    have hd : Nat.gcd a b ∣ a + b := (Nat.dvd_add (Nat.gcd_dvd_left a b) (Nat.gcd_dvd_right a b))
    unfold leadN
    rw [hg, ctz_tz _ (Nat.div_pos (Nat.le_of_dvd (by omega) hd) hp) (by have := Nat.div_le_self (a + b) (Nat.gcd a b); omega)]
  rw [hL]
  have hgp : 1 ≤ Nat.gcd a b := Nat.pos_of_ne_zero (fun e => by have := Nat.gcd_eq_zero_iff.1 e; omega)
  have hq : 1 ≤ (a + b) / Nat.gcd a b := Nat.div_pos (Nat.le_of_dvd (by omega) (Nat.dvd_add (Nat.gcd_dvd_left a b) (Nat.gcd_dvd_right a b))) hgp
  have hq2 := Nat.div_le_self (a + b) (Nat.gcd a b)
  clear hL hg
  have HG := hide (fun W => greatestDivisor_any a b (by omega) (by omega) W)
  have HTT := hide hT
  have hr := fun W (h : Tab W) => tz_any ((a + b) / Nat.gcd a b) (by omega) (by omega) W h
  generalize Nat.gcd a b = g at *
  have e0 : ((((a + b) / g : Nat) : Int)) = IntKind.u64.wrap (((a : Int) + (b : Int)) / (g : Int)) := by
    rw [show ((a : Int) + (b : Int)) / (g : Int) = (((a + b) / g : Nat) : Int) from by simp, IntKind.wrap_u64]; omega
  have hr2 := hr
  rw [e0] at hr2
  have HR := hide hr
  have HR2 := hide hr2
  have hg0 : ((g : Int) == 0) = false := by apply beq_false_of_ne; omega
  clear hr hr2 hT e0
  generalize hT2 : Lib.ctz 64 ((a + b) / g) = tt at *
  clear hT2
  obtain ⟨k0, k1, ks, kb⟩ : (w.alloc (.cells #[.int .i64 (a : Int), .int .i64 (b : Int)] 30)).cell? ⟨w.heap.size, 0, none⟩ = some (.int .i64 (a : Int)) ∧ (w.alloc (.cells #[.int .i64 (a : Int), .int .i64 (b : Int)] 30)).cell? ⟨w.heap.size, 1, none⟩ = some (.int .i64 (b : Int)) ∧
      w.heap.size < (w.alloc (.cells #[.int .i64 (a : Int), .int .i64 (b : Int)] 30)).heap.size ∧ Below w.heap.size w (w.alloc (.cells #[.int .i64 (a : Int), .int .i64 (b : Int)] 30)) := ⟨by simp, by simp, by simp, (Below.refl _ _).alloc (Nat.le_refl _) _⟩
  have HTW := hide (HTT.out.next kb)
  have HKB := hide kb
  clear kb
  go_enter Tryd.func18, Tryd.ntmps18
  go_wp2_with fail
  generalize (w.alloc (.cells #[.int .i64 (a : Int), .int .i64 (b : Int)] 30)) = W at *
  go_quiet (first
    | (go_at_call 27; with_reducible exact Calls.quiet_of (HG.out _))
    | (go_at_call 26; first | (with_reducible exact quiet_leftP (HR2.out _ (HTW.out.drewN _))) | (with_reducible exact quiet_leftP (HR.out _ (HTW.out.drewN _))) | (trace_state; fail)))
  go_wp2_with fail
  go_ret
  exact ⟨rfl, below_drewN HKB.out _⟩

/-- A heap of it is empty. -/
def empB (a b : Nat) : Bool := decide (a = 0 ∨ b = 0)
theorem hasEmpty_any (a b : Nat) (w : World) :
    Calls Tryd.prog 22 #[.agg #[.int .i64 (a : Int), .int .i64 (b : Int)]] w fun e w' => e = .returned (.bool (empB a b)) ∧ Below w.heap.size w w' := by
  by_cases ha : a = 0
  · subst ha
    have H := hide (show empB 0 b = true from by simp [empB])
    go_enter Tryd.func22, Tryd.ntmps22
    go_wp2_with fail
    go_ret
    exact ⟨by rw [H.out]; rfl, (Below.refl _ _).alloc (Nat.le_refl _) _⟩
  · have ha' : ((a : Int) == 0) = false := by simp; omega
    by_cases hb : b = 0
    · subst hb
      have H := hide (show empB a 0 = true from by simp [empB])
      clear ha
      go_enter Tryd.func22, Tryd.ntmps22
      go_wp2_with fail
      go_ret
      exact ⟨by rw [H.out]; rfl, (Below.refl _ _).alloc (Nat.le_refl _) _⟩
    · have hb' : ((b : Int) == 0) = false := by simp; omega
      have H := hide (show empB a b = false from by simp [empB, ha, hb])
      clear ha hb
      go_enter Tryd.func22, Tryd.ntmps22
      go_wp2_with fail
      go_ret
      exact ⟨by rw [H.out]; rfl, (Below.refl _ _).alloc (Nat.le_refl _) _⟩

theorem firstAgain_any (a b : Nat) (h1 : 1 ≤ a + b) (h : a + b ≤ 100000) (w : World) (hT : Tab w) :
    Calls Tryd.prog 19 #[.agg #[.int .i64 (a : Int), .int .i64 (b : Int)]] w fun e w' => e = .returned (.agg #[.int .i64 ((orb (a + b) a (leadN (a + b) a) : Nat) : Int), .int .i64 ((a + b - orb (a + b) a (leadN (a + b) a) : Nat) : Int)]) ∧ Below w.heap.size w w' := by
  have HL := hide (fun W (hW : Tab W) => lead_any a b h1 h W hW)
  have HA := hide (fun W => after_any a b (leadN (a + b) a) h (by have := leadN_le (a + b) a; omega) W)
  have HT := hide hT
  generalize leadN (a + b) a = L at *
  clear hT
  generalize orb (a + b) a L = p at *
  go_enter Tryd.func19, Tryd.ntmps19
  go_wp2_with fail
  have hw1 : Below w.heap.size w ((w.alloc (.cells #[.int .i64 (a : Int), .int .i64 (b : Int)] 30)).alloc (.cells #[.int .i64 0, .int .i64 0] 30)) := ((Below.refl _ _).alloc (Nat.le_refl _) _).alloc (by simp) _
  have hblk := two_alloc w (.int .i64 (a : Int)) (.int .i64 (b : Int)) 30 (.cells #[.int .i64 0, .int .i64 0] 30)
  have hres := two_last (w.alloc (.cells #[.int .i64 (a : Int), .int .i64 (b : Int)] 30)) (.int .i64 0) (.int .i64 0) 30
  rw [show (w.alloc (.cells #[.int .i64 (a : Int), .int .i64 (b : Int)] 30)).heap.size = w.heap.size + 1 from by simp] at hres
  have k0 := two_0 hblk
  have k1 := two_1 hblk
  have z0 := lt_of_block hblk
  have z1 := lt_of_block hres
  have r0 := two_0 hres
  have r1 := two_1 hres
  have q0 := two_free hres 0
  have q1 := two_free hres 1
  have HT1 := hide (HT.out.next hw1)
  generalize ((w.alloc (.cells #[.int .i64 (a : Int), .int .i64 (b : Int)] 30)).alloc (.cells #[.int .i64 0, .int .i64 0] 30)) = W0 at *
  clear hblk HT
  have HS : Hid (∀ W', Below W0.heap.size W0 W' → (W'.cell? ⟨w.heap.size, 0, none⟩ = some (.int .i64 (a : Int)) ∧ W'.cell? ⟨w.heap.size, 1, none⟩ = some (.int .i64 (b : Int)) ∧ W'.cell? ⟨w.heap.size + 1, 0, none⟩ = some (.int .i64 0) ∧ W'.cell? ⟨w.heap.size + 1, 1, none⟩ = some (.int .i64 0) ∧ W'.frozen? ⟨w.heap.size + 1, 0, none⟩ = false ∧ W'.frozen? ⟨w.heap.size + 1, 1, none⟩ = false)) :=
    hide fun W' h => ⟨(h.cell (p := ⟨w.heap.size, 0, none⟩) z0).trans k0, (h.cell (p := ⟨w.heap.size, 1, none⟩) z0).trans k1, (h.cell (p := ⟨w.heap.size + 1, 0, none⟩) z1).trans r0, (h.cell (p := ⟨w.heap.size + 1, 1, none⟩) z1).trans r1, (h.frozen (p := ⟨w.heap.size + 1, 0, none⟩) z1).trans q0, (h.frozen (p := ⟨w.heap.size + 1, 1, none⟩) z1).trans q1⟩
  go_region_with (first
    | (go_at_call 18; (with_reducible refine (HL.out _ (HT1.out.drew)).mono ?_); rintro e w2 ⟨rfl, hb2⟩; obtain ⟨i0, i1, i2, i3, i4, i5⟩ := HS.out _ (below_next (Below.refl _ _).drew hb2))
    | (go_at_call 28; (with_reducible refine (HA.out _).mono ?_); rintro e w3 ⟨rfl, hb3⟩; obtain ⟨j0, j1, j2, j3, j4, j5⟩ := HS.out _ (below_next (below_next (Below.refl _ _).drew hb2) hb3)))
  all_goals
    have hblk3 := (hb3.block _ ((Nat.lt_of_lt_of_le (show w.heap.size + 1 < W0.drew.heap.size from z1) hb2.size))).trans ((hb2.block _ (show w.heap.size + 1 < W0.drew.heap.size from z1)).trans hres)
    have g := two_set1 (x := .int .i64 ((a + b - p : Nat) : Int)) (two_set0 (x := .int .i64 ((p : Nat) : Int)) hblk3)
    have g0 := two_0 g
    have g1 := two_1 g
    have HB := hide (hw1.trans ((below_next (below_next (Below.refl W0.heap.size W0).drew hb2) hb3).mono hw1.size))
    go_wp2_with fail
    exact bodyPost_ret (v := .agg #[.int .i64 ((p : Nat) : Int), .int .i64 ((a + b - p : Nat) : Int)]) (by simp [results, Tryd.results19, go_sem, g0, g1]) rfl
      ⟨rfl, (HB.out.setCell (show w.heap.size ≤ w.heap.size + 1 by omega) _ (p := ⟨w.heap.size + 1, 0, none⟩)).setCell (show w.heap.size ≤ w.heap.size + 1 by omega) _ (p := ⟨w.heap.size + 1, 1, none⟩)⟩
end Go.Proofs.YtnggejmpmdhlcaaDoor
