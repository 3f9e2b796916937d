
/-
  PAIRS, BOTH WAYS: what a pair is, its step, its steps.
-/
import Derived.Test.YtnggejmpmdhlcaaDoorBase
import Derived.Test.YtnggejmpmdhlcaaDoorGood
import Derived.Test.YtnggejmpmdhlcaaDoorLaws0
import Derived.Test.YtnggejmpmdhlcaaDoorPairP
import Derived.WalkLawsBesides
import Derived.Laws.ResultCell
import Derived.RegionTactic
namespace Go.Proofs.YtnggejmpmdhlcaaDoor
open Go.RowKit Go.Deep
set_option linter.unusedVariables false

theorem two_0 {w : World} {b : Nat} {u v : Value} {t : TypeId} (h : w.heap[b]? = some (.cells #[u, v] t (0, 0))) : w.cell? ⟨b, 0, none⟩ = some u := by simp [World.cell?, h]
theorem two_1 {w : World} {b : Nat} {u v : Value} {t : TypeId} (h : w.heap[b]? = some (.cells #[u, v] t (0, 0))) : w.cell? ⟨b, 1, none⟩ = some v := by simp [World.cell?, h]
theorem two_free {w : World} {b : Nat} {u v : Value} {t : TypeId} (h : w.heap[b]? = some (.cells #[u, v] t (0, 0))) (o : Nat) : w.frozen? ⟨b, o, none⟩ = false := by simp [World.frozen?, h]
theorem two_set0 {w : World} {b : Nat} {u v x : Value} {t : TypeId} (h : w.heap[b]? = some (.cells #[u, v] t (0, 0))) : (w.setCell ⟨b, 0, none⟩ x).heap[b]? = some (.cells #[x, v] t (0, 0)) := by
  obtain ⟨hlt, h'⟩ := Array.getElem?_eq_some_iff.1 h
  show (w.heap.modify b _)[b]? = _
  rw [Array.getElem?_eq_getElem (by simpa using hlt), Array.getElem_modify_self, h']
  rfl
theorem two_set1 {w : World} {b : Nat} {u v x : Value} {t : TypeId} (h : w.heap[b]? = some (.cells #[u, v] t (0, 0))) : (w.setCell ⟨b, 1, none⟩ x).heap[b]? = some (.cells #[u, x] t (0, 0)) := by
  obtain ⟨hlt, h'⟩ := Array.getElem?_eq_some_iff.1 h
  show (w.heap.modify b _)[b]? = _
  rw [Array.getElem?_eq_getElem (by simpa using hlt), Array.getElem_modify_self, h']
  rfl
theorem two_last (w : World) (u v : Value) (t : TypeId) : (w.alloc (.cells #[u, v] t)).heap[w.heap.size]? = some (.cells #[u, v] t (0, 0)) := by
  show (w.heap.push _)[w.heap.size]? = _
  simp
theorem two_alloc (w : World) (u v : Value) (t : TypeId) (o : Obj) : ((w.alloc (.cells #[u, v] t)).alloc o).heap[w.heap.size]? = some (.cells #[u, v] t (0, 0)) := by
  rw [Below.heap_alloc _ _ _ (by simp)]
  exact two_last _ _ _ _

/-- A pair as a value. -/
abbrev prV (a b : Nat) : Value := .agg #[.int .i64 (a : Int), .int .i64 (b : Int)]

theorem pf_lt {a b : Nat} (h : a < b) : pf (a + b) a = 2 * a := by unfold pf; rw [if_pos (by omega)]
theorem pf_ge {a b : Nat} (h : ¬ a < b) : pf (a + b) a = a - b := by unfold pf; rw [if_neg (by omega)]; omega

/-- The program's step. -/
theorem step_any (a b : Nat) (h : a + b ≤ 100000) (w : World) :
    Calls Tryd.prog 20 #[.agg #[.int .i64 (a : Int), .int .i64 (b : Int)]] w fun e w' => e = .returned (.agg #[.int .i64 ((pf (a + b) a : Nat) : Int), .int .i64 ((a + b - pf (a + b) a : Nat) : Int)]) ∧ Below w.heap.size w w' := by
  by_cases hlt : a < b
  · have e1 : ((pf (a + b) a : Nat) : Int) = 2 * (a : Int) := by rw [pf_lt hlt]; omega
    have e2 : ((a + b - pf (a + b) a : Nat) : Int) = (b : Int) - (a : Int) := by rw [pf_lt hlt]; omega
    rw [e1, e2]
    clear e1 e2
    go_enter Tryd.func20, Tryd.ntmps20
    go_wp2_with fail
    exact bodyPost_ret (v := .agg #[.int .i64 (2 * (a : Int)), .int .i64 ((b : Int) - (a : Int))]) (by simp [results, Tryd.results20, go_sem]) rfl
      ⟨rfl, ((Below.refl _ _).alloc (Nat.le_refl _) _).alloc (by simp) _⟩
  · have e1 : ((pf (a + b) a : Nat) : Int) = (a : Int) - (b : Int) := by rw [pf_ge hlt]; omega
    have e2 : ((a + b - pf (a + b) a : Nat) : Int) = 2 * (b : Int) := by rw [pf_ge hlt]; omega
    rw [e1, e2]
    clear e1 e2
    go_enter Tryd.func20, Tryd.ntmps20
    go_wp2_with fail
    exact bodyPost_ret (v := .agg #[.int .i64 ((a : Int) - (b : Int)), .int .i64 (2 * (b : Int))]) (by simp [results, Tryd.results20, go_sem]) rfl
      ⟨rfl, ((Below.refl _ _).alloc (Nat.le_refl _) _).alloc (by simp) _⟩

/-- The program's steps. -/
theorem after_any (a b : Nat) (n : Nat) (h : a + b ≤ 100000) (hn : n ≤ 1000000) (w : World) :
    Calls Tryd.prog 28 #[.agg #[.int .i64 (a : Int), .int .i64 (b : Int)], .int .i64 (n : Int)] w fun e w' => e = .returned (.agg #[.int .i64 ((orb (a + b) a n : Nat) : Int), .int .i64 ((a + b - orb (a + b) a n : Nat) : Int)]) ∧ Below w.heap.size w w' := by
  have HO := hide (fun k => orb_le (s := a + b) (x := a) (by omega) k)
  go_enter Tryd.func28, Tryd.ntmps28
  go_wp2_with fail
  have hx0 := two_alloc w (.int .i64 (a : Int)) (.int .i64 (b : Int)) 30 (.cells #[.int .i64 0, .int .i64 0] 30)
  have hy0 := two_last (w.alloc (.cells #[.int .i64 (a : Int), .int .i64 (b : Int)] 30)) (.int .i64 0) (.int .i64 0) 30
  rw [show (w.alloc (.cells #[.int .i64 (a : Int), .int .i64 (b : Int)] 30)).heap.size = w.heap.size + 1 from by simp] at hy0
  go_loopw [6] (fun i wr => ∃ k : Nat, k ≤ n ∧ i = .int .i64 k ∧ wr.heap[w.heap.size]? = some (.cells #[.int .i64 ((orb (a + b) a k : Nat) : Int), .int .i64 ((a + b - orb (a + b) a k : Nat) : Int)] 30 (0, 0)) ∧ wr.heap[w.heap.size + 1]? = some (.cells #[.int .i64 0, .int .i64 0] 30 (0, 0)) ∧ Below w.heap.size w wr)
    (fun i _ => n - (intOf i).toNat)
  case atStart => exact ⟨0, Nat.zero_le _, rfl, by simpa [orb] using hx0, hy0, ((Below.refl _ _).alloc (Nat.le_refl _) _).alloc (by simp) _⟩
  case round =>
    obtain ⟨k, hk, rfl, hblk, hres, hb⟩ := hrel
    have c0 := two_0 hblk
    have c1 := two_1 hblk
    by_cases hlt : k < n
    · have hl := HO.out k
      have HS := hide (fun W => step_any (orb (a + b) a k) (a + b - orb (a + b) a k) (by omega) W)
      have e3 : orb (a + b) a k + (a + b - orb (a + b) a k) = a + b := by omega
      simp only [e3] at HS
      have HN := hide (show orb (a + b) a (k + 1) = pf (a + b) (orb (a + b) a k) from rfl)
      go_wp2_with fail
      refine (HS.out _).mono ?_
      rintro e w2 ⟨rfl, hb2⟩
      have hblk2 := (hb2.block _ (lt_of_block hblk)).trans hblk
      have hres2 := (hb2.block _ (lt_of_block hres)).trans hres
      have s2 := hb2.size
      have d0 := two_0 hblk2
      have d1 := two_1 hblk2
      have f0 := two_free hblk2 0
      have f1 := two_free hblk2 1
      go_wp2_with fail
      go_roundw
      case rel => exact ⟨k + 1, by omega, by go_num, by rw [HN.out]; exact two_set1 (two_set0 hblk2), by
        rw [Below.heap_setCell _ _ _ _ (by simp), Below.heap_setCell _ _ _ _ (by simp)]; exact hres2, ((hb.trans (hb2.mono hb.size)).setCell (Nat.le_refl _) _).setCell (Nat.le_refl _) _⟩
      case measure => simp [intOf]; omega
    · obtain rfl : k = n := by omega
      have d0 := two_0 hres
      have d1 := two_1 hres
      have f0 := two_free hres 0
      have f1 := two_free hres 1
      have g := two_set1 (x := .int .i64 ((a + b - orb (a + b) a k : Nat) : Int)) (two_set0 (x := .int .i64 ((orb (a + b) a k : Nat) : Int)) hres)
      have g0 := two_0 g
      have g1 := two_1 g
      have G := hide (((hb.setCell (show w.heap.size ≤ w.heap.size + 1 by omega) (.int .i64 ((orb (a + b) a k : Nat) : Int)) (p := ⟨w.heap.size + 1, 0, none⟩))).setCell (show w.heap.size ≤ w.heap.size + 1 by omega) (.int .i64 ((a + b - orb (a + b) a k : Nat) : Int)) (p := ⟨w.heap.size + 1, 1, none⟩))
      clear g hx0 hy0
      go_wp2_with fail
      exact bodyPost_ret (v := .agg #[.int .i64 ((orb (a + b) a k : Nat) : Int), .int .i64 ((a + b - orb (a + b) a k : Nat) : Int)]) (by simp [results, Tryd.results28, go_sem, g0, g1]) rfl
        ⟨rfl, G.out⟩

/-- What a pair is. -/
def pairOk (a b : Int) : Bool := decide (0 ≤ a ∧ a ≤ 100000 ∧ 0 ≤ b ∧ b ≤ 100000 ∧ 1 ≤ a + b ∧ a + b ≤ 100000)
theorem pairOk_yes {a b : Int} (h : 0 ≤ a ∧ a ≤ 100000 ∧ 0 ≤ b ∧ b ≤ 100000 ∧ 1 ≤ a + b ∧ a + b ≤ 100000) : pairOk a b = true := decide_eq_true h
theorem pairOk_no {a b : Int} (h : ¬ (0 ≤ a ∧ a ≤ 100000 ∧ 0 ≤ b ∧ b ≤ 100000 ∧ 1 ≤ a + b ∧ a + b ≤ 100000)) : pairOk a b = false := decide_eq_false h
theorem pairOk_bd {a b : Int} (h : pairOk a b = true) : 0 ≤ a ∧ a ≤ 100000 ∧ 0 ≤ b ∧ b ≤ 100000 ∧ 1 ≤ a + b ∧ a + b ≤ 100000 := of_decide_eq_true h
/-- A pair that is one, as natural numbers. -/
theorem pairOk_nat {a b : Int} (h : pairOk a b = true) : ∃ x y : Nat, a = (x : Int) ∧ b = (y : Int) ∧ 1 ≤ x + y ∧ x + y ≤ 100000 := by
  have := pairOk_bd h
  exact ⟨a.toNat, b.toNat, by omega, by omega, by omega, by omega⟩

theorem within_two (lo hi a b : Int) : within lo hi [a, b] = decide ((lo ≤ a ∧ a ≤ hi) ∧ (lo ≤ b ∧ b ≤ hi)) := by
  simp [within]
theorem two_ints (w : World) (a b : Int) (t : TypeId) : Ints (w.alloc (.cells #[.int .i64 a, .int .i64 b] t)) (w.heap.size + 1) (some ⟨w.heap.size, 0, none⟩) 2 [a, b] := by
  refine ⟨rfl, fun _ => ⟨_, rfl, by simp, fun k hk => ?_⟩⟩
  match k, hk with
  | 0, _ => rw [add_head]; simp
  | 1, _ => rw [add_head]; simp

/-- The program's isPair. -/
theorem isPair_any (a b : Int) (w : World) :
    Calls Tryd.prog 17 #[.int .i64 a, .int .i64 b] w fun e w' => e = .returned (.bool (pairOk a b)) ∧ Below w.heap.size w w' := by
  by_cases h1 : (0 ≤ a ∧ a ≤ 100000) ∧ (0 ≤ b ∧ b ≤ 100000)
  · have hd : within 0 100000 [a, b] = true := by rw [within_two]; simpa using h1
    obtain ⟨⟨h2, h3⟩, h4, h5⟩ := h1
    have HW := hide (fun W => areWithin_any (some ⟨w.heap.size, 0, none⟩) 2 2 (w.heap.size + 1) [a, b] 0 100000 W)
    rw [hd] at HW
    have HI := hide (two_ints w a b 3)
    by_cases h6 : 1 ≤ a + b
    · by_cases h7 : a + b ≤ 100000
      · have H := hide (pairOk_yes (a := a) (b := b) (by omega))
        clear hd
        go_enter Tryd.func17, Tryd.ntmps17
        go_wp2_with fail
        refine (HW.out _ HI.out (by omega)).mono ?_; rintro e w' ⟨rfl, rfl⟩
        go_wp2_with fail
        go_ret
        exact ⟨by rw [H.out]; first | rfl | exact ret_bool (by simp; omega), (Below.refl _ _).alloc (Nat.le_refl _) _⟩
      · have H := hide (pairOk_no (a := a) (b := b) (by omega))
        clear hd
        go_enter Tryd.func17, Tryd.ntmps17
        go_wp2_with fail
        refine (HW.out _ HI.out (by omega)).mono ?_; rintro e w' ⟨rfl, rfl⟩
        go_wp2_with fail
        go_ret
        exact ⟨by rw [H.out]; first | rfl | exact ret_bool (by simp; omega), (Below.refl _ _).alloc (Nat.le_refl _) _⟩
    · have H := hide (pairOk_no (a := a) (b := b) (by omega))
      clear hd
      go_enter Tryd.func17, Tryd.ntmps17
      go_wp2_with fail
      refine (HW.out _ HI.out (by omega)).mono ?_; rintro e w' ⟨rfl, rfl⟩
      go_wp2_with fail
      go_ret
      exact ⟨by rw [H.out]; first | rfl | exact ret_bool (by simp; omega), (Below.refl _ _).alloc (Nat.le_refl _) _⟩
  · have hd : within 0 100000 [a, b] = false := by rw [within_two]; exact decide_eq_false h1
    have HW := hide (fun W => areWithin_any (some ⟨w.heap.size, 0, none⟩) 2 2 (w.heap.size + 1) [a, b] 0 100000 W)
    rw [hd] at HW
    have HI := hide (two_ints w a b 3)
    have H := hide (pairOk_no (a := a) (b := b) (fun h => h1 ⟨⟨h.1, h.2.1⟩, h.2.2.1, h.2.2.2.1⟩))
    clear hd h1
    go_enter Tryd.func17, Tryd.ntmps17
    go_wp2_with fail
    refine (HW.out _ HI.out (by omega)).mono ?_; rintro e w' ⟨rfl, rfl⟩
    go_wp2_with fail
    go_ret
    exact ⟨by rw [H.out]; first | rfl | exact ret_bool (by simp; omega), (Below.refl _ _).alloc (Nat.le_refl _) _⟩

/-- The model's dbPair. -/
theorem dbPair_any (a b : Int) (w : World) (ha : -9223372036854775808 ≤ a ∧ a ≤ 9223372036854775807) (hb : -9223372036854775808 ≤ b ∧ b ≤ 9223372036854775807) :
    Calls Tryd.prog 15 #[.int .i64 a, .int .i64 b] w fun e w' => e = .returned (.bool (pairOk a b)) ∧ w = w' := by
  by_cases h1 : 0 ≤ a ∧ a ≤ 100000
  · have d1 : decide ((0 : Int) ≤ a ∧ a ≤ 100000) = true := by simpa using h1
    by_cases h2 : 0 ≤ b ∧ b ≤ 100000
    · have d2 : decide ((0 : Int) ≤ b ∧ b ≤ 100000) = true := by simpa using h2
      by_cases h3 : 1 ≤ a + b ∧ a + b ≤ 100000
      · have d3 : decide ((1 : Int) ≤ a + b ∧ a + b ≤ 100000) = true := by simpa using h3
        have H := hide (pairOk_yes (a := a) (b := b) (by omega))
        have HA := hide (fun W => l1In_any a 0 100000 W)
        have HB := hide (fun W => l1In_any b 0 100000 W)
        have HC := hide (fun W => l1In_any (a + b) 1 100000 W)
        rw [d1] at HA
        rw [d2] at HB
        rw [d3] at HC
        clear d1 d2 d3
        go_enter Tryd.func15, Tryd.ntmps15
        go_wp2_with fail
        refine (HA.out _).mono ?_; rintro e w' ⟨rfl, rfl⟩
        go_wp2_with fail
        refine (HB.out _).mono ?_; rintro e w' ⟨rfl, rfl⟩
        go_wp2_with fail
        refine (HC.out _).mono ?_; rintro e w' ⟨rfl, rfl⟩
        go_wp2_with fail
        go_ret
        exact ⟨by rw [H.out]; rfl, rfl⟩
      · have d3 : decide ((1 : Int) ≤ a + b ∧ a + b ≤ 100000) = false := decide_eq_false h3
        have H := hide (pairOk_no (a := a) (b := b) (by omega))
        have HA := hide (fun W => l1In_any a 0 100000 W)
        have HB := hide (fun W => l1In_any b 0 100000 W)
        have HC := hide (fun W => l1In_any (a + b) 1 100000 W)
        rw [d1] at HA
        rw [d2] at HB
        rw [d3] at HC
        clear d1 d2 d3 h3
        go_enter Tryd.func15, Tryd.ntmps15
        go_wp2_with fail
        refine (HA.out _).mono ?_; rintro e w' ⟨rfl, rfl⟩
        go_wp2_with fail
        refine (HB.out _).mono ?_; rintro e w' ⟨rfl, rfl⟩
        go_wp2_with fail
        refine (HC.out _).mono ?_; rintro e w' ⟨rfl, rfl⟩
        go_wp2_with fail
        go_ret
        exact ⟨by rw [H.out]; rfl, rfl⟩
    · have d2 : decide ((0 : Int) ≤ b ∧ b ≤ 100000) = false := decide_eq_false h2
      have H := hide (pairOk_no (a := a) (b := b) (by omega))
      have HA := hide (fun W => l1In_any a 0 100000 W)
      have HB := hide (fun W => l1In_any b 0 100000 W)
      rw [d1] at HA
      rw [d2] at HB
      clear d1 d2 h2
      go_enter Tryd.func15, Tryd.ntmps15
      go_wp2_with fail
      refine (HA.out _).mono ?_; rintro e w' ⟨rfl, rfl⟩
      go_wp2_with fail
      refine (HB.out _).mono ?_; rintro e w' ⟨rfl, rfl⟩
      go_wp2_with fail
      go_ret
      exact ⟨by rw [H.out]; rfl, rfl⟩
  · have d1 : decide ((0 : Int) ≤ a ∧ a ≤ 100000) = false := decide_eq_false h1
    have H := hide (pairOk_no (a := a) (b := b) (by omega))
    have HA := hide (fun W => l1In_any a 0 100000 W)
    rw [d1] at HA
    clear d1 h1
    go_enter Tryd.func15, Tryd.ntmps15
    go_wp2_with fail
    refine (HA.out _).mono ?_; rintro e w' ⟨rfl, rfl⟩
    go_wp2_with fail
    go_ret
    exact ⟨by rw [H.out]; rfl, rfl⟩

/-- The model's dbStep. -/
theorem dbStep_any (a b : Nat) (h1 : 1 ≤ a + b) (h : a + b ≤ 100000) (w : World) :
    Calls Tryd.prog 24 #[.int .i64 (a : Int), .int .i64 (b : Int)] w fun e w' => e = .returned (.tuple #[.int .i64 ((pf (a + b) a : Nat) : Int), .int .i64 ((a + b - pf (a + b) a : Nat) : Int)]) ∧ w = w' := by
  by_cases ha : a = 0
  · subst ha
    have e1 : pf (0 + b) 0 = 0 := by unfold pf; split <;> omega
    rw [e1, show 0 + b - 0 = b from by omega]
    clear e1
    go_enter Tryd.func24, Tryd.ntmps24
    go_wp2_with fail
    go_ret2
    exact ⟨rfl, rfl⟩
  · by_cases hb : b = 0
    · subst hb
      have e1 : pf (a + 0) a = a := by unfold pf; split <;> omega
      rw [e1, show a + 0 - a = 0 from by omega]
      clear e1
      have ha' : ((a : Int) == 0) = false := by simp; omega
      clear ha
      go_enter Tryd.func24, Tryd.ntmps24
      go_wp2_with fail
      go_ret2
      exact ⟨rfl, rfl⟩
    · have ha' : ((a : Int) == 0) = false := by simp; omega
      have hb' : ((b : Int) == 0) = false := by simp; omega
      have ha0 : 0 < a := by omega
      have hb0 : 0 < b := by omega
      clear ha hb
      by_cases hlt : a < b
      · have e1 : ((pf (a + b) a : Nat) : Int) = 2 * (a : Int) := by rw [pf_lt hlt]; omega
        have e2 : ((a + b - pf (a + b) a : Nat) : Int) = (b : Int) - (a : Int) := by rw [pf_lt hlt]; omega
        rw [e1, e2]
        clear e1 e2
        go_enter Tryd.func24, Tryd.ntmps24
        go_wp2_with fail
        go_ret2
        exact ⟨rfl, rfl⟩
      · have e1 : ((pf (a + b) a : Nat) : Int) = (a : Int) - (b : Int) := by rw [pf_ge hlt]; omega
        have e2 : ((a + b - pf (a + b) a : Nat) : Int) = 2 * (b : Int) := by rw [pf_ge hlt]; omega
        rw [e1, e2]
        clear e1 e2
        go_enter Tryd.func24, Tryd.ntmps24
        go_wp2_with fail
        go_ret2
        exact ⟨rfl, rfl⟩
end Go.Proofs.YtnggejmpmdhlcaaDoor
