
/-
  LOSING HEAPS, BOTH WAYS.
-/
import Derived.Test.YtlaapnfinbancaaSlZ
namespace Go.Proofs.Ytlaapnfinbancaa
open Go.RowKit Go.Deep
set_option linter.unusedVariables false

theorem losB_one (t : List Int) : losB t 1 = [] := by
  rw [show (1 : Nat) = 0 + 1 from rfl, losB_no (p := 0) (fun h => by omega)]; rfl
theorem losR_no {r m : Int} (h : lask r m = false) : losR r m = [] := by unfold losR; rw [h]; rfl
theorem losR_yes {r : Int} {m : Nat} (h : lask r (m : Int) = true) : losR r (m : Int) = losB (vals r m) (m + 1) := by unfold losR; rw [h, if_pos rfl, Int.toNat_natCast]

theorem specLosingHeaps_any (r m : Int) (w : World) :
    Calls Try.prog 15 #[.int .i64 r, .int .i64 m] w (MadeR (losR r m) (lask r m) w) := by
  have HR := hide (fun W => slRule_any r W)
  have HI := hide (fun W => l1In_any m 1 60 W)
  cases hrl : srule r
  · have ha : lask r m = false := by unfold lask; rw [hrl]; rfl
    rw [losR_no ha, ha]
    rw [hrl] at HR
    clear ha hrl
    go_enter Try.func15, Try.ntmps15
    go_wp2_with fail
    refine (HR.out _).mono ?_; rintro e w' ⟨rfl, rfl⟩
    go_wp2_with fail
    go_ret2
    exact madeR_none (Below.refl _ _)
  · by_cases hh : 1 ≤ m ∧ m ≤ 60
    · have ha : lask r m = true := by unfold lask; rw [hrl, decide_eq_true hh]; rfl
      rw [hrl] at HR
      rw [decide_eq_true hh] at HI
      obtain ⟨m, rfl⟩ := Int.eq_ofNat_of_zero_le (show 0 ≤ m by omega)
      have HV := hide (fun W => slValues_any r m (by omega) hrl W)
      have HL := hide (vals_length r m)
      rw [losR_yes ha, ha]
      clear ha hrl
      generalize vals r m = t at *
      go_enter Try.func15, Try.ntmps15
      go_wp2_with fail
      refine (HR.out _).mono ?_; rintro e w' ⟨rfl, rfl⟩
      go_wp2_with fail
      refine (HI.out _).mono ?_; rintro e w' ⟨rfl, rfl⟩
      go_wp2_with fail
      refine (HV.out _).mono ?_; rintro e w1 ⟨A1, c1, rfl, h1, h2, hown, hb1⟩
      have hx := hown.ints
      have s1 := hb1.size
      rw [HL.out] at hx ⊢
      clear hown
      go_wp2_with fail
      go_loopw [6, 21] (fun v i wr => ∃ k : Nat, k ≤ m + 1 ∧ i = .int .i64 k ∧ Own wr w1.heap.size 3 v (losB t k) ∧ Below w1.heap.size w1 wr)
        (fun _ i _ => m + 1 - (intOf i).toNat)
      case atStart => exact ⟨0, Nat.zero_le _, rfl, Own.nil _ _ _, Below.refl _ _⟩
      case round =>
        obtain ⟨k, hk, rfl, hown, hb⟩ := hrel
        have hsz := hb.size
        by_cases hlt : k < m + 1
        · obtain ⟨ad, rfl, hab, hcell⟩ := (hx.below hb (Nat.le_refl _)).at_ hlt
          have hll : (losB t k).length < 1000000 := by have := losB_len t k; omega
          by_cases hp : 0 < k
          · have hp' : 0 < (k : Int) := by omega
            by_cases hz : t.getD k 0 = 0
            · have HS := hide (losB_yes (t := t) (p := k) ⟨hp, hz⟩)
              rw [hz] at hcell
              clear hz
              go_wp2_with (at_builtin; refine wpList_app_int rfl _ _ 25 3 rfl Try.underlying25 infoInt w1.heap.size _ _ rfl hown _ _ rfl hsz hll ?_; intro v' w' hown' hb')
              go_roundw
              case rel => exact ⟨k + 1, by omega, by go_num, by rw [HS.out]; exact hown', hb.trans hb'⟩
              case measure => simp [intOf]; omega
            · have HS := hide (losB_no (t := t) (p := k) (fun h => hz h.2))
              generalize t.getD k 0 = v at *
              go_wp2_with fail
              go_roundw
              case rel => exact ⟨k + 1, by omega, by go_num, by rw [HS.out]; exact hown, hb⟩
              case measure => simp [intOf]; omega
          · have HS := hide (losB_no (t := t) (p := k) (fun h => hp h.1))
            have hp' : ¬ 0 < (k : Int) := by omega
            generalize t.getD k 0 = v at *
            go_wp2_with fail
            go_roundw
            case rel => exact ⟨k + 1, by omega, by go_num, by rw [HS.out]; exact hown, hb⟩
            case measure => simp [intOf]; omega
        · obtain rfl : k = m + 1 := by omega
          obtain ⟨A', c', rfl, h3, h4⟩ := hown.shape
          go_wp2_with fail
          go_ret2
          exact ⟨A', c', rfl, h3, h4, hown.less s1, below_next hb1 hb⟩
    · have ha : lask r m = false := by unfold lask; rw [decide_eq_false hh, Bool.and_false]
      rw [losR_no ha, ha]
      rw [hrl] at HR
      rw [decide_eq_false hh] at HI
      clear ha hrl
      go_enter Try.func15, Try.ntmps15
      go_wp2_with fail
      refine (HR.out _).mono ?_; rintro e w' ⟨rfl, rfl⟩
      go_wp2_with fail
      refine (HI.out _).mono ?_; rintro e w' ⟨rfl, rfl⟩
      go_wp2_with fail
      go_ret2
      exact madeR_none (Below.refl _ _)

theorem LosingHeaps_any (r m : Int) (w : World) :
    Calls Try.prog 16 #[.int .i64 r, .int .i64 m] w (MadeR (losR r m) (lask r m) w) := by
  have HR := hide (fun W => isSplitRule_any r W)
  have HI := hide (fun W => isSplitHeap_any m W)
  cases hrl : srule r
  · have ha : lask r m = false := by unfold lask; rw [hrl]; rfl
    rw [losR_no ha, ha]
    rw [hrl] at HR
    clear ha hrl
    go_enter Try.func16, Try.ntmps16
    go_wp2_with fail
    refine (HR.out _).mono ?_; rintro e w' ⟨rfl, rfl⟩
    go_wp2_with fail
    go_ret2
    exact madeR_none (Below.refl _ _)
  · by_cases hh : 1 ≤ m ∧ m ≤ 60
    · have ha : lask r m = true := by unfold lask; rw [hrl, decide_eq_true hh]; rfl
      rw [hrl] at HR
      rw [show sheap m = true from decide_eq_true hh] at HI
      obtain ⟨m, rfl⟩ := Int.eq_ofNat_of_zero_le (show 0 ≤ m by omega)
      have HV := hide (fun W => splitValues_any r m (by omega) (by omega) hrl W)
      have HL := hide (vals_length r m)
      rw [losR_yes ha, ha]
      clear ha hrl
      generalize vals r m = t at *
      go_enter Try.func16, Try.ntmps16
      go_wp2_with fail
      refine (HR.out _).mono ?_; rintro e w' ⟨rfl, rfl⟩
      go_wp2_with fail
      refine (HI.out _).mono ?_; rintro e w' ⟨rfl, rfl⟩
      go_wp2_with fail
      refine (HV.out _).mono ?_; rintro e w1 ⟨A1, c1, rfl, h1, h2, hown, hb1⟩
      have hx := hown.ints
      have s1 := hb1.size
      rw [HL.out] at hx ⊢
      clear hown
      go_wp2_with fail
      go_loopw [7, 8] (fun v i wr => ∃ k : Nat, 1 ≤ k ∧ k ≤ m + 1 ∧ i = .int .i64 k ∧ Own wr w1.heap.size 3 v (losB t k) ∧ Below w1.heap.size w1 wr)
        (fun _ i _ => m + 1 - (intOf i).toNat)
      case atStart => exact ⟨1, Nat.le_refl _, by omega, rfl, by rw [losB_one]; exact Own.nil _ _ _, Below.refl _ _⟩
      case round =>
        obtain ⟨k, hk1, hk, rfl, hown, hb⟩ := hrel
        have hsz := hb.size
        by_cases hlt : k < m + 1
        · obtain ⟨ad, rfl, hab, hcell⟩ := (hx.below hb (Nat.le_refl _)).at_ hlt
          have hll : (losB t k).length < 1000000 := by have := losB_len t k; omega
          have hi1 : (k : Int) ≤ (m : Int) := by omega
          have hi2 : (k : Int) < ((m + 1 : Nat) : Int) := by omega
          by_cases hz : t.getD k 0 = 0
          · have HS := hide (losB_yes (t := t) (p := k) ⟨hk1, hz⟩)
            rw [hz] at hcell
            clear hz
            go_wp2_with (at_builtin; refine wpList_app_int rfl _ _ 25 3 rfl Try.underlying25 infoInt w1.heap.size _ _ rfl hown _ _ rfl hsz hll ?_; intro v' w' hown' hb')
            go_roundw
            case rel => exact ⟨k + 1, by omega, by omega, by go_num, by rw [HS.out]; exact hown', hb.trans hb'⟩
            case measure => simp [intOf]; omega
          · have HS := hide (losB_no (t := t) (p := k) (fun h => hz h.2))
            generalize t.getD k 0 = v at *
            go_wp2_with fail
            go_roundw
            case rel => exact ⟨k + 1, by omega, by omega, by go_num, by rw [HS.out]; exact hown, hb⟩
            case measure => simp [intOf]; omega
        · obtain rfl : k = m + 1 := by omega
          have hi1 : ¬ (((m + 1 : Nat) : Int) ≤ (m : Int)) := by omega
          obtain ⟨A', c', rfl, h3, h4⟩ := hown.shape
          go_wp2_with fail
          go_ret2
          exact ⟨A', c', rfl, h3, h4, hown.less s1, below_next hb1 hb⟩
    · have ha : lask r m = false := by unfold lask; rw [decide_eq_false hh, Bool.and_false]
      rw [losR_no ha, ha]
      rw [hrl] at HR
      rw [show sheap m = false from decide_eq_false hh] at HI
      clear ha hrl
      go_enter Try.func16, Try.ntmps16
      go_wp2_with fail
      refine (HR.out _).mono ?_; rintro e w' ⟨rfl, rfl⟩
      go_wp2_with fail
      refine (HI.out _).mono ?_; rintro e w' ⟨rfl, rfl⟩
      go_wp2_with fail
      go_ret2
      exact madeR_none (Below.refl _ _)
end Go.Proofs.Ytlaapnfinbancaa
