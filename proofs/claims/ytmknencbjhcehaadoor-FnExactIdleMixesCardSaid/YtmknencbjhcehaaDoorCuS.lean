
/-
  CUPS, BOTH WAYS, THE SECOND PART: sums, the spread, contents in lowest terms, the model's cuGood.
-/
import Derived.Test.YtmknencbjhcehaaDoorCu
import Derived.Test.YtmknencbjhcehaaDoorSpread
import Derived.Test.YtmknencbjhcehaaDoorSums
namespace Go.Proofs.YtmknencbjhcehaaDoor
open Go.RowKit Go.Deep
set_option linter.unusedVariables false

theorem tot_wide {zs : List Int} (h : within 0 2000000000 zs = true) (hn : zs.length ≤ 1000) (k : Nat) :
    0 ≤ tot (zs.take k) ∧ tot (zs.take k) ≤ 2000000000000 := by
  have := tot_bd _ _ _ (within_take h k)
  have hl : (zs.take k).length ≤ 1000 := by rw [List.length_take]; omega
  omega
/-- A content in lowest terms. -/
def numD (a b : Nat) : Nat := a / Nat.gcd a b
def denD (a b : Nat) : Nat := b / Nat.gcd a b

theorem wrap_div (a g : Nat) (ha : a ≤ 1000000000000) : wrap64 ((a : Int) / (g : Int)) = ((a / g : Nat) : Int) := by
  have := Nat.div_le_self a g
  rw [← Int.natCast_ediv]
  unfold wrap64
  generalize a / g = q at *
  omega

set_option maxRecDepth 100000 in
theorem cuGood_any (A : Option Addr) (n c B : Nat) (zs : List Int) (u : Int) (w : World) (hr : Ints w B A n zs) (hB : B ≤ w.heap.size) (hn : n ≤ 17592186044416) :
    Calls Tryd.prog 14 #[.agg #[.slice A n c, .int .i64 u]] w fun e w' => e = .returned (.bool (cuOk zs u)) ∧ Below w.heap.size w w' := by
  obtain rfl := hr.len
  have HU := hide (fun W => cuUnit_any u W)
  have HL := hide (fun W => l1In_any (zs.length : Int) 2 6 W)
  by_cases h1 : 2 ≤ (zs.length : Int) ∧ (zs.length : Int) ≤ 6
  · rw [decide_eq_true h1] at HL
    cases h3 : isU u
    · have HE := hide (show cuOk zs u = false from by unfold cuOk; rw [h3]; simp)
      rw [h3] at HU
      clear h3
      go_enter Tryd.func14, Tryd.ntmps14
      go_wp2_with fail
      refine (HL.out _).mono ?_; rintro e w' ⟨rfl, rfl⟩
      go_wp2_with fail
      refine (HU.out _).mono ?_; rintro e w' ⟨rfl, rfl⟩
      go_wp2_with fail
      go_ret
      exact ⟨by rw [HE.out]; rfl, (Below.refl _ _).alloc (Nat.le_refl _) _⟩
    · obtain ⟨x, rfl⟩ := Int.eq_ofNat_of_zero_le (show 0 ≤ u from by have := isU_bd h3; omega)
      have hub := isU_bd h3
      have hm : wrap64 (1000 * (x : Int)) = 1000 * (x : Int) := by unfold wrap64; omega
      have HR := hide (fun W (h : Below w.heap.size w W) => hr.below h hB)
      have HI := hide (fun W (h : Below w.heap.size w W) => l1All_any A zs.length c B zs 0 (1000 * (x : Int)) W (HR.out W h) hn)
      clear hr
      have b1 : Below w.heap.size w (w.alloc (.cells #[.slice A zs.length c, .int .i64 (x : Int)] 29)) := (Below.refl _ _).alloc (Nat.le_refl _) _
      have HB1 := hide b1
      cases h4 : within 0 (1000 * (x : Int)) zs
      · have HE := hide (show cuOk zs (x : Int) = false from by unfold cuOk; rw [h4]; simp)
        rw [h4] at HI
        rw [h3] at HU
        clear h3 h4
        go_enter Tryd.func14, Tryd.ntmps14
        go_wp2_with fail
        refine (HL.out _).mono ?_; rintro e w' ⟨rfl, rfl⟩
        go_wp2_with fail
        refine (HU.out _).mono ?_; rintro e w' ⟨rfl, rfl⟩
        go_wp2_with fail
        refine (HI.out _ HB1.out).mono ?_; rintro e w' ⟨rfl, rfl⟩
        go_wp2_with fail
        go_ret
        exact ⟨by rw [HE.out]; rfl, HB1.out⟩
      · have HE := hide (show cuOk zs (x : Int) = ((x : Int) == 1 || anyOdd zs) from by unfold cuOk; rw [h3, h4, decide_eq_true (by omega)]; simp)
        have hw := hide (within_toNat h4)
        rw [h4] at HI
        rw [h3] at HU
        clear h3 h4
        have hc1 : (w.alloc (.cells #[.slice A zs.length c, .int .i64 (x : Int)] 29)).cell? ⟨w.heap.size, 1, none⟩ = some (.int .i64 (x : Int)) := by simp
        have hs1 : w.heap.size < (w.alloc (.cells #[.slice A zs.length c, .int .i64 (x : Int)] 29)).heap.size := by simp
        have hc0 : (w.alloc (.cells #[.slice A zs.length c, .int .i64 (x : Int)] 29)).cell? ⟨w.heap.size, 0, none⟩ = some (.slice A zs.length c) := by simp
        go_enter Tryd.func14, Tryd.ntmps14
        go_wp2_with fail
        refine (HL.out _).mono ?_; rintro e w' ⟨rfl, rfl⟩
        go_wp2_with fail
        refine (HU.out _).mono ?_; rintro e w' ⟨rfl, rfl⟩
        go_wp2_with fail
        refine (HI.out _ HB1.out).mono ?_; rintro e w' ⟨rfl, rfl⟩
        generalize w.alloc (.cells #[.slice A zs.length c, .int .i64 (x : Int)] 29) = w1 at *
        go_wp2_with fail
        go_loopw [3, 29] (fun v i wr => ∃ k : Nat, k ≤ zs.length ∧ i = .int .i64 k ∧ v = .bool (anyOdd (zs.take k)) ∧ wr = w1)
          (fun _ i _ => zs.length - (intOf i).toNat)
        case atStart => exact ⟨0, Nat.zero_le _, rfl, rfl, rfl⟩
        case round =>
          obtain ⟨k, hk, rfl, rfl, rfl⟩ := hrel
          by_cases hlt' : k < zs.length
          · obtain ⟨ad, rfl, hab, hcell⟩ := (HR.out _ HB1.out).at_ hlt'
            rw [show zs.getD k 0 = zs[k] from by simp [List.getD, List.getElem?_eq_getElem hlt']] at hcell
            have hzk := hw.out zs[k] (List.getElem_mem hlt')
            obtain ⟨y, hy⟩ := Int.eq_ofNat_of_zero_le hzk.1
            have HN := hide (anyOdd_take zs k hlt')
            rw [hy] at hcell HN
            cases ho : anyOdd (zs.take k)
            · rw [ho, Bool.false_or] at HN
              clear ho
              by_cases hp : y % 2 = 1
              · have hq : ((y : Int) % 2 == 1) = true := by simp; omega
                rw [hq] at HN
                go_wp2_with fail
                go_roundw
                case rel => exact ⟨k + 1, by omega, by go_num, by rw [HN.out], by trivial⟩
                case measure => simp [intOf]; omega
              · have hq : ((y : Int) % 2 == 1) = false := by simp; omega
                rw [hq] at HN
                go_wp2_with fail
                go_roundw
                case rel => exact ⟨k + 1, by omega, by go_num, by rw [HN.out], by trivial⟩
                case measure => simp [intOf]; omega
            · rw [ho, Bool.true_or] at HN
              clear ho
              go_wp2_with fail
              go_roundw
              case rel => exact ⟨k + 1, by omega, by go_num, by rw [HN.out], by trivial⟩
              case measure => simp [intOf]; omega
          · rw [List.take_of_length_le (by omega)]
            generalize anyOdd zs = o at *
            by_cases hx1 : x = 1
            · subst hx1
              go_wp2_with fail
              go_ret
              exact ⟨by rw [HE.out]; rfl, HB1.out⟩
            · have hx1' : ((x : Int) == 1) = false := by apply beq_false_of_ne; omega
              rw [hx1', Bool.false_or] at HE
              go_wp2_with fail
              go_ret
              exact ⟨by rw [HE.out]; rfl, HB1.out⟩
  · have HE := hide (show cuOk zs u = false from by unfold cuOk; rw [decide_eq_false (by omega)]; rfl)
    rw [decide_eq_false h1] at HL
    go_enter Tryd.func14, Tryd.ntmps14
    go_wp2_with fail
    refine (HL.out _).mono ?_; rintro e w' ⟨rfl, rfl⟩
    go_wp2_with fail
    go_ret
    exact ⟨by rw [HE.out]; rfl, (Below.refl _ _).alloc (Nat.le_refl _) _⟩

end Go.Proofs.YtmknencbjhcehaaDoor
