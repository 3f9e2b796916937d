
/-
  CUPS, BOTH WAYS, THE SECOND PART: sums, the spread, contents in lowest terms, the model's cuGood.
-/
import Derived.Test.YtlempjfkgmlidaaDoorCu
import Derived.Test.YtlempjfkgmlidaaDoorSpread
import Derived.Test.YtlempjfkgmlidaaDoorSums
namespace Go.Proofs.YtlempjfkgmlidaaDoor
open Go.RowKit Go.Deep
set_option linter.unusedVariables false

theorem tot_wide {zs : List Int} (h : within 0 2000000000 zs = true) (hn : zs.length ≤ 1000) (k : Nat) :
    0 ≤ tot (zs.take k) ∧ tot (zs.take k) ≤ 2000000000000 := by
  have := tot_bd _ _ _ (within_take h k)
  have hl : (zs.take k).length ≤ 1000 := by rw [List.length_take]; omega
  omega
theorem hpSumW_any (A : Option Addr) (n c B : Nat) (zs : List Int) (w : World) (hr : Ints w B A n zs) (hn : n ≤ 1000) (hb : within 0 2000000000 zs = true) :
    Calls Tryd.prog 42 #[.slice A n c] w fun e w' => e = .returned (.int .i64 (tot zs)) ∧ w = w' := by
  obtain rfl := hr.len
  go_enter Tryd.func42, Tryd.ntmps42
  go_wp2
  go_loop [3, 8] (fun s i => ∃ k : Nat, k ≤ zs.length ∧ i = .int .i64 k ∧ s = .int .i64 (tot (zs.take k)))
    (fun _ i => zs.length - (intOf i).toNat)
  case atStart => exact ⟨0, Nat.zero_le _, rfl, rfl⟩
  case round =>
    obtain ⟨k, hk, rfl, rfl⟩ := hrel
    have hs := tot_wide hb (by omega) k
    by_cases hlt : k < zs.length
    · have Hs := hide (tot_take_succ zs k hlt)
      have hk2 := within_get hb k hlt
      obtain ⟨ad, rfl, hab, hcell⟩ := hr.at_ hlt
      rw [show zs.getD k 0 = zs[k] from by simp [List.getD, List.getElem?_eq_getElem hlt]] at hcell
      go_wp2
      go_round
      case rel => exact ⟨k + 1, by omega, by go_num, by rw [Hs.out]⟩
      case measure => simp [intOf]; omega
    · go_wp2
      go_ret
      exact ⟨ret_int (by rw [List.take_of_length_le (by omega)]), rfl⟩
theorem sumOfW_any (A : Option Addr) (n c B : Nat) (zs : List Int) (w : World) (hr : Ints w B A n zs) (hn : n ≤ 1000) (hb : within 0 2000000000 zs = true) :
    Calls Tryd.prog 43 #[.slice A n c] w fun e w' => e = .returned (.int .i64 (tot zs)) ∧ w = w' := by
  obtain rfl := hr.len
  have HB := hide hb
  clear hb
  go_enter Tryd.func43, Tryd.ntmps43
  go_wp2
  go_loop [3, 8] (fun s i => ∃ k : Nat, k ≤ zs.length ∧ i = .int .i64 k ∧ s = .int .i64 (tot (zs.take k)))
    (fun _ i => zs.length - (intOf i).toNat)
  case atStart => exact ⟨0, Nat.zero_le _, rfl, rfl⟩
  case round =>
    obtain ⟨k, hk, rfl, rfl⟩ := hrel
    have hs := tot_wide HB.out (by omega) k
    by_cases hlt : k < zs.length
    · have Hs := hide (tot_take_succ zs k hlt)
      have hk2 := within_get HB.out k hlt
      obtain ⟨ad, rfl, hab, hcell⟩ := hr.at_ hlt
      rw [show zs.getD k 0 = zs[k] from by simp [List.getD, List.getElem?_eq_getElem hlt]] at hcell
      go_wp2
      go_round
      case rel => exact ⟨k + 1, by omega, by go_num, by rw [Hs.out]⟩
      case measure => simp [intOf]; omega
    · go_wp2
      go_ret
      exact ⟨ret_int (by rw [List.take_of_length_le (by omega)]), rfl⟩

/-- The model's cySpread. -/
theorem cySpread_any (A : Option Addr) (n c B : Nat) (zs : List Int) (w : World) (hr : Ints w B A n zs) (h0 : 0 < n) (hn : n ≤ 1000) (hb : within 0 2000000000 zs = true) :
    Calls Tryd.prog 44 #[.slice A n c] w fun e w' => e = .returned (.int .i64 (up (zs.getD 0 0) zs - dn (zs.getD 0 0) zs)) ∧ ∃ m, w' = w.drewN m := by
  obtain rfl := hr.len
  obtain ⟨ad, rfl, hab, hcell0⟩ := hr.at_ h0
  have h00 : 0 ≤ zs.getD 0 0 ∧ zs.getD 0 0 ≤ 2000000000 := by
    rw [show zs.getD 0 0 = zs[0] from by simp [List.getD, List.getElem?_eq_getElem h0]]
    exact within_get hb 0 h0
  have hu := up_bd hb _ h00
  have hd := dn_bd hb _ h00
  obtain ⟨z0, hz0⟩ : ∃ z0, z0 = zs.getD 0 0 := ⟨_, rfl⟩
  rw [← hz0] at hcell0 hu hd
  have H0 := hide hz0
  clear h00 hz0
  have hp : (0 : Int) < (zs.length : Int) := by omega
  rw [show ad.add 0 = ad from by simp [Addr.add]] at hcell0
  go_enter Tryd.func44, Tryd.ntmps44
  go_wp2_with fail
  go_quiet (fail)
  go_wp2_with fail
  go_loopw [3, 4, 15] (fun s u i wr => ∃ k : Nat, k ≤ zs.length ∧ i = .int .i64 k ∧ s = .int .i64 (dn z0 (zs.take k)) ∧ u = .int .i64 (up z0 (zs.take k)) ∧ ∃ m, wr = w.drewN m)
    (fun _ _ i _ => zs.length - (intOf i).toNat)
  case atStart => exact ⟨0, Nat.zero_le _, rfl, rfl, rfl, _, rfl⟩
  case round =>
    obtain ⟨k, hk, rfl, rfl, rfl, m, rfl⟩ := hrel
    by_cases hlt : k < zs.length
    · have Hs := hide (up_take_succ z0 zs k hlt)
      have Ht := hide (dn_take_succ z0 zs k hlt)
      obtain ⟨ad', had, _, hcell⟩ := hr.at_ hlt
      obtain rfl : ad' = ad := by injection had with h; exact h.symm
      clear had
      rw [show zs.getD k 0 = zs[k] from by simp [List.getD, List.getElem?_eq_getElem hlt]] at hcell
      go_wp2_with fail
      refine (l1Least_any _ _ _).mono ?_; rintro e w' ⟨rfl, rfl⟩
      go_wp2_with fail
      refine (l1Most_any _ _ _).mono ?_; rintro e w' ⟨rfl, rfl⟩
      go_wp2_with fail
      go_roundw
      case rel => exact ⟨k + 1, by omega, by go_num, by rw [Ht.out], by rw [Hs.out], m, rfl⟩
      case measure => simp [intOf]; omega
    · rw [List.take_of_length_le (by omega)]
      have HU := hide (show up (zs.getD 0 0) zs = up z0 zs from by rw [H0.out])
      have HD := hide (show dn (zs.getD 0 0) zs = dn z0 zs from by rw [H0.out])
      generalize up z0 zs = mu at *
      generalize dn z0 zs = md at *
      go_wp2_with fail
      go_ret
      exact ⟨by rw [HU.out, HD.out]; rfl, m, rfl⟩

/-- A content in lowest terms. -/
def numD (a b : Nat) : Nat := a / Nat.gcd a b
def denD (a b : Nat) : Nat := b / Nat.gcd a b

theorem wrap_div (a g : Nat) (ha : a ≤ 1000000000000) : wrap64 ((a : Int) / (g : Int)) = ((a / g : Nat) : Int) := by
  have := Nat.div_le_self a g
  rw [← Int.natCast_ediv]
  unfold wrap64
  generalize a / g = q at *
  omega

theorem inLowestTerms_any (a b : Nat) (ha : a ≤ 1000000000000) (hb : b ≤ 1000000000000) (h1 : 1 ≤ b) (w : World) :
    Calls Tryd.prog 41 #[.int .i64 (a : Int), .int .i64 (b : Int)] w fun e w' => e = .returned (.tuple #[.int .i64 ((numD a b : Nat) : Int), .int .i64 ((denD a b : Nat) : Int)]) ∧ ∃ m, w' = w.drewN m := by
  have hgp : 1 ≤ Nat.gcd a b := Nat.pos_of_ne_zero (fun e => by have := Nat.gcd_eq_zero_iff.1 e; omega)
  have HG := hide (fun W => greatestDivisor_any a b ha hb W)
  have HN := hide (show numD a b = a / Nat.gcd a b from rfl)
  have HD := hide (show denD a b = b / Nat.gcd a b from rfl)
  have hl1 := Nat.div_le_self a (Nat.gcd a b)
  have hl2 := Nat.div_le_self b (Nat.gcd a b)
  generalize Nat.gcd a b = g at *
  have hg0 : ((g : Int) == 0) = false := by apply beq_false_of_ne; omega
  have hw1 := wrap_div a g ha
  have hw2 := wrap_div b g hb
  clear hl1 hl2
  generalize a / g = p at *
  generalize b / g = q at *
  go_enter Tryd.func41, Tryd.ntmps41
  go_wp2_with fail
  refine (HG.out _).mono ?_; rintro e w1 ⟨rfl, m, rfl⟩
  go_wp2_with fail
  go_quiet (fail)
  go_wp2_with fail
  go_ret2
  exact ⟨by rw [HN.out, HD.out, ← hw1, ← hw2]; rfl, m + nq, by simp⟩

theorem cuPart_any (a b : Nat) (ha : a ≤ 1000000000000) (hb : b ≤ 1000000000000) (h1 : 1 ≤ b) (w : World) :
    Calls Tryd.prog 39 #[.int .i64 (a : Int), .int .i64 (b : Int)] w fun e w' => e = .returned (.tuple #[.int .i64 ((numD a b : Nat) : Int), .int .i64 ((denD a b : Nat) : Int)]) ∧ ∃ m, w' = w.drewN m := by
  have hgp : 1 ≤ Nat.gcd a b := Nat.pos_of_ne_zero (fun e => by have := Nat.gcd_eq_zero_iff.1 e; omega)
  have HN := hide (show numD a b = a / Nat.gcd a b from rfl)
  have HD := hide (show denD a b = b / Nat.gcd a b from rfl)
  have hl1 := Nat.div_le_self a (Nat.gcd a b)
  have hl2 := Nat.div_le_self b (Nat.gcd a b)
  go_enter Tryd.func39, Tryd.ntmps39
  go_wp2_with fail
  go_loopw [6, 7] (fun p q wr => ∃ x y : Nat, p = .int .i64 x ∧ q = .int .i64 y ∧ Nat.gcd x y = Nat.gcd a b ∧ x ≤ 1000000000000 ∧ y ≤ 1000000000000 ∧ ∃ m, wr = w.drewN m)
    (fun _ q _ => (intOf q).toNat)
  case atStart => exact ⟨a, b, rfl, rfl, rfl, by omega, by omega, 0, rfl⟩
  case round =>
    obtain ⟨x, y, rfl, rfl, hxy, hx, hy, m, rfl⟩ := hrel
    have HXY := hide hxy
    clear hxy
    by_cases hy0 : y = 0
    · subst hy0
      have hxg : Nat.gcd a b = x := by rw [← HXY.out]; simp
      rw [hxg] at HN HD hgp hl1 hl2
      have hg0 : ((x : Int) == 0) = false := by apply beq_false_of_ne; omega
      have hw1 := wrap_div a x ha
      have hw2 := wrap_div b x hb
      clear hxg HXY hl1 hl2
      generalize a / x = p at *
      generalize b / x = q at *
      go_wp2_with fail
      go_quiet (fail)
      go_wp2_with fail
      go_ret2
      exact ⟨by rw [HN.out, HD.out, ← hw1, ← hw2]; rfl, m + nq, by simp⟩
    · have hy1 : 1 ≤ y := by omega
      have hy' : ((y : Int) == 0) = false := by simp; omega
      have hy2 : (0 : Int) < (y : Int) := by omega
      have hm : (x % y : Nat) < y := Nat.mod_lt _ (by omega)
      clear hy0
      go_wp2_with fail
      go_quiet (fail)
      go_wp2_with fail
      go_roundw
      case rel => exact ⟨y, x % y, rfl, by simp, by rw [gcd_step]; exact HXY.out, by omega, by omega, m + nq, by simp⟩
      case measure => simp [intOf]; omega
set_option maxRecDepth 100000 in
theorem cuGood_any (A : Option Addr) (n c B : Nat) (zs : List Int) (u : Int) (w : World) (hr : Ints w B A n zs) (hB : B ≤ w.heap.size) (hn : n ≤ 17592186044416) :
    Calls Tryd.prog 30 #[.agg #[.slice A n c, .int .i64 u]] w fun e w' => e = .returned (.bool (cuOk zs u)) ∧ Below w.heap.size w w' := by
  obtain rfl := hr.len
  have HU := hide (fun W => cuUnit_any u W)
  have HL := hide (fun W => l1In_any (zs.length : Int) 2 6 W)
  by_cases h1 : 2 ≤ (zs.length : Int) ∧ (zs.length : Int) ≤ 6
  · rw [decide_eq_true h1] at HL
    cases h3 : isU u
    · have HE := hide (show cuOk zs u = false from by unfold cuOk; rw [h3]; simp)
      rw [h3] at HU
      clear h3
      go_enter Tryd.func30, Tryd.ntmps30
      go_wp2_with fail
      refine (HL.out _).mono ?_; rintro e w' ⟨rfl, rfl⟩
      go_wp2_with fail
      refine (HU.out _).mono ?_; rintro e w' ⟨rfl, rfl⟩
      go_wp2_with fail
      go_ret
      exact ⟨by rw [HE.out]; rfl, (Below.refl _ _).alloc (Nat.le_refl _) _⟩
    · obtain ⟨x, rfl⟩ := Int.eq_ofNat_of_zero_le (show 0 ≤ u from by have := isU_bd h3; omega)
      have hub := isU_bd h3
      have hm : wrap64 (1000 * (x : Int)) = 1000 * (x : Int) := by unfold wrap64; omega
      have HR := hide (fun W (h : Below w.heap.size w W) => hr.below h hB)
      have HI := hide (fun W (h : Below w.heap.size w W) => l1All_any A zs.length c B zs 0 (1000 * (x : Int)) W (HR.out W h) hn)
      clear hr
      have b1 : Below w.heap.size w (w.alloc (.cells #[.slice A zs.length c, .int .i64 (x : Int)] 27)) := (Below.refl _ _).alloc (Nat.le_refl _) _
      have HB1 := hide b1
      cases h4 : within 0 (1000 * (x : Int)) zs
      · have HE := hide (show cuOk zs (x : Int) = false from by unfold cuOk; rw [h4]; simp)
        rw [h4] at HI
        rw [h3] at HU
        clear h3 h4
        go_enter Tryd.func30, Tryd.ntmps30
        go_wp2_with fail
        refine (HL.out _).mono ?_; rintro e w' ⟨rfl, rfl⟩
        go_wp2_with fail
        refine (HU.out _).mono ?_; rintro e w' ⟨rfl, rfl⟩
        go_wp2_with fail
        refine (HI.out _ HB1.out).mono ?_; rintro e w' ⟨rfl, rfl⟩
        go_wp2_with fail
        go_ret
        exact ⟨by rw [HE.out]; rfl, HB1.out⟩
      · have HE := hide (show cuOk zs (x : Int) = ((x : Int) == 1 || anyOdd zs) from by unfold cuOk; rw [h3, h4, decide_eq_true (by omega)]; simp)
        have hw := hide (within_toNat h4)
        rw [h4] at HI
        rw [h3] at HU
        clear h3 h4
        have hc1 : (w.alloc (.cells #[.slice A zs.length c, .int .i64 (x : Int)] 27)).cell? ⟨w.heap.size, 1, none⟩ = some (.int .i64 (x : Int)) := by simp
        have hs1 : w.heap.size < (w.alloc (.cells #[.slice A zs.length c, .int .i64 (x : Int)] 27)).heap.size := by simp
        have hc0 : (w.alloc (.cells #[.slice A zs.length c, .int .i64 (x : Int)] 27)).cell? ⟨w.heap.size, 0, none⟩ = some (.slice A zs.length c) := by simp
        go_enter Tryd.func30, Tryd.ntmps30
        go_wp2_with fail
        refine (HL.out _).mono ?_; rintro e w' ⟨rfl, rfl⟩
        go_wp2_with fail
        refine (HU.out _).mono ?_; rintro e w' ⟨rfl, rfl⟩
        go_wp2_with fail
        refine (HI.out _ HB1.out).mono ?_; rintro e w' ⟨rfl, rfl⟩
        generalize w.alloc (.cells #[.slice A zs.length c, .int .i64 (x : Int)] 27) = w1 at *
        go_wp2_with fail
        go_loopw [3, 29] (fun v i wr => ∃ k : Nat, k ≤ zs.length ∧ i = .int .i64 k ∧ v = .bool (anyOdd (zs.take k)) ∧ wr = w1)
          (fun _ i _ => zs.length - (intOf i).toNat)
        case atStart => exact ⟨0, Nat.zero_le _, rfl, rfl, rfl⟩
        case round =>
          obtain ⟨k, hk, rfl, rfl, rfl⟩ := hrel
          by_cases hlt' : k < zs.length
          · obtain ⟨ad, rfl, hab, hcell⟩ := (HR.out _ HB1.out).at_ hlt'
            rw [show zs.getD k 0 = zs[k] from by simp [List.getD, List.getElem?_eq_getElem hlt']] at hcell
            have hzk := hw.out zs[k] (List.getElem_mem hlt')
            obtain ⟨y, hy⟩ := Int.eq_ofNat_of_zero_le hzk.1
            have HN := hide (anyOdd_take zs k hlt')
            rw [hy] at hcell HN
            cases ho : anyOdd (zs.take k)
            · rw [ho, Bool.false_or] at HN
              clear ho
              by_cases hp : y % 2 = 1
              · have hq : ((y : Int) % 2 == 1) = true := by simp; omega
                rw [hq] at HN
                go_wp2_with fail
                go_roundw
                case rel => exact ⟨k + 1, by omega, by go_num, by rw [HN.out], by trivial⟩
                case measure => simp [intOf]; omega
              · have hq : ((y : Int) % 2 == 1) = false := by simp; omega
                rw [hq] at HN
                go_wp2_with fail
                go_roundw
                case rel => exact ⟨k + 1, by omega, by go_num, by rw [HN.out], by trivial⟩
                case measure => simp [intOf]; omega
            · rw [ho, Bool.true_or] at HN
              clear ho
              go_wp2_with fail
              go_roundw
              case rel => exact ⟨k + 1, by omega, by go_num, by rw [HN.out], by trivial⟩
              case measure => simp [intOf]; omega
          · rw [List.take_of_length_le (by omega)]
            generalize anyOdd zs = o at *
            by_cases hx1 : x = 1
            · subst hx1
              go_wp2_with fail
              go_ret
              exact ⟨by rw [HE.out]; rfl, HB1.out⟩
            · have hx1' : ((x : Int) == 1) = false := by apply beq_false_of_ne; omega
              rw [hx1', Bool.false_or] at HE
              go_wp2_with fail
              go_ret
              exact ⟨by rw [HE.out]; rfl, HB1.out⟩
  · have HE := hide (show cuOk zs u = false from by unfold cuOk; rw [decide_eq_false (by omega)]; rfl)
    rw [decide_eq_false h1] at HL
    go_enter Tryd.func30, Tryd.ntmps30
    go_wp2_with fail
    refine (HL.out _).mono ?_; rintro e w' ⟨rfl, rfl⟩
    go_wp2_with fail
    go_ret
    exact ⟨by rw [HE.out]; rfl, (Below.refl _ _).alloc (Nat.le_refl _) _⟩

theorem specAreCups_any (A : Option Addr) (n c B : Nat) (zs : List Int) (u : Int) (w : World) (hr : Ints w B A n zs) (hB : B ≤ w.heap.size) (hn : n ≤ 17592186044416) :
    Calls Tryd.prog 10 #[.agg #[.slice A n c, .int .i64 u]] w fun e w' => e = .returned (.bool (cuOk zs u)) ∧ Below w.heap.size w w' := by
  have HA := hide (fun W (h : Below w.heap.size w W) => cuGood_any A n c B zs u W (hr.below h hB) (Nat.le_trans hB h.size) hn)
  have kb : Below w.heap.size w (w.alloc (.cells #[.slice A n c, .int .i64 u] 27)) := (Below.refl _ _).alloc (Nat.le_refl _) _
  have HB := hide kb
  clear kb hr
  go_enter Tryd.func10, Tryd.ntmps10
  go_wp2_with fail
  refine (HA.out _ (by first | exact HB.out | exact Below.refl _ _)).mono ?_; rintro e w2 ⟨rfl, hb2⟩
  go_wp2_with fail
  go_ret
  exact ⟨rfl, by first | exact hb2 | exact HB.out.trans (hb2.mono HB.out.size)⟩
end Go.Proofs.YtlempjfkgmlidaaDoor
