
/-
  CUPS, BOTH WAYS: commonTwos, AreCups, the model's cuGood; contents in lowest terms.
-/
import Derived.Test.YtmknencbjhcehaaDoorCuP
import Derived.Test.YtmknencbjhcehaaDoorGcd
namespace Go.Proofs.YtmknencbjhcehaaDoor
open Go.RowKit Go.Deep
set_option linter.unusedVariables false

theorem commonTwos_any (A : Option Addr) (n c B : Nat) (zs : List Int) (u : Nat) (w : World) (hr : Ints w B A n zs) (hB : B ≤ w.heap.size) (hn : n ≤ 100) (hu : 1 ≤ u) (hu2 : u < 1099511627776) (hz : within 0 1099511627775 zs = true) (hT : Tab w) :
    Calls Tryd.prog 29 #[.agg #[.slice A n c, .int .i64 (u : Int)]] w fun e w' => e = .returned (.int .i64 ((twos u zs : Nat) : Int)) ∧ Below w.heap.size w w' := by
  obtain rfl := hr.len
  have hzz := hide (within_toNat hz)
  have hlt : ∀ k, orAll u (zs.take k) < 2 ^ 40 := fun k => orAll_lt 40 _ (fun z hz' => by have := hzz.out z (List.mem_of_mem_take hz'); omega) _ (by omega)
  have hge := hide (orAll_ge zs u)
  have HT := hide hT
  have HR := hide hr
  clear hT hz hr
  go_enter Tryd.func29, Tryd.ntmps29
  go_wp2_with fail
  go_loopw [3, 11] (fun v i wr => ∃ k : Nat, k ≤ zs.length ∧ i = .int .i64 k ∧ v = .int .i64 ((orAll u (zs.take k) : Nat) : Int) ∧ Below w.heap.size w wr)
    (fun _ i _ => zs.length - (intOf i).toNat)
  case atStart => exact ⟨0, Nat.zero_le _, rfl, rfl, (Below.refl _ _).alloc (Nat.le_refl _) _⟩
  case round =>
    obtain ⟨k, hk, rfl, rfl, hb⟩ := hrel
    by_cases hlt' : k < zs.length
    · obtain ⟨ad, rfl, hab, hcell⟩ := (HR.out.below hb hB).at_ hlt'
      rw [show zs.getD k 0 = zs[k] from by simp [List.getD, List.getElem?_eq_getElem hlt']] at hcell
      have hzk := hzz.out zs[k] (List.getElem_mem hlt')
      have hor := bits_or_i (orAll u (zs.take k)) zs[k].toNat (Nat.lt_trans (hlt k) (by decide)) (by omega)
      rw [show ((zs[k].toNat : Nat) : Int) = zs[k] from by omega] at hor
      have HN := hide (orAll_take u zs k hlt')
      have HB := hide hb
      clear hlt hb
      generalize orAll u (zs.take k) = a at *
      generalize a ||| zs[k].toNat = b at *
      go_wp2_with fail
      go_roundw
      case rel => exact ⟨k + 1, by omega, by go_num, by rw [HN.out], HB.out⟩
      case measure => simp [intOf]; omega
    · obtain rfl : k = zs.length := by omega
      have hl := hlt zs.length
      rw [List.take_length] at hl
      rw [List.take_length]
      have h1 : 1 ≤ orAll u zs := Nat.le_trans hu hge.out
      have HC := hide (fun W hW => tz_any (orAll u zs) (by omega) (by omega) W hW)
      have hu : IntKind.u64.wrap ((orAll u zs : Nat) : Int) = ((orAll u zs : Nat) : Int) := by rw [IntKind.wrap_u64]; omega
      have HW := hide (HT.out.next hb)
      have HB := hide hb
      have HS := hide (show twos u zs = Lib.ctz 64 (orAll u zs) from rfl)
      clear hlt hb hl h1
      generalize orAll u zs = a at *
      generalize Lib.ctz 64 a = t at *
      go_wp2_with fail
      refine (HC.out _ HW.out).mono ?_; rintro e w' ⟨rfl, rfl⟩
      go_wp2_with fail
      go_ret
      exact ⟨by rw [HS.out]; rfl, HB.out⟩

set_option maxRecDepth 100000 in
theorem AreCups_any (A : Option Addr) (n c B : Nat) (zs : List Int) (u : Int) (w : World) (hr : Ints w B A n zs) (hB : B ≤ w.heap.size) (hn : n ≤ 17592186044416) (hT : Tab w) :
    Calls Tryd.prog 17 #[.agg #[.slice A n c, .int .i64 u]] w fun e w' => e = .returned (.bool (cuOk zs u)) ∧ Below w.heap.size w w' := by
  obtain rfl := hr.len
  have HU := hide (fun W => isUnit_any u W)
  by_cases h1 : 2 ≤ zs.length
  · by_cases h2 : zs.length ≤ 6
    · cases h3 : isU u
      · have HE := hide (show cuOk zs u = false from by unfold cuOk; rw [h3]; simp)
        rw [h3] at HU
        clear h3
        go_enter Tryd.func17, Tryd.ntmps17
        go_wp2_with fail
        refine (HU.out _).mono ?_; rintro e w' ⟨rfl, rfl⟩
        go_wp2_with fail
        go_ret
        exact ⟨by rw [HE.out]; rfl, (Below.refl _ _).alloc (Nat.le_refl _) _⟩
      · obtain ⟨x, rfl⟩ := Int.eq_ofNat_of_zero_le (show 0 ≤ u from by have := isU_bd h3; omega)
        have hub := isU_bd h3
        have hm : wrap64 (1000 * (x : Int)) = 1000 * (x : Int) := by unfold wrap64; omega
        have HR := hide (fun W (h : Below w.heap.size w W) => hr.below h hB)
        have HI := hide (fun W (h : Below w.heap.size w W) => areWithin_any A zs.length c B zs 0 (1000 * (x : Int)) W (HR.out W h) hn)
        have HT := hide hT
        clear hr hT
        have b1 : Below w.heap.size w (w.alloc (.cells #[.slice A zs.length c, .int .i64 (x : Int)] 29)) := (Below.refl _ _).alloc (Nat.le_refl _) _
        have HB1 := hide b1
        cases h4 : within 0 (1000 * (x : Int)) zs
        · have HE := hide (show cuOk zs (x : Int) = false from by unfold cuOk; rw [h4]; simp)
          rw [h4] at HI
          rw [h3] at HU
          clear h3 h4
          go_enter Tryd.func17, Tryd.ntmps17
          go_wp2_with fail
          refine (HU.out _).mono ?_; rintro e w' ⟨rfl, rfl⟩
          go_wp2_with fail
          refine (HI.out _ HB1.out).mono ?_; rintro e w' ⟨rfl, rfl⟩
          go_wp2_with fail
          go_ret
          exact ⟨by rw [HE.out]; rfl, HB1.out⟩
        · have h0 := twos_zero (x : Int) zs h3 h4
          rw [Int.toNat_natCast] at h0
          have HE := hide (show cuOk zs (x : Int) = (twos x zs == 0) from by
            unfold cuOk; rw [h0, h3, h4, decide_eq_true ⟨h1, h2⟩]; simp)
          have hw := within_toNat h4
          have HC := hide (fun W (h : Below w.heap.size w W) => commonTwos_any A zs.length c B zs x W (HR.out W h) (Nat.le_trans hB h.size) (by omega) (by omega) (by omega)
            (within_of (fun k hk => by have := hw zs[k] (List.getElem_mem hk); omega)) (HT.out.below h HT.out.lt))
          rw [h4] at HI
          rw [h3] at HU
          clear h3 h4 hw h0
          generalize twos x zs = t at *
          go_enter Tryd.func17, Tryd.ntmps17
          go_wp2_with fail
          refine (HU.out _).mono ?_; rintro e w' ⟨rfl, rfl⟩
          go_wp2_with fail
          refine (HI.out _ HB1.out).mono ?_; rintro e w' ⟨rfl, rfl⟩
          go_wp2_with fail
          refine (HC.out _ HB1.out).mono ?_; rintro e w2 ⟨rfl, hb2⟩
          go_wp2_with fail
          go_ret
          refine ⟨?_, HB1.out.trans (hb2.mono HB1.out.size)⟩
          rw [HE.out]
          show Ending.returned (Value.bool ((t : Int) == 0)) = _
          congr 2
          by_cases hk : t = 0
          · subst hk; rfl
          · rw [beq_false_of_ne hk, beq_false_of_ne (by omega)]
    · have HE := hide (show cuOk zs u = false from by unfold cuOk; rw [decide_eq_false (by omega)]; rfl)
      go_enter Tryd.func17, Tryd.ntmps17
      go_wp2_with fail
      go_ret
      exact ⟨by rw [HE.out]; rfl, (Below.refl _ _).alloc (Nat.le_refl _) _⟩
  · have HE := hide (show cuOk zs u = false from by unfold cuOk; rw [decide_eq_false (by omega)]; rfl)
    go_enter Tryd.func17, Tryd.ntmps17
    go_wp2_with fail
    go_ret
    exact ⟨by rw [HE.out]; rfl, (Below.refl _ _).alloc (Nat.le_refl _) _⟩
end Go.Proofs.YtmknencbjhcehaaDoor
