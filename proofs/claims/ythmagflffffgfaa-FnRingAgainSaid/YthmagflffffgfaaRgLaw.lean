
/-
  THE WALK OF FnRingAgain, the given frame left out: for all rings and steps the law returns true and writes nothing that was there.
-/
import Derived.Test.YthmagflffffgfaaWkI
import Derived.Test.YthmagflffffgfaaWkG
import Derived.Test.YthmagflffffgfaaRiD
namespace Go.Proofs.Ythmagflffffgfaa
open Go.RowKit Go.Deep
set_option linter.unusedVariables false

theorem aft_same {zs : List Int} (h : rgood zs = true) (b : Nat) : rit zs (aftN zs b) = rit zs b := by
  obtain ⟨hc, _⟩ := cycF h
  unfold aftN
  generalize leadF zs = L at *
  generalize perF zs = p at *
  split
  · rename_i hb
    have e := Nat.div_add_mod (b - L) p
    have r := hc.rounds (rit_told zs) (L + (b - L) % p) ((b - L) / p) (by omega)
    rw [Nat.mul_comm] at e
    rw [show L + (b - L) % p + (b - L) / p * p = b by omega] at r
    exact r.symm
  · rfl
theorem again_iff {zs : List Int} (h : rgood zs = true) (s : Nat) : rit zs (leadF zs + s) = rit zs (leadF zs + s + 1 + s % perF zs) ↔ (1 + s % perF zs) % perF zs = 0 := by
  obtain ⟨hc, _⟩ := cycF h
  generalize leadF zs = L at *
  generalize perF zs = p at *
  have := hc.iff (rit_told zs) (L + s) (1 + s % p) (by omega)
  rw [← Nat.add_assoc] at this
  constructor
  · intro e
    exact Nat.mod_eq_zero_of_dvd (this.1 e.symm).2
  · intro e
    exact (this.2 ⟨by omega, Nat.dvd_of_mod_eq_zero e⟩).symm
theorem Ints.cellAt {w : World} {B n k : Nat} {ad : Addr} {zs : List Int} (h : Ints w B (some ad) n zs) (hk : k < n) : w.cell? (ad.add k) = some (.int .i64 (zs.getD k 0)) := by
  have hl := h.len
  obtain ⟨ad', e, _, hc⟩ := h.at_ (k := k) (by omega)
  injection e with e
  subst e
  exact hc
theorem take_same {x y : List Int} {k : Nat} (h1 : k < x.length) (h2 : k < y.length) : (x.take (k + 1) == y.take (k + 1)) = ((x.take k == y.take k) && (x.getD k 0 == y.getD k 0)) := by
  rw [rget h1, rget h2, List.take_succ_eq_append_getElem h1, List.take_succ_eq_append_getElem h2]
  rw [Bool.eq_iff_iff]
  simp only [beq_iff_eq, Bool.and_eq_true]
  constructor
  · intro e
    have := List.append_inj' e rfl
    exact ⟨this.1, by simpa using this.2⟩
  · rintro ⟨e1, e2⟩; rw [e1, e2]

set_option maxRecDepth 100000 in
set_option maxHeartbeats 4000000 in
theorem lawRingAgain (A : Option Addr) (n c : Nat) (zs : List Int) (st : Int) (w : World) (hr : Ints w w.heap.size A n zs) :
    Calls Try.prog 3 #[.slice A n c, .int .i64 st] w fun e w' => e = .returned (.bool true) ∧ Below w.heap.size w w' := by
  obtain rfl := hr.len
  by_cases hbig : 1000 < zs.length
  · go_enter Try.func3, Try.ntmps3
    go_wp2_with fail
    go_ret
    exact ⟨rfl, Below.refl _ _⟩
  · have hcap : zs.length ≤ 17592186044416 := by omega
    have HI := hide (fun W (h : Below w.heap.size w W) => LeadOfRing_any A zs.length c zs W (hr.next h) hcap)
    have HS := hide (fun W (h : Below w.heap.size w W) => specLeadOfRing_any A zs.length c zs W (hr.next h) hcap)
    have HP := hide (fun W (h : Below w.heap.size w W) => PeriodOfRing_any A zs.length c zs W (hr.next h) hcap)
    by_cases hok : rgood zs = true ∧ 0 ≤ st ∧ st ≤ 1000000
    · obtain ⟨hg, hs0, hs1⟩ := hok
      obtain ⟨s, rfl⟩ : ∃ s : Nat, st = (s : Int) := ⟨st.toNat, by omega⟩
      obtain ⟨hc, hlp⟩ := cycF hg
      have hp1 := hc.pos
      have eL : leadR zs = (leadF zs : Int) := by unfold leadR; rw [if_pos hg]
      have eP : perR zs = (perF zs : Int) := by unfold perR; rw [if_pos hg]
      have HA := hide (fun W (h : Below w.heap.size w W) (b : Int) (k : Nat) (hb : b = (k : Int)) (hk : k ≤ 1000000000) => (show Calls Try.prog 7 #[.slice A zs.length c, .int .i64 b] W (MadeR (rit zs k) true W) from by
        have h1 := RingAfter_any A zs.length c zs b W (hr.next h) hcap
        have h2 : aftOk zs b = true := by unfold aftOk; rw [hg, hb]; simp; omega
        rw [h2, show aftR zs b = rit zs k from by unfold aftR; rw [if_pos h2, hb, Int.toNat_natCast]; exact aft_same hg k] at h1
        exact h1))
      have HB := hide (hc.round (rit_told zs) (leadF zs + s) (by omega))
      have HQ := hide (again_iff hg s)
      have HLN := hide (fun k => rit_length zs k)
      rw [eL, hg] at HI HS
      rw [eP, hg] at HP
      have hmod : s % perF zs < perF zs := Nat.mod_lt _ (by omega)
      clear hc eL eP
      generalize leadF zs = L at *
      generalize hpp : perF zs = p at *
      clear hpp
      have hmax : max (p : Int) 1 = (p : Int) := by omega
      go_enter Try.func3, Try.ntmps3
      go_wp2_with fail
      refine (HI.out _ (Below.refl _ _)).mono ?_; rintro e w1 ⟨rfl, hb1⟩
      have B1 := hide hb1
      clear hb1
      go_wp2_with fail
      refine (HS.out _ B1.out).mono ?_; rintro e w2 ⟨rfl, hb2⟩
      have B2 := hide (below_next B1.out hb2)
      clear hb2
      go_wp2_with fail
      refine (HP.out _ B2.out).mono ?_; rintro e w3 ⟨rfl, hb3⟩
      have B3 := hide (below_next B2.out hb3)
      clear hb3
      go_wp2_with fail
      refine (HA.out _ B3.out _ (L + s) (by omega) (by omega)).mono ?_; rintro e w4 ⟨A4, c4, rfl, h41, h42, hO4, hb4⟩
      have B4 := hide (below_next B3.out hb4)
      have O4 := hide hO4
      clear hb4 hO4
      go_wp2_with fail
      refine (HA.out _ B4.out _ (L + s + p) (by omega) (by omega)).mono ?_; rintro e w5 ⟨A5, c5, rfl, h51, h52, hO5, hb5⟩
      have B5 := hide (below_next B4.out hb5)
      have O5 := hide (O4.out.below hb5)
      have P5 := hide hO5
      clear hb5 hO5
      go_wp2_with fail
      refine (HA.out _ B5.out _ (L + s + 1 + s % p) (by push_cast; rfl) (by omega)).mono ?_; rintro e w6 ⟨A6, c6, rfl, h61, h62, hO6, hb6⟩
      have B6 := hide (below_next B5.out hb6)
      have I4 := hide (O5.out.below hb6).ints
      have I5 := hide (P5.out.below hb6).ints
      have I6 := hide hO6.ints
      clear hb6 hO6
      rw [HB.out] at I5
      rw [HLN.out] at I4 I5 I6
      have hn5 : (rit zs (L + s + p)).length = zs.length := HLN.out _
      have hn4 : (rit zs (L + s)).length = zs.length := HLN.out _
      have hn6 : (rit zs (L + s + 1 + s % p)).length = zs.length := HLN.out _
      have HTS := hide (fun k (hk : k < zs.length) => take_same (x := rit zs (L + s)) (y := rit zs (L + s + 1 + s % p)) (k := k) (by omega) (by omega))
      have HFin := hide (show ((rit zs (L + s)).take zs.length == (rit zs (L + s + 1 + s % p)).take zs.length) = decide ((1 + s % p) % p = 0) from by
        rw [List.take_of_length_le (by omega), List.take_of_length_le (by omega), Bool.eq_iff_iff, beq_iff_eq, decide_eq_true_iff]
        exact HQ.out)
      simp only [hn4, hn5, hn6]
      clear hn4 hn5 hn6 HQ
      generalize rit zs (L + s) = ra at *
      generalize rit zs (L + s + 1 + s % p) = rc at *
      go_wp2_with fail
      go_loopw [17, 105] (fun v i W => ∃ k : Nat, k ≤ zs.length ∧ i = .int .i64 k ∧ v = .bool (ra.take k == rc.take k) ∧ Hid (Below w6.heap.size w6 W))
        (fun _ i _ => zs.length - (intOf i).toNat)
      case atStart => exact ⟨0, Nat.zero_le _, rfl, by simp, hide (Below.refl _ _)⟩
      case round =>
        obtain ⟨k, hk, rfl, rfl, HBr⟩ := hrel
        by_cases hlt : k < zs.length
        · obtain ⟨a4, rfl, _, hc4⟩ := (I4.out.below HBr.out (Nat.le_refl _)).at_ hlt
          obtain ⟨a5, rfl, _, hc5⟩ := (I5.out.below HBr.out (Nat.le_refl _)).at_ hlt
          obtain ⟨a6, rfl, _, hc6⟩ := (I6.out.below HBr.out (Nat.le_refl _)).at_ hlt
          have HT := hide (HTS.out k hlt)
          generalize ra.getD k 0 = x at *
          generalize rc.getD k 0 = y at *
          have hxx : (x != x) = false := by simp
          cases hb : (ra.take k == rc.take k)
          · have HV := hide (show (ra.take (k + 1) == rc.take (k + 1)) = false from by rw [HT.out, hb]; rfl)
            clear HT
            go_wp2_with fail
            go_roundw
            case rel => exact ⟨k + 1, by omega, by go_num, by rw [HV.out], HBr⟩
            case measure => simp [intOf]; omega
          · have HV := hide (show (ra.take (k + 1) == rc.take (k + 1)) = (x == y) from by rw [HT.out, hb]; rfl)
            clear HT
            go_wp2_with fail
            go_roundw
            case rel => exact ⟨k + 1, by omega, by go_num, by rw [HV.out], HBr⟩
            case measure => simp [intOf]; omega
        · obtain rfl : k = zs.length := by omega
          rw [HFin.out]
          have B9 := hide (B6.out.trans (HBr.out.mono B6.out.size))
          have hpp : (1 : Int) ≤ (p : Int) := by omega
          have hfin : ((1 + (s : Int)) % (p : Int) == 0) = decide ((1 + s % p) % p = 0) := by
            have e : (1 + (s : Int)) % (p : Int) = (((1 + s) % p : Nat) : Int) := by push_cast; rfl
            rw [e, Nat.add_mod_mod]
            generalize (1 + s) % p = q
            rw [Bool.eq_iff_iff]
            simp
          generalize decide ((1 + s % p) % p = 0) = bb at *
          have hbb : (bb == bb) = true := by simp
          go_wp2_with fail
          go_ret
          exact ⟨rfl, B9.out⟩
    · have HX := hide (show (!rgood zs || decide (st < 0) || decide (1000000 < st)) = true from by
        rcases hg : rgood zs with _ | _
        · rfl
        · by_cases h0 : st < 0
          · simp [h0]
          · by_cases h1 : 1000000 < st
            · simp [h1]
            · exact absurd ⟨hg, by omega, by omega⟩ hok)
      clear hok
      generalize leadR zs = L at *
      generalize perR zs = p at *
      cases hg : rgood zs
      · rw [hg] at HI HS HP
        go_enter Try.func3, Try.ntmps3
        go_wp2_with fail
        refine (HI.out _ (Below.refl _ _)).mono ?_; rintro e w1 ⟨rfl, hb1⟩
        have B1 := hide hb1
        clear hb1
        go_wp2_with fail
        refine (HS.out _ B1.out).mono ?_; rintro e w2 ⟨rfl, hb2⟩
        have B2 := hide (below_next B1.out hb2)
        clear hb2
        go_wp2_with fail
        refine (HP.out _ B2.out).mono ?_; rintro e w3 ⟨rfl, hb3⟩
        have B3 := hide (below_next B2.out hb3)
        clear hb3
        have hLL : (L != L) = false := by simp
        go_wp2_with fail
        go_ret
        exact ⟨rfl, B3.out⟩
      · rw [hg] at HI HS HP HX
        by_cases h0 : st < 0
        · go_enter Try.func3, Try.ntmps3
          go_wp2_with fail
          refine (HI.out _ (Below.refl _ _)).mono ?_; rintro e w1 ⟨rfl, hb1⟩
          have B1 := hide hb1
          clear hb1
          go_wp2_with fail
          refine (HS.out _ B1.out).mono ?_; rintro e w2 ⟨rfl, hb2⟩
          have B2 := hide (below_next B1.out hb2)
          clear hb2
          go_wp2_with fail
          refine (HP.out _ B2.out).mono ?_; rintro e w3 ⟨rfl, hb3⟩
          have B3 := hide (below_next B2.out hb3)
          clear hb3
          have hLL : (L != L) = false := by simp
          go_wp2_with fail
          go_ret
          exact ⟨rfl, B3.out⟩
        · have h1 : 1000000 < st := by
            have := HX.out
            simp at this
            omega
          go_enter Try.func3, Try.ntmps3
          go_wp2_with fail
          refine (HI.out _ (Below.refl _ _)).mono ?_; rintro e w1 ⟨rfl, hb1⟩
          have B1 := hide hb1
          clear hb1
          go_wp2_with fail
          refine (HS.out _ B1.out).mono ?_; rintro e w2 ⟨rfl, hb2⟩
          have B2 := hide (below_next B1.out hb2)
          clear hb2
          go_wp2_with fail
          refine (HP.out _ B2.out).mono ?_; rintro e w3 ⟨rfl, hb3⟩
          have B3 := hide (below_next B2.out hb3)
          clear hb3
          have hLL : (L != L) = false := by simp
          go_wp2_with fail
          go_ret
          exact ⟨rfl, B3.out⟩
end Go.Proofs.Ythmagflffffgfaa
