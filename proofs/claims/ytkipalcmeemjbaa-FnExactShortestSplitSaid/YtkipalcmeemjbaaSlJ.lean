
/-
  LENGTHS OF GAMES, the model's way: slLong.
-/
import Derived.Test.YtkipalcmeemjbaaSlJP
import Derived.Test.YtkipalcmeemjbaaSl
import Derived.Test.YtkipalcmeemjbaaHas
import Derived.Test.YtkipalcmeemjbaaOneI
import Derived.Test.YtkipalcmeemjbaaFlows
import Derived.Test.YtkipalcmeemjbaaSums
import Derived.Deep.RegionHeld3
namespace Go.Proofs.Ytkipalcmeemjbaa
open Go.RowKit Go.Deep
set_option linter.unusedVariables false

theorem lens_next (L : Bool) (r : Int) (N : Nat) (hN : 1 ≤ N) : lens L r N = lens L r (N - 1) ++ [max 0 (pickL L (addL (told (lens L r (N - 1)) 0 r N (N + 1))))] := by
  obtain ⟨n, rfl⟩ : ∃ n, N = n + 1 := ⟨N - 1, by omega⟩
  exact lens_succ L r n

set_option maxHeartbeats 4000000 in
theorem slLong_any (L : Bool) (r : Int) (m : Nat) (hm : m ≤ 60) (hrule : srule r = true) (w : World) :
    Calls Try.prog 13 #[.int .i64 r, .int .i64 (m : Int), .bool L] w (Made (lens L r m) w) := by
  have HR := hide hrule
  clear hrule
  go_enter Try.func13, Try.ntmps13
  go_wp2_with fail
  go_loopw [7, 8] (fun v i wr => ∃ N : Nat, 1 ≤ N ∧ N ≤ m + 1 ∧ i = .int .i64 (N : Int) ∧ Hid (Own wr w.heap.size 3 v (lens L r (N - 1))) ∧ Below w.heap.size w wr)
    (fun _ i _ => m + 1 - (intOf i).toNat)
  case atStart => exact ⟨1, Nat.le_refl _, by omega, rfl, hide (own_one w 0 3), (Below.refl _ _).alloc (Nat.le_refl _) _⟩
  case round =>
    obtain ⟨N, hN1, hN, rfl, HO, hb⟩ := hrel
    have hsz := hb.size
    have HL := hide (show (lens L r (N - 1)).length = N from by rw [lens_length]; omega)
    obtain ⟨g, c, rfl, hgb, hgl, hcl, hcm⟩ : ∃ g c, _ = Value.slice (some ⟨g, 0, none⟩) (lens L r (N - 1)).length c ∧ w.heap.size ≤ g ∧ g < wr.heap.size ∧ (lens L r (N - 1)).length ≤ c ∧ c ≤ maxLen := by
      rcases HO.out.form with ⟨_, h⟩ | h
      · exact absurd (congrArg List.length h) (by rw [HL.out]; simp; omega)
      · exact h
    by_cases hlt : N ≤ m
    · have HT := hide (fun k => lens_bd L r (N - 1) k)
      have HBd := hide (fun p => addL_bd (t := lens L r (N - 1)) (r := r) (n := N) (p := p) (fun k => ⟨(lens_bd L r (N - 1) k).1, fun h1 h2 => (lens_bd L r (N - 1) k).2.2 h1 (by omega)⟩))
      have HX := hide (HO.out.ints)
      have HS := hide (lens_next L r N hN1)
      rw [HL.out] at HX hcl HO ⊢
      generalize lens L r (N - 1) = t at *
      have hcond : ((N : Int) ≤ (m : Int)) := by omega
      generalize wr = W1 at *
      go_wp2_with fail
      go_loopw [9, 10] (fun b q wq => (∃ p : Nat, 1 ≤ p ∧ p ≤ N + 1 ∧ q = .int .i64 (p : Int) ∧ b = .int .i64 (pickL L (addL (told t 0 r N p)))) ∧ ∃ d, wq = W1.drewN d)
        (fun _ q _ => N + 1 - (intOf q).toNat)
      case atStart => exact ⟨⟨1, Nat.le_refl _, by omega, rfl, by rw [addL_one]; rfl⟩, 0, rfl⟩
      case round =>
        obtain ⟨⟨p, hp1, hp2, rfl, rfl⟩, dd, rfl⟩ := hrel
        by_cases hc : 2 * p ≤ N
        · have hc' : 2 * (p : Int) ≤ (N : Int) := by omega
          have HC := hide (fun W => slCan_any r (N : Int) (p : Int) HR.out (by omega) (by omega) W)
          cases hs : scan r (N : Int) (p : Int)
          · have HN := hide (addL_no (t := t) hs)
            rw [hs] at HC
            clear hs
            go_wp2_with fail
            refine (HC.out _).mono ?_; rintro e w' ⟨rfl, rfl⟩
            go_wp2_with fail
            go_roundw
            case rel => exact ⟨⟨p + 1, by omega, by omega, by go_num, by rw [HN.out]⟩, dd, rfl⟩
            case measure => simp [intOf]; omega
          · have HN := hide (addL_yes (t := t) hs)
            have hall := HBd.out p
            rw [hs] at HC
            obtain ⟨ad1, had1, _, hcell1⟩ := HX.out.at_ (k := p) (by omega)
            obtain ⟨ad2, had2, _, hcell2⟩ := HX.out.at_ (k := N - p) (by omega)
            injection had1 with had1
            injection had2 with had2
            subst had1
            subst had2
            rw [add_head] at hcell1 hcell2
            have hx1 := HT.out p
            have hx2 := HT.out (N - p)
            generalize t.getD p 0 = x at *
            generalize t.getD (N - p) 0 = y at *
            have hb1 : 0 ≤ x ∧ x ≤ 60 := by omega
            have hb2 : 0 ≤ y ∧ y ≤ 60 := by omega
            clear hs hx1 hx2
            have hi1 : (p : Int) < (N : Int) := by omega
            have hi2 : (N : Int) - (p : Int) = ((N - p : Nat) : Int) := by omega
            have hi3 : ((N - p : Nat) : Int) < (N : Int) := by omega
            have hi4 : IntKind.i64.wrap ((N : Int) - (p : Int)) = ((N - p : Nat) : Int) := by rw [IntKind.wrap_i64]; omega
            have hi5 : IntKind.i64.wrap ((N - p : Nat) : Int) = ((N - p : Nat) : Int) := by rw [IntKind.wrap_i64]; omega
            have hi6 : IntKind.i64.wrap (1 + x) = 1 + x := by rw [IntKind.wrap_i64]; omega
            have hi7 : IntKind.i64.wrap (1 + x + y) = 1 + x + y := by rw [IntKind.wrap_i64]; omega
            have hcomm : 1 + y + x = 1 + x + y := by omega
            rw [hcomm] at HN
            clear hcomm
            by_cases hl : addL (told t 0 r N p) = []
            · have HE := hide (show pickL L (addL (told t 0 r N (p + 1))) = 1 + x + y from by rw [HN.out, hl]; rfl)
              rw [hl, show pickL L [] = -1 from rfl]
              clear hl hall
              go_wp2_with fail
              refine (HC.out _).mono ?_; rintro e w' ⟨rfl, rfl⟩
              go_wp2_with fail
              go_quiet (fail)
              cases L
              all_goals
                go_wp2_with fail
                go_roundw
                case rel => exact ⟨⟨p + 1, by omega, by omega, by go_num, by rw [HE.out]⟩, _, rfl⟩
                case measure => simp [intOf]; omega
            · have HE := hide ((congrArg (pickL L) HN.out).trans (pick_snoc hl (1 + x + y)))
              have hbest := hall _ (pick_mem (L := L) hl)
              clear hl hall
              generalize pickL L (addL (told t 0 r N p)) = best at *
              have hneg : ¬ best < 0 := by omega
              have hbb : 0 ≤ best ∧ best ≤ 60 := by omega
              clear hbest
              go_wp2_with fail
              refine (HC.out _).mono ?_; rintro e w' ⟨rfl, rfl⟩
              go_wp2_with fail
              go_quiet (fail)
              cases L
              · by_cases hlt2 : 1 + x + y < best
                · have HP := hide (show pk false best (1 + x + y) = 1 + x + y from by unfold pk; simp; omega)
                  go_wp2_with fail
                  go_roundw
                  case rel => exact ⟨⟨p + 1, by omega, by omega, by go_num, by rw [HE.out, HP.out]⟩, _, rfl⟩
                  case measure => simp [intOf]; omega
                · have HP := hide (show pk false best (1 + x + y) = best from by unfold pk; simp; omega)
                  go_wp2_with fail
                  go_roundw
                  case rel => exact ⟨⟨p + 1, by omega, by omega, by go_num, by rw [HE.out, HP.out]⟩, _, rfl⟩
                  case measure => simp [intOf]; omega
              · by_cases hlt2 : best < 1 + x + y
                · have HP := hide (show pk true best (1 + x + y) = 1 + x + y from by unfold pk; simp; omega)
                  go_wp2_with fail
                  go_roundw
                  case rel => exact ⟨⟨p + 1, by omega, by omega, by go_num, by rw [HE.out, HP.out]⟩, _, rfl⟩
                  case measure => simp [intOf]; omega
                · have HP := hide (show pk true best (1 + x + y) = best from by unfold pk; simp; omega)
                  go_wp2_with fail
                  go_roundw
                  case rel => exact ⟨⟨p + 1, by omega, by omega, by go_num, by rw [HE.out, HP.out]⟩, _, rfl⟩
                  case measure => simp [intOf]; omega
        · have HE := hide (addL_end (t := t) (r := r) (n := N) (p := p) (by omega) hp2)
          rw [HE.out]
          have hc' : ¬ 2 * (p : Int) ≤ (N : Int) := by omega
          have HM := hide (fun W => l1Most_any 0 (pickL L (addL (told t 0 r N (N + 1)))) W)
          generalize max 0 (pickL L (addL (told t 0 r N (N + 1)))) = v at *
          generalize pickL L (addL (told t 0 r N (N + 1))) = best at *
          have hbase := hb.size
          have htl : t.length < 1000000 := by rw [HL.out]; omega
          go_wp2_with fail
          refine (HM.out _).mono ?_; rintro e w' ⟨rfl, rfl⟩
          go_wp2_with (at_builtin; refine wpList_app_int rfl _ _ 26 3 rfl Try.underlying26 infoInt w.heap.size _ _ rfl HO.out _ _ rfl hbase htl ?_; intro v' w' hown' hb')
          go_roundw
          case rel => exact ⟨N + 1, by omega, by omega, by go_num, by rw [Nat.add_sub_cancel, HS.out]; exact hide hown', (below_drewN hb dd).trans hb'⟩
          case measure => simp [intOf]; omega
    · obtain rfl : N = m + 1 := by omega
      rw [Nat.add_sub_cancel] at HO hcl HL
      have hcond : ¬ (((m + 1 : Nat) : Int) ≤ (m : Int)) := by omega
      go_wp2_with fail
      go_ret
      exact ⟨some ⟨g, 0, none⟩, c, rfl, hcl, hcm, HO.out, hb⟩
end Go.Proofs.Ytkipalcmeemjbaa
