
/-
  VALUES OF HEAPS, the model's way: slValues.
-/
import Derived.Test.YtlaapnfinbancaaSlVP
import Derived.Test.YtlaapnfinbancaaSl
import Derived.Test.YtlaapnfinbancaaHas
import Derived.Test.YtlaapnfinbancaaOneI
import Derived.Test.YtlaapnfinbancaaFlows
import Derived.Deep.RegionHeld3
namespace Go.Proofs.Ytlaapnfinbancaa
open Go.RowKit Go.Deep
set_option linter.unusedVariables false

theorem seen_yes {t : List Int} {r : Int} {n p : Nat} (h : scan r n p = true) (ht : ∀ k, 0 ≤ t.getD k 0 ∧ t.getD k 0 ≤ 62) :
    seenL (told t 0 r n (p + 1)) = seenL (told t 0 r n p) ++ [xr (t.getD p 0) (t.getD (n - p) 0)] := by
  have a := ht p
  have b := ht (n - p)
  unfold seenL told
  rw [pB_yes h, List.map_append, List.map_append]
  simp only [List.map_cons, List.map_nil]
  rw [(xr_bd (a := t.getD (n - p) 0) (b := t.getD p 0) (by omega) (by omega) (by omega) (by omega)).2.2]
theorem seen_no {t : List Int} {r : Int} {n p : Nat} (h : scan r n p = false) : seenL (told t 0 r n (p + 1)) = seenL (told t 0 r n p) := by
  unfold seenL told; rw [pB_no h]
theorem seen_one (t : List Int) (r : Int) (n : Nat) : seenL (told t 0 r n 1) = [] := by unfold seenL told; rw [pB_one]; rfl
theorem seen_end {t : List Int} {r : Int} {n p : Nat} (h : n < 2 * p) (hp : p ≤ n + 1) : seenL (told t 0 r n p) = seenL (told t 0 r n (n + 1)) := by
  unfold seenL told; rw [parts_at h hp]; rfl
theorem seen_len (t : List Int) (r : Int) (n p : Nat) : (seenL (told t 0 r n p)).length ≤ p := by
  unfold seenL told; rw [List.length_map, List.length_map]; exact pB_len _ _ _
theorem vals_length (r : Int) (n : Nat) : (vals r n).length = n + 1 := tbl_length n
theorem vals_succ (r : Int) (n k : Nat) (h : isMex (seenL (told (vals r n) 0 r (n + 1) (n + 2))) k) : vals r (n + 1) = vals r n ++ [(k : Int)] := by
  show vals r n ++ [valF (n + 1) (told (vals r n) 0 r (n + 1) (n + 2))] = _
  unfold valF
  rw [mex_is h]

theorem vals_next (r : Int) (N k : Nat) (hN : 1 ≤ N) (h : isMex (seenL (told (vals r (N - 1)) 0 r N (N + 1))) k) : vals r N = vals r (N - 1) ++ [(k : Int)] := by
  obtain ⟨n, rfl⟩ : ∃ n, N = n + 1 := ⟨N - 1, by omega⟩
  exact vals_succ r n k h

set_option maxHeartbeats 2000000 in
theorem slValues_any (r : Int) (m : Nat) (hm : m ≤ 60) (hrule : srule r = true) (w : World) :
    Calls Try.prog 21 #[.int .i64 r, .int .i64 (m : Int)] w (Made (vals r m) w) := by
  have HR := hide hrule
  clear hrule
  go_enter Try.func21, Try.ntmps21
  go_wp2_with fail
  go_loopw [5, 6] (fun v i wr => ∃ N : Nat, 1 ≤ N ∧ N ≤ m + 1 ∧ i = .int .i64 (N : Int) ∧ Hid (Own wr w.heap.size 3 v (vals r (N - 1))) ∧ Below w.heap.size w wr)
    (fun _ i _ => m + 1 - (intOf i).toNat)
  case atStart => exact ⟨1, Nat.le_refl _, by omega, rfl, hide (own_one w 0 3), (Below.refl _ _).alloc (Nat.le_refl _) _⟩
  case round =>
    obtain ⟨N, hN1, hN, rfl, HO, hb⟩ := hrel
    have hsz := hb.size
    have HL := hide (show (vals r (N - 1)).length = N from by rw [vals_length]; omega)
    obtain ⟨g, c, rfl, hgb, hgl, hcl, hcm⟩ : ∃ g c, _ = Value.slice (some ⟨g, 0, none⟩) (vals r (N - 1)).length c ∧ w.heap.size ≤ g ∧ g < wr.heap.size ∧ (vals r (N - 1)).length ≤ c ∧ c ≤ maxLen := by
      rcases HO.out.form with ⟨_, h⟩ | h
      · exact absurd (congrArg List.length h) (by rw [HL.out]; simp; omega)
      · exact h
    by_cases hlt : N ≤ m
    · have HT := hide (vals_bd r (N - 1))
      have HX := hide (HO.out.ints)
      have HS := hide (fun k => vals_next r N k hN1)
      rw [HL.out] at HX hcl HO ⊢
      generalize vals r (N - 1) = t at *
      have hcond : ((N : Int) ≤ (m : Int)) := by omega
      generalize wr = W1 at *
      go_wp2_with fail
      go_loopw [7, 8] (fun v q wq => ∃ p : Nat, 1 ≤ p ∧ p ≤ N + 1 ∧ q = .int .i64 (p : Int) ∧ Hid (Own wq W1.heap.size 3 v (seenL (told t 0 r N p))) ∧ Below W1.heap.size W1 wq)
        (fun _ q _ => N + 1 - (intOf q).toNat)
      case atStart => exact ⟨1, Nat.le_refl _, by omega, rfl, by rw [seen_one]; exact hide (Own.nil _ _ _), Below.refl _ _⟩
      case round =>
        obtain ⟨p, hp1, hp2, rfl, HQ, hbq⟩ := hrel
        have hsq := hbq.size
        by_cases hc : 2 * p ≤ N
        · have hc' : 2 * (p : Int) ≤ (N : Int) := by omega
          have HC := hide (fun W => slCan_any r (N : Int) (p : Int) HR.out (by omega) (by omega) W)
          cases hs : scan r (N : Int) (p : Int)
          · have HN := hide (seen_no (t := t) hs)
            rw [hs] at HC
            clear hs
            go_wp2_with fail
            refine (HC.out _).mono ?_; rintro e w' ⟨rfl, rfl⟩
            go_wp2_with fail
            go_roundw
            case rel => exact ⟨p + 1, by omega, by omega, by go_num, by rw [HN.out]; exact HQ, hbq⟩
            case measure => simp [intOf]; omega
          · have HN := hide (seen_yes (t := t) hs (fun k => HT.out k (by omega)))
            have hlen := seen_len t r N p
            rw [hs] at HC
            have hx1 := HX.out.below hbq (Nat.le_refl _)
            obtain ⟨ad1, had1, _, hcell1⟩ := hx1.at_ (k := p) (by omega)
            obtain ⟨ad2, had2, _, hcell2⟩ := hx1.at_ (k := N - p) (by omega)
            injection had1 with had1
            injection had2 with had2
            subst had1
            subst had2
            rw [add_head] at hcell1 hcell2
            clear hs hx1
            generalize t.getD p 0 = a at *
            generalize t.getD (N - p) 0 = b at *
            have hi1 : (p : Int) < (N : Int) := by omega
            have hi2 : (N : Int) - (p : Int) = ((N - p : Nat) : Int) := by omega
            have hi3 : ((N - p : Nat) : Int) < (N : Int) := by omega
            have hi4 : IntKind.i64.wrap ((N : Int) - (p : Int)) = ((N - p : Nat) : Int) := by rw [IntKind.wrap_i64]; omega
            have hi5 : IntKind.i64.wrap ((N - p : Nat) : Int) = ((N - p : Nat) : Int) := by rw [IntKind.wrap_i64]; omega
            go_wp2_with fail
            refine (HC.out _).mono ?_; rintro e w' ⟨rfl, rfl⟩
            go_wp2_with fail
            have HSK : Hid (∀ W', Below W1.heap.size W1 W' → (Below W1.heap.size W1 W' ∧ W'.cell? ⟨g, p, none⟩ = some (.int .i64 a) ∧ W'.cell? ⟨g, N - p, none⟩ = some (.int .i64 b))) := hide fun W' h =>
              ⟨h, ((h.cell (p := ⟨g, p, none⟩) hgl).trans ((hbq.cell (p := ⟨g, p, none⟩) hgl).symm)).trans hcell1, ((h.cell (p := ⟨g, N - p, none⟩) hgl).trans ((hbq.cell (p := ⟨g, N - p, none⟩) hgl).symm)).trans hcell2⟩
            clear hcell1 hcell2
            go_region_held3 (fun W => Below W1.heap.size W1 W ∧ W.cell? ⟨g, p, none⟩ = some (.int .i64 a) ∧ W.cell? ⟨g, N - p, none⟩ = some (.int .i64 b))
              (first | exact HSK.out _ hbq.drew | exact HSK.out _ (Below.trans (And.left (by assumption)) hb') | exact HSK.out _ (Below.alloc (And.left (by assumption)) (Below.size (And.left (by assumption))) _) | go_keep)
              (first | (refine step_app_ints rfl _ _ 25 3 rfl Try.underlying25 infoInt W1.heap.size _ (seenL (told t 0 r N p)) rfl ?_ _ 1 _ _ [xr a b] rfl (ints_one wr.drew (xr a b) _) ?_ (by omega) ?_; (first | exact HQ.out.alloc _ | exact (HQ.out.alloc _).drewN 1); (have := hbq.size; simp; omega); intro v' w' hown' hb'))
            rw [← HN.out] at hown'
            have hbw : Below W1.heap.size W1 w' := And.left (by assumption : Below W1.heap.size W1 w' ∧ w'.cell? ⟨g, p, none⟩ = some (.int .i64 a) ∧ _)
            clear hb' HSK
            go_wp2_with fail
            go_roundw
            case rel => exact ⟨p + 1, by omega, by omega, by go_num, hide hown', hbw⟩
            case measure => simp [intOf]; omega
        · have HE := hide (seen_end (t := t) (r := r) (n := N) (p := p) (by omega) hp2)
          have hlen := seen_len t r N p
          rw [HE.out] at HQ hlen
          have hc' : ¬ 2 * (p : Int) ≤ (N : Int) := by omega
          clear HE
          generalize seenL (told t 0 r N (N + 1)) = L at *
          obtain ⟨A', c', rfl, hA1, hA2⟩ := HQ.out.shape
          have HI := hide HQ.out.ints
          have HOq := hide (HO.out.below hbq)
          have HBq := hide (hb.trans (hbq.mono hsz))
          go_wp2_with fail
          go_loop [9] (fun v => ∃ k : Nat, v = .int .i64 (k : Int) ∧ Hid (∀ j : Nat, j < k → (j : Int) ∈ L)) (fun v => above (intOf v).toNat L)
          case atStart => exact ⟨0, rfl, hide (fun j hj => by omega)⟩
          case round =>
            obtain ⟨k, rfl, HK⟩ := hrel
            have hkb : k ≤ L.length := by
              have h1 := below_count L k HK.out
              have h2 : above 0 L ≤ L.length := List.countP_le_length
              omega
            have HC := hide (fun B W (h : Ints W B A' L.length L) => l1Has_in A' L.length c' B L (k : Int) W h (by omega))
            by_cases hk : (k : Int) ∈ L
            · have HKn := hide (show ∀ j : Nat, j < k + 1 → (j : Int) ∈ L from fun j hj => by
                rcases Nat.lt_or_ge j k with h1 | h1
                · exact HK.out j h1
                · obtain rfl : j = k := by omega
                  exact hk)
              have HAl := hide (above_less hk)
              rw [inL_yes hk] at HC
              clear hk
              go_wp2_with fail
              refine (HC.out _ _ HI.out).mono ?_; rintro e w' ⟨rfl, rfl⟩
              go_wp2_with fail
              go_round
              case rel => exact ⟨k + 1, by go_num, HKn⟩
              case measure => simp [intOf]; exact HAl.out
            · have HV := hide (HS.out k ⟨HK.out, hk⟩)
              have hkl : N ≤ 61 := by omega
              rw [inL_no hk] at HC
              clear hk
              have hbase := HBq.out.size
              have htl : t.length < 1000000 := by rw [HL.out]; omega
              go_wp2_with fail
              refine (HC.out _ _ HI.out).mono ?_; rintro e w' ⟨rfl, rfl⟩
              go_wp2_with (at_builtin; refine wpList_app_int rfl _ _ 25 3 rfl Try.underlying25 infoInt w.heap.size _ _ rfl HOq.out _ _ rfl hbase htl ?_; intro v' w' hown' hb')
              go_roundw
              case rel => exact ⟨N + 1, by omega, by omega, by go_num, by rw [Nat.add_sub_cancel, HV.out]; exact hide hown', HBq.out.trans hb'⟩
              case measure => simp [intOf]; omega
    · obtain rfl : N = m + 1 := by omega
      rw [Nat.add_sub_cancel] at HO hcl HL
      have HLm := hide (show (vals r (m + 1 - 1)).length = (vals r m).length from by rw [Nat.add_sub_cancel])
      have hcond : ¬ (((m + 1 : Nat) : Int) ≤ (m : Int)) := by omega
      go_wp2_with fail
      go_ret
      exact ⟨some ⟨g, 0, none⟩, c, rfl, hcl, hcm, HO.out, hb⟩
end Go.Proofs.Ytlaapnfinbancaa
