
/-
  BEST PLANS, THE MODEL's WAY: ldLook.
-/
import Derived.Test.YtfikkgnpednjfaaLkM
import Derived.Test.YtfikkgnpednjfaaOrd
import Derived.Test.YtfikkgnpednjfaaSums
namespace Go.Proofs.Ytfikkgnpednjfaa
open Go.RowKit Go.Deep
set_option linter.unusedVariables false

/-- The best plans so far, as they lie. -/
structure Best (W : World) (x y z : Nat) (S : Bst) : Prop where
  oe : One W x 3 (.int .i64 S.e)
  oc : One W z 3 (.int .i64 (S.c : Int))
  ob : ∃ A c, One W y 22 (.slice A S.p.length c) ∧ Ints W W.heap.size A S.p.length S.p ∧ Away x y z A ∧ S.p.length ≤ c ∧ c ≤ maxLen
theorem Best.call {W W' : World} {x y z : Nat} {S : Bst} (h : Best W x y z S) (hb : Below W.heap.size W W') : Best W' x y z S := by
  obtain ⟨A, c, h1, h2, h3, h4, h5⟩ := h.ob
  exact ⟨h.oe.below hb h.oe.lt, h.oc.below hb h.oc.lt, A, c, h1.below hb h1.lt, h2.next hb, h3, h4, h5⟩

set_option maxRecDepth 100000 in
set_option maxHeartbeats 4000000 in
/-- The model's ldLook. -/
theorem ldLook_any (A : Option Addr) (n c b0 x y z : Nat) (zs : List Int) (M : Nat) (hz : within 0 1000 zs = true) (ht : tot zs ≤ 9000) (hn9 : n ≤ 9) (hM1 : 1 ≤ M) (hM4 : M ≤ 4)
    (hx : b0 ≤ x) (hy : b0 ≤ y) (hzz : b0 ≤ z) (hxy : x ≠ y) (hxz : x ≠ z) (hyz : y ≠ z) (hA : Away x y z A) :
    ∀ (d : Nat) (p l : List Int) (S : Bst) (Ap Al : Option Addr) (cp cl : Nat) (W : World), At zs M d p l → Best W x y z S → Ints W W.heap.size A n zs → Ints W W.heap.size Ap p.length p → Ints W W.heap.size Al M l →
      Away x y z Ap → Away x y z Al → (Ap = none → p.length = 0 ∧ cp = 0) → p.length ≤ cp → cp ≤ maxLen → Ok (tot zs + 1) S → S.c + 4 ^ d ≤ 300000 →
      Calls Try.prog 22 #[.slice A n c, .slice Ap p.length cp, .slice Al M cl, .pointer (some ⟨x, 0, none⟩), .pointer (some ⟨y, 0, none⟩), .pointer (some ⟨z, 0, none⟩)] W
        fun e w' => e = .returned (.tuple #[]) ∧ Best w' x y z (lookF zs M d p l S) ∧ K3 b0 x y z W w' := by
  intro d
  induction d with
  | zero =>
    intro p l S Ap Al cp cl W hat hbest hr hp hl haP haL hnP hpc hcm hok hfew
    obtain rfl := hr.len
    have hll := hat.ll
    have hpl := hat.pl
    have hle := hat.le_all hz
    have hge := up_ge l 0
    have HU := hide (show up 0 l = up 0 (l.take M) from by rw [List.take_of_length_le (by omega)])
    have HL := hide hl
    have HB := hide hbest
    have HP := hide hp
    have hce := hbest.oe.cell
    have hcc := hbest.oc.cell
    have hfe := hbest.oe.free
    have hfc := hbest.oc.free
    obtain ⟨Ab, cb, hob, hib, hab, hbc1, hbc2⟩ := hbest.ob
    have hfb := hob.free
    have hcb := hob.cell
    have HIB := hide hib
    have HOB := hide hob
    have hS : S.e ≤ 9001 ∧ 0 ≤ S.e ∧ (S.c : Int) ≤ 300000 := by
      rcases hok with ⟨h1, h2⟩ | ⟨h1, h2, h3⟩ <;> omega
    have hMl : l.length ≤ 4 := by omega
    have HLL := hide hll
    have hpn : p.length = zs.length := by omega
    have HPN := hide hpn
    have hpeq : ((p.length : Int) == (zs.length : Int)) = true := by simp [hpn]
    have hx3 : (W.setCell ⟨x, 0, none⟩ (.int .i64 (up 0 l))).frozen? ⟨y, 0, none⟩ = false := (hob.past (a := ⟨x, 0, none⟩) (by simpa using hxy.symm) _).free
    have hx4 : (W.setCell ⟨x, 0, none⟩ (.int .i64 (up 0 l))).cell? ⟨y, 0, none⟩ = some (.slice Ab S.p.length cb) := (hob.past (a := ⟨x, 0, none⟩) (by simpa using hxy.symm) _).cell
    clear hbest hr hp hl hll hpl hob hib hpn
    have HK0 := hide (K3.refl b0 x y z W)
    have hpost : ∀ (e0 : Int), up 0 l = e0 → True := fun _ _ => trivial
    clear hpost
    go_enter Try.func22, Try.ntmps22
    go_wp2_with fail
    go_loop [12, 19] (fun s i => ∃ k : Nat, k ≤ M ∧ i = .int .i64 k ∧ s = .int .i64 (up 0 (l.take k)))
      (fun _ i => M - (intOf i).toNat)
    case atStart => exact ⟨0, Nat.zero_le _, rfl, rfl⟩
    case round =>
      obtain ⟨k, hk, rfl, rfl⟩ := hrel
      by_cases hlt : k < M
      · have hkl : k < l.length := by have := HLL.out; omega
        have Hs := hide (up_take_succ 0 l k hkl)
        obtain ⟨ad, rfl, _, hcell⟩ := HL.out.at_ hlt
        rw [getD_at hkl] at hcell
        go_wp2_with fail
        refine (l1Most_any _ _ _).mono ?_; rintro e w' ⟨rfl, rfl⟩
        go_wp2_with fail
        go_round
        case rel => exact ⟨k + 1, by omega, by go_num, by rw [Hs.out]⟩
        case measure => simp [intOf]; omega
      · obtain rfl : k = M := by omega
        rw [← HU.out]
        generalize hum : up 0 l = um at *
        have HUM := hide hum
        clear hum
        by_cases h1 : S.e < um
        · -- what ends later
          have HR := hide (show lookF zs k 0 p l S = S from by
            show upd S p (up 0 l) = S
            rw [HUM.out]
            unfold upd
            rcases hok with ⟨g1, g2⟩ | ⟨g1, g2, g3⟩
            · omega
            · rw [if_neg (by omega), if_neg (by omega)])
          go_wp2_with fail
          refine bodyPost_ret (results_none rfl _ _ _) rfl ?_
          exact ⟨rfl, by rw [HR.out]; exact HB.out, HK0.out⟩
        · by_cases h2 : um < S.e
          · have HR := hide (show lookF zs k 0 p l S = ⟨um, p, 1⟩ from by
              show upd S p (up 0 l) = _
              rw [HUM.out]; exact upd_less (.inr h2))
            have HO1 := hide ((HB.out.oe.put (.int .i64 um)).past (a := ⟨y, 0, none⟩) (by simpa using hxy) (.slice Ap p.length cp))
            have HO2 := hide ((HOB.out.past (a := ⟨x, 0, none⟩) (by simpa using hxy.symm) (.int .i64 um)).put (.slice Ap p.length cp))
            have HO3 := hide ((HB.out.oc.past (a := ⟨x, 0, none⟩) (by simpa using hxz.symm) (.int .i64 um)).past (a := ⟨y, 0, none⟩) (by simpa using hyz.symm) (.slice Ap p.length cp))
            have d1 := HO3.out.cell
            have d2 := HO3.out.free
            have HK := hide (((HK0.out.put (a := ⟨x, 0, none⟩) (.inl rfl) hx (.int .i64 um)).put (a := ⟨y, 0, none⟩) (.inr (.inl rfl)) hy (.slice Ap p.length cp)))
            go_wp2_with fail
            refine bodyPost_ret (results_none rfl _ _ _) rfl ?_
            have HKF := (HK.out.put (a := ⟨z, 0, none⟩) (.inr (.inr rfl)) hzz (.int .i64 0)).put (a := ⟨z, 0, none⟩) (.inr (.inr rfl)) hzz (.int .i64 1)
            refine ⟨rfl, ?_, HKF⟩
            rw [HR.out]
            exact ⟨(HO1.out.past (by simpa using hxz) _).past (by simpa using hxz) _, (HO3.out.put _).put _, Ap, cp, (HO2.out.past (by simpa using hyz) _).past (by simpa using hyz) _, HP.out.kept haP HKF, haP, hpc, hcm⟩
          · have hc0 : 0 < S.c := by
              rcases hok with ⟨g1, g2⟩ | ⟨g1, _⟩
              · omega
              · exact g1
            have HR := hide (show lookF zs k 0 p l S = ⟨S.e, S.p, S.c + 1⟩ from by
              show upd S p (up 0 l) = _
              rw [HUM.out]; exact upd_same hc0 (by omega))
            go_wp2_with fail
            refine bodyPost_ret (results_none rfl _ _ _) rfl ?_
            have HKF := HK0.out.put (a := ⟨z, 0, none⟩) (.inr (.inr rfl)) hzz (.int .i64 ((S.c : Int) + 1))
            refine ⟨rfl, ?_, HKF⟩
            rw [HR.out]
            exact ⟨HB.out.oe.past (by simpa using hxz) _, (HB.out.oc.put _), Ab, cb, HOB.out.past (by simpa using hyz) _, HIB.out.kept hab HKF, hab, hbc1, hbc2⟩
  | succ d ih =>
    intro p l S Ap Al cp cl W hat hbest hr hp hl haP haL hnP hpc hcm hok hfew
    obtain rfl := hr.len
    have hll := hat.ll
    have hpl := hat.pl
    have hdl := hat.hd
    have hle := hat.le_all hz
    have hge := up_ge l 0
    have HU := hide (show up 0 l = up 0 (l.take M) from by rw [List.take_of_length_le (by omega)])
    have HL := hide hl
    have HB := hide hbest
    have HP := hide hp
    have HR0 := hide hr
    have hce := hbest.oe.cell
    have hc3 : S.c ≤ 300000 := Nat.le_trans (Nat.le_add_right _ _) hfew
    have hS : S.e ≤ 9001 ∧ 0 ≤ S.e ∧ (S.c : Int) ≤ 300000 := by
      rcases hok with ⟨h1, h2⟩ | ⟨h1, h2, h3⟩ <;> omega
    have hMl : l.length ≤ 4 := by omega
    have HLL := hide hll
    have hpn : p.length < zs.length := by omega
    have HPD := hide (show zs.length - (d + 1) = p.length by omega)
    have hpeq : ((p.length : Int) == (zs.length : Int)) = false := by simp; omega
    have hbw : b0 ≤ W.heap.size := Nat.le_trans hx (Nat.le_of_lt hbest.oe.lt)
    have hxw : x < W.heap.size ∧ y < W.heap.size ∧ z < W.heap.size := by
      obtain ⟨_, _, h, _⟩ := hbest.ob
      exact ⟨hbest.oe.lt, h.lt, hbest.oc.lt⟩
    have HK0 := hide (K3.refl b0 x y z W)
    have HAT := hide hat
    have HOK := hide hok
    have HST := hide (lookP_succ zs M d p l S)
    have HFW := hide (lookP_few zs hM4 hM1 d p l S)
    have HAL := hide (lookP_all zs M d p l S)
    have HPO := hide (lookP_ok hz ht hat hok)
    have HNP := hide hnP
    clear hbest hr hp hl hll hpl hat hnP
    go_enter Try.func22, Try.ntmps22
    go_wp2_with fail
    go_loop [12, 19] (fun s i => ∃ k : Nat, k ≤ M ∧ i = .int .i64 k ∧ s = .int .i64 (up 0 (l.take k)))
      (fun _ i => M - (intOf i).toNat)
    case atStart => exact ⟨0, Nat.zero_le _, rfl, rfl⟩
    case round =>
      obtain ⟨k, hk, rfl, rfl⟩ := hrel
      by_cases hlt : k < M
      · have hkl : k < l.length := by have := HLL.out; omega
        have Hs := hide (up_take_succ 0 l k hkl)
        obtain ⟨ad, rfl, _, hcell⟩ := HL.out.at_ hlt
        rw [getD_at hkl] at hcell
        go_wp2_with fail
        refine (l1Most_any _ _ _).mono ?_; rintro e w' ⟨rfl, rfl⟩
        go_wp2_with fail
        go_round
        case rel => exact ⟨k + 1, by omega, by go_num, by rw [Hs.out]⟩
        case measure => simp [intOf]; omega
      · have hkM : k = M := by omega
        subst hkM
        rw [← HU.out]
        generalize hum : up 0 l = um at *
        have HUM := hide hum
        clear hum
        by_cases h1 : S.e < um
        · have HR := hide (show lookF zs k (d + 1) p l S = S from by
            refine look_prune hz k (d + 1) p l S HLL.out ?_ (by rw [HUM.out]; exact h1)
            rcases hok with ⟨g1, g2⟩ | ⟨g1, g2, g3⟩ <;> omega)
          go_wp2_with fail
          refine bodyPost_ret (results_none rfl _ _ _) rfl ?_
          exact ⟨rfl, by rw [HR.out]; exact HB.out, HK0.out⟩
        · go_wp2_with fail
          go_loopw [57] (fun jv wr => ∃ j : Nat, j ≤ k ∧ jv = .int .i64 j ∧ Best wr x y z (lookP zs k d p l S j) ∧ K3 b0 x y z W wr)
            (fun jv _ => k - (intOf jv).toNat)
          case atStart => exact ⟨0, Nat.zero_le _, rfl, HB.out, HK0.out⟩
          case round =>
            obtain ⟨j, hj, rfl, hbst, hk3⟩ := hrel
            by_cases hjl : j < k
            · have hjn : j < l.length := by have := HLL.out; omega
              have HLW := hide (HL.out.kept haL hk3)
              have HPW := hide (HP.out.kept haP hk3)
              have HRW := hide (HR0.out.kept hA hk3)
              have HBS := hide hbst
              have HK3 := hide hk3
              have hsz := hk3.bl.size
              have HLO := hide (show Calls Try.prog 30 #[.slice Al k cl] wr fun e w' => ∃ g c, e = .returned (.slice (some ⟨g, 0, none⟩) k c) ∧ wr.heap.size ≤ g ∧ g < w'.heap.size ∧ k ≤ c ∧ c ≤ maxLen ∧ Own w' wr.heap.size 3 (.slice (some ⟨g, 0, none⟩) k c) l ∧ Below wr.heap.size wr w' from by
                refine (l1Own_any Al k cl wr.heap.size l wr HLW.out (Nat.le_refl _) (by omega) (by omega)).mono ?_
                rintro e w' ⟨g, c1, he, h1, h2, h3, h4, h5, h6⟩
                rw [HLL.out] at he h3 h5
                exact ⟨g, c1, he, h1, h2, h3, h4, h5, h6⟩)
              go_wp2_with fail
              refine HLO.out.mono ?_
              rintro e w3 ⟨g, cg, rfl, hg1, hg2, hcg1, hcg2, hown, hb3⟩
              have s3 := hb3.size
              have K33 := hide (HK3.out.call hbw hb3)
              have hown' := hown
              unfold Own at hown'
              rw [HLL.out] at hown'
              have hold := World.ownsRow.cellAt hown' j (by omega)
              rw [List.getElem?_map, List.getElem?_eq_getElem hjn, Option.map_some, ← getD_at hjn] at hold
              have hfz := World.ownsRow.frozenAt hown' j
              obtain ⟨ad, hA0, hadl, hjc⟩ := (HRW.out.next hb3).at_ hpn
              have hv := vz hz p.length
              have hln := HAT.out.nn l[j] (List.getElem_mem hjn)
              rw [← getD_at hjn] at hln
              have hlu : l.getD j 0 ≤ um := by rw [← HUM.out, getD_at hjn]; exact up_mem 0 (List.getElem_mem hjn)
              have HADD := hide (show addTo l j (zs.getD p.length 0) = l.set j (l.getD j 0 + zs.getD p.length 0) from rfl)
              have HSJ := hide (HST.out j)
              rw [HPD.out] at HSJ
              have HATN := hide (HAT.out.next hz hjl)
              rw [HPD.out] at HATN
              have HOWN := hide hown
              subst hA0
              clear hown hown'
              have HTF := hide (HFW.out j)
              have HTO := hide (HPO.out j (by omega))
              have HBW3 := hide hb3
              generalize lookP zs k d p l S j = T at *
              generalize hvv : zs.getD p.length 0 = v at *
              have HVV := hide hvv
              generalize huu : l.getD j 0 = u at *
              clear hvv huu hb3
              go_wp2_with fail
              go_region
              have hb4 : Below wr.heap.size wr (w3.setCell ⟨g, j, none⟩ (.int .i64 (u + v))).drew := (HBW3.out.setCell hg1 _).drew
              have HO4 := hide (show Own (w3.setCell ⟨g, j, none⟩ (.int .i64 (u + v))).drew wr.heap.size 3 (.slice (some ⟨g, 0, none⟩) k cg) (addTo l j v) from by
                rw [HADD.out]
                exact Own.stored HOWN.out HLL.out j (u + v))
              have K34 := hide (HK3.out.call hbw hb4)
              have HB4 := hide (HBS.out.call hb4)
              have HR4 := hide (HRW.out.next hb4)
              have HP4 := hide (HPW.out.next hb4)
              have s4 := hb4.size
              have hg4 : g < (w3.setCell ⟨g, j, none⟩ (.int .i64 (u + v))).drew.heap.size := by simpa using hg2
              clear hb4 hold hfz hjc K33
              generalize (w3.setCell ⟨g, j, none⟩ (.int .i64 (u + v))).drew = W4 at *
              have HL1 := hide (l1Own_all Ap p.length cp W4.heap.size p W4 HP4.out (Nat.le_refl _) (by omega) HNP.out)
              go_wp2_with fail
              refine HL1.out.mono ?_
              rintro e w5 ⟨v5, rfl, hown5, hb5⟩
              have s5 := hb5.size
              have hll5 : p.length < 1000000 := by omega
              go_wp2_with (at_builtin; refine wpList_app_int rfl _ _ 22 3 rfl Try.underlying22 infoInt W4.heap.size _ _ rfl hown5 _ _ rfl s5 hll5 ?_; intro v6 w6 hown6 hb6; obtain ⟨A6, c6, rfl, hc61, hc62⟩ := hown6.shape; have HX6 := hide (And.intro hown6 (And.intro hb6 (And.intro hc61 hc62))); clear hown6 hb6 hc61 hc62)
              obtain ⟨hown6, hb6, hc61, hc62⟩ := HX6.out
              have hb46 := hb5.trans hb6
              have hl6 : (p ++ [(j : Int)]).length = p.length + 1 := by simp
              have hI6 := hown6.ints
              obtain ⟨g6, hA6, hg61, _⟩ := hown6.head (by rw [hl6]; omega)
              have hOL := (HO4.out.below hb46).ints
              rw [addTo_length, HLL.out] at hOL
              have hpow : k ^ d ≤ 4 ^ d := Nat.pow_le_pow_left hM4 d
              have hm1 : j * k ^ d ≤ 3 * 4 ^ d := Nat.mul_le_mul (by omega) hpow
              have h4d : 4 ^ (d + 1) = 4 ^ d * 4 := Nat.pow_succ ..
              have HIH := hide (ih (p ++ [(j : Int)]) (addTo l j v) T A6 (some ⟨g, 0, none⟩) c6 cg w6 HATN.out (HB4.out.call hb46) (HR4.out.next hb46) hI6 hOL
                (by rw [hA6]; exact away_new ⟨by omega, by omega, by omega⟩) (away_new ⟨by omega, by omega, by omega⟩) (fun h => by rw [hA6] at h; cases h) hc61 hc62 HTO.out (by have := HTF.out; omega))
              rw [hl6] at HIH
              have K36 := hide (K34.out.call hbw hb46)
              clear hown6 hb6 hc61 hc62 hb46 hI6 hOL hown5 hb5 hl6 HX6 hA6
              first
              | (refine HIH.out.mono ?_
                 rintro e w7 ⟨rfl, hb7, k7⟩
                 go_wp2_with fail
                 go_roundw
                 case rel => exact ⟨j + 1, by omega, by go_num, by rw [HSJ.out]; exact hb7, K36.out.next k7⟩
                 case measure => simp [intOf]; omega)
              | (trace_state; sorry)
            · obtain rfl : j = k := by omega
              go_wp2_with fail
              go_end0
              exact ⟨rfl, by rw [HAL.out]; exact hbst, hk3⟩
end Go.Proofs.Ytfikkgnpednjfaa
