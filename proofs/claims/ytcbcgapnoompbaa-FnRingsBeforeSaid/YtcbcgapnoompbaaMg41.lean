import Derived.Test.YtcbcgapnoompbaaMg40
import Derived.Shelf.SlSortCmp.NoneTotal
import Derived.Test.YtcbcgapnoompbaaMg39
import Derived.Test.YtcbcgapnoompbaaMg11
import Derived.Test.YtcbcgapnoompbaaMg10
import Derived.Test.YtcbcgapnoompbaaMg14
import Derived.Test.YtcbcgapnoompbaaMg36

/-
  slices.SortFunc OVER NO LIST: nothing turns.
-/
namespace Go.Proofs.Ytcbcgapnoompbaa
open Go.RowKit Go.Deep
theorem sortNone_any (p : Option Addr) (c : Nat) (w : World) :
    Calls Try.prog 39 #[.slice p 0 c, .func (.func 40) #[] #[]] w fun e w' => e = .returned (.tuple #[]) ∧ w' = w :=
  Go.Proofs.AnyF.slices_SortFunc_none (P := Try.prog) (ρ := Try.laysSlF6_f39_ren) { Try.laysSlF6_f39 with } p c _ w
end Go.Proofs.Ytcbcgapnoompbaa

/-
  RINGS BEFORE, THE PROGRAM's: withLeastZero, RingsBefore, CountRingsBefore, HasRingBefore.
-/
namespace Go.Proofs.Ytcbcgapnoompbaa
open Go.RowKit Go.Deep
set_option linter.unusedVariables false

theorem lowL_get (l : List Int) (k : Nat) (hk : k < l.length) : (lowL l).getD k 0 = l.getD k 0 - mn l := by
  simp [lowL, List.getD, hk]
set_option maxRecDepth 100000 in
theorem withLeastZero_any (A : Option Addr) (n c B : Nat) (l : List Int) (w : World) (hr : Ints w B A n l) (hB : B ≤ w.heap.size) (h0 : 0 < n) (hn : n ≤ 1000) (hb : ∀ k, k < n → -10000 ≤ l.getD k 0 ∧ l.getD k 0 ≤ 10000) :
    Calls Try.prog 38 #[.slice A n c] w fun e w' => e = .returned (.slice (some ⟨w.heap.size, 0, none⟩) n n) ∧ Own w' w.heap.size 3 (.slice (some ⟨w.heap.size, 0, none⟩) n n) (lowL l) ∧ Below w.heap.size w w' := by
  obtain rfl := hr.len
  have hmn : -10000 ≤ mn l ∧ mn l ≤ 10000 := by
    obtain ⟨i, hi, e⟩ := List.getElem_of_mem (mn_mem h0)
    have := hb i hi
    rw [rget hi, e] at this
    exact this
  have HM := hide (Min_any A _ c B l w hr h0 (by omega))
  have HB := hide hb
  have HL := hide (lowL_length l)
  have HG := hide (fun k hk => lowL_get l k hk)
  clear hb
  generalize mn l = m at *
  have hmk := run_make_row' (P := Try.prog) 24 3 (.int .i64 0) 8 Try.underlying24 infoInt rfl .i64 .i64 l.length (by omega) (by omega)
  go_enter Try.func38, Try.ntmps38
  go_wp2_with fail
  refine HM.out.mono ?_; rintro e w' ⟨rfl, rfl⟩
  go_wp2_with fail
  go_loopw [14] (fun i wr => ∃ k : Nat, k ≤ l.length ∧ i = .int .i64 k ∧ wr.rowIs w.heap.size 3 l.length (fun j => if j < k then .int .i64 ((lowL l).getD j 0) else .int .i64 0) ∧ Below w.heap.size w wr ∧ w.heap.size < wr.heap.size)
    (fun i _ => l.length - (intOf i).toNat)
  case atStart => exact ⟨0, Nat.zero_le _, rfl, (World.rowIs_made w _ l.length _).congr (fun i _ => by simp), (Below.refl _ _).alloc (Nat.le_refl _) _, by simp⟩
  case round =>
    obtain ⟨k, hk, rfl, hrow, hb, hs⟩ := hrel
    by_cases hlt : k < l.length
    · have hcz := HB.out k hlt
      have HGK := hide (HG.out k hlt)
      obtain ⟨ad, rfl, hab, hcell⟩ := (hr.below hb hB).at_ hlt
      have hold := hrow.cell hlt
      have hfz := hrow.frozen k
      generalize l.getD k 0 = zk at *
      go_wp2_with fail
      go_roundw
      case rel =>
        refine ⟨k + 1, by omega, by go_num, (hrow.set k _).congr (fun i hi => ?_), hb.setCell (Nat.le_refl _) _, by simpa using hs⟩
        by_cases e : i = k
        · subst e; rw [if_pos rfl, if_pos (by omega), HGK.out]
        · simp [e, show (i < k + 1) ↔ i < k from by omega]
      case measure => simp [intOf]; omega
    · obtain rfl : k = l.length := by omega
      have hrow' : Row wr w.heap.size 3 (lowL l) := by
        unfold Row
        rw [HL.out]
        exact hrow.congr (fun i hi => by rw [if_pos (by omega)])
      have HO := hide (Own.of_row hrow' (Nat.le_refl w.heap.size) (by rw [HL.out]; unfold maxLen; omega))
      have HB2 := hide hb
      clear hrow hrow' hb
      go_wp2_with fail
      go_ret
      exact ⟨rfl, by have := HO.out; rw [HL.out] at this; exact this, HB2.out⟩

theorem wayL_getD (zs : List Int) (s n k : Nat) (h : k ≤ n) : (wayL zs s n).getD k 0 = wayEnd zs s k := by
  simp [wayL, List.getD, show k < n + 1 by omega]
theorem befP_len (zs : List Int) (n : Nat) (x : List Int) (h : x ∈ befP n (waysL zs n)) : x.length = n := by
  unfold befP at h
  obtain ⟨way, hw, hx⟩ := List.mem_filterMap.1 h
  have := ((waysL_once zs n).2 way hw).1
  split at hx
  · injection hx with hx
    rw [← hx, lowL_length, List.length_take]; omega
  · cases hx
/-- A ring of small numbers. -/
def rsmall (zs : List Int) : Bool := rgood zs && decide (mx zs ≤ 100)
/-- What RingsBefore tells. -/
def befR (zs : List Int) : List (List Int) := if rsmall zs then befM zs zs.length (2 ^ zs.length) else []
theorem rsmall_of {zs : List Int} (h : rsmall zs = true) : rgood zs = true ∧ mx zs ≤ 100 := by
  unfold rsmall at h
  simp at h
  exact h
theorem rsmall_get {zs : List Int} (h : rsmall zs = true) (k : Nat) : 0 ≤ zs.getD k 0 ∧ zs.getD k 0 ≤ 1000 := by
  obtain ⟨h1, h2⟩ := rsmall_of h
  by_cases hk : k < zs.length
  · rw [rget hk]; exact rgood_get h1 k hk
  · simp [List.getD, show zs.length ≤ k by omega]
theorem befP_take (n : Nat) (ways : List (List Int)) (j : Nat) (h : j < ways.length) : befP n (ways.take (j + 1)) = befP n (ways.take j) ++ if shutW n ways[j] then [lowL (ways[j].take n)] else [] := by
  unfold befP
  rw [List.take_succ_eq_append_getElem h, List.filterMap_append]
  congr 1
  rw [List.filterMap_cons]
  split
  · rename_i h2; split at h2
    · cases h2
    · rename_i h3; rw [if_neg h3]; rfl
  · rename_i x h2; split at h2
    · rename_i h3; injection h2 with h2; subst h2; rw [if_pos h3]; rfl
    · cases h2

set_option maxRecDepth 100000 in
set_option maxHeartbeats 4000000 in
theorem RingsBefore_any (A : Option Addr) (n c B : Nat) (zs : List Int) (w : World) (hr : Ints w B A n zs) (hB : B ≤ w.heap.size) (hn : n ≤ 17592186044416) :
    Calls Try.prog 6 #[.slice A n c] w (MadeSS (befR zs) (rsmall zs) w) := by
  obtain rfl := hr.len
  cases hg : rgood zs
  · have e1 : rsmall zs = false := by unfold rsmall; rw [hg]; rfl
    have e2 : befR zs = [] := by unfold befR; rw [e1]; rfl
    rw [e1, e2]
    go_enter Try.func6, Try.ntmps6
    go_wp2_with fail
    refine (IsRing_any _ _ _ _ _ _ hr hn).mono ?_; rintro e w' ⟨rfl, rfl⟩; rw [hg]
    go_wp2_with fail
    go_ret2
    exact madeSS_none (Below.refl _ _)
  · obtain ⟨hg1, hg2, hg3⟩ := rgood_of hg
    have HX := hide (Max_any A _ c B zs w hr (by omega) (by omega))
    have hm : -1 ≤ mx zs ∧ mx zs ≤ 1000 := by
      obtain ⟨i, hi, e⟩ := List.getElem_of_mem (mx_mem (zs := zs) (by omega))
      have := within_get hg3 i hi
      rw [e] at this
      omega
    by_cases hs : mx zs ≤ 100
    · have e1 : rsmall zs = true := by unfold rsmall; rw [hg]; simpa using hs
      have e2 : befR zs = befM zs zs.length (2 ^ zs.length) := by unfold befR; rw [if_pos e1]
      have HD := hide (rsmall_get e1)
      rw [e1, e2]
      have HW := hide (waysAround_any A _ c B zs w hr hB hg2 HD.out)
      have HO := hide (waysL_once zs zs.length)
      have HMM := hide (fun l hl => (waysL_mem zs (fun k => (HD.out k).1) zs.length l).1 hl)
      have HBD := hide (fun s k => wayEnd_bd zs s HD.out k)
      have HSB := hide (fun L => sorted_bef zs (fun k => (HD.out k).1) zs.length (by omega) L)
      have HCT := hide (Nat.le_trans (waysL_count zs zs.length) (Nat.le_trans (Nat.pow_le_pow_right (by omega) (show zs.length ≤ 10 by omega)) (show 2 ^ 10 ≤ 1024 by decide)))
      generalize befM zs zs.length (2 ^ zs.length) = R at *
      clear hg3
      generalize mx zs = m at *
      go_enter Try.func6, Try.ntmps6
      go_wp2_with fail
      refine (IsRing_any _ _ _ _ _ _ hr hn).mono ?_; rintro e w' ⟨rfl, rfl⟩; rw [hg]
      go_wp2_with fail
      refine HX.out.mono ?_; rintro e w' ⟨rfl, rfl⟩
      go_wp2_with fail
      refine HW.out.mono ?_; rintro e w1 ⟨v, L, rfl, hps, hLM, hb1⟩
      obtain ⟨Av, cv, rfl, hcv1, hcv2⟩ := hps.shape
      have HP := hide hps
      have HLM := hide hLM
      have HB1 := hide hb1
      have hmx : L.length ≤ 1024 := by have h1 := HCT.out; rw [← hLM, List.length_map] at h1; exact h1
      clear hps hLM hb1
      go_wp2_with fail
      go_loopw [4, 18] (fun v i W => ∃ j : Nat, j ≤ L.length ∧ i = .int .i64 j ∧ (∃ F, Hid (OwnPs W w1.heap.size v F) ∧ Hid (F.map Prod.snd = befP zs.length ((waysL zs zs.length).take j)) ∧ Hid (F.length ≤ j)) ∧ Hid (Below w1.heap.size w1 W))
        (fun _ i _ => L.length - (intOf i).toNat)
      case atStart => exact ⟨0, Nat.zero_le _, rfl, ⟨[], hide (OwnPs.nil _ _), hide rfl, hide (Nat.zero_le _)⟩, hide (Below.refl _ _)⟩
      case round =>
        obtain ⟨j, hj, rfl, ⟨F, HF, HFM, HFl⟩, HBj⟩ := hrel
        by_cases hlt : j < L.length
        · have hl0 := HP.out.below HBj.out
          obtain ⟨ad0, rfl, hcell, _⟩ := hl0.at_ hlt
          obtain ⟨ad1, ead1, had1, g, c', hrow, hc', hI⟩ := HP.out.at_ hlt
          clear ead1 had1 hl0
          have hmem : L[j].2 ∈ waysL zs zs.length := by rw [← HLM.out]; exact List.mem_map_of_mem (List.getElem_mem hlt)
          have HTF := hide (befP_take zs.length (waysL zs zs.length) j (by rw [← HLM.out, List.length_map]; exact hlt))
          have hge : (waysL zs zs.length)[j]'(by rw [← HLM.out, List.length_map]; exact hlt) = L[j].2 := by simp only [← HLM.out, List.getElem_map]
          rw [hge] at HTF
          have hll := (HO.out.2 _ hmem).1
          have hbd : Hid (∀ k, k < zs.length + 1 → -(10000 : Int) ≤ L[j].2.getD k 0 ∧ L[j].2.getD k 0 ≤ 10000) := hide (by
            obtain ⟨s, _, e⟩ := HMM.out _ hmem
            intro k hk
            rw [e, wayL_getD zs s _ k (by omega)]
            have := HBD.out s k
            omega)
          clear hmem hge
          generalize L[j].2 = l at *
          rw [hll] at hrow hI hc'
          rw [hrow] at hcell
          clear hrow
          obtain ⟨ad, rfl, _⟩ := hI.at_ (show 0 < zs.length + 1 by omega)
          have hIw := hI.below HBj.out (Nat.le_refl _)
          have hc0 := hIw.cellAt (show 0 < zs.length + 1 by omega)
          have hcn := hIw.cellAt (show zs.length < zs.length + 1 by omega)
          rw [show ad.add 0 = ad from by simp [Addr.add]] at hc0
          have HIw := hide hIw
          clear hI hIw
          have hsz := hide HBj.out.size
          have hp : (0 : Int) < ((zs.length + 1 : Nat) : Int) := by omega
          have hq : (zs.length : Int) < ((zs.length + 1 : Nat) : Int) := by omega
          have HLZ := hide (fun W (h : Below wr.heap.size wr W) => withLeastZero_any (some ad) zs.length c' wr.heap.size (l.take zs.length) W (((HIw.out.takeAt (by omega)).more hsz.out).below h (Nat.le_refl _)) h.size (by omega) (by omega) (fun k hk => by
            have := hbd.out k (by omega)
            rw [show (l.take zs.length).getD k 0 = l.getD k 0 from by simp [List.getD, hk]]
            exact this))
          have HSH := hide (show shutW zs.length l = (l.getD 0 0 == l.getD zs.length 0) from rfl)
          generalize l.getD 0 0 = x at *
          generalize l.getD zs.length 0 = y at *
          obtain ⟨Af, cf, rfl, hcf1, hcf2⟩ := HF.out.shape
          have hF1 : F.length < 1000000 := by have := HFl.out; omega
          by_cases hxy : x = y
          · have HY := hide (show shutW zs.length l = true from by rw [HSH.out, hxy]; simp)
            subst hxy
            have hxx : (x == x) = true := by simp
            go_wp2_with fail
            go_quiet (fail)
            go_wp2_with fail
            refine (HLZ.out _ (below_drewN (Below.refl _ _) _)).mono ?_; rintro e w2 ⟨rfl, hown2, hb2⟩
            have hownr : Own w2 wr.heap.size 3 (.slice (some ⟨wr.heap.size, 0, none⟩) zs.length zs.length) (lowL (l.take zs.length)) := hown2
            have hb2' : Below wr.heap.size wr w2 := (below_drewN (Below.refl wr.heap.size wr) nq).trans hb2
            have O1 := hide (hownr.less hsz.out)
            have F1 := hide (HF.out.below hb2')
            have AP1 := hide (show ∀ y ∈ F, apart y (.slice (some ⟨wr.heap.size, 0, none⟩) zs.length zs.length, lowL (l.take zs.length)) from fun y hy => apart_old (p := (.slice (some ⟨wr.heap.size, 0, none⟩) zs.length zs.length, lowL (l.take zs.length))) (HF.out.2.1 y hy).1 hownr)
            have VP1 := hide (block_old (p := (.slice (some ⟨wr.heap.size, 0, none⟩) zs.length zs.length, lowL (l.take zs.length))) HF.out hownr)
            have Q1 := hide (HBj.out.trans (hb2'.mono hsz.out))
            have HE : Hid ((F ++ [((Value.slice (some ⟨wr.heap.size, 0, none⟩) zs.length zs.length : Value), lowL (l.take zs.length))]).map Prod.snd = befP zs.length ((waysL zs zs.length).take (j + 1))) := hide (by rw [HTF.out, HY.out, List.map_append, HFM.out]; rfl)
            clear hown2 hb2 hownr hb2'
            go_wp2_with (at_builtin; refine wpList_app_rowP rfl _ _ rfl _ _ (.slice Af F.length cf) F (.slice (some ⟨wr.heap.size, 0, none⟩) zs.length zs.length, lowL (l.take zs.length)) rfl F1.out O1.out AP1.out VP1.out (fun b hb => (F1.out.vblk b hb).1) Q1.out.size _ rfl Q1.out.size hF1 ?_; intro v1 w1' hown1 hb1 _; have G1 := hide hown1; have R1 := hide (Q1.out.trans hb1); clear hown1 hb1)
            go_roundw
            case rel => exact ⟨j + 1, by omega, by go_num, ⟨_, G1, HE, hide (by rw [List.length_append]; have := HFl.out; simp; omega)⟩, R1⟩
            case measure => simp [intOf]; omega
          · have HY := hide (show shutW zs.length l = false from by rw [HSH.out]; simpa using hxy)
            have hxx : (x == y) = false := by simpa using hxy
            have HE : Hid (F.map Prod.snd = befP zs.length ((waysL zs zs.length).take (j + 1))) := hide (by rw [HFM.out, HTF.out, HY.out]; simp)
            go_wp2_with fail
            go_quiet (fail)
            go_wp2_with fail
            go_roundw
            case rel => exact ⟨j + 1, by omega, by go_num, ⟨F, HF, HE, hide (by have := HFl.out; omega)⟩, hide (below_drewN HBj.out _)⟩
            case measure => simp [intOf]; omega
        · obtain rfl : j = L.length := by omega
          have HE : Hid (F.map Prod.snd = befP zs.length (waysL zs zs.length)) := hide (by rw [HFM.out, List.take_of_length_le (by rw [← HLM.out, List.length_map]; exact Nat.le_refl _)])
          have HB3 := hide (HB1.out.trans (HBj.out.mono HB1.out.size))
          have HG := hide (HF.out.less HB1.out.size)
          by_cases hF0 : F = []
          · subst hF0
            have HR : Hid ([] = R) := hide (HSB.out [] (by rw [← HE.out]; exact List.Perm.refl _) List.Pairwise.nil)
            rcases HF.out.1.2 with ⟨e, _⟩ | ⟨g, cap, cur, e, hbg, hgc, _⟩
            · subst e
              go_wp2_with fail
              refine (sortNone_any none 0 wr).mono ?_; rintro e w3 ⟨rfl, rfl⟩
              go_wp2_with fail
              go_ret2
              rw [← HR.out]
              exact ⟨none, 0, [], rfl, Nat.le_refl _, Nat.zero_le _, OwnVs.nil _ _, HB3.out⟩
            · subst e
              have HO3 := hide HG.out
              go_wp2_with fail
              refine (sortNone_any _ _ wr).mono ?_; rintro e w3 ⟨rfl, rfl⟩
              go_wp2_with fail
              go_ret2
              rw [← HR.out]
              have h3 := HO3.out.toVs
              obtain ⟨A', c', e, h1, h2⟩ := h3.shape
              cases e
              exact ⟨_, _, _, rfl, h1, h2, h3, HB3.out⟩
          · rcases HF.out.1.2 with ⟨e, h0⟩ | ⟨g, cap, cur, e, hbg, hgc, hr1, hr2, _⟩
            · exact absurd (List.eq_nil_of_length_eq_zero h0) hF0
            · subst e
              obtain ⟨hglt, _⟩ := Array.getElem?_eq_some_iff.1 hgc
              have HSR := hide (sortRows_any wr w1.heap.size g cap F hF0 HF.out (fun x hx => by
                have h4 : x.2 ∈ F.map Prod.snd := List.mem_map_of_mem hx
                rw [HE.out] at h4
                rw [befP_len zs zs.length x.2 h4]; omega) (by have := HFl.out; omega) hbg hglt)
              have hw1 := hide HB1.out.size
              clear hgc hr1 hr2
              go_wp2_with fail
              refine HSR.out.mono ?_
              rintro e w3 ⟨rfl, L', hp, hpw, hps3, hoth, hb3⟩
              have HL' : Hid (L'.map Prod.snd = R) := hide (HSB.out _ (by rw [← HE.out]; exact hp.map _) (by
                rw [List.pairwise_map]
                refine hpw.imp fun {x y} h => ?_
                omega))
              have hlen : L'.length = F.length := hp.length_eq
              have HV := hide ((hps3.less hw1.out).toVs)
              have HB4 := hide (HB3.out.trans (hb3.mono hw1.out))
              clear hp hpw hps3 hoth hb3
              go_wp2_with fail
              go_ret2
              have hv := HV.out
              rw [HL'.out] at hv
              obtain ⟨A', c', e, h1, h2⟩ := hv.shape
              rw [e] at hv ⊢
              exact ⟨A', c', _, rfl, h1, h2, hv, HB4.out⟩
    · have e1 : rsmall zs = false := by unfold rsmall; rw [hg]; simpa using hs
      have e2 : befR zs = [] := by unfold befR; rw [e1]; rfl
      rw [e1, e2]
      clear hg3
      generalize mx zs = m at *
      go_enter Try.func6, Try.ntmps6
      go_wp2_with fail
      refine (IsRing_any _ _ _ _ _ _ hr hn).mono ?_; rintro e w' ⟨rfl, rfl⟩; rw [hg]
      go_wp2_with fail
      refine HX.out.mono ?_; rintro e w' ⟨rfl, rfl⟩
      go_wp2_with fail
      go_ret2
      exact madeSS_none (Below.refl _ _)

/-- The program's CountRingsBefore, HasRingBefore. -/
theorem CountRingsBefore_any (A : Option Addr) (n c B : Nat) (zs : List Int) (w : World) (hr : Ints w B A n zs) (hB : B ≤ w.heap.size) (hn : n ≤ 17592186044416) :
    Calls Try.prog 8 #[.slice A n c] w fun e w' => e = .returned (.tuple #[.int .i64 (befR zs).length, .bool (rsmall zs)]) ∧ Below w.heap.size w w' := by
  have H := hide (RingsBefore_any A n c B zs w hr hB hn)
  generalize befR zs = R at *
  generalize rsmall zs = b at *
  go_enter Try.func8, Try.ntmps8
  go_wp2_with fail
  refine H.out.mono ?_; rintro e w1 ⟨A', c', vs, rfl, h1, h2, hO, hb⟩
  have HB := hide hb
  clear hb hO
  go_wp2_with fail
  go_ret2
  exact ⟨rfl, HB.out⟩
theorem HasRingBefore_any (A : Option Addr) (n c B : Nat) (zs : List Int) (w : World) (hr : Ints w B A n zs) (hB : B ≤ w.heap.size) (hn : n ≤ 17592186044416) :
    Calls Try.prog 10 #[.slice A n c] w fun e w' => e = .returned (.tuple #[.bool (decide (0 < (befR zs).length)), .bool (rsmall zs)]) ∧ Below w.heap.size w w' := by
  have H := hide (CountRingsBefore_any A n c B zs w hr hB hn)
  generalize (befR zs).length = R at *
  generalize rsmall zs = b at *
  have HD := hide (show decide (0 < R) = decide ((0 : Int) < (R : Int)) from by simp)
  go_enter Try.func10, Try.ntmps10
  go_wp2_with fail
  refine H.out.mono ?_; rintro e w1 ⟨rfl, hb⟩
  have HB := hide hb
  clear hb
  go_wp2_with fail
  go_ret2
  exact ⟨by rw [HD.out]; rfl, HB.out⟩
end Go.Proofs.Ytcbcgapnoompbaa
