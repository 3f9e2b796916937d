import Derived.Test.YtcbcgapnoompbaaMg35
import Derived.Test.YtcbcgapnoompbaaMg37
import Derived.Test.YtcbcgapnoompbaaMg38
import Derived.Test.YtcbcgapnoompbaaMg01
import Derived.StillTailTactics
import Derived.Shelf.SlSortCmp.Kit1

/-
  THE WAYS AROUND, THE PROGRAM's: waysAround, withLeastZero.
-/
namespace Go.Proofs.Ytcbcgapnoompbaa
open Go.RowKit Go.Deep
set_option linter.unusedVariables false

/-- What the doubling of one way adds. -/
def farther (k : Nat) (d : Int) (way : List Int) : List (List Int) := (way ++ [way.getD k 0 + d]) :: if d > 0 then [way ++ [way.getD k 0 - d]] else []
theorem waysL_step (zs : List Int) (k : Nat) : waysL zs (k + 1) = (waysL zs k).flatMap (farther k (zs.getD k 0)) := rfl
theorem flatMap_take {α β : Type} (f : α → List β) (l : List α) (i : Nat) (h : i < l.length) : (l.take (i + 1)).flatMap f = (l.take i).flatMap f ++ f l[i] := by
  rw [List.take_succ_eq_append_getElem h, List.flatMap_append]; simp
theorem first_way (w : World) (t u : TypeId) (hu : u = 24) (ht : t = 3) :
    OwnPs ((w.alloc (.cells #[.int .i64 0] t)).alloc (.cells #[.slice (some ⟨w.heap.size, 0, none⟩) 1 1] u)) w.heap.size (.slice (some ⟨w.heap.size + 1, 0, none⟩) 1 1) [(.slice (some ⟨w.heap.size, 0, none⟩) 1 1, [0])] := by
  subst hu; subst ht
  have h0 : ((w.alloc (.cells #[.int .i64 0] 3)).alloc (.cells #[.slice (some ⟨w.heap.size, 0, none⟩) 1 1] 24)).heap[w.heap.size]? = some (.cells #[.int .i64 0] 3 (0, 0)) := by
    show ((w.heap.push _).push _)[w.heap.size]? = _
    rw [Array.getElem?_push, if_neg (by rw [Array.size_push]; omega), Array.getElem?_push, if_pos rfl]
  have h1 : ((w.alloc (.cells #[.int .i64 0] 3)).alloc (.cells #[.slice (some ⟨w.heap.size, 0, none⟩) 1 1] 24)).heap[w.heap.size + 1]? = some (.cells #[.slice (some ⟨w.heap.size, 0, none⟩) 1 1] 24 (0, 0)) := by
    show ((w.heap.push _).push _)[w.heap.size + 1]? = _
    rw [Array.getElem?_push, if_pos (by rw [Array.size_push])]
  refine ⟨⟨by simp, .inr ⟨_, 1, _, rfl, by omega, h1, by simp, by unfold maxLen; omega, by simp, by simp⟩⟩, fun x hx => ?_, List.pairwise_singleton _ _⟩
  rw [List.mem_singleton] at hx
  subst hx
  refine ⟨⟨by simp, .inr ⟨_, 1, _, rfl, Nat.le_refl _, h0, by simp, by unfold maxLen; omega, by simp, by simp⟩⟩, fun b hb hv => ?_⟩
  simp [Value.ownBlock] at hb hv
  omega
theorem OwnPs.at_ {w : World} {base : Nat} {A : Option Addr} {n c : Nat} {L : List (Value × List Int)} (h : OwnPs w base (.slice A n c) L) {i : Nat} (hi : i < L.length) :
    ∃ ad, A = some ad ∧ w.cell? (ad.add i) = some L[i].1 ∧ ∃ g c', L[i].1 = .slice g L[i].2.length c' ∧ L[i].2.length ≤ c' ∧ Ints w w.heap.size g L[i].2.length L[i].2 := by
  have hv := h.toVs
  obtain ⟨ad, e, _, hc⟩ := hv.vals.at_ (k := i) (by simpa using hi)
  rw [getD_map _ _ _ _ hi] at hc
  have ho := (h.2.1 _ (List.getElem_mem hi)).1
  obtain ⟨g, c', e', h1, _⟩ := ho.shape
  refine ⟨ad, e, hc, g, c', e', h1, ?_⟩
  rw [e'] at ho
  exact ho.ints
theorem OwnPs.shape {w : World} {base : Nat} {v : Value} {L : List (Value × List Int)} (h : OwnPs w base v L) : ∃ A c, v = .slice A L.length c ∧ L.length ≤ c ∧ c ≤ maxLen := by
  have := h.toVs.shape
  simpa using this
theorem OwnPs.vblk {w : World} {base : Nat} {v : Value} {L : List (Value × List Int)} (h : OwnPs w base v L) : ∀ b, v.ownBlock = some b → base ≤ b ∧ b < w.heap.size := fun b hb => by
  rcases h.1.2 with ⟨h2, _⟩ | ⟨g, cap, cur, hv, hb', hg, r⟩
  · rw [h2] at hb; cases hb
  · obtain ⟨hlt, _⟩ := Array.getElem?_eq_some_iff.1 hg
    rw [hv] at hb
    have : g = b := by simpa [Value.ownBlock] using hb
    subst this
    exact ⟨hb', hlt⟩
theorem OwnPs.less {w : World} {base base' : Nat} {v : Value} {L : List (Value × List Int)} (h : OwnPs w base v L) (hb : base' ≤ base) : OwnPs w base' v L := by
  refine ⟨⟨h.1.1, ?_⟩, fun x hx => ⟨(h.2.1 x hx).1.less hb, (h.2.1 x hx).2⟩, h.2.2⟩
  rcases h.1.2 with h2 | ⟨g, cap, cur, hv, hb', r⟩
  · exact .inl h2
  · exact .inr ⟨g, cap, cur, hv, by omega, r⟩

theorem Ints.cellAt {w : World} {B n k : Nat} {ad : Addr} {zs : List Int} (h : Ints w B (some ad) n zs) (hk : k < n) : w.cell? (ad.add k) = some (.int .i64 (zs.getD k 0)) := by
  have hl := h.len
  obtain ⟨ad', e, _, hc⟩ := h.at_ (k := k) (by omega)
  injection e with e
  subst e
  exact hc
theorem apart_old {w w' : World} {base : Nat} {t u : TypeId} {y p : Value × List Int} (hy : Own w base t y.1 y.2) (hp : Own w' w.heap.size u p.1 p.2) : apart y p := fun b hb hb' => by
  have := (hy.blk hb).2
  have := (hp.blk hb').1
  omega
theorem block_old {w w' : World} {base : Nat} {u : TypeId} {v : Value} {L : List (Value × List Int)} {p : Value × List Int} (h : OwnPs w base v L) (hp : Own w' w.heap.size u p.1 p.2) : ∀ b, p.1.ownBlock = some b → v.ownBlock ≠ some b := fun b hb hb' => by
  have := (h.vblk b hb').2
  have := (hp.blk hb).1
  omega

set_option maxRecDepth 100000 in
set_option maxHeartbeats 4000000 in
theorem waysAround_any (A : Option Addr) (n c B : Nat) (zs : List Int) (w : World) (hr : Ints w B A n zs) (hB : B ≤ w.heap.size) (hn : n ≤ 10) (hz : ∀ k, 0 ≤ zs.getD k 0 ∧ zs.getD k 0 ≤ 1000) :
    Calls Try.prog 37 #[.slice A n c] w fun e w' => ∃ v L, e = .returned v ∧ OwnPs w' w.heap.size v L ∧ L.map Prod.snd = waysL zs n ∧ Below w.heap.size w w' := by
  obtain rfl := hr.len
  have HW0 := hide (first_way w 3 24 rfl rfl)
  have HB0 := hide (show Below w.heap.size w ((w.alloc (.cells #[.int .i64 0] 3)).alloc (.cells #[.slice (some ⟨w.heap.size, 0, none⟩) 1 1] 24)) from ((Below.refl _ _).alloc (Nat.le_refl _) _).alloc (by simp) _)
  have HL := hide (fun k => waysL_once zs k)
  have HC := hide (fun k => waysL_count zs k)
  have HS := hide (fun k => waysL_step zs k)
  have HZ := hide hz
  have HM := hide (fun k l (hl : l ∈ waysL zs k) => (waysL_mem zs (fun k => (hz k).1) k l).1 hl)
  have HD := hide (fun s k => wayEnd_bd zs s hz k)
  have HR := hide (fun W (h : Below w.heap.size w W) => hr.below h hB)
  clear hr hz
  go_enter Try.func37, Try.ntmps37
  go_wp2_with fail
  go_loopw [3, 13] (fun v i wr => ∃ k : Nat, k ≤ zs.length ∧ i = .int .i64 k ∧ (∃ L, Hid (OwnPs wr w.heap.size v L) ∧ Hid (L.map Prod.snd = waysL zs k)) ∧ Hid (Below w.heap.size w wr))
    (fun _ i _ => zs.length - (intOf i).toNat)
  case atStart => exact ⟨0, Nat.zero_le _, rfl, ⟨_, HW0, hide rfl⟩, HB0⟩
  case round =>
    obtain ⟨k, hk, rfl, ⟨L, HL0, HLM⟩, HBk⟩ := hrel
    by_cases hlt : k < zs.length
    · have hd := HZ.out k
      have HSk := hide (HS.out k)
      have HLk := hide (HL.out k).2
      have HMk := hide (HM.out k)
      have HDk := hide (fun s => HD.out s k)
      have HCk := hide (HC.out k)
      obtain ⟨adz, rfl, _, hcellz⟩ := (HR.out wr HBk.out).at_ hlt
      generalize zs.getD k 0 = d at *
      obtain ⟨Av, cv, rfl, hcv1, hcv2⟩ := HL0.out.shape
      have hsz := hide HBk.out.size
      have hLl : Hid (L.length = (waysL zs k).length) := hide (by rw [← HLM.out, List.length_map])
      have hpw : Hid ((waysL zs k).length ≤ 1024) := hide (Nat.le_trans HCk.out (Nat.le_trans (Nat.pow_le_pow_right (by omega) (show k ≤ 10 by omega)) (by decide)))
      have hmx : L.length ≤ 1024 := by have := hLl.out; have := hpw.out; omega
      go_wp2_with fail
      go_loopw [6, 20] (fun v i W => ∃ j : Nat, j ≤ L.length ∧ i = .int .i64 j ∧ (∃ F, Hid (OwnPs W wr.heap.size v F) ∧ Hid (F.map Prod.snd = ((waysL zs k).take j).flatMap (farther k d))) ∧ Hid (Below wr.heap.size wr W))
        (fun _ i _ => L.length - (intOf i).toNat)
      case atStart => exact ⟨0, Nat.zero_le _, rfl, ⟨[], hide (OwnPs.nil _ _), hide rfl⟩, hide (Below.refl _ _)⟩
      case round =>
        obtain ⟨j, hj, rfl, ⟨F, HF, HFM⟩, HBj⟩ := hrel
        by_cases hlt2 : j < L.length
        · have hl0 := HL0.out.below HBj.out
          obtain ⟨ad0, rfl, hcell, _⟩ := hl0.at_ hlt2
          obtain ⟨ad1, ead1, had1, g, c', hrow, hc', hI⟩ := HL0.out.at_ hlt2
          clear ead1 had1
          have hmem : L[j].2 ∈ waysL zs k := by rw [← HLM.out]; exact List.mem_map_of_mem (List.getElem_mem hlt2)
          have HTF := hide (flatMap_take (farther k d) (waysL zs k) j (by rw [← hLl.out]; exact hlt2))
          have hge : (waysL zs k)[j]'(by rw [← hLl.out]; exact hlt2) = L[j].2 := by simp only [← HLM.out, List.getElem_map]
          rw [hge] at HTF
          have HFl : Hid (F.length ≤ 2048) := hide (by
            have h1 : F.length = (((waysL zs k).take j).flatMap (farther k d)).length := by rw [← HFM.out, List.length_map]
            have h2 : ∀ ws : List (List Int), (ws.flatMap (farther k d)).length ≤ 2 * ws.length := fun ws => by
              induction ws with
              | nil => simp
              | cons x xs ih =>
                have : (farther k d x).length ≤ 2 := by unfold farther; split <;> simp
                rw [List.flatMap_cons, List.length_append, List.length_cons]; omega
            have h3 := h2 ((waysL zs k).take j)
            rw [List.length_take] at h3
            have := hpw.out
            omega)
          have hll := (HLk.out _ hmem).1
          have hbd : -(10000 : Int) ≤ L[j].2.getD k 0 ∧ L[j].2.getD k 0 ≤ 10000 := by
            obtain ⟨s, _, e⟩ := HMk.out _ hmem
            rw [e, wayL_last]
            have := HDk.out s
            omega
          clear hl0 hmem hge
          generalize L[j].2 = l at *
          have hk1 : k < l.length := by omega
          rw [hll] at hrow hI hc'
          rw [hrow] at hcell
          obtain ⟨ad, rfl, _⟩ := hI.at_ (show k < k + 1 by omega)
          have HI0 := hide hI
          have hcx := (hI.below HBj.out (Nat.le_refl _)).cellAt (show k < k + 1 by omega)
          have HCX := hide (fun W (h : Below _ _ W) => (hI.below h (Nat.le_refl _)).cellAt (show k < k + 1 by omega))
          clear hI
          generalize hx : l.getD k 0 = x at *
          have HX := hide hx
          clear hx
          have hkk : (k : Int) + 1 ≤ ((k + 1 : Nat) : Int) := by omega
          have HI1 := hide (HI0.out.below HBj.out (Nat.le_refl _))
          have HFl1 := hide (show F.length < 1000000 by have := HFl.out; omega)
          have hz1 := hide HBj.out.size
          obtain ⟨Af, cf, rfl, hcf1, hcf2⟩ := HF.out.shape
          by_cases hdp : 0 < d
          · have HFt : Hid (farther k d l = [l ++ [x + d], l ++ [x - d]]) := hide (by unfold farther; rw [if_pos hdp, HX.out])
            have HFl2 := hide (show (F ++ [((Value.slice none 0 0 : Value), l ++ [x + d])]).length < 1000000 by rw [List.length_append]; have := HFl.out; simp; omega)
            go_wp2_with (first
            | (at_builtin; refine wpList_app_fullF rfl _ _ 24 3 rfl Try.underlying24 infoInt (some ad) (k + 1) _ l rfl HI1.out HBj.out.size (by omega) _ _ rfl (by omega) ?_; intro v1 w1 hown1 hb1; obtain ⟨A1, c1, e1, _, _⟩ := hown1.shape; rw [show (l ++ [x + d]).length = k + 2 from by rw [List.length_append, hll]; rfl] at e1; subst e1; have O1 := hide hown1; have F1 := hide (HF.out.below hb1); have AP1 := hide (show ∀ y ∈ _, apart y (.slice A1 (k + 2) c1, l ++ [x + d]) from fun y hy => apart_old (p := (.slice A1 (k + 2) c1, l ++ [x + d])) (HF.out.2.1 y hy).1 hown1); have VP1 := hide (block_old (p := (.slice A1 (k + 2) c1, l ++ [x + d])) HF.out hown1); have Q1 := hide (HBj.out.trans (hb1.mono HBj.out.size)); clear hown1 hb1)
            | (at_builtin; refine wpList_app_rowP rfl _ _ rfl _ _ (.slice Af F.length cf) F (.slice A1 (k + 2) c1, l ++ [x + d]) rfl F1.out (O1.out.less HBj.out.size) AP1.out VP1.out (fun b hb => (F1.out.vblk b hb).1) Q1.out.size _ rfl Q1.out.size HFl1.out ?_; intro v1' w1' hown1' hb1' _; have G1 := hide hown1'; have R1 := hide (Q1.out.trans hb1'); obtain ⟨Ag, cg, eg, _, _⟩ := hown1'.shape; rw [show (F ++ [(Value.slice A1 (k + 2) c1, l ++ [x + d])]).length = F.length + 1 from by simp] at eg; subst eg; have G1 := hide hown1'; have hcx2 := HCX.out _ R1.out; have HI2 := hide (HI0.out.below R1.out (Nat.le_refl _)); clear hown1' hb1')
            | (at_builtin; refine wpList_app_fullF rfl _ _ 24 3 rfl Try.underlying24 infoInt (some ad) (k + 1) _ l rfl HI2.out R1.out.size (by omega) _ _ rfl (by omega) ?_; intro v2 w2 hown2 hb2; obtain ⟨A2, c2, e2, _, _⟩ := hown2.shape; rw [show (l ++ [x - d]).length = k + 2 from by rw [List.length_append, hll]; rfl] at e2; subst e2; have O2 := hide hown2; have F2 := hide (G1.out.below hb2); have AP2 := hide (show ∀ y ∈ _, apart y (.slice A2 (k + 2) c2, l ++ [x - d]) from fun y hy => apart_old (p := (.slice A2 (k + 2) c2, l ++ [x - d])) (G1.out.2.1 y hy).1 hown2); have VP2 := hide (block_old (p := (.slice A2 (k + 2) c2, l ++ [x - d])) G1.out hown2); have Q2 := hide (R1.out.trans (hb2.mono R1.out.size)); clear hown2 hb2)
            | (at_builtin; refine wpList_app_rowP rfl _ _ rfl _ _ (.slice Ag (F.length + 1) cg) (F ++ [(.slice A1 (k + 2) c1, l ++ [x + d])]) (.slice A2 (k + 2) c2, l ++ [x - d]) rfl F2.out (O2.out.less R1.out.size) AP2.out VP2.out (fun b hb => (F2.out.vblk b hb).1) Q2.out.size _ rfl Q2.out.size (by rw [List.length_append]; have := HFl.out; simp; omega) ?_; intro v2' w2' hown2' hb2' _; have G2 := hide hown2'; have R2 := hide (Q2.out.trans hb2'); clear hown2' hb2'))
            go_roundw
            case rel =>
              refine ⟨j + 1, by omega, by go_num, ⟨_, G2, hide ?_⟩, R2⟩
              rw [HTF.out, List.map_append, List.map_append, HFM.out, HFt.out]
              simp
            case measure => simp [intOf]; omega
          · have HFt : Hid (farther k d l = [l ++ [x + d]]) := hide (by unfold farther; rw [if_neg hdp, HX.out])
            go_wp2_with (first
            | (at_builtin; refine wpList_app_fullF rfl _ _ 24 3 rfl Try.underlying24 infoInt (some ad) (k + 1) _ l rfl HI1.out HBj.out.size (by omega) _ _ rfl (by omega) ?_; intro v1 w1 hown1 hb1; obtain ⟨A1, c1, e1, _, _⟩ := hown1.shape; rw [show (l ++ [x + d]).length = k + 2 from by rw [List.length_append, hll]; rfl] at e1; subst e1; have O1 := hide hown1; have F1 := hide (HF.out.below hb1); have AP1 := hide (show ∀ y ∈ _, apart y (.slice A1 (k + 2) c1, l ++ [x + d]) from fun y hy => apart_old (p := (.slice A1 (k + 2) c1, l ++ [x + d])) (HF.out.2.1 y hy).1 hown1); have VP1 := hide (block_old (p := (.slice A1 (k + 2) c1, l ++ [x + d])) HF.out hown1); have Q1 := hide (HBj.out.trans (hb1.mono HBj.out.size)); clear hown1 hb1)
            | (at_builtin; refine wpList_app_rowP rfl _ _ rfl _ _ (.slice Af F.length cf) F (.slice A1 (k + 2) c1, l ++ [x + d]) rfl F1.out (O1.out.less HBj.out.size) AP1.out VP1.out (fun b hb => (F1.out.vblk b hb).1) Q1.out.size _ rfl Q1.out.size HFl1.out ?_; intro v1' w1' hown1' hb1' _; have G1 := hide hown1'; have R1 := hide (Q1.out.trans hb1'); clear hown1' hb1'))
            go_roundw
            case rel =>
              refine ⟨j + 1, by omega, by go_num, ⟨_, G1, hide ?_⟩, R1⟩
              rw [HTF.out, List.map_append, HFM.out, HFt.out]
              rfl
            case measure => simp [intOf]; omega
        · obtain rfl : j = L.length := by omega
          have HE : Hid (F.map Prod.snd = waysL zs (k + 1)) := hide (by rw [HFM.out, List.take_of_length_le (by rw [hLl.out]; exact Nat.le_refl _), HSk.out])
          have HB2 := hide (HBk.out.trans (HBj.out.mono hsz.out))
          have HG := hide (HF.out.less hsz.out)
          go_wp2_with fail
          go_roundw
          case rel => exact ⟨k + 1, by omega, by go_num, ⟨F, HG, HE⟩, HB2⟩
          case measure => simp [intOf]; omega
    · obtain rfl : k = zs.length := by omega
      go_wp2_with fail
      go_ret
      exact ⟨_, L, rfl, HL0.out, HLM.out, HBk.out⟩
end Go.Proofs.Ytcbcgapnoompbaa

/-
  slices.SortFunc OVER LISTS OF NUMBERS: what the comparison reads while the sort goes on.
-/
namespace Go.Proofs.Ytcbcgapnoompbaa
open Go.RowKit Go.Deep
set_option linter.unusedVariables false

/-- A row of the list: a value, and what it reads as. -/
abbrev RowOf (L : List (Value × List Int)) := {x : Value × List Int // x ∈ L}
def encR (L : List (Value × List Int)) (x : RowOf L) : Value := x.1.1
def cfR (L : List (Value × List Int)) (x y : RowOf L) : Int := cmpL x.1.2 y.1.2
theorem swoR (L : List (Value × List Int)) : Go.Sort.SWO (Go.Proofs.ltOf (cfR L)) where
  irrefl x := by unfold Go.Proofs.ltOf cfR; rw [cmpL_self]; rfl
  trans x y z h1 h2 := by
    unfold Go.Proofs.ltOf cfR at *
    simp only [decide_eq_true_eq] at *
    exact cmpL_trans _ _ _ h1 h2
  ntrans x y z h1 h2 := by
    unfold Go.Proofs.ltOf cfR at *
    simp only [decide_eq_false_iff_not] at *
    exact cmpL_ntrans _ _ _ h1 h2

theorem grow_get (w : World) (os : Array Obj) (h : Nat) (hl : h < w.heap.size) : (Go.Sort.grow w os).heap[h]? = w.heap[h]? := by
  show (w.heap ++ os)[h]? = _
  rw [Array.getElem?_append_left hl]
theorem putRow_get {α : Type} [Inhabited α] (enc : α → Value) (w : World) (g o h : Nat) (dk : Array α) (hne : h ≠ g) : (Go.Sort.putRow enc w g o dk).heap[h]? = w.heap[h]? := by
  show (w.heap.modify g _)[h]? = _
  rw [Array.getElem?_modify, if_neg (Ne.symm hne)]
theorem sortWorld_get {α : Type} [Inhabited α] (enc : α → Value) (w : World) (g o m h : Nat) (dk : Array α) (os : Array Obj) (hl : h < w.heap.size) (hne : h ≠ g) : (Go.Proofs.sortWorld enc w g o m dk os).heap[h]? = w.heap[h]? := by
  unfold Go.Proofs.sortWorld
  rw [grow_get _ _ _ (by show h < (w.heap.modify g _).size; rw [Array.size_modify]; exact hl), putRow_get _ _ _ _ _ _ hne]
  rfl

theorem enters_cmp : Enters Try.prog 40 := enters_of Try.func40 (by kernel_rfl) rfl
set_option maxRecDepth 100000 in
/-- What slices.Compare tells of two rows while they are sorted. -/
theorem cmpReads_rows (w : World) (base g : Nat) (L : List (Value × List Int)) [Inhabited (RowOf L)] (ho : ∀ x ∈ L, Own w base 3 x.1 x.2 ∧ ∀ b, x.1.ownBlock = some b → b ≠ g) (hl : ∀ x ∈ L, x.2.length ≤ 17592186044416) (size : Nat) :
    Go.Proofs.CmpReads Try.prog 40 #[] (encR L) (cfR L) g 0 size w := by
  intro m os dk _ x y
  have one : ∀ x : RowOf L, ∃ A c, encR L x = .slice A x.1.2.length c ∧ ∃ B, Ints (Go.Proofs.sortWorld (encR L) w g 0 m dk os) B A x.1.2.length x.1.2 := fun x => by
    have h := ho x.1 x.2
    have h' : Own (Go.Proofs.sortWorld (encR L) w g 0 m dk os) base 3 x.1.1 x.1.2 := h.1.keepB fun b hb hlt => sortWorld_get _ _ _ _ _ _ _ _ hlt (h.2 b hb)
    obtain ⟨A, c, e, _⟩ := h'.shape
    rw [e] at h'
    exact ⟨A, c, e, _, h'.ints⟩
  obtain ⟨A, c, e1, B1, h1⟩ := one x
  obtain ⟨A', c', e2, B2, h2⟩ := one y
  rw [e1, e2]
  exact (slCompare_any A A' _ _ c c' (max B1 B2) x.1.2 y.1.2 _ (h1.more (Nat.le_max_left _ _)) (h2.more (Nat.le_max_right _ _)) (hl _ x.2) (hl _ y.2)).mono fun e w' ⟨he, hw⟩ => ⟨he, 0, by rw [← hw]; rfl⟩

theorem apart_symm {x y : Value × List Int} (h : apart x y) : apart y x := fun b hb hx => h b hx hb
theorem block_sorted {w : World} {g m : Nat} {cur : Array Value} {e : TypeId} {L : List (Value × List Int)} [Inhabited (RowOf L)] (d : Array (RowOf L)) (os : Array Obj) (hg : w.heap[g]? = some (.cells cur e (0, 0))) :
    (Go.Proofs.sortWorld (encR L) w g 0 m d os).heap[g]? = some (.cells (Go.Sort.putCells (encR L) 0 d cur) e (0, 0)) := by
  obtain ⟨hlt, he⟩ := Array.getElem?_eq_some_iff.1 hg
  unfold Go.Proofs.sortWorld
  rw [grow_get _ _ _ (by show g < (w.heap.modify g _).size; rw [Array.size_modify]; exact hlt)]
  show (w.heap.modify g _)[g]? = _
  rw [Array.getElem?_modify, if_pos rfl, hg]
  rfl
/-- The list behind the sort. -/
theorem sorted_rows (w : World) (base g c m : Nat) (L : List (Value × List Int)) [Inhabited (RowOf L)] (d : Array (RowOf L)) (os : Array Obj) (hps : OwnPs w base (.slice (some ⟨g, 0, none⟩) L.length c) L) (hd : d.size = L.length) (hperm : (d.toList.map Subtype.val).Perm L) :
    OwnPs (Go.Proofs.sortWorld (encR L) w g 0 m d os) base (.slice (some ⟨g, 0, none⟩) L.length c) (d.toList.map Subtype.val) := by
  have hlen : (d.toList.map Subtype.val).length = L.length := by rw [List.length_map, Array.length_toList, hd]
  refine ⟨⟨by rw [List.length_map, hlen]; omega, ?_⟩, fun x hx => ?_, (List.Perm.pairwise_iff (fun h => apart_symm h) hperm).2 hps.2.2⟩
  · rcases hps.1.2 with ⟨h, _⟩ | ⟨g', cap, cur, hv, hb, hg, hn, hm, hs, ht⟩
    · cases h
    · cases hv
      refine .inr ⟨g, c, _, by rw [hlen], hb, block_sorted d os hg, by rw [hlen]; exact hn, hm, by unfold Go.Sort.putCells; rw [Array.size_mapIdx]; exact hs, ?_⟩
      apply List.ext_getElem?
      intro i
      rw [List.getElem?_take, Array.getElem?_toList]
      by_cases hi : i < L.length
      · rw [if_pos (by rw [hlen]; omega)]
        unfold Go.Sort.putCells
        rw [Array.getElem?_mapIdx, Array.getElem?_eq_getElem (by omega), Option.map_some, if_pos ⟨Nat.zero_le _, by omega⟩]
        simp only [Nat.sub_zero]
        rw [getElem!_pos d i (by omega)]
        simp [show i < d.size by omega, encR]
      · rw [if_neg (by rw [hlen]; omega), List.getElem?_eq_none (by rw [List.length_map, hlen]; omega)]
  · have hx' := hps.2.1 x (hperm.mem_iff.1 hx)
    exact ⟨hx'.1.keepB fun b hb hlt => sortWorld_get _ _ _ _ _ _ _ _ hlt (fun e => hx'.2 b hb (by rw [e]; rfl)), hx'.2⟩
theorem holds_rows (w : World) (base g c : Nat) (L : List (Value × List Int)) [Inhabited (RowOf L)] (hps : OwnPs w base (.slice (some ⟨g, 0, none⟩) L.length c) L) : Go.Sort.Holds (encR L) w g 0 L.attach.toArray := by
  intro j hj
  have hj' : j < L.length := by simpa using hj
  refine ⟨?_, by rw [Nat.zero_add]; exact World.ownsRow.frozenAt hps.1 j⟩
  rw [Nat.zero_add, World.ownsRow.cellAt hps.1 j (by omega), getElem!_pos _ j hj]
  simp [hj', encR]
end Go.Proofs.Ytcbcgapnoompbaa
