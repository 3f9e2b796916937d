
/-
  ALL PAIRS, BOTH WAYS; THE MODEL's IdleMixes. (Printed by mkidle.py.)
-/
import Derived.Test.YtmknencbjhcehaaDoorCuIP
import Derived.Test.YtmknencbjhcehaaDoorCuS
import Derived.Test.YtmknencbjhcehaaDoorBox
import Derived.Deep.RegionLaw
import Derived.Deep.RegionHeld3
namespace Go.Proofs.YtmknencbjhcehaaDoor
open Go.RowKit Go.Deep
set_option linter.unusedVariables false

theorem own_pair (w : World) (a b : Int) (t : TypeId) : Own (w.alloc (.cells #[.int .i64 a, .int .i64 b] t)) w.heap.size t (.slice (some ⟨w.heap.size, 0, none⟩) 2 2) [a, b] := by
  have e : (w.alloc (.cells #[.int .i64 a, .int .i64 b] t)).heap[w.heap.size]? = some (.cells #[.int .i64 a, .int .i64 b] t (0, 0)) := by
    show (w.heap.push _)[w.heap.size]? = _
    simp
  exact ⟨by simp, .inr ⟨w.heap.size, 2, _, rfl, Nat.le_refl _, e, Nat.le_refl _, by unfold maxLen; omega, by simp, by simp⟩⟩
theorem wpList_app_rowG {wr : World} {ops : Array Oper} {rest : List Oper} {o : Oper} {a : Act} {Q : Exit → Act → World → Prop} (hgd : o.guard = none) (s x : Operand)
    (ho : o.op = .call { callee := .builtin .append, args := #[s, x], argTypes := #[26, 26] })
    (base K : Nat) (v u : Value) (vs : List Value) (zss : List (List Int)) (zs : List Int) (hs : a.eval s = v) (hown : OwnVs wr base v vs zss) (hu : Own wr K 3 u zs)
    (hK : (∀ i, i < zss.length → ∀ b, (vs.getD i undef).ownBlock = some b → b < K) ∧ ∀ b, v.ownBlock = some b → b < K) (hbK : base ≤ K) (c g : Nat) (hg : g = wr.heap.size) (hx : a.eval x = .slice (some ⟨g, 0, none⟩) 1 c)
    (hbase : base ≤ wr.heap.size) (hlen : zss.length < 1000000)
    (h : ∀ v' w', OwnVs w' base v' (vs ++ [u]) (zss ++ [zs]) → Below base wr w' → wpList Tryd.prog ops Q rest (a.put o.dst v') w') :
    wpList Tryd.prog ops Q (o :: rest) a (wr.alloc (.cells #[u] 22)) := by
  subst hg
  exact wpList_app_rowB hgd s x ho base K v u vs zss zs hs hown hu hK hbK c hx hbase hlen fun v' w' h1 h2 _ _ => h v' w' h1 h2

set_option maxRecDepth 100000 in
set_option maxHeartbeats 1000000 in
/-- The model's pairs. -/
theorem cuPairs_any (n : Nat) (w : World) (hn : n ≤ 6) :
    Calls Tryd.prog 15 #[.int .i64 n] w fun e w' => ∃ A c vs, e = .returned (.slice A (prs n).length c) ∧ (prs n).length ≤ c ∧ c ≤ maxLen ∧ OwnVs w' w.heap.size (.slice A (prs n).length c) vs (prs n) ∧ Below w.heap.size w w' := by
  have HZ := hide (show prTo n 0 = [] from rfl)
  have HN := hide (fun a => prTo_succ n a)
  have HLEN := hide (fun a => prTo_len n a)
  go_enter Tryd.func15, Tryd.ntmps15
  go_wp2_with fail
  go_loopw [3, 4] (fun v i wr => ∃ a : Nat, a ≤ n ∧ i = .int .i64 a ∧ (∃ vs, Hid (OwnVs wr w.heap.size v vs (prTo n a))) ∧ Hid (Below w.heap.size w wr))
    (fun _ i _ => n - (intOf i).toNat)
  case atStart => exact ⟨0, Nat.zero_le _, rfl, ⟨[], hide (by rw [HZ.out]; exact OwnVs.nil _ _)⟩, hide (Below.refl _ _)⟩
  case round =>
    obtain ⟨a, ha, rfl, ⟨vs0, HO0⟩, HB0⟩ := hrel
    by_cases hlt : a < n
    · have HNa := hide (HN.out a)
      have hla := HLEN.out a
      have hla6 : a * n ≤ 6 * 6 := Nat.mul_le_mul (by omega) hn
      generalize hgp : prTo n a = P0 at *
      clear hgp
      go_wp2_with fail
      go_loopw [3, 5] (fun v i wr => ∃ j : Nat, a + 1 + j ≤ n ∧ i = .int .i64 (a + 1 + j : Nat) ∧ (∃ vs, Hid (OwnVs wr w.heap.size v vs (P0 ++ pr a j))) ∧ Hid (Below w.heap.size w wr))
        (fun _ i _ => n - (intOf i).toNat)
      case atStart => exact ⟨0, by omega, by go_num, ⟨vs0, hide (by rw [pr_zero, List.append_nil]; exact HO0.out)⟩, HB0⟩
      case round =>
        obtain ⟨j, hj, rfl, ⟨vs, HO⟩, HB⟩ := hrel
        have hjn : (pr a j).length = j := by simp [pr]
        by_cases hlt2 : a + 1 + j < n
        · have HS := hide (pr_succ a j)
          have hln : (P0 ++ pr a j).length < 1000000 := by rw [List.length_append]; omega
          generalize hzl : P0 ++ pr a j = zl at *
          have Hzl := hide hzl
          clear hzl
          have hBs := HB.out.size
          have HR := hide (own_pair wr (a : Int) ((a : Int) + 1 + (j : Int)) 3)
          have HO1 := hide (HO.out.below ((Below.refl wr.heap.size wr).alloc (Nat.le_refl _) (.cells #[.int .i64 a, .int .i64 ((a : Int) + 1 + (j : Int))] 3)))
          have HK := hide HO.out.blks
          have HB1 := hide (HB.out.alloc hBs (.cells #[.int .i64 a, .int .i64 ((a : Int) + 1 + (j : Int))] 3))
          go_wp2_with (at_builtin; go_loud (refine wpList_app_rowG rfl _ _ rfl w.heap.size wr.heap.size _ _ vs zl [(a : Int), (a : Int) + 1 + (j : Int)] rfl HO1.out HR.out HK.out hBs 1 (wr.heap.size + 1) (by simp) rfl (by simp; omega) hln ?_; intro v' w' hown' hb'))
          have HO2 := hide hown'
          have HB2 := hide (HB1.out.trans hb')
          clear hown' hb'
          go_wp2_with fail
          go_roundw
          case rel => exact ⟨j + 1, by omega, by go_num, ⟨_, hide (by rw [HS.out, ← List.append_assoc, Hzl.out]; exact HO2.out)⟩, HB2⟩
          case measure => simp [intOf]; omega
        · have hje : j = n - (a + 1) := by omega
          have HE := hide (show prTo n (a + 1) = P0 ++ pr a j from by rw [HNa.out, hje])
          go_wp2_with fail
          go_roundw
          case rel => exact ⟨a + 1, by omega, by go_num, ⟨vs, hide (by rw [HE.out]; exact HO.out)⟩, HB⟩
          case measure => simp [intOf]; omega
    · obtain rfl : a = n := by omega
      have hO := HO0.out
      have e : prTo a a = prs a := rfl
      rw [e] at hO
      obtain ⟨A, c, rfl, h1, h2⟩ := hO.shape
      have HO := hide hO
      clear hO
      go_wp2_with fail
      go_ret
      exact ⟨A, c, vs0, rfl, h1, h2, HO.out, HB0.out⟩

set_option maxRecDepth 100000 in
set_option maxHeartbeats 1000000 in
/-- The program's pairs. -/
theorem allMixes_any (n : Nat) (w : World) (hn : n ≤ 6) :
    Calls Tryd.prog 20 #[.int .i64 n] w fun e w' => ∃ A c vs, e = .returned (.slice A (prs n).length c) ∧ (prs n).length ≤ c ∧ c ≤ maxLen ∧ OwnVs w' w.heap.size (.slice A (prs n).length c) vs (prs n) ∧ Below w.heap.size w w' := by
  have HZ := hide (show prTo n 0 = [] from rfl)
  have HN := hide (fun a => prTo_succ n a)
  have HLEN := hide (fun a => prTo_len n a)
  go_enter Tryd.func20, Tryd.ntmps20
  go_wp2_with fail
  go_loopw [3, 7] (fun v i wr => ∃ a : Nat, a ≤ n ∧ i = .int .i64 a ∧ (∃ vs, Hid (OwnVs wr w.heap.size v vs (prTo n a))) ∧ Hid (Below w.heap.size w wr))
    (fun _ i _ => n - (intOf i).toNat)
  case atStart => exact ⟨0, Nat.zero_le _, rfl, ⟨[], hide (by rw [HZ.out]; exact OwnVs.nil _ _)⟩, hide (Below.refl _ _)⟩
  case round =>
    obtain ⟨a, ha, rfl, ⟨vs0, HO0⟩, HB0⟩ := hrel
    by_cases hlt : a < n
    · have HNa := hide (HN.out a)
      have hla := HLEN.out a
      have hla6 : a * n ≤ 6 * 6 := Nat.mul_le_mul (by omega) hn
      generalize hgp : prTo n a = P0 at *
      clear hgp
      go_wp2_with fail
      go_loopw [3, 5] (fun v i wr => ∃ j : Nat, a + 1 + j ≤ n ∧ i = .int .i64 (a + 1 + j : Nat) ∧ (∃ vs, Hid (OwnVs wr w.heap.size v vs (P0 ++ pr a j))) ∧ Hid (Below w.heap.size w wr))
        (fun _ i _ => n - (intOf i).toNat)
      case atStart => exact ⟨0, by omega, by go_num, ⟨vs0, hide (by rw [pr_zero, List.append_nil]; exact HO0.out)⟩, HB0⟩
      case round =>
        obtain ⟨j, hj, rfl, ⟨vs, HO⟩, HB⟩ := hrel
        have hjn : (pr a j).length = j := by simp [pr]
        by_cases hlt2 : a + 1 + j < n
        · have HS := hide (pr_succ a j)
          have hln : (P0 ++ pr a j).length < 1000000 := by rw [List.length_append]; omega
          generalize hzl : P0 ++ pr a j = zl at *
          have Hzl := hide hzl
          clear hzl
          have hBs := HB.out.size
          have HR := hide (own_pair wr (a : Int) ((a : Int) + 1 + (j : Int)) 3)
          have HO1 := hide (HO.out.below ((Below.refl wr.heap.size wr).alloc (Nat.le_refl _) (.cells #[.int .i64 a, .int .i64 ((a : Int) + 1 + (j : Int))] 3)))
          have HK := hide HO.out.blks
          have HB1 := hide (HB.out.alloc hBs (.cells #[.int .i64 a, .int .i64 ((a : Int) + 1 + (j : Int))] 3))
          go_wp2_with (at_builtin; go_loud (refine wpList_app_rowG rfl _ _ rfl w.heap.size wr.heap.size _ _ vs zl [(a : Int), (a : Int) + 1 + (j : Int)] rfl HO1.out HR.out HK.out hBs 1 (wr.heap.size + 1) (by simp) rfl (by simp; omega) hln ?_; intro v' w' hown' hb'))
          have HO2 := hide hown'
          have HB2 := hide (HB1.out.trans hb')
          clear hown' hb'
          go_wp2_with fail
          go_roundw
          case rel => exact ⟨j + 1, by omega, by go_num, ⟨_, hide (by rw [HS.out, ← List.append_assoc, Hzl.out]; exact HO2.out)⟩, HB2⟩
          case measure => simp [intOf]; omega
        · have hje : j = n - (a + 1) := by omega
          have HE := hide (show prTo n (a + 1) = P0 ++ pr a j from by rw [HNa.out, hje])
          go_wp2_with fail
          go_roundw
          case rel => exact ⟨a + 1, by omega, by go_num, ⟨vs, hide (by rw [HE.out]; exact HO.out)⟩, HB⟩
          case measure => simp [intOf]; omega
    · obtain rfl : a = n := by omega
      have hO := HO0.out
      have e : prTo a a = prs a := rfl
      rw [e] at hO
      obtain ⟨A, c, rfl, h1, h2⟩ := hO.shape
      have HO := hide hO
      clear hO
      go_wp2_with fail
      go_ret
      exact ⟨A, c, vs0, rfl, h1, h2, HO.out, HB0.out⟩

theorem apart_of {L : List (Value × List Int)} (h : L.Pairwise apart) (k : Nat) (hk : k < L.length) (p : Value × List Int → Bool) : ∀ y ∈ (L.take k).filter p, apart y L[k] := fun y hy => by
  have hm := (List.mem_filter.1 hy).1
  obtain ⟨i, hi, rfl⟩ := List.getElem_of_mem hm
  rw [List.length_take] at hi
  rw [List.getElem_take]
  exact List.pairwise_iff_getElem.1 h i k (by omega) hk (by omega)
theorem filter_succ {α : Type} {p : α → Bool} (L : List α) (j : Nat) (hj : j < L.length) : (L.take (j + 1)).filter p = (L.take j).filter p ++ (if p L[j] then [L[j]] else []) := by
  rw [List.take_succ_eq_append_getElem hj, List.filter_append]
  congr 1
  simp [List.filter_cons]
theorem filter_snd (L : List (Value × List Int)) (q : List Int → Bool) : (L.filter fun x => q x.2).map Prod.snd = (L.map Prod.snd).filter q := by
  induction L with
  | nil => rfl
  | cons x L ih =>
    rw [List.filter_cons, List.map_cons, List.filter_cons]
    cases q x.2
    · simpa using ih
    · simpa using ih
def keepP (zs : List Int) (x : Value × List Int) : Bool := sameM zs x.2
/-- What is read of a pair and of the contents. -/
theorem pair_cells {w : World} {base : Nat} {x : Value × List Int} {n : Nat} (h : Own w base 3 x.1 x.2) (hp : isPair n x.2) : ∃ (g c a b : Nat), x.1 = .slice (some ⟨g, 0, none⟩) 2 c ∧ x.2 = [(a : Int), (b : Int)] ∧ a < n ∧ b < n ∧ g < w.heap.size ∧ w.cell? ⟨g, 0, none⟩ = some (.int .i64 a) ∧ w.cell? ⟨g, 1, none⟩ = some (.int .i64 b) := by
  obtain ⟨a, b, e, ha, hb⟩ := hp
  obtain ⟨v, zs⟩ := x
  dsimp only at h e ⊢
  subst e
  rcases h.form with ⟨_, e⟩ | ⟨g, c, rfl, _, hg, _⟩
  · cases e
  · exact ⟨g, c, a, b, rfl, rfl, ha, hb, hg, (World.ownsRow.cellAt h 0 (by simp)).trans rfl, (World.ownsRow.cellAt h 1 (by simp)).trans rfl⟩
theorem ints_cell {w : World} {B n : Nat} {A : Option Addr} {zs : List Int} (h : Ints w B A n zs) (hn : 0 < n) : ∃ ad, A = some ad ∧ ad.block < B ∧ ∀ k, k < n → w.cell? (ad.add k) = some (.int .i64 (zs.getD k 0)) := by
  obtain ⟨ad, e, hb, hc⟩ := h.2 hn
  exact ⟨ad, e, hb, hc⟩

set_option maxRecDepth 100000 in
set_option maxHeartbeats 2000000 in
/-- The model's IdleMixes. -/
theorem specIdleMixes_any (A : Option Addr) (n c B : Nat) (zs : List Int) (u : Int) (w : World) (hr : Ints w B A n zs) (hB : B ≤ w.heap.size) (hn : n ≤ 17592186044416) :
    Calls Tryd.prog 5 #[.agg #[.slice A n c, .int .i64 u]] w (MadeSS (idleL zs u) (cuOk zs u) w) := by
  obtain rfl := hr.len
  have kb : Below w.heap.size w (w.alloc (.cells #[.slice A zs.length c, .int .i64 u] 29)) := (Below.refl _ _).alloc (Nat.le_refl _) _
  have KX := hide (Bx.new w 29 (.slice A zs.length c) (.int .i64 u))
  have HA := hide (cuGood_any A zs.length c B zs u _ (hr.below kb hB) (Nat.le_trans hB kb.size) hn)
  have HKB := hide kb
  have HR := hide hr
  clear kb hr
  cases hc : cuOk zs u
  · rw [show idleL zs u = [] from by unfold idleL; rw [hc]; rfl]
    rw [hc] at HA
    clear hc
    go_enter Tryd.func5, Tryd.ntmps5
    go_wp2_with fail
    refine HA.out.mono ?_; rintro e w2 ⟨rfl, hb2⟩
    have HB := hide (HKB.out.trans (hb2.mono HKB.out.size))
    clear hb2
    go_wp2_with fail
    go_ret2
    exact madeSS_none HB.out
  · have HI := hide (show idleL zs u = (prs zs.length).filter (sameM zs) from by unfold idleL; rw [hc]; rfl)
    obtain ⟨h2, h6, _⟩ := cuOk_of hc
    have HPP := hide (prs_pair zs.length)
    have HPL := hide (prs_len h6)
    rw [hc] at HA
    have HP := hide (fun W => cuPairs_any zs.length W h6)
    obtain ⟨ad, rfl, hab, hcell⟩ := ints_cell HR.out (by omega)
    have HZC := hide hcell
    have HAB := hide hab
    clear hc hcell hab
    generalize idleL zs u = il at *
    go_enter Tryd.func5, Tryd.ntmps5
    go_wp2_with fail
    generalize hW0 : (w.alloc (.cells #[.slice (some ad) zs.length c, .int .i64 u] 29)) = W0 at *
    have hs0 : W0.heap.size = w.heap.size + 1 := by rw [← hW0]; simp
    clear hW0
    refine HA.out.mono ?_; rintro e w2 ⟨rfl, hb2⟩
    have HB2 := hide (HKB.out.trans (hb2.mono HKB.out.size))
    have X2 := hide (KX.out.next hb2)
    have hs2 := hb2.size
    have c0 := X2.out.c0
    clear hb2
    go_wp2_with fail
    refine (HP.out _).mono ?_; rintro e w3 ⟨Ap, cp, vs, rfl, _, _, hown, hb3⟩
    obtain ⟨hps, hsnd⟩ := hown.toPs
    generalize hL : vs.zip (prs zs.length) = L at *
    have HLl : Hid (L.length = (prs zs.length).length) := hide (by rw [← hsnd, List.length_map])
    have HSN := hide hsnd
    have HLP := hide (show ∀ x ∈ L, isPair zs.length x.2 from fun x hx => HPP.out _ (by rw [← hsnd]; exact List.mem_map.2 ⟨x, hx, rfl⟩))
    have PS := hide hps
    have HB3 := hide (HB2.out.trans (hb3.mono HB2.out.size))
    have X3 := hide (X2.out.next hb3)
    have hs3 := hb3.size
    clear hb3 hown c0 hL hps hsnd HPP HP
    have hlen := HLl.out
    have hl36 := HPL.out
    rw [← hlen] at hl36 ⊢
    have HF := hide (filter_snd L (sameM zs))
    rw [HSN.out] at HF
    clear HSN HLl HPL hlen
    go_wp2_with fail
    go_loopw [4, 15] (fun v i wr => ∃ k : Nat, k ≤ L.length ∧ i = .int .i64 k ∧ Hid (OwnPs wr w.heap.size v ((L.take k).filter (keepP zs))) ∧ Hid (Below w3.heap.size w3 wr) ∧ Hid (∀ b, v.ownBlock = some b → w3.heap.size ≤ b))
      (fun _ i _ => L.length - (intOf i).toNat)
    case atStart => exact ⟨0, Nat.zero_le _, rfl, hide (OwnPs.nil _ _), hide (Below.refl _ _), hide (fun b h => by cases h)⟩
    case round =>
      obtain ⟨k, hk, rfl, HO, HB, HV⟩ := hrel
      by_cases hlt : k < L.length
      · have PSk := hide (PS.out.below HB.out)
        have hv := PSk.out.toVs.vals
        rw [List.length_map] at hv
        obtain ⟨ad', rfl, hab', hcell'⟩ := hv.at_ hlt
        rw [getD_map L Prod.fst undef k hlt] at hcell'
        have hxm := PSk.out.2.1 _ (List.getElem_mem hlt)
        have hx3 := PS.out.2.1 _ (List.getElem_mem hlt)
        have HAP := hide (apart_of PS.out.2.2 k hlt (keepP zs))
        have HSU := hide (filter_succ (p := keepP zs) L k hlt)
        have hip := HLP.out _ (List.getElem_mem hlt)
        generalize hp : L[k] = p at *
        clear hp
        obtain ⟨xv, xm⟩ := p
        obtain ⟨gm, cm, a, b, e1, e2, ha, hb, hgm, m0, m1⟩ := pair_cells hxm.1 hip
        dsimp only at e1 e2
        subst e1 e2
        have hbw : Below w.heap.size w wr := HB3.out.trans (HB.out.mono (by omega))
        have za := (hbw.cell (p := ad.add a) (by rw [block_of_add]; have := HAB.out; omega)).trans (HZC.out a ha)
        have zb := (hbw.cell (p := ad.add b) (by rw [block_of_add]; have := HAB.out; omega)).trans (HZC.out b hb)
        have c0 := (X3.out.next HB.out).c0
        have hai : (a : Int) < (zs.length : Int) := by omega
        have hbi : (b : Int) < (zs.length : Int) := by omega
        have HKP := hide (show keepP zs (.slice (some ⟨gm, 0, none⟩) 2 cm, [(a : Int), (b : Int)]) = (zs.getD a 0 == zs.getD b 0) from rfl)
        have HX1 := hide (hxm.1.less (base' := w.heap.size) (by omega))
        have HGM := hide (show ∀ b', (Value.slice (some ⟨gm, 0, none⟩) 2 cm).ownBlock = some b' → b' < w3.heap.size from fun b' hb' => (hx3.1.blk hb').2)
        clear hv hxm hx3 hip hbw
        generalize zs.getD a 0 = ya at *
        generalize zs.getD b 0 = yb at *
        go_wp2_with fail
        go_region
        all_goals
          by_cases he : ya = yb
          · have hk1 : keepP zs (.slice (some ⟨gm, 0, none⟩) 2 cm, [(a : Int), (b : Int)]) = true := by rw [HKP.out, he]; simp
            have hln : ((L.take k).filter (keepP zs)).length < 1000000 := by
              have h1 : ((L.take k).filter (keepP zs)).length ≤ (L.take k).length := List.length_filter_le _ _
              rw [List.length_take] at h1; omega
            have HSV := hide HSU.out
            rw [hk1, if_pos rfl] at HSV
            generalize (L.take k).filter (keepP zs) = Fk at *
            have hbs := HB3.out.size
            have hbs2 := HB.out.size
            go_wp2_with (at_builtin; go_loud (refine wpList_app_rowP rfl (.tmp 34) (.tmp 36) rfl w.heap.size w3.heap.size _ Fk (.slice (some ⟨gm, 0, none⟩) 2 cm, [(a : Int), (b : Int)]) rfl (HO.out.below (Below.refl _ _).drew) (HX1.out.below (Below.refl _ _).drew) HAP.out (fun b' hb1 hb2 => by have := HGM.out b' hb1; have := HV.out b' hb2; omega) HV.out hbs2 1 rfl (Nat.le_trans hbs hbs2) hln ?_; intro v' w' hown' hb' hv'))
            have HO2 := hide hown'
            have HB2' := hide (HB.out.trans ((Below.refl wr.heap.size wr).drew.mono hbs2 |>.trans hb'))
            have HV2 := hide hv'
            clear hown' hb' hv'
            go_wp2_with fail
            go_roundw
            case rel => exact ⟨k + 1, by omega, by go_num, hide (by rw [HSV.out]; exact HO2.out), HB2', HV2⟩
            case measure => simp [intOf]; omega
          · have hk1 : keepP zs (.slice (some ⟨gm, 0, none⟩) 2 cm, [(a : Int), (b : Int)]) = false := by rw [HKP.out]; simpa using he
            have HSV := hide HSU.out
            rw [hk1] at HSV
            have HBd := hide (HB.out.drew)
            go_wp2_with fail
            go_roundw
            case rel => exact ⟨k + 1, by omega, by go_num, hide (by rw [HSV.out]; simpa using HO.out.below (Below.refl _ _).drew), HBd, HV⟩
            case measure => simp [intOf]; omega
      · obtain rfl : k = L.length := by omega
        have hO := HO.out
        rw [List.take_length] at hO
        have hO2 := hO.toVs
        rw [show (L.filter (keepP zs)).map Prod.snd = il from by rw [HI.out]; exact HF.out] at hO2
        have hbw : Below w.heap.size w wr := HB3.out.trans (HB.out.mono (by omega))
        obtain ⟨A', c', rfl, hmade⟩ := madeSS_of (b := true) hO2 hbw
        have HM := hide hmade
        clear hO hO2 hmade HO HV
        go_wp2_with fail
        go_ret2
        exact HM.out
end Go.Proofs.YtmknencbjhcehaaDoor
