
/-
  SureHeaps, BOTH WAYS.
-/
import Derived.Test.YtmhnihdgggblmaaPzS
import Derived.Test.YtmhnihdgggblmaaOrd
import Derived.Deep.QuietTactic
import Derived.BigQuiet
namespace Go.Proofs.Ytmhnihdgggblmaa
open Go.RowKit Go.Deep Go.Shelf
attribute [local go_sem] Oper.semAt_some
set_option linter.unusedVariables false

/-- The numbers s, the first k of them -1 where zs has another. -/
def mixAt (s zs : List Int) (k : Nat) : List Int := (List.range s.length).map fun i => if i < k ∧ zs.getD i 0 ≠ s.getD i 0 then -1 else s.getD i 0
theorem mixAt_length (s zs : List Int) (k : Nat) : (mixAt s zs k).length = s.length := by simp [mixAt]
theorem mixAt_get (s zs : List Int) (k i : Nat) (h : i < s.length) : (mixAt s zs k)[i]? = some (if i < k ∧ zs.getD i 0 ≠ s.getD i 0 then -1 else s.getD i 0) := by
  simp [mixAt, h]
theorem mixAt_zero (s zs : List Int) : mixAt s zs 0 = s := by
  apply List.ext_getElem?
  intro i
  by_cases h : i < s.length
  · rw [mixAt_get s zs 0 i h]; simp [List.getD, h]
  · rw [List.getElem?_eq_none (by rw [mixAt_length]; omega), List.getElem?_eq_none (by omega)]
theorem mixAt_at (s zs : List Int) (k : Nat) (h : k < s.length) : (mixAt s zs k)[k]? = some (s.getD k 0) := by rw [mixAt_get s zs k k h, if_neg (by omega)]
theorem mixAt_eq (s zs : List Int) (k : Nat) (h : k < s.length) (e : zs.getD k 0 = s.getD k 0) : mixAt s zs (k + 1) = mixAt s zs k := by
  apply List.ext_getElem?
  intro i
  by_cases hi : i < s.length
  · rw [mixAt_get s zs _ i hi, mixAt_get s zs _ i hi]
    by_cases ik : i = k
    · subst ik; rw [if_neg (fun h => h.2 e), if_neg (by omega)]
    · by_cases lt : i < k
      · simp [lt, show i < k + 1 by omega]
      · rw [if_neg (by omega), if_neg (by omega)]
  · rw [List.getElem?_eq_none (by rw [mixAt_length]; omega), List.getElem?_eq_none (by rw [mixAt_length]; omega)]
theorem mixAt_ne (s zs : List Int) (k : Nat) (h : k < s.length) (e : ¬ zs.getD k 0 = s.getD k 0) : mixAt s zs (k + 1) = (mixAt s zs k).set k (-1) := by
  apply List.ext_getElem?
  intro i
  by_cases hi : i < s.length
  · by_cases ik : i = k
    · subst ik
      rw [mixAt_get s zs _ i hi, if_pos ⟨by omega, e⟩, List.getElem?_set_self (by rw [mixAt_length]; omega)]
    · rw [List.getElem?_set_ne (Ne.symm ik), mixAt_get s zs _ i hi, mixAt_get s zs _ i hi]
      by_cases lt : i < k
      · simp [lt, show i < k + 1 by omega]
      · rw [if_neg (by omega), if_neg (by omega)]
  · rw [List.getElem?_eq_none (by rw [mixAt_length]; omega), List.getElem?_eq_none (by rw [List.length_set, mixAt_length]; omega)]
def mix (s zs : List Int) : List Int := mixAt s zs s.length
def sureF (z0 : List Int) (zss : List (List Int)) : List Int := zss.foldl mix z0
theorem sureF_nil (z0 : List Int) : sureF z0 [] = z0 := rfl
theorem sureF_snoc (z0 : List Int) (zss : List (List Int)) (zs : List Int) : sureF z0 (zss ++ [zs]) = mix (sureF z0 zss) zs := by simp [sureF, List.foldl_append]
theorem sureF_length (zss : List (List Int)) : ∀ (z0 : List Int), (sureF z0 zss).length = z0.length := by
  induction zss with
  | nil => intro z0; rfl
  | cons z zt ih => intro z0; show (sureF (mix z0 z) zt).length = _; rw [ih]; exact mixAt_length _ _ _
theorem sureF_take (z0 : List Int) (zss : List (List Int)) (k : Nat) (h : k < zss.length) : sureF z0 (zss.take (k + 1)) = mix (sureF z0 (zss.take k)) (zss.getD k []) := by
  rw [List.take_succ_eq_append_getElem h, sureF_snoc]; simp [List.getD, h]
/-- What is sure. -/
def surL (u : Int) (cs : List Cl) : List Int := if fstOk u cs then sureF (fstL u cs) (solsL (fitAll cs) u.toNat) else []
theorem sur_no {u : Int} {cs : List Cl} (h : fstOk u cs = false) : surL u cs = [] := by simp [surL, h]
theorem sur_yes {u : Int} {cs : List Cl} (h : fstOk u cs = true) : surL u cs = sureF (fstL u cs) (solsL (fitAll cs) u.toNat) := by simp [surL, h]
theorem surL_len (u : Int) (cs : List Cl) : (surL u cs).length ≤ 1048576 := by
  unfold surL
  split
  · rw [sureF_length]; exact fstL_len u cs
  · simp

set_option maxHeartbeats 4000000 in
set_option maxRecDepth 100000 in
/-- The model's SureHeaps. -/
theorem specSureHeaps_any (A : Option Addr) (n c B : Nat) (cs : List Cl) (u : Int) (w : World) (hr : Cls w B A n cs) (hB : B ≤ w.heap.size) (hn : n ≤ 17592186044416) :
    Calls Try.prog 20 #[.agg #[.int .i64 u, .slice A n c]] w (MadeR (surL u cs) (fstOk u cs) w) := by
  obtain rfl := hr.len
  have b1 : Below w.heap.size w (w.alloc (.cells #[.int .i64 u, .slice A cs.length c] 31)) := (Below.refl _ _).alloc (Nat.le_refl _) _
  have HX := hide (Bx.new w 31 (.int .i64 u) (.slice A cs.length c))
  have HG := hide (pzGood_any A cs.length c B cs u _ (hr.below b1 hB) (Nat.le_trans hB b1.size) hn)
  have HB := hide b1
  clear b1
  cases hg : pzOk u cs
  · rw [hg] at HG
    rw [sur_no (fst_no hg).2, (fst_no hg).2]
    clear hg
    go_enter Try.func20, Try.ntmps20
    go_wp2_with fail
    refine HG.out.mono ?_; rintro e w2 ⟨rfl, hb2⟩
    have HB2 := hide (HB.out.trans (hb2.mono HB.out.size))
    clear hb2
    go_wp2_with fail
    go_ret2
    exact ⟨none, 0, rfl, Nat.le_refl _, by unfold maxLen; omega, Own.nil _ _ _, HB2.out⟩
  · rw [hg] at HG
    obtain ⟨hh, h6, hc⟩ := pzOk_parts hg
    obtain ⟨h, rfl⟩ := Int.eq_ofNat_of_zero_le (show 0 ≤ u by omega)
    have hP := fun W (hb : Below w.heap.size w W) => pzAll_any A cs.length c B cs h W (hr.below hb hB) (Nat.le_trans hB hb.size) (by omega) (by omega) (subs_ofS hc)
    have hall : ∀ zs ∈ solsL (fitAll cs) h, zs.length = h := fun zs hm => sols_get_len (by omega) zs hm
    have HSY := hide (fun ho : fstOk (h : Int) cs = true => sur_yes ho)
    have HSN := hide (fun ho : fstOk (h : Int) cs = false => sur_no ho)
    rw [(fst_yes hg).2]
    rw [(fst_yes hg).1, (fst_yes hg).2] at HSY
    rw [(fst_yes hg).2] at HSN
    rw [Int.toNat_natCast] at HSY
    have hn6 : (solsL (fitAll cs) h).length ≤ 1296 := Nat.le_trans (lookL_len (fitAll cs) h []) (Nat.le_trans (Nat.pow_le_pow_right (by omega) (show h ≤ 4 by omega)) (by decide))
    generalize surL (h : Int) cs = sl at *
    generalize solsL (fitAll cs) h = zss at *
    generalize hbo : decide (0 < zss.length) = bo at *
    have HP := hide hP
    have HBO := hide hbo
    have HAL := hide hall
    have hh1 : 2 ≤ h := by omega
    have hh2 : h ≤ 4 := by omega
    clear hP hg hc hr hbo hall hh
    go_enter Try.func20, Try.ntmps20
    go_wp2_with fail
    refine HG.out.mono ?_; rintro e w2 ⟨rfl, hb2⟩
    have HB2 := hide (HB.out.trans (hb2.mono HB.out.size))
    have x0 := (HX.out.next hb2).c0
    have x1 := (HX.out.next hb2).c1
    clear hb2 HG
    go_wp2_with fail
    refine (HP.out _ HB2.out).mono ?_
    rintro e w3 ⟨A', c', vs, rfl, hc1, hc2, hown, hb3⟩
    have HB3 := hide (HB2.out.trans (hb3.mono HB2.out.size))
    have hs2 := HB2.out.size
    clear hb3 x0 x1 HP
    by_cases hz : zss.length = 0
    · have he : ((zss.length : Int) == 0) = true := by simp [hz]
      obtain rfl : bo = false := by rw [← HBO.out]; exact decide_eq_false (by omega)
      obtain rfl : sl = [] := HSN.out rfl
      clear hown hz
      go_wp2_with fail
      go_ret2
      exact ⟨none, 0, rfl, Nat.le_refl _, by unfold maxLen; omega, Own.nil _ _ _, HB3.out⟩
    · have he : ((zss.length : Int) == 0) = false := by rw [beq_eq_false_iff_ne]; omega
      have h0 : 0 < zss.length := by omega
      obtain rfl : bo = true := by rw [← HBO.out]; exact decide_eq_true h0
      have HSL := hide (HSY.out rfl)
      have ho := hown.2.2.1 0 h0
      obtain ⟨ad, rfl, _, hcell⟩ := hown.vals.at_ h0
      obtain ⟨A5, c5, e5, h51, h52⟩ := ho.shape
      rw [e5] at hcell ho
      rw [show ad.add 0 = ad from by simp [Addr.add]] at hcell
      have hl0 : (zss.getD 0 []).length = h := HAL.out _ (by simp [List.getD, h0])
      rw [hl0] at hcell ho h51
      have h0' : (0 : Int) < (zss.length : Int) := by omega
      have hz1 : Ints w3 w3.heap.size A5 h (zss.getD 0 []) := by have := ho.ints; rw [hl0] at this; exact this
      have HLO := hide (l1Own_any A5 h c5 w3.heap.size (zss.getD 0 []) w3 hz1 (Nat.le_refl _) (by omega) (by omega))
      have HOV := hide hown
      have HL0 := hide hl0
      have hL6 : zss.length ≤ 1296 := hn6
      generalize zss.getD 0 [] = z0 at *
      clear hown hz e5 ho hl0 HSY HSN hz1
      go_wp2_with fail
      refine HLO.out.mono ?_
      rintro e w4 ⟨g, c6, rfl, hg1, hg2, hc61, hc62, hown1, hb4⟩
      rw [HL0.out] at hown1 hc61 ⊢
      have HO1 := hide hown1
      have HB4 := hide hb4
      have HC6 := hide (And.intro hc61 hc62)
      clear hown1 hcell hb4 hc61 hc62 HLO h51 h52
      go_wp2_with fail
      go_loopw [26] (fun i wr => ∃ j : Nat, j ≤ zss.length ∧ i = .int .i64 j ∧ Hid (Own wr w3.heap.size 3 (.slice (some ⟨g, 0, none⟩) h c6) (sureF z0 (zss.take j))) ∧ Hid (Below w3.heap.size w3 wr))
        (fun i _ => zss.length - (intOf i).toNat)
      case atStart => exact ⟨0, Nat.zero_le _, rfl, HO1, HB4⟩
      case round =>
        obtain ⟨j, hj, rfl, HO, HBr⟩ := hrel
        by_cases hlt : j < zss.length
        · obtain ⟨Aj, cj, ej, hij⟩ := HOV.out.ints.2 j hlt
          obtain ⟨ad', had, _, hcj⟩ := (HOV.out.below HBr.out).vals.at_ hlt
          obtain rfl : ad = ad' := by injection had
          have hlj : (zss.getD j []).length = h := HAL.out _ (by simp [List.getD, hlt])
          rw [ej, hlj] at hcj
          rw [hlj] at hij
          have HTK := hide (sureF_take z0 zss j hlt)
          have hsl : (sureF z0 (zss.take j)).length = h := by rw [sureF_length]; exact HL0.out
          have HIJ := hide hij
          have HLS := hide hsl
          clear ej hlj had hij hsl
          generalize zss.getD j [] = zj at *
          generalize sureF z0 (zss.take j) = s at *
          go_wp2_with fail
          obtain ⟨wo, rfl⟩ : ∃ wo : World, wo = wr := ⟨_, rfl⟩
          have HMX : Hid (mix s zj = mixAt s zj h) := hide (by unfold mix; rw [HLS.out])
          go_loopw [32] (fun i wi => ∃ k : Nat, k ≤ h ∧ i = .int .i64 k ∧ Hid (Own wi w3.heap.size 3 (.slice (some ⟨g, 0, none⟩) h c6) (mixAt s zj k)) ∧ Hid (Below w3.heap.size w3 wi))
            (fun i _ => h - (intOf i).toNat)
          case atStart => exact ⟨0, Nat.zero_le _, rfl, hide (by rw [mixAt_zero]; exact HO.out), HBr⟩
          case round =>
            obtain ⟨k, hk, rfl, HOk, HBk⟩ := hrel
            by_cases hlk : k < h
            · obtain ⟨adj, rfl, _, hcz⟩ := (HIJ.out.below HBk.out (Nat.le_refl _)).at_ hlk
              have hlen : (mixAt s zj k).length = h := by rw [mixAt_length]; exact HLS.out
              have hrw : wr.ownsRow w3.heap.size 3 1 (.slice (some ⟨g, 0, none⟩) h c6) h ((mixAt s zj k).map (Value.int .i64)) := by have := HOk.out; unfold Own at this; rw [hlen] at this; exact this
              have hco : wr.cell? ⟨g, k, none⟩ = some (.int .i64 (s.getD k 0)) := by
                rw [World.ownsRow.cellAt hrw k (by omega), List.getElem?_map, mixAt_at s zj k (by rw [HLS.out]; exact hlk)]; rfl
              have hfo : wr.frozen? ⟨g, k, none⟩ = false := World.ownsRow.frozenAt hrw k
              have HLN := hide hlen
              have HE := hide (fun e => mixAt_eq s zj k (by rw [HLS.out]; exact hlk) e)
              have HN := hide (fun e => mixAt_ne s zj k (by rw [HLS.out]; exact hlk) e)
              clear hlen hrw
              generalize s.getD k 0 = x at *
              generalize zj.getD k 0 = y at *
              by_cases e : y = x
              · have HE2 := hide (HE.out e)
                have hne : (y != x) = false := by simpa using e
                clear HE HN e
                go_wp2_with fail
                go_quiet (fail)
                go_wp2_with fail
                go_roundw
                case rel => exact ⟨k + 1, by omega, by go_num, hide (by rw [HE2.out]; exact HOk.out.drewN _), hide (below_drewN HBk.out _)⟩
                case measure => simp [intOf]; omega
              · have HN2 := hide (HN.out e)
                have hne : (y != x) = true := by simpa using e
                clear HE HN e
                go_wp2_with fail
                go_quiet (fail)
                have HOq := hide (HOk.out.drewN nq)
                have HBq := hide (below_drewN HBk.out nq)
                have hcoq : (wr.drewN nq).cell? ⟨g, k, none⟩ = some (.int .i64 x) := hco
                have hfoq : (wr.drewN nq).frozen? ⟨g, k, none⟩ = false := hfo
                clear hco hfo hcz
                generalize wr.drewN nq = wq at *
                go_wp2_with fail
                go_roundw
                case rel => exact ⟨k + 1, by omega, by go_num, hide (by rw [HN2.out]; exact HOq.out.stored HLN.out k (-1)), hide (HBq.out.setCell (p := ⟨g, k, none⟩) hg1 _)⟩
                case measure => simp [intOf]; omega
            · obtain rfl : k = h := by omega
              go_wp2_with fail
              go_roundw
              case rel => exact ⟨j + 1, by omega, by go_num, hide (by rw [HTK.out, HMX.out]; exact HOk.out), HBk⟩
              case measure => simp [intOf]; omega
        · rw [List.take_of_length_le (by omega)] at HO
          go_wp2_with fail
          go_ret2
          rw [HSL.out]
          have hsl : (sureF z0 zss).length = h := by rw [sureF_length]; exact HL0.out
          exact ⟨some ⟨g, 0, none⟩, c6, by rw [hsl]; rfl, by rw [hsl]; exact HC6.out.1, HC6.out.2, by rw [hsl]; exact HO.out.less (by have := HB3.out.size; omega), HB3.out.trans (HBr.out.mono HB3.out.size)⟩

/-- Between two numbers of one solution. -/
def SureRel (h g c : Nat) (Y : World) (base : Nat) (s zs : List Int) (k : Nat) (cnt : Value) (wr : World) : Prop :=
  ∃ v : Nat, k + v = h ∧ cnt = .int .i64 (v : Int) ∧ Hid (Own wr base 3 (.slice (some ⟨g, 0, none⟩) h c) (mixAt s zs v)) ∧ Hid (Turned g Y wr)
theorem fst_pz {u : Int} {cs : List Cl} (h : fstOk u cs = true) : pzOk u cs = true := by
  cases hp : pzOk u cs
  · rw [(fst_no hp).2] at h; cases h
  · rfl
theorem fst_len {h : Nat} {cs : List Cl} (ho : fstOk (h : Int) cs = true) : (fstL (h : Int) cs).length = h := by
  have hp := fst_pz ho
  have hh := (pzOk_parts hp).1
  rw [(fst_yes hp).2] at ho
  rw [(fst_yes hp).1]
  have h0 := of_decide_eq_true ho
  have hm : (solsL (fitAll cs) h).getD 0 [] ∈ solsL (fitAll cs) h := by simp [List.getD, h0]
  exact sols_get_len (by omega) _ hm

set_option maxHeartbeats 8000000 in
set_option maxRecDepth 100000 in
/-- The program's SureHeaps. -/
theorem SureHeaps_any (A : Option Addr) (n c B : Nat) (cs : List Cl) (u : Int) (w : World) (hr : Cls w B A n cs) (hB : B ≤ w.heap.size) (hn : n ≤ 17592186044416) :
    Calls Try.prog 21 #[.agg #[.int .i64 u, .slice A n c]] w (MadeR (surL u cs) (fstOk u cs) w) := by
  obtain rfl := hr.len
  have hb1 : Below w.heap.size w (w.alloc (.cells #[.int .i64 u, .slice A cs.length c] 31)) := (Below.refl _ _).alloc (Nat.le_refl _) _
  have hX := Bx.new w 31 (.int .i64 u) (.slice A cs.length c)
  have HF := hide (FirstSolution_any A cs.length c B cs u _ (hr.below hb1 hB) (Nat.le_trans hB hb1.size) hn)
  refine (callsIn_wide (n := 9)).1 ?_
  refine callsIn_of_wp_marks Try.func21 rfl trivial ?_
  simp only [Try.ntmps21, List.size_toArray, List.length_cons, List.length_nil, Nat.reduceAdd, Nat.reduceSub, Array.replicate_succ, Array.replicate_zero, List.push_toArray, List.append_toArray, List.nil_append, List.cons_append]
  gi_wp2
  refine ⟨trivial, (callsIn_wide.2 HF.out).mono ?_⟩; rintro e w2 ⟨A5, c5, rfl, h51, h52, hown, hb2⟩
  have hB2 := hb1.trans (hb2.mono hb1.size)
  have hX2 := (hX.next hb2).alloc (.cells #[.slice A5 (fstL u cs).length c5] 38)
  have hs2 : w.heap.size + 1 ≤ w2.heap.size := by have := hb2.size; simpa using this
  cases hg : fstOk u cs
  · have HSN := hide (sur_no hg)
    have HGN := hide hg
    have HB3 := hide (hB2.alloc hB2.size (.cells #[.slice A5 (fstL u cs).length c5] 38))
    clear hX hX2 hb1 hb2 hB2 hown h51 h52 HF hg
    gi_wp2
    simp only [bodyPostM, LeavesInM]
    refine ⟨.tuple #[.slice none 0 0, .bool false], ?_, ?_⟩
    · simp [results, Try.results21, go_sem]
    · show MadeR _ _ _ _ _
      rw [HSN.out, HGN.out]
      exact ⟨none, 0, rfl, Nat.le_refl _, by unfold maxLen; omega, Own.nil _ _ _, HB3.out⟩
  · obtain ⟨hh, h6, hck⟩ := pzOk_parts (fst_pz hg)
    obtain ⟨h, rfl⟩ := Int.eq_ofNat_of_zero_le (show 0 ≤ u by omega)
    have HSY := hide (sur_yes hg)
    have HGY := hide hg
    rw [Int.toNat_natCast] at HSY
    have hlz := fst_len hg
    have HLZ := hide hlz
    generalize fstL (h : Int) cs = z0 at *
    rw [hlz] at hown h51 hX2 ⊢
    obtain ⟨g, rfl, hg1, hg2⟩ := hown.head (by omega)
    have hO3 := One.made w2 38 (.slice (some ⟨g, 0, none⟩) h c5)
    have hown3 := (hown.alloc (.cells #[.slice (some ⟨g, 0, none⟩) h c5] 38)).less (base' := w.heap.size) hb1.size
    have hB3 := hB2.alloc hB2.size (.cells #[.slice (some ⟨g, 0, none⟩) h c5] 38)
    have hs3 : (w2.alloc (.cells #[.slice (some ⟨g, 0, none⟩) h c5] 38)).heap.size = w2.heap.size + 1 := by simp
    have hr3 := hr.below hB3 hB
    have hC5 := h52
    have hC6 := h51
    have hmf : ∀ (fn : Fn) (first cap : Array Value) (w : World), (Instr.makeFunc fn first cap).run Try.prog w = .ok (.func fn first cap) w := fun _ _ _ _ => rfl
    have x0 := hX2.c0
    have x1 := hX2.c1
    have hg4 : w.heap.size ≤ g := Nat.le_trans hb1.size hg1
    clear hX HF hg hlz hown hB2 hb2 hb1 hr
    gi_wp2
    generalize (w2.alloc (.cells #[.slice (some ⟨g, 0, none⟩) h c5] 38)) = w3 at *
    clear x0 x1 hX2
    refine wpIn_rangeSol A cs.length c B cs h rfl hr3 (Nat.le_trans hB hB3.size) (by omega) (by omega) (subs_ofS hck)
      (fun z W => One W w2.heap.size 38 (.slice (some ⟨g, 0, none⟩) h c5) ∧ Own W w.heap.size 3 (.slice (some ⟨g, 0, none⟩) h c5) (sureF z0 z) ∧ Below w.heap.size w W)
      (fun _ _ _ => False) ?_ (fun _ _ _ _ h _ => h) ⟨hO3, hown3, hB3⟩
      (fun v => { tmps := #[.agg #[.int .i64 (h : Int), .slice A cs.length c], .pointer (some ⟨w.heap.size, 0, none⟩), .slice none 0 0, .bool false, .pointer (some ⟨w2.heap.size, 0, none⟩), .bool true, v, undef, undef,
        .tuple #[.slice (some ⟨g, 0, none⟩) h c5, .bool true], .agg #[.int .i64 (h : Int), .slice A cs.length c], .tuple #[.slice (some ⟨g, 0, none⟩) h c5, .bool true], .slice (some ⟨g, 0, none⟩) h c5, .bool true, .bool true, .bool false,
        .agg #[.int .i64 (h : Int), .slice A cs.length c], .func (.func 28) #[.agg #[.int .i64 (h : Int), .slice A cs.length c]] #[], v,
        undef, undef, undef, undef, undef, undef, undef, undef, undef, undef, undef, undef, undef, undef, undef, undef, undef, undef], defers := [] }) ?assign ?body ?done ?stop
    · rintro z X Y ⟨h1, h2, h3⟩ hsd
      exact ⟨h1.below hsd.below (by omega), h2.keepB (fun g' hg' _ => by injection hg' with e; subst e; exact hsd.below.block _ (by show g < _; omega)), h3.trans (hsd.below.mono (by omega))⟩
    case assign =>
      intro l v W K hK
      gi_wp2
      exact hK
    case body =>
      rintro l z zs v X Y ⟨h1, h2, h3⟩ hX hsd hown hlen hpre
      obtain ⟨Av, cv, hv, _, _⟩ := hown.shape
      subst hv
      have hgy : ∃ gy, Av = some ⟨gy, 0, none⟩ ∧ X.heap.size ≤ gy ∧ gy < Y.heap.size := hown.head (by omega)
      obtain ⟨gy, rfl, hgy1, hgy2⟩ := hgy
      have hY1 := h1.below hsd.below (by omega)
      have hY2 := h2.keepB (w' := Y) (fun g' hg' _ => by injection hg' with e; subst e; exact hsd.below.block _ (by show g < _; omega))
      have hY3 := h3.trans (hsd.below.mono (by omega))
      have hsl : (sureF z0 z).length = h := by rw [sureF_length]; exact HLZ.out
      have HSS := hide (sureF_snoc z0 z zs)
      rw [hlen] at hown ⊢
      have HOY := hide hown
      have HY1 := hide hY1
      have HY2 := hide hY2
      have HY3 := hide hY3
      have HSL := hide hsl
      have HLN := hide hlen
      clear h1 h2 h3 hsd hown hpre hY1 hY2 hY3 hsl hlen
      generalize sureF z0 z = s at *
      gi_wp2
      gi_loopg [21] (h) (SureRel h g c5 Y w.heap.size s zs)
      case atStart => exact ⟨0, rfl, rfl, hide (by rw [mixAt_zero]; exact HY2.out), hide (Turned.refl _ _)⟩
      case round =>
        obtain ⟨k, hgk, rfl, HOk, HT⟩ := hrel
        have H1k := hide (HY1.out.same (w' := wr) (HT.out.oth _ (by omega)))
        by_cases hlk : k < h
        · have hlen : (mixAt s zs k).length = h := by rw [mixAt_length]; exact HSL.out
          have hrw : wr.ownsRow w.heap.size 3 1 (.slice (some ⟨g, 0, none⟩) h c5) h ((mixAt s zs k).map (Value.int .i64)) := by have := HOk.out; unfold Own at this; rw [hlen] at this; exact this
          have hco : wr.cell? ⟨g, k, none⟩ = some (.int .i64 (s.getD k 0)) := by
            rw [World.ownsRow.cellAt hrw k (by omega), List.getElem?_map, mixAt_at s zs k (by rw [HSL.out]; exact hlk)]; rfl
          have hfo : wr.frozen? ⟨g, k, none⟩ = false := World.ownsRow.frozenAt hrw k
          have hoy := HOY.out.keepB (w' := wr) (fun g' hg' _ => by injection hg' with e; subst e; exact HT.out.oth _ (by show gy ≠ g; omega))
          have hry : wr.ownsRow X.heap.size 3 1 (.slice (some ⟨gy, 0, none⟩) h cv) h (zs.map (Value.int .i64)) := by have := hoy; unfold Own at this; rw [HLN.out] at this; exact this
          have hcy : wr.cell? ⟨gy, k, none⟩ = some (.int .i64 (zs.getD k 0)) := by
            rw [World.ownsRow.cellAt hry k (by omega), List.getElem?_map]
            have : k < zs.length := by rw [HLN.out]; exact hlk
            simp [List.getD, this]
          have x0 := H1k.out.cell
          have HLE := hide hlen
          have HE := hide (fun e => mixAt_eq s zs k (by rw [HSL.out]; exact hlk) e)
          have HN := hide (fun e => mixAt_ne s zs k (by rw [HSL.out]; exact hlk) e)
          clear hlen hrw hoy hry
          generalize s.getD k 0 = x at *
          generalize zs.getD k 0 = y at *
          by_cases e : y = x
          · have HE2 := hide (HE.out e)
            have hne : (y != x) = false := by simpa using e
            clear HE HN e
            gi_wp2
            gi_roundg (gk - 1)
            case measure => omega
            case rel => exact ⟨k + 1, by omega, by go_num, hide (by rw [HE2.out]; exact HOk.out), HT⟩
          · have HN2 := hide (HN.out e)
            have hne : (y != x) = true := by simpa using e
            clear HE HN e
            gi_wp2
            gi_roundg (gk - 1)
            case measure => omega
            case rel => exact ⟨k + 1, by omega, by go_num, hide (by rw [HN2.out]; exact HOk.out.stored HLE.out k (-1)), hide (HT.out.set k _)⟩
        · obtain rfl : k = h := by omega
          have HMX : Hid (mix s zs = mixAt s zs k) := hide (by unfold mix; rw [HSL.out])
          have HKp := hide (show Kept B w3.heap.size (w3.heap.size + 4) Y wr from ⟨HT.out.below.mono (by omega), fun i hi1 hi2 => HT.out.oth _ (by omega)⟩)
          have HBB := hide (HY3.out.trans (HT.out.below.mono hg4))
          clear HT
          gi_wp2
          exact ⟨HKp.out, H1k.out, by rw [HSS.out, HMX.out]; exact HOk.out, HBB.out⟩
    case done =>
      rintro W ⟨h1, h2, h3⟩ hK
      have hc := h1.cell
      have hsl : (sureF z0 (solsL (fitAll cs) h)).length = h := by rw [sureF_length]; exact HLZ.out
      have HB := hide (h3.trans (below_putObj W (.deferred none) (show w.heap.size ≤ w3.heap.size by omega)))
      have HO := hide (h2.keepB (w' := W.putObj w3.heap.size (.deferred none)) (fun g' hg' _ => by injection hg' with e; subst e; exact World.putObj_heap_other (by show g ≠ _; omega)))
      have HLS := hide hsl
      clear h1 h2 h3 hsl
      gi_wp2
      refine ⟨by simp, .inl ⟨_, _, rfl, run_takeDeferred hK, ?_⟩⟩
      refine ⟨.tuple #[.slice (some ⟨g, 0, none⟩) h c5, .bool true], by simp [results, Try.results21, go_sem], ?_⟩
      show MadeR _ _ _ _ _
      rw [HSY.out]
      exact ⟨some ⟨g, 0, none⟩, c5, by rw [HLS.out, HGY.out], by rw [HLS.out]; exact hC6, hC5, by rw [HLS.out]; exact HO.out, HB.out⟩
    case stop =>
      rintro cd z W _ h _
      exact h.elim
end Go.Proofs.Ytmhnihdgggblmaa
