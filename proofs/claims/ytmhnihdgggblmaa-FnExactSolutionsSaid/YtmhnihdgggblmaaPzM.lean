
/-
  ALL HIDDEN HEAPS THAT FIT, THE MODEL's WAY: pzLook, pzAll.
-/
import Derived.Test.YtmhnihdgggblmaaPzT
import Derived.Test.YtmhnihdgggblmaaPzSP
import Derived.Test.YtmhnihdgggblmaaSsB
import Derived.Test.YtmhnihdgggblmaaOrd
namespace Go.Proofs.Ytmhnihdgggblmaa
open Go.RowKit Go.Deep
set_option linter.unusedVariables false

/-- From one world to another the list of lists in box ob has become v', which is vs', zss'; all else that was there is as it was, the list's own row apart. -/
structure LookR (ob : Nat) (w : World) (v : Value) (w' : World) (v' : Value) (vs' : List Value) (zss' : List (List Int)) : Prop where
  one : One w' ob 26 v'
  own : OwnVs w' (ob + 1) v' vs' zss'
  below : Below ob w w'
  oth : ∀ g, g < w.heap.size → g ≠ ob → some g ≠ v.ownBlock → w'.heap[g]? = w.heap[g]?
  blk : v'.ownBlock = v.ownBlock ∨ ∃ g, v'.ownBlock = some g ∧ w.heap.size ≤ g
theorem LookR.step {ob : Nat} {w w' : World} {v : Value} {vs : List Value} {zss : List (List Int)} (h1 : One w ob 26 v) (h2 : OwnVs w (ob + 1) v vs zss) (hb : Below w.heap.size w w') : LookR ob w v w' v vs zss :=
  ⟨h1.below hb h1.lt, h2.below hb, hb.mono (Nat.le_of_lt h1.lt), fun g hg _ _ => hb.block g hg, .inl rfl⟩
theorem LookR.trans {ob : Nat} {w w1 w2 : World} {v v1 v2 : Value} {vs1 vs2 : List Value} {z1 z2 : List (List Int)} (h1 : LookR ob w v w1 v1 vs1 z1) (h2 : LookR ob w1 v1 w2 v2 vs2 z2) : LookR ob w v w2 v2 vs2 z2 := by
  have hs := h1.below.size
  refine ⟨h2.one, h2.own, h1.below.trans h2.below, fun g hg h0 hv => ?_, ?_⟩
  · refine (h2.oth g (by omega) h0 ?_).trans (h1.oth g hg h0 hv)
    rcases h1.blk with e | ⟨g1, e, hg1⟩
    · rw [e]; exact hv
    · rw [e]; intro h; injection h with h; omega
  · rcases h2.blk with e | ⟨g2, e, hg2⟩
    · rcases h1.blk with e1 | ⟨g1, e1, hg1⟩
      · exact .inl (e.trans e1)
      · exact .inr ⟨g1, e.trans e1, hg1⟩
    · exact .inr ⟨g2, e, by omega⟩
/-- A row of another's own persists. -/
theorem LookR.row {ob K : Nat} {w w' : World} {v v' u : Value} {vs' : List Value} {z' : List (List Int)} {zs : List Int} (h : LookR ob w v w' v' vs' z') (hu : Own w K 3 u zs) (hK : ∀ b, v.ownBlock = some b → b < K) (hob : ob < K) : Own w' K 3 u zs :=
  hu.keepB fun g hg hlt => h.oth g hlt (by have := (hu.blk hg).1; omega) (fun e => by have := hK g e.symm; have := (hu.blk hg).1; omega)

theorem lookL_len (fit : List Int → Bool) (m : Nat) : ∀ b, (lookL fit m b).length ≤ 6 ^ m := by
  induction m with
  | zero => intro b; unfold lookL; split <;> simp
  | succ m ih =>
    intro b
    rw [lookL_succ]
    have : ∀ d, (partL fit m b d).length ≤ d * 6 ^ m := by
      intro d
      induction d with
      | zero => simp [partL_zero]
      | succ d ihd => rw [partL_succ, List.length_append, Nat.succ_mul]; have := ih (b ++ [(d : Int)]); omega
    have := this 6
    rw [Nat.pow_succ]
    omega
theorem partL_len (fit : List Int → Bool) (m : Nat) (b : List Int) (d : Nat) : (partL fit m b d).length ≤ d * 6 ^ m := by
  induction d with
  | zero => simp [partL_zero]
  | succ d ihd => rw [partL_succ, List.length_append, Nat.succ_mul]; have := lookL_len fit m (b ++ [(d : Int)]); omega
theorem own_nilc {w : World} {base : Nat} {e : TypeId} {A : Option Addr} {n c : Nat} {zs : List Int} (h : Own w base e (.slice A n c) zs) : A = none → n = 0 ∧ c = 0 := by
  rintro rfl
  rcases h.form with ⟨h1, _⟩ | ⟨g, c', h1, _⟩
  · injection h1 with _ h2 h3; exact ⟨h2, h3⟩
  · injection h1 with h1; cases h1

theorem own_len {w : World} {base : Nat} {e : TypeId} {A : Option Addr} {n c : Nat} {zs : List Int} (h : Own w base e (.slice A n c) zs) : n = zs.length := by
  rcases h.form with ⟨h1, h2⟩ | ⟨g, c', h1, _⟩
  · injection h1 with _ h3 _; rw [h2, h3]; rfl
  · injection h1 with _ h3 _
/-- WHAT pzLook LEAVES. -/
def LookPost (ob : Nat) (v : Value) (zss : List (List Int)) (w : World) (e : Ending) (w' : World) : Prop :=
  e = .returned (.tuple #[]) ∧ ∃ v' vs', LookR ob w v w' v' vs' zss

set_option maxHeartbeats 8000000 in
set_option maxRecDepth 100000 in
theorem pzLook_any (A : Option Addr) (n c B : Nat) (cs : List Cl) (ob h : Nat) (hBo : B ≤ ob) (hh : 2 ≤ h ∧ h ≤ 4) (hn : n ≤ 1000000) (hs : ∀ (j : Nat) (hj : j < cs.length), subOk h cs[j].x0 cs[j].x1 cs[j].x2) (m : Nat) :
    ∀ (Ab : Option Addr) (nb cb K : Nat) (bs : List Int) (v : Value) (vs : List Value) (zss : List (List Int)) (w : World), Cls w B A n cs → One w ob 26 v → OwnVs w (ob + 1) v vs zss →
      Own w K 3 (.slice Ab nb cb) bs → ((∀ i, i < zss.length → ∀ b, (vs.getD i undef).ownBlock = some b → b < K) ∧ ∀ b, v.ownBlock = some b → b < K) → ob < K → bs.length + m = h → within 0 5 bs = true → zss.length + 6 ^ m ≤ 100000 →
      Calls Try.prog 34 #[.int .i64 (m : Int), .slice A n c, .slice Ab nb cb, .pointer (some ⟨ob, 0, none⟩)] w (LookPost ob v (zss ++ lookL (fitAll cs) m bs) w) := by
  induction m with
  | zero =>
    intro Ab nb cb K bs v vs zss w hC h1 h2 hu hK hobK hlen hw hz
    obtain rfl := hC.len
    have hnl := own_len hu
    have hui := hu.ints
    rw [← hnl] at hui
    have hz' : hidOk bs = true := by unfold hidOk; rw [hw, decide_eq_true (show 2 ≤ bs.length ∧ bs.length ≤ 4 from by omega)]; rfl
    have hbl : bs.length = h := by omega
    have HF := hide (fun W (hb : Below w.heap.size w W) (j : Nat) (hj : j < cs.length) => pzFits_any Ab nb cb w.heap.size bs cs[j] W (hui.below hb (Nat.le_refl _)) hb.size hz' (by rw [hnl, hbl]; exact hs j hj))
    have HLS : Hid (lookL (fitAll cs) 0 bs = if fitAll cs bs then [bs] else []) := hide rfl
    have H1 := hide h1
    have H2 := hide h2
    have HU := hide hu
    have HKK := hide hK
    have HC := hide hC
    have hlo : ob < w.heap.size := h1.lt
    have HZ := hide (show zss.length < 1000000 from by omega)
    clear hw h1 h2 hu hK hC hlen hz hz' hbl hs hnl hui
    rw [show ((0 : Nat) : Int) = 0 from rfl]
    go_enter Try.func34, Try.ntmps34
    go_wp2_with fail
    go_loopw [29] (fun i wr => ∃ k : Nat, k ≤ cs.length ∧ i = .int .i64 k ∧ Hid (∀ (j : Nat) (hj : j < cs.length), j < k → fitB bs cs[j] = true) ∧ Below w.heap.size w wr)
      (fun i _ => cs.length - (intOf i).toNat)
    case atStart => exact ⟨0, Nat.zero_le _, rfl, hide (fun j _ hj => by omega), Below.refl _ _⟩
    case round =>
      obtain ⟨k, hk, rfl, Hall, hb⟩ := hrel
      have hsz := hb.size
      by_cases hlt : k < cs.length
      · obtain ⟨b, off, rfl, hab, hc0, hc1, hc2, hc3⟩ := (HC.out.below hb (by omega)).at_ hlt hlt
        have HB1 := hide (hb.alloc hsz (.cells #[.int .i64 cs[k].x0, .int .i64 cs[k].x1, .int .i64 cs[k].x2, .int .i64 cs[k].x3] 54))
        have HV := hide (fun W (hb : Below w.heap.size w W) => HF.out W hb k hlt)
        cases hf : fitB bs cs[k]
        · have HN := hide (fitAll_not k hlt hf)
          rw [hf] at HV
          clear hf
          go_wp2_with fail
          refine (HV.out _ HB1.out).mono ?_; rintro e w2 ⟨rfl, hb2⟩
          have HB2 := hide (HB1.out.trans (hb2.mono HB1.out.size))
          clear hb2
          go_wp2_with fail
          refine bodyPost_ret (results_none rfl _ _ _) rfl ⟨rfl, v, vs, by rw [HLS.out, HN.out, if_neg (by simp), List.append_nil]; exact LookR.step H1.out H2.out HB2.out⟩
        · have HO := hide hf
          rw [hf] at HV
          clear hf
          go_wp2_with fail
          refine (HV.out _ HB1.out).mono ?_; rintro e w2 ⟨rfl, hb2⟩
          have HB2 := hide (HB1.out.trans (hb2.mono HB1.out.size))
          clear hb2
          go_wp2_with fail
          go_roundw
          case rel => exact ⟨k + 1, by omega, by go_num, hide (fun j hj hjk => if e : j = k then by subst e; exact HO.out else Hall.out j hj (by omega)), HB2.out⟩
          case measure => simp [intOf]; omega
      · have HY := hide (fitAll_of (cs := cs) (zs := bs) (fun j hj => Hall.out j hj (by omega)))
        have HB := hide hb
        have hob1 := (H1.out.below hb hlo).cell
        have H1w := hide (H1.out.below hb hlo)
        have H2w := hide (H2.out.below hb)
        have HUw := hide (HU.out.below hb)
        clear hb
        go_wp2_with (at_builtin; refine wpList_app_rowB rfl _ _ rfl (ob + 1) K v (.slice Ab nb cb) vs zss bs rfl H2w.out HUw.out HKK.out (by omega) _ rfl (by omega) HZ.out ?_; intro v' w' hown' hb' hoth' hblk'; obtain ⟨A', c', rfl, _, _⟩ := hown'.shape; have hnv : some ob ≠ v.ownBlock := (fun e => by have := (H2w.out.blk e.symm).1; omega); have O1 : One w' ob 26 v := H1w.out.same (hoth' ob H1w.out.lt hnv); have o1 := O1.cell; have o2 := O1.free)
        have hw1 := hb'.size
        have O2 := O1.put (.slice A' (zss ++ [bs]).length c')
        have hp := hown'.keep (w' := w'.setCell ⟨ob, 0, none⟩ (.slice A' (zss ++ [bs]).length c')) fun g hg _ => Below.heap_setCell _ _ _ _ (by simp; omega)
        have HL := hide (show LookR ob w v (w'.setCell ⟨ob, 0, none⟩ (.slice A' (zss ++ [bs]).length c')) (.slice A' (zss ++ [bs]).length c') (vs ++ [.slice Ab nb cb]) (zss ++ [bs]) from
          ⟨O2, hp, ((HB.out.mono (Nat.le_of_lt hlo)).trans (hb'.mono (by omega))).setCell (p := ⟨ob, 0, none⟩) (Nat.le_refl _) _,
            fun g hg h0 hv => (Below.heap_setCell _ _ _ _ (by simpa using h0)).trans ((hoth' g (by omega) hv).trans (HB.out.block g hg)),
            by rcases hblk' with e | ⟨g, e, hg⟩
               · exact .inl e
               · exact .inr ⟨g, e, by omega⟩⟩)
        clear hown' hb' hoth' hblk' hnv O1 o1 o2 hw1 O2 hp hob1
        rw [List.length_append] at HL
        refine bodyPost_ret (results_none rfl _ _ _) rfl ⟨rfl, _, _, by rw [HLS.out, HY.out, if_pos rfl]; exact HL.out⟩
  | succ m ih =>
    intro Ab nb cb K bs v vs zss w hC h1 h2 hu hK hobK hlen hw hz
    obtain rfl := hC.len
    have IH := hide ih
    clear ih
    have HPL := hide (fun d => partL_len (fitAll cs) m bs d)
    have HPS := hide (fun d => partL_succ (fitAll cs) m bs d)
    have HLS := hide (lookL_succ (fitAll cs) m bs)
    have hm4 : m ≤ 3 := by omega
    have h6 : 6 ^ (m + 1) = 6 ^ m * 6 := Nat.pow_succ 6 m
    have HZ := hide (show zss.length + 6 * 6 ^ m ≤ 100000 from by omega)
    have HWT := hide hw
    have H1 := hide h1
    have H2 := hide h2
    have HU := hide hu
    have HKK := hide hK
    have HC := hide hC
    have HLn := hide hlen
    obtain ⟨M, hM⟩ : ∃ M : Int, M = ((m + 1 : Nat) : Int) := ⟨_, rfl⟩
    rw [← hM]
    have hM0 : 0 < M := by omega
    have hms : M - 1 = (m : Int) := by omega
    have hM1 : M ≤ 4 := by omega
    clear hM
    clear hw h1 h2 hu hK hC hlen hz h6
    go_enter Try.func34, Try.ntmps34
    go_wp2_with fail
    go_loopw [8] (fun i wr => ∃ d : Nat, d ≤ 6 ∧ i = .int .i64 d ∧ ∃ v1 vs1, Hid (LookR ob w v wr v1 vs1 (zss ++ partL (fitAll cs) m bs d)))
      (fun i _ => 6 - (intOf i).toNat)
    case atStart => exact ⟨0, by omega, rfl, v, vs, hide (by rw [partL_zero, List.append_nil]; exact LookR.step H1.out H2.out (Below.refl _ _))⟩
    case round =>
      obtain ⟨d, hd, rfl, v1, vs1, HR⟩ := hrel
      by_cases hlt : d < 6
      · have hsz := HR.out.below.size
        have hob := HR.out.one.lt
        have HRow := hide (HR.out.row HU.out HKK.out.2 hobK)
        have hnb : nb ≤ 4 := by
          have := own_len HRow.out
          have := HLn.out
          omega
        have HLO := hide (l1Own_all Ab nb cb wr.heap.size bs wr (own_len HRow.out ▸ HRow.out.ints) (Nat.le_refl _) (by omega) (own_nilc HRow.out))
        have HBL := hide (show bs.length < 1000000 from by have := HLn.out; omega)
        have HIH := hide (fun (A2 : Option Addr) (c2 : Nat) (w2 : World) (hown2 : Own w2 wr.heap.size 3 (.slice A2 (bs ++ [(d : Int)]).length c2) (bs ++ [(d : Int)])) (hb : Below wr.heap.size wr w2) =>
          IH.out A2 (bs ++ [(d : Int)]).length c2 wr.heap.size (bs ++ [(d : Int)]) v1 vs1 (zss ++ partL (fitAll cs) m bs d) w2 (HC.out.below (HR.out.below.trans (hb.mono (Nat.le_of_lt hob))) hBo) (HR.out.one.below hb hob) (HR.out.own.below hb) hown2 HR.out.own.blks hob
            (by have := HLn.out; rw [List.length_append, List.length_singleton]; omega) (within_of fun k hk => by
              rw [List.length_append, List.length_singleton] at hk
              by_cases e : k < bs.length
              · rw [List.getElem_append_left e]; exact within_get HWT.out k e
              · rw [List.getElem_append_right (by omega)]; simp; omega)
            (by have := HPL.out d; have := HZ.out; rw [List.length_append]; have : d * 6 ^ m + 6 ^ m ≤ 6 * 6 ^ m := by rw [← Nat.succ_mul]; exact Nat.mul_le_mul_right _ (by omega)
                omega))
        go_wp2_with fail
        refine HLO.out.mono ?_
        rintro e w1 ⟨u1, rfl, hown1, hb1⟩
        have s1 := hb1.size
        go_wp2_with (at_builtin; refine wpList_app_int rfl _ _ 38 3 rfl Try.underlying38 infoInt wr.heap.size _ bs rfl hown1 _ _ rfl s1 HBL.out ?_; intro u2 w2 hown2 hb2)
        obtain ⟨A2, c2, rfl, _, _⟩ := hown2.shape
        refine (HIH.out A2 c2 w2 hown2 (hb1.trans hb2)).mono ?_
        rintro e w3 ⟨rfl, v3, vs3, hl⟩
        have HR3 := hide (HR.out.trans ((LookR.step HR.out.one HR.out.own (hb1.trans hb2)).trans hl))
        clear hl hown1 hown2 hb1 hb2 HIH HLO
        go_wp2_with fail
        go_roundw
        case rel => exact ⟨d + 1, by omega, by go_num, v3, vs3, hide (by rw [HPS.out, ← List.append_assoc]; exact HR3.out)⟩
        case measure => simp [intOf]; omega
      · obtain rfl : d = 6 := by omega
        go_wp2_with fail
        refine bodyPost_ret (results_none rfl _ _ _) rfl ⟨rfl, v1, vs1, by rw [HLS.out]; exact HR.out⟩

/-- A list of lists that the call made. -/
def MadeVs (zss : List (List Int)) (w : World) (e : Ending) (w' : World) : Prop :=
  ∃ A c vs, e = .returned (.slice A zss.length c) ∧ zss.length ≤ c ∧ c ≤ maxLen ∧ OwnVs w' w.heap.size (.slice A zss.length c) vs zss ∧ Below w.heap.size w w'

set_option maxRecDepth 100000 in
/-- The model's pzAll. -/
theorem pzAll_any (A : Option Addr) (n c B : Nat) (cs : List Cl) (h : Nat) (w : World) (hr : Cls w B A n cs) (hB : B ≤ w.heap.size) (hn : n ≤ 1000000) (hh : 2 ≤ h ∧ h ≤ 4) (hs : ∀ (j : Nat) (hj : j < cs.length), subOk h cs[j].x0 cs[j].x1 cs[j].x2) :
    Calls Try.prog 24 #[.int .i64 (h : Int), .slice A n c] w (MadeVs (solsL (fitAll cs) h) w) := by
  have h6 : 6 ^ h ≤ 1296 := Nat.le_trans (Nat.pow_le_pow_right (by omega) hh.2) (by decide)
  have hb1 : Below w.heap.size w (w.alloc (.cells #[.slice none 0 0] 26)) := (Below.refl _ _).alloc (Nat.le_refl _) _
  have HP := hide (pzLook_any A n c B cs w.heap.size h hB hh hn hs h none 0 0 (w.heap.size + 1) [] (.slice none 0 0) [] [] (w.alloc (.cells #[.slice none 0 0] 26)) (hr.below hb1 hB) (One.made _ _ _) (OwnVs.nil _ _) (Own.nil _ _ _)
    ⟨fun i hi => absurd hi (by simp), fun b hb => by cases hb⟩ (by omega) (by simp) rfl (by simp; omega))
  rw [List.nil_append] at HP
  have HB := hide hb1
  have HE : Hid (solsL (fitAll cs) h = lookL (fitAll cs) h []) := hide rfl
  clear hb1 hr h6
  go_enter Try.func24, Try.ntmps24
  go_wp2_with fail
  refine HP.out.mono ?_
  rintro e w2 ⟨rfl, v2, vs2, hl⟩
  obtain ⟨A2, c2, rfl, hc1, hc2⟩ := hl.own.shape
  have hcell := hl.one.cell
  have HL := hide hl
  clear hl HP
  go_wp2_with fail
  go_ret
  exact ⟨A2, c2, vs2, by rw [HE.out]; rfl, by rw [HE.out]; exact hc1, hc2, by rw [HE.out]; exact HL.out.own.less (by omega), HB.out.trans HL.out.below⟩
end Go.Proofs.Ytmhnihdgggblmaa
