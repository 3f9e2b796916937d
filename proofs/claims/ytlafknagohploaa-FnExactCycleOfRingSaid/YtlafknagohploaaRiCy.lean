
/-
  THE RINGS OF ONE PERIOD, BOTH WAYS: CycleOfRing.
-/
import Derived.Test.YtlafknagohploaaWkI
import Derived.Test.YtlafknagohploaaRiE
import Derived.Test.YtlafknagohploaaSsA
namespace Go.Proofs.Ytlafknagohploaa
open Go.RowKit Go.Deep
set_option linter.unusedVariables false

/-- The rings of one period. -/
def cycL (zs : List Int) : List (List Int) := (List.range (perF zs)).map fun t => rit zs (leadF zs + t)
theorem cycL_length (zs : List Int) : (cycL zs).length = perF zs := by unfold cycL; rw [List.length_map, List.length_range]
theorem cycL_take_succ (zs : List Int) (k : Nat) (h : k < perF zs) : (cycL zs).take (k + 1) = (cycL zs).take k ++ [rit zs (leadF zs + k)] := by
  have e : (cycL zs)[k]'(by rw [cycL_length]; exact h) = rit zs (leadF zs + k) := by
    unfold cycL
    rw [List.getElem_map, List.getElem_range]
  rw [List.take_succ_eq_append_getElem (by rw [cycL_length]; exact h), e]
def cycRR (zs : List Int) : List (List Int) := if rgood zs then cycL zs else []
theorem size_le {zss : List (List Int)} {m : Nat} (h : ∀ z ∈ zss, z.length ≤ m) : sizeSS zss ≤ zss.length * m := by
  induction zss with
  | nil => simp [sizeSS]
  | cons z zs ih =>
    have h1 := h z (by simp)
    have h2 := ih (fun y hy => h y (by simp [hy]))
    unfold sizeSS at *
    rw [List.map_cons, List.sum_cons, List.length_cons, Nat.add_mul]
    omega
theorem cycRR_short (zs : List Int) : sizeSS (cycRR zs) ≤ 1048576 ∧ (cycRR zs).length ≤ 1048576 := by
  unfold cycRR
  split
  · rename_i hg
    have hmp := (cycF hg).2
    have h := size_le (zss := cycL zs) (m := 10) (fun z hz => by
      unfold cycL at hz
      rw [List.mem_map] at hz
      obtain ⟨t, _, rfl⟩ := hz
      rw [rit_length]
      exact (rgood_of hg).2.1)
    rw [cycL_length] at *
    omega
  · simp [sizeSS]

/-- Where the model's CycleOfRing stands. -/
def CyRel (zs : List Int) (w : World) (p f v : Value) (wr : World) : Prop :=
  ∃ t vs, t ≤ perF zs ∧ p = .int .i64 ((perF zs - t : Nat) : Int) ∧ OwnVs wr w.heap.size v vs ((cycL zs).take t) ∧ Own wr w.heap.size 3 f (rit zs (leadF zs + t)) ∧ (∀ b, f.ownBlock = some b → v.ownBlock ≠ some b) ∧ Below w.heap.size w wr

set_option maxRecDepth 100000 in
set_option maxHeartbeats 2000000 in
/-- The model's CycleOfRing. -/
theorem specCycleOfRing_any (A : Option Addr) (n c B : Nat) (zs : List Int) (w : World) (hr : Ints w B A n zs) (hB : B ≤ w.heap.size) (hn : n ≤ 17592186044416) :
    Calls Try.prog 21 #[.slice A n c] w (MadeSS (cycRR zs) (rgood zs) w) := by
  obtain rfl := hr.len
  cases hg : rgood zs
  · rw [show cycRR zs = [] from by simp [cycRR, hg]]
    go_enter Try.func21, Try.ntmps21
    go_wp2_with fail
    refine (riGood_any _ _ _ _ _ _ hr hn).mono ?_; rintro e w' ⟨rfl, rfl⟩; rw [hg]
    go_wp2_with fail
    go_ret2
    exact madeSS_none (Below.refl _ _)
  · rw [show cycRR zs = cycL zs from by simp [cycRR, hg]]
    obtain ⟨hg1, hg2, hg3⟩ := rgood_of hg
    obtain ⟨hcy, hmp⟩ := cycF hg
    have hp1 := hcy.pos
    have HR := hide hr
    have HW := hide hg3
    have HC := hide (riCycle_any A zs.length c B zs (leadF zs) (perF zs) w hr hB hg hcy hmp)
    have HL := hide (cycL_length zs)
    have HT := hide (fun k h => cycL_take_succ zs k h)
    have HO := hide (fun (A : Option Addr) (c t : Nat) (W : World) (h : Ints W W.heap.size A (rit zs t).length (rit zs t)) => l1Own_any A (rit zs t).length c W.heap.size (rit zs t) W h (Nat.le_refl _) (by rw [rit_length]; omega) (by rw [rit_length]; omega))
    have HSt := hide (fun (A : Option Addr) (c t : Nat) (W : World) (h : Ints W W.heap.size A (rit zs t).length (rit zs t)) => riStep_any A (rit zs t).length c W.heap.size (rit zs t) W h (Nat.le_refl _) (by rw [rit_length]; omega) (by rw [rit_length]; omega) (rit_within hg3 t))
    clear hr hcy hg3
    go_enter Try.func21, Try.ntmps21
    go_wp2_with fail
    refine (riGood_any _ _ _ _ _ _ HR.out hn).mono ?_; rintro e w' ⟨rfl, rfl⟩; rw [hg]
    go_wp2_with fail
    refine HC.out.mono ?_; rintro e w1 ⟨rfl, hb1⟩
    have B1 := hide hb1
    have hs1 := hb1.size
    go_wp2_with fail
    refine (riPlay_any A zs.length c B zs (leadF zs) w1 (HR.out.below hb1 hB) (by omega) (by omega) (by omega) HW.out (by omega)).mono ?_
    rintro e w2 ⟨g2, c2, rfl, _, _, _, _, hown2, hb2⟩
    have V2 := hide (hown2.less hs1)
    have B2 := hide (below_next B1.out hb2)
    clear hown2 hb2 hb1 B1
    go_wp2_with fail
    go_simp
    go_loopw [5, 6, 7] (CyRel zs w) (fun p _ _ _ => (intOf p).toNat)
    case atStart => exact ⟨0, [], Nat.zero_le _, rfl, OwnVs.nil _ _, V2.out, (fun b _ h => by cases h), B2.out⟩
    case round =>
      clear V2 B2
      obtain ⟨t, vs, ht, rfl, hv, hf, hd, hb⟩ := hrel
      have HD := hide hd
      have BB := hide hb
      have hsb := hb.size
      obtain ⟨A3, c3, rfl, _, _⟩ := hf.shape
      obtain ⟨A7, c7, rfl, h71, h72⟩ := hv.shape
      have FF := hide hf
      have VV := hide hv
      clear hb hv hf hd
      by_cases hlt : t < perF zs
      · obtain ⟨q, hq⟩ : ∃ q, q = perF zs - t := ⟨_, rfl⟩
        have hq1 : 0 < q := by omega
        have hq2 : q ≤ 20000 := by omega
        have HQ := hide (show q - 1 = perF zs - (t + 1) by omega)
        rw [← hq]
        clear hq
        have hll : ((cycL zs).take t).length < 1000000 := by rw [List.length_take, HL.out]; omega
        have HTt := hide (HT.out t hlt)
        generalize (cycL zs).take t = fs at *
        go_wp2_with fail
        refine (HO.out A3 c3 (leadF zs + t) wr FF.out.ints).mono ?_
        rintro e w4 ⟨g4, c4, rfl, _, _, _, _, hown4, hb4⟩
        have HK := hide VV.out.blks
        have V4 := hide (VV.out.below hb4)
        have F4 := hide (FF.out.below hb4)
        have U4 := hide hown4
        have B4 := hide (below_next BB.out hb4)
        have hs4 := B4.out.size
        clear hown4 hb4
        go_wp2_with (at_builtin; refine wpList_app_row rfl (.tmp 23) (.tmp 26) rfl w.heap.size wr.heap.size (.slice A7 fs.length c7) (.slice (some ⟨g4, 0, none⟩) (rit zs (leadF zs + t)).length c4) vs fs _ rfl V4.out U4.out HK.out hsb _ rfl hs4 hll ?_; intro v5 w5 hV5 hb5 ho5; have V5 := hide hV5; have B5 := hide (B4.out.trans hb5); have F5 := hide (F4.out.keepB fun g hg hlt => ho5 g hlt (fun e => HD.out g hg e.symm)); clear hV5 hb5 ho5)
        refine (HSt.out A3 c3 (leadF zs + t) w5 F5.out.ints).mono ?_
        rintro e w6 ⟨g6, c6, rfl, hg6, _, _, _, hown6, hb6⟩
        have V6 := hide (V5.out.below hb6)
        have F6 := hide (hown6.less B5.out.size)
        have D6 : Hid (∀ b, (Value.slice (some ⟨g6, 0, none⟩) (rstep (rit zs (leadF zs + t))).length c6).ownBlock = some b → v5.ownBlock ≠ some b) := hide fun b h1 h2 => by
          have h1' : g6 = b := by injection h1
          have := (V5.out.blk h2).2
          omega
        have B6 := hide (below_next B5.out hb6)
        clear hown6 hb6
        go_wp2_with fail
        go_simp
        go_roundw
        case rel => exact ⟨t + 1, _, by omega, by rw [← HQ.out]; congr 1; omega, by rw [HTt.out]; exact V6.out, F6.out, D6.out, B6.out⟩
        case measure => simp [intOf]; omega
      · obtain rfl : t = perF zs := by omega
        rw [Nat.sub_self]
        have e : (cycL zs).take (perF zs) = cycL zs := List.take_of_length_le (by rw [HL.out]; exact Nat.le_refl _)
        rw [e] at VV h71
        rw [e]
        clear e
        generalize cycL zs = fs at *
        go_wp2_with fail
        go_ret2
        exact ⟨A7, c7, vs, rfl, h71, h72, VV.out, BB.out⟩
end Go.Proofs.Ytlafknagohploaa
