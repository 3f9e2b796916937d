import Derived.Test.YtediapekgbekeaaMg20

/-
  THE STONES TO MOVE, BOTH WAYS.
-/
namespace Go.Proofs.Ytediapekgbekeaa
open Go.RowKit Go.Deep
set_option linter.unusedVariables false

def gainN (zs : List Int) : Int := if eqOk zs then tot (manyL (shareEq zs) zs) else 0
theorem gainN_no {zs : List Int} (h : eqOk zs = false) : gainN zs = 0 := by simp [gainN, h]
theorem gainN_yes {zs : List Int} (h : eqOk zs = true) : gainN zs = tot (manyL (shareEq zs) zs) := by simp [gainN, h]
theorem manyL_bd {s : Int} {zs : List Int} (h : good zs = true) (h0 : 0 ≤ s) : within (-1000000000) 1000000000 (manyL s zs) = true :=
  within_of fun k hk => by
    rw [manyL_length] at hk
    rw [manyL_get s zs k hk]
    have := good_get h k hk
    omega

/-- The model's StonesToMove. -/
theorem specStonesToMove_any (A : Option Addr) (n c B : Nat) (zs : List Int) (w : World) (hr : Ints w B A n zs) (hB : B ≤ w.heap.size) (hn : n ≤ 17592186044416) :
    Calls Try.prog 9 #[.slice A n c] w fun e w' => e = .returned (.tuple #[.int .i64 (gainN zs), .bool (eqOk zs)]) ∧ Below w.heap.size w w' := by
  obtain rfl := hr.len
  cases hq : eqOk zs
  · rw [gainN_no hq]
    have hqb : eqOk zs = false := hq
    go_enter Try.func9, Try.ntmps9
    go_wp2_with fail
    refine (hpEqual_any _ _ _ _ _ _ hr hn).mono ?_; rintro e w' ⟨rfl, rfl⟩; rw [hqb]
    go_wp2_with fail
    go_ret2
    exact ⟨rfl, Below.refl _ _⟩
  · rw [gainN_yes hq]
    have hqb : eqOk zs = true := hq
    have hg := eqOk_good hqb
    have hle := (good_of hg).2.1
    have hs0 := (share_bd hg).1
    rw [← shareEq_yes hqb] at hs0
    have HSm := hide (manyL_bd hg hs0)
    have HO := hide (over_length zs)
    have HL := hide (manyL_length (shareEq zs) zs)
    have HSh := hide (shareEq_yes hqb)
    have HG := hide hg
    clear hg
    have HT := hide (fun k (h : k < (manyL (shareEq zs) zs).length) => tot_take_succ (manyL (shareEq zs) zs) k h)
    have HM := hide (fun k (h : k < zs.length) (h' : k < (manyL (shareEq zs) zs).length) => show (manyL (shareEq zs) zs)[k] = _ from manyL_get (shareEq zs) zs k h)
    generalize manyL (shareEq zs) zs = L at *
    go_enter Try.func9, Try.ntmps9
    go_wp2_with fail
    refine (hpEqual_any _ _ _ _ _ _ hr hn).mono ?_; rintro e w' ⟨rfl, rfl⟩; rw [hqb]
    go_wp2_with fail
    refine (hpOver_any _ _ _ _ _ _ hr hB HG.out).mono ?_
    rintro e w1 ⟨A', c', rfl, h1, h2, hown, hb⟩
    have hx := hown.ints
    rw [HO.out] at hx ⊢
    go_wp2_with fail
    go_loop [4, 13] (fun s i => ∃ k : Nat, k ≤ zs.length ∧ i = .int .i64 k ∧ s = .int .i64 (tot (L.take k)))
      (fun _ i => zs.length - (intOf i).toNat)
    case atStart => exact ⟨0, Nat.zero_le _, rfl, rfl⟩
    case round =>
      obtain ⟨k, hk, rfl, rfl⟩ := hrel
      have hts := tot_small HSm.out (by rw [HL.out]; omega) k
      by_cases hlt : k < zs.length
      · have hkL : k < L.length := by rw [HL.out]; exact hlt
        have Hs := hide (HT.out k hkL)
        have hm := HM.out k hlt hkL
        have hk2 := within_get HSm.out k hkL
        have hts1 := tot_small HSm.out (by rw [HL.out]; omega) (k + 1)
        rw [Hs.out, hm] at hts1
        rw [hm] at hk2
        rw [HSh.out] at hm hts1 hk2
        obtain ⟨ad, rfl, hab, hcell⟩ := hx.at_ hlt
        rw [show (over zs).getD k 0 = zs[k] - tot zs / zs.length from by simp [List.getD, List.getElem?_eq_getElem (show k < (over zs).length by rw [HO.out]; exact hlt), over_get zs k hlt]] at hcell
        have HH := hide (hm.trans (Int.max_comm _ _))
        rw [Int.max_comm] at hts1 hk2
        clear hm
        generalize zs[k] - tot zs / zs.length = d at *
        go_wp2_with fail
        refine (l1Most_any _ _ _).mono ?_; rintro e w' ⟨rfl, rfl⟩
        go_wp2_with fail
        go_round
        case rel => exact ⟨k + 1, by omega, by go_num, by rw [Hs.out, HH.out]⟩
        case measure => simp [intOf]; omega
      · go_wp2
        go_ret2
        exact ⟨by rw [List.take_of_length_le (by rw [HL.out]; omega)]; rfl, hb⟩

/-- The program's StonesToMove. -/
theorem StonesToMove_any (A : Option Addr) (n c B : Nat) (zs : List Int) (w : World) (hr : Ints w B A n zs) (hB : B ≤ w.heap.size) (hn : n ≤ 17592186044416) :
    Calls Try.prog 8 #[.slice A n c] w fun e w' => e = .returned (.tuple #[.int .i64 (gainN zs), .bool (eqOk zs)]) ∧ Below w.heap.size w w' := by
  obtain rfl := hr.len
  cases hq : eqOk zs
  · rw [gainN_no hq]
    have HQ := hide (fun W (h1 : Ints W B A zs.length zs) (h2 : B ≤ W.heap.size) => planFor_no A zs.length c B zs W h1 h2 hn hq)
    clear hq
    go_enter Try.func8, Try.ntmps8
    go_wp2_with fail
    refine (HQ.out _ hr hB).mono ?_
    rintro e w1 ⟨rfl, hb1⟩
    go_wp2_with fail
    go_ret2
    exact ⟨rfl, (hb1.alloc hb1.size _)⟩
  · rw [gainN_yes hq]
    have HQ := hide (fun W (h1 : Ints W B A zs.length zs) (h2 : B ≤ W.heap.size) => planFor_yes A zs.length c B zs W h1 h2 hn hq)
    have hg := eqOk_good hq
    have hle := (good_of hg).2.1
    have hsb := share_bd hg
    rw [← shareEq_yes hq] at hsb
    have HSm := hide (manyL_bd hg hsb.1)
    have HL := hide (manyL_length (shareEq zs) zs)
    have HV := hide (fun i (h : i < zs.length) => good_get hg i h)
    clear hg hq
    have HT := hide (fun k (h : k < (manyL (shareEq zs) zs).length) => tot_take_succ (manyL (shareEq zs) zs) k h)
    have HM := hide (fun k (h : k < zs.length) (h' : k < (manyL (shareEq zs) zs).length) => show (manyL (shareEq zs) zs)[k] = _ from manyL_get (shareEq zs) zs k h)
    unfold Planned at HQ
    generalize nextF (shareEq zs) zs = f at *
    generalize nextT (shareEq zs) zs = t at *
    generalize nextC (shareEq zs) zs = m at *
    generalize manyL (shareEq zs) zs = L at *
    generalize shareEq zs = s at *
    go_enter Try.func8, Try.ntmps8
    go_wp2_with fail
    refine (HQ.out _ hr hB).mono ?_
    rintro e w1 ⟨g, cg, rfl, hg1, hg2, hc1, hc2, hown1, hb1⟩
    clear HQ
    have s1 := hb1.size
    go_wp2_with fail
    have hA : Below w1.heap.size w1 (w1.alloc (.cells #[.int .i64 f, .int .i64 t, .int .i64 m, .slice (some ⟨g, 0, none⟩) zs.length cg, .int .i64 s] 46)) := (Below.refl _ _).alloc (Nat.le_refl _) _
    have k0 : ((w1.alloc (.cells #[.int .i64 f, .int .i64 t, .int .i64 m, .slice (some ⟨g, 0, none⟩) zs.length cg, .int .i64 s] 46)).cell? ⟨w1.heap.size, 0, none⟩ = some (.int .i64 f) ∧ (w1.alloc (.cells #[.int .i64 f, .int .i64 t, .int .i64 m, .slice (some ⟨g, 0, none⟩) zs.length cg, .int .i64 s] 46)).cell? ⟨w1.heap.size, 1, none⟩ = some (.int .i64 t) ∧ (w1.alloc (.cells #[.int .i64 f, .int .i64 t, .int .i64 m, .slice (some ⟨g, 0, none⟩) zs.length cg, .int .i64 s] 46)).cell? ⟨w1.heap.size, 2, none⟩ = some (.int .i64 m) ∧ (w1.alloc (.cells #[.int .i64 f, .int .i64 t, .int .i64 m, .slice (some ⟨g, 0, none⟩) zs.length cg, .int .i64 s] 46)).cell? ⟨w1.heap.size, 3, none⟩ = some (.slice (some ⟨g, 0, none⟩) zs.length cg) ∧ (w1.alloc (.cells #[.int .i64 f, .int .i64 t, .int .i64 m, .slice (some ⟨g, 0, none⟩) zs.length cg, .int .i64 s] 46)).cell? ⟨w1.heap.size, 4, none⟩ = some (.int .i64 s)) := by refine ⟨?_, ?_, ?_, ?_, ?_⟩ <;> simp [go_sem]
    have hz0 : w1.heap.size < (w1.alloc (.cells #[.int .i64 f, .int .i64 t, .int .i64 m, .slice (some ⟨g, 0, none⟩) zs.length cg, .int .i64 s] 46)).heap.size := by simp
    have s0 := hA.size
    have hx := hown1.ints.below hA (Nat.le_refl _)
    generalize (w1.alloc (.cells #[.int .i64 f, .int .i64 t, .int .i64 m, .slice (some ⟨g, 0, none⟩) zs.length cg, .int .i64 s] 46)) = W0 at *
    obtain ⟨b0, hb0⟩ : ∃ b0, b0 = w1.heap.size := ⟨_, rfl⟩
    rw [← hb0] at k0 hz0 ⊢
    clear hb0
    have HK : Hid (∀ W', Below W0.heap.size W0 W' → (W'.cell? ⟨b0, 0, none⟩ = some (.int .i64 f) ∧ W'.cell? ⟨b0, 1, none⟩ = some (.int .i64 t) ∧ W'.cell? ⟨b0, 2, none⟩ = some (.int .i64 m) ∧ W'.cell? ⟨b0, 3, none⟩ = some (.slice (some ⟨g, 0, none⟩) zs.length cg) ∧ W'.cell? ⟨b0, 4, none⟩ = some (.int .i64 s))) :=
      hide fun W' h => ⟨(h.cell (p := ⟨b0, 0, none⟩) hz0).trans k0.1, (h.cell (p := ⟨b0, 1, none⟩) hz0).trans k0.2.1, (h.cell (p := ⟨b0, 2, none⟩) hz0).trans k0.2.2.1, (h.cell (p := ⟨b0, 3, none⟩) hz0).trans k0.2.2.2.1, (h.cell (p := ⟨b0, 4, none⟩) hz0).trans k0.2.2.2.2⟩
    clear k0
    go_loopw [6, 18] (fun v i wr => ∃ k : Nat, k ≤ zs.length ∧ i = .int .i64 k ∧ v = .int .i64 (tot (L.take k)) ∧ Below W0.heap.size W0 wr)
      (fun _ i _ => zs.length - (intOf i).toNat)
    case atStart => exact ⟨0, Nat.zero_le _, rfl, rfl, Below.refl _ _⟩
    case round =>
      obtain ⟨k, hk, rfl, rfl, hb⟩ := hrel
      have hsz := hb.size
      have hts := tot_small HSm.out (by rw [HL.out]; omega) k
      by_cases hlt : k < zs.length
      · have hkL : k < L.length := by rw [HL.out]; exact hlt
        have Hs := hide (HT.out k hkL)
        have hm := HM.out k hlt hkL
        have hk2 := within_get HSm.out k hkL
        have hts1 := tot_small HSm.out (by rw [HL.out]; omega) (k + 1)
        rw [Hs.out, hm] at hts1
        rw [hm] at hk2
        have HH := hide hm
        clear hm
        obtain ⟨o0, o1, o2, o3, o4⟩ := HK.out _ hb
        have HC := hide (tooMany_any f t m s (some ⟨g, 0, none⟩) zs.length cg w1.heap.size k zs wr (hx.below hb s0) (by omega) hlt hlt (HV.out k hlt).1 (by have := (HV.out k hlt).2; omega) hsb.1 (by omega))
        generalize max (zs[k] - s) 0 = d at *
        go_wp2_with fail
        refine HC.out.mono ?_
        rintro e w2 ⟨rfl, hb2⟩
        go_wp2_with fail
        go_roundw
        case rel => exact ⟨k + 1, by omega, by go_num, by rw [Hs.out, HH.out], below_next hb hb2⟩
        case measure => simp [intOf]; omega
      · go_wp2_with fail
        go_ret2
        exact ⟨by rw [List.take_of_length_le (by rw [HL.out]; omega)]; rfl, (hb1.trans (hA.mono s1)).trans (hb.mono (Nat.le_trans s1 s0))⟩
end Go.Proofs.Ytediapekgbekeaa
