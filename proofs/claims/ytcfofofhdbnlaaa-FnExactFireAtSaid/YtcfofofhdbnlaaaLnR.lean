
/-
  firedInOrder: places of a line that fire one after the other.
-/
import Derived.Test.YtcfofofhdbnlaaaLnO
namespace Go.Proofs.Ytcfofofhdbnlaaa
open Go.RowKit Go.Deep
set_option linter.unusedVariables false

/-- What firedInOrder hands out. -/
def firedV (zs : List Int) : Option (List Int) → Value
  | some ts => .tuple #[aggL (lineL zs ts), .bool true]
  | none => .tuple #[aggL zero43, .bool false]

set_option maxRecDepth 100000 in
theorem firedInOrder_any (A A' : Option Addr) (n c n' c' B B' : Nat) (zs os : List Int) (w : World) (hr : Ints w B A n zs) (hr' : Ints w B' A' n' os) (hB : B ≤ w.heap.size) (hB' : B' ≤ w.heap.size) (hn : n ≤ 17592186044416) (hn' : n' ≤ 17592186044416) :
    Calls Try.prog 23 #[.slice A n c, .slice A' n' c'] w fun e w' => e = .returned (firedV zs (orderF zs os)) ∧ Below w.heap.size w w' := by
  obtain rfl := hr.len
  obtain rfl := hr'.len
  have hzl := hide zero43_len
  cases hg : hgood zs
  · have HO := hide (orderF_no (zs := zs) (os := os) (by rw [hg]; simp))
    have HLn := hide (fun W (hb : Below w.heap.size w W) => lineOf_no A zs.length c B zs W (hr.below hb hB) (by have := hb.size; omega) hn hg)
    rw [HO.out]
    unfold firedV
    clear hg HO
    go_enter Try.func23, Try.ntmps23
    go_wp2_with (with_reducible refine wpList_line_new (o := ⟨some 4, _, _, _, _, _⟩) rfl rfl ?_; intro w1 hL1 hb1 hs1; have HL1 := hide hL1; have Hb1 := hide hb1; have hle1 := hb1.size; clear hL1 hb1 hs1)
    refine (HLn.out _ Hb1.out).mono ?_; rintro e w2 ⟨rfl, hb2⟩
    have HB2 := hide (Hb1.out.trans (hb2.mono hle1))
    have hle2 := hb2.size
    have HR2 := hide (HL1.out.of_block (hb2.block _ HL1.out.lt))
    have Hlt := hide (Nat.lt_of_lt_of_le HL1.out.lt hle2)
    clear hb2
    go_wp2_with (first
      | (with_reducible refine wpList_line_new (o := ⟨some 6, _, _, _, _, _⟩) rfl rfl ?_; intro w3 hL3 hb3 hs3
         have HL3 := hide hL3; have HB3 := hide (HB2.out.trans (hb3.mono (Nat.le_trans hle1 hle2))); have HR3 := hide (HR2.out.of_block (hb3.block _ Hlt.out)); have hle3 := hb3.size; clear hL3 hb3 hs3)
      | (with_reducible refine wpList_line_store rfl (.tmp 6) (.tmp 13) rfl w2.heap.size _ zero43 rfl rfl hzl.out hzl.out HL3.out ?_; intro w4 hL4 ho4
         have HB4 := hide (HB3.out.trans (ho4.below.mono (Nat.le_trans hle1 hle2))); have HR4 := hide (HR3.out.of_block (ho4.rest _ (Nat.ne_of_lt Hlt.out))); clear hL4 ho4)
      | (with_reducible refine wpList_line_build0 (o := ⟨some 22, _, _, _, _, _⟩) rfl rfl ?_)
      | (with_reducible refine wpList_line_store rfl (.tmp 4) (.tmp 22) rfl w.heap.size _ zero43 rfl rfl hzl.out hzl.out HR4.out ?_; intro w5 hL5 ho5))
    exact bodyPost_ret (results_line2 rfl _ _ _ _ rfl hzl.out hL5) rfl ⟨rfl, HB4.out.trans ho5.below⟩
  · have hll := hide (fun us => lineL_length zs us)
    have HLn := hide (fun W (hb : Below w.heap.size w W) => lineOf_yes A zs.length c B zs W (hr.below hb hB) (by have := hb.size; omega) hg)
    by_cases ho : os.length ≤ 100
    · obtain ⟨h1, h20, _⟩ := hgood_of hg
      rw [orderF_yes hg ho]
      have HG := hide hg
      have hoi : ¬ (100 < (os.length : Int)) := by omega
      clear hg
      go_enter Try.func23, Try.ntmps23
      go_wp2_with (with_reducible refine wpList_line_new (o := ⟨some 4, _, _, _, _, _⟩) rfl rfl ?_; intro w1 hL1 hb1 hs1; have HL1 := hide hL1; have Hb1 := hide hb1; have hle1 := hb1.size; clear hL1 hb1 hs1)
      refine (HLn.out _ Hb1.out).mono ?_; rintro e w2 ⟨rfl, hb2⟩
      have HB2 := hide (Hb1.out.trans (hb2.mono hle1))
      have hle2 := hb2.size
      have HR2 := hide (HL1.out.of_block (hb2.block _ HL1.out.lt))
      have Hlt := hide (Nat.lt_of_lt_of_le HL1.out.lt hle2)
      clear hb2
      go_wp2_with (first
        | (with_reducible refine wpList_line_new (o := ⟨some 6, _, _, _, _, _⟩) rfl rfl ?_; intro w3 hL3 hb3 hs3
           have HL3 := hide hL3; have HB3 := hide (HB2.out.trans (hb3.mono (Nat.le_trans hle1 hle2))); have HR3 := hide (HR2.out.of_block (hb3.block _ Hlt.out)); have hle3 := hb3.size; clear hL3 hb3 hs3)
        | (with_reducible refine wpList_line_store rfl (.tmp 6) (.tmp 13) rfl w2.heap.size _ (lineL zs (noF zs.length)) rfl rfl (hll.out _) hzl.out HL3.out ?_; intro w4 hL4 ho4
           have HB4 := hide (HB3.out.trans (ho4.below.mono (Nat.le_trans hle1 hle2))); have HR4 := hide (HR3.out.of_block (ho4.rest _ (Nat.ne_of_lt Hlt.out))); have HL4 := hide hL4; clear hL4 ho4))
      have hle4 := HB4.out.size
      have hoL := hide (show os.length ≤ 100 from ho)
      clear ho hoi HLn HL3 HR3 HB3 HR2 HB2 HL1 Hb1
      go_loopw [25] (fun i wr => ∃ (k : Nat) (ts : List Int), k ≤ os.length ∧ i = .int .i64 k ∧ ts.length = zs.length ∧ upto ts (k : Int) ∧ runF zs (noF zs.length) os = runF zs ts (os.drop k) ∧
          LineAt wr w2.heap.size 42 (lineL zs ts) ∧ LineAt wr w.heap.size 42 zero43 ∧ Below w.heap.size w wr)
        (fun i _ => os.length - (intOf i).toNat)
      case atStart => exact ⟨0, noF zs.length, Nat.zero_le _, rfl, noF_length _, upto_noF _ _ (Int.le_refl _), by rw [List.drop_zero], HL4.out, HR4.out, HB4.out⟩
      case round =>
        obtain ⟨k, ts, hk, rfl, htl, hup, hrun, hLr, hZr, hbr⟩ := hrel
        have HLr := hide hLr
        have HZr := hide hZr
        have HBr := hide hbr
        have HT := hide htl
        have HU := hide hup
        have HRun := hide hrun
        clear htl hup hrun hLr hZr
        by_cases hlt : k < os.length
        · obtain ⟨ad, rfl, hab, hcell⟩ := (hr'.below hbr hB').at_ hlt
          have HD := hide (runF_drop (zs := zs) (ts := ts) hlt)
          generalize os.getD k 0 = p at *
          have HC := hide (canFire_any w2.heap.size 42 p zs ts wr HLr.out h20)
          clear hbr
          cases ha : ableAt zs ts p
          · have HE := hide (show runF zs (noF zs.length) os = none from by rw [HRun.out, HD.out]; exact runF_no ha)
            rw [ha] at HC
            clear ha
            go_wp2_with fail
            refine HC.out.mono ?_; rintro e w' ⟨rfl, rfl⟩
            go_wp2_with (first
              | (with_reducible refine wpList_line_build0 (o := ⟨some 32, _, _, _, _, _⟩) rfl rfl ?_)
              | (with_reducible refine wpList_line_store rfl (.tmp 4) (.tmp 32) rfl w.heap.size _ zero43 rfl rfl hzl.out hzl.out HZr.out ?_; intro w5 hL5 ho5))
            exact bodyPost_ret (results_line2 rfl _ _ _ _ rfl hzl.out hL5) rfl ⟨by rw [HE.out]; rfl, HBr.out.trans ho5.below⟩
          · obtain ⟨j, rfl, hj, _⟩ := ableAt_of ha
            have hjt : j < ts.length := by rw [HT.out]; exact hj
            have HE := hide (show runF zs (noF zs.length) os = runF zs (more ts j 1) (os.drop (k + 1)) from by rw [HRun.out, HD.out, runF_yes ha, Int.toNat_natCast])
            have hm : mild (lineL zs ts) := mild_line HG.out HU.out (by have := hoL.out; omega)
            have HF := hide (fire_any w2.heap.size 42 j 1 (lineL zs ts) wr HLr.out (hll.out ts) hm (by omega) (by omega) (by omega))
            rw [fire_line zs ts j 1 hjt (by rw [HT.out]; exact h20)] at HF
            have HU2 := hide (upto_more HU.out j hjt)
            have HT2 := hide (show (more ts j 1).length = zs.length from by rw [more_length]; exact HT.out)
            rw [ha] at HC
            clear ha hm hjt
            go_wp2_with fail
            refine HC.out.mono ?_; rintro e w' ⟨rfl, rfl⟩
            go_wp2_with fail
            refine HF.out.mono ?_; rintro e w5 ⟨rfl, hL5, ho5⟩
            have HL5 := hide hL5
            have HB5 := hide (HBr.out.trans (ho5.below.mono (Nat.le_trans hle1 hle2)))
            have HZ5 := hide (HZr.out.of_block (ho5.rest _ (Nat.ne_of_lt Hlt.out)))
            clear hL5 ho5
            go_wp2_with fail
            go_roundw
            case rel => exact ⟨k + 1, more ts j 1, by omega, by go_num, HT2.out, by push_cast; exact HU2.out, HE.out, HL5.out, HZ5.out, HB5.out⟩
            case measure => simp [intOf]; omega
        · have HE := hide (show runF zs (noF zs.length) os = some ts from by rw [HRun.out, List.drop_eq_nil_of_le (by omega), runF_nil])
          go_wp2_with (first
            | (with_reducible refine wpList_line_load rfl (.tmp 6) rfl w2.heap.size _ rfl (hll.out ts) HLr.out ?_)
            | (with_reducible refine wpList_line_store rfl (.tmp 4) (.tmp 36) rfl w.heap.size _ (lineL zs ts) rfl rfl (hll.out ts) hzl.out HZr.out ?_; intro w5 hL5 ho5))
          exact bodyPost_ret (results_line2 rfl _ _ _ _ rfl (hll.out ts) hL5) rfl ⟨by rw [HE.out]; rfl, HBr.out.trans ho5.below⟩
    · have HO := hide (orderF_no (zs := zs) (os := os) (fun h => ho h.2))
      have hoi : 100 < (os.length : Int) := by omega
      rw [HO.out]
      unfold firedV
      clear hg HO ho
      go_enter Try.func23, Try.ntmps23
      go_wp2_with (with_reducible refine wpList_line_new (o := ⟨some 4, _, _, _, _, _⟩) rfl rfl ?_; intro w1 hL1 hb1 hs1; have HL1 := hide hL1; have Hb1 := hide hb1; have hle1 := hb1.size; clear hL1 hb1 hs1)
      refine (HLn.out _ Hb1.out).mono ?_; rintro e w2 ⟨rfl, hb2⟩
      have HB2 := hide (Hb1.out.trans (hb2.mono hle1))
      have hle2 := hb2.size
      have HR2 := hide (HL1.out.of_block (hb2.block _ HL1.out.lt))
      have Hlt := hide (Nat.lt_of_lt_of_le HL1.out.lt hle2)
      clear hb2
      go_wp2_with (first
        | (with_reducible refine wpList_line_new (o := ⟨some 6, _, _, _, _, _⟩) rfl rfl ?_; intro w3 hL3 hb3 hs3
           have HL3 := hide hL3; have HB3 := hide (HB2.out.trans (hb3.mono (Nat.le_trans hle1 hle2))); have HR3 := hide (HR2.out.of_block (hb3.block _ Hlt.out)); have hle3 := hb3.size; clear hL3 hb3 hs3)
        | (with_reducible refine wpList_line_store rfl (.tmp 6) (.tmp 13) rfl w2.heap.size _ (lineL zs (noF zs.length)) rfl rfl (hll.out _) hzl.out HL3.out ?_; intro w4 hL4 ho4
           have HB4 := hide (HB3.out.trans (ho4.below.mono (Nat.le_trans hle1 hle2))); have HR4 := hide (HR3.out.of_block (ho4.rest _ (Nat.ne_of_lt Hlt.out))); clear hL4 ho4)
        | (with_reducible refine wpList_line_build0 (o := ⟨some 22, _, _, _, _, _⟩) rfl rfl ?_)
        | (with_reducible refine wpList_line_store rfl (.tmp 4) (.tmp 22) rfl w.heap.size _ zero43 rfl rfl hzl.out hzl.out HR4.out ?_; intro w5 hL5 ho5))
      exact bodyPost_ret (results_line2 rfl _ _ _ _ rfl hzl.out hL5) rfl ⟨rfl, HB4.out.trans ho5.below⟩
end Go.Proofs.Ytcfofofhdbnlaaa
