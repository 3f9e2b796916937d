
/-
  THE PROGRAM'S RoundsToRest.
-/
import Derived.Test.YtcfofofhdbnlaaaLnN
namespace Go.Proofs.Ytcfofofhdbnlaaa
open Go.RowKit Go.Deep
set_option linter.unusedVariables false

set_option maxRecDepth 100000 in
theorem RoundsToRest_any (A : Option Addr) (n c B : Nat) (zs : List Int) (w : World) (hr : Ints w B A n zs) (hB : B ≤ w.heap.size) (hn : n ≤ 17592186044416) :
    Calls Try.prog 16 #[.slice A n c] w fun e w' => e = .returned (.tuple #[.int .i64 (roundsN zs), .bool (hgood zs)]) ∧ Below w.heap.size w w' := by
  obtain rfl := hr.len
  have hzl := hide zero43_len
  cases hg : hgood zs
  · have HF := hide (lineOf_no A zs.length c B zs w hr hB hn hg)
    rw [roundsN_no hg]
    clear hg
    go_enter Try.func16, Try.ntmps16
    go_wp2_with fail
    refine HF.out.mono ?_; rintro e w2 ⟨rfl, hb2⟩
    have HB2 := hide hb2
    have hle := HB2.out.size
    clear hb2
    go_wp2_with (first
      | (with_reducible refine wpList_line_new (o := ⟨some 4, _, _, _, _, _⟩) rfl rfl ?_; intro w3 hL3 hb3 hs3
         have HL3 := hide hL3; have HB3 := hide (HB2.out.trans (hb3.mono hle)); clear hL3 hb3 hs3)
      | (with_reducible refine wpList_line_store rfl (.tmp 4) (.tmp 11) rfl w2.heap.size _ (zero43) rfl rfl hzl.out hzl.out HL3.out ?_; intro w4 hL4 ho4
         have HB4 := hide (HB3.out.trans (ho4.below.mono hle)); have HL4 := hide hL4; clear hL4 ho4))
    go_ret2
    exact ⟨rfl, HB4.out⟩
  · have HF := hide (lineOf_yes A zs.length c B zs w hr hB hg)
    have hll := hide (fun us => lineL_length zs us)
    have hrl := hide (fun us => rowL_length zs us)
    have HG := hide hg
    have HR := hide (roundsN_yes hg)
    have HA := hide (fun r b W (hL : LineAt W b 42 (lineL zs (seqF zs r))) => allFired_any b zs (seqF zs r) 66000 W hL hg (seqF_length _ _) (seq_upto hg r) (by omega))
    clear hg
    go_enter Try.func16, Try.ntmps16
    go_wp2_with fail
    refine HF.out.mono ?_; rintro e w2 ⟨rfl, hb2⟩
    have HB2 := hide hb2
    have hle := HB2.out.size
    clear hb2 HF
    go_wp2_with (first
      | (with_reducible refine wpList_line_new (o := ⟨some 4, _, _, _, _, _⟩) rfl rfl ?_; intro w3 hL3 hb3 hs3
         have HL3 := hide hL3; have HB3 := hide (HB2.out.trans (hb3.mono hle)); clear hL3 hb3 hs3)
      | (with_reducible refine wpList_line_store rfl (.tmp 4) (.tmp 11) rfl w2.heap.size _ (lineL zs (seqF zs 0)) rfl rfl (hll.out _) hzl.out HL3.out ?_; intro w4 hL4 ho4
         have HB4 := hide (HB3.out.trans (ho4.below.mono hle)); have HL4 := hide hL4; clear hL4 ho4))
    refine (HA.out 0 _ _ HL4.out).mono ?_; rintro e w5 ⟨rfl, hb5⟩
    have hle4 := HB4.out.size
    have HL5 := hide (HL4.out.of_block (hb5.block _ HL4.out.lt))
    have HB5 := hide (HB4.out.trans (hb5.mono hle4))
    have hle5 := HB5.out.size
    clear hb5
    go_wp2_with (first
      | (with_reducible refine wpList_line_new (o := ⟨some 7, _, _, _, _, _⟩) rfl rfl ?_; intro w6 hL6 hb6 hs6
         have HL6 := hide hL6; have HB6 := hide (HB5.out.trans (hb6.mono hle5)); have HX6 := hide (HL5.out.of_block (hb6.block _ HL5.out.lt)); clear hL6 hb6 hs6)
      | (with_reducible refine wpList_line_store rfl (.tmp 7) (.tmp 15) rfl w5.heap.size _ (lineL zs (seqF zs 1)) rfl rfl (hll.out _) hzl.out HL6.out ?_; intro w7 hL7 ho7
         have HB7 := hide (HB6.out.trans (ho7.below.mono hle5)); have HL7 := hide hL7; have HX7 := hide (HX6.out.of_block (ho7.rest _ (Nat.ne_of_lt HL5.out.lt))); clear hL7 ho7))
    have Hlt := hide HL5.out.lt
    go_simp
    go_loopw [6, 7] (fun v p wr => ∃ r b : Nat, v = .int .i64 (r : Int) ∧ p = .pointer (some ⟨b, 0, none⟩) ∧ (∀ i, i < r → restAt zs i = false) ∧ LineAt wr w2.heap.size 42 (lineL zs (seqF zs r)) ∧
        LineAt wr b 42 (lineL zs (seqF zs (r + 1))) ∧ w2.heap.size < b ∧ Below w.heap.size w wr)
      (fun v _ _ => 66001 - (intOf v).toNat)
    case atStart => exact ⟨0, w5.heap.size, rfl, rfl, fun i hi => by omega, HX7.out, HL7.out, Hlt.out, HB7.out⟩
    case round =>
      obtain ⟨r, b, rfl, rfl, hno, hLr, hNr, hbb, hbr⟩ := hrel
      have HLr := hide hLr
      have HNr := hide hNr
      have HBr := hide hbr
      have Hno := hide hno
      have Hbb := hide hbb
      have hsr := hbr.size
      have hbl := hLr.lt
      have hnl := hNr.lt
      have hrb := rounds_bd HG.out r hno
      have HE := hide (rows_next HG.out r)
      clear hLr hNr hbr hno hbb HL4 HB4 HL5 HB5 HL6 HB6 HX6 HL7 HB7 HX7 HB2 HL3 HB3
      cases hre : restAt zs r
      · have HN2 := hide (show ∀ i, i < r + 1 → restAt zs i = false from fun i hi => by
          by_cases e : i = r
          · subst e; exact hre
          · exact Hno.out i (by omega))
        have hrb2 := rounds_bd HG.out (r + 1) HN2.out
        rw [hre] at HE
        clear hre
        go_wp2_with (first
          | (with_reducible refine wpList_row_load (o := ⟨some 17, _, _, _, _, _⟩) rfl (.tmp 16) rfl b _ zs (seqF zs (r + 1)) rfl HNr.out ?_)
          | (with_reducible refine wpList_row_load (o := ⟨some 19, _, _, _, _, _⟩) rfl (.tmp 18) rfl w2.heap.size _ zs (seqF zs r) rfl HLr.out ?_)
          | (with_reducible refine wpList_row_neq rfl (.tmp 17) (.tmp 19) _ rfl (rowL zs (seqF zs (r + 1))) (rowL zs (seqF zs r)) rfl rfl (hrl.out _) (hrl.out _) false HE.out ?_)
          | (with_reducible refine wpList_line_load (o := ⟨some 22, _, _, _, _, _⟩) rfl (.tmp 7) rfl b _ rfl (hll.out _) HNr.out ?_)
          | (with_reducible refine wpList_line_store rfl (.tmp 4) (.tmp 22) rfl w2.heap.size _ (lineL zs (seqF zs (r + 1))) rfl rfl (hll.out _) (hll.out _) HLr.out ?_; intro w8 hL8 ho8
             have HL8 := hide hL8; have HN8 := hide (HNr.out.of_block (ho8.rest _ (Nat.ne_of_gt Hbb.out))); have HB8 := hide (HBr.out.trans (ho8.below.mono hle)); clear hL8 ho8)
          | (with_reducible refine wpList_line_load (o := ⟨some 25, _, _, _, _, _⟩) rfl (.tmp 7) rfl b _ rfl (hll.out _) HN8.out ?_)
          | (with_reducible refine wpList_line_new (o := ⟨some 7, _, _, _, _, _⟩) rfl rfl ?_; intro w9 hL9 hb9 hs9
             have HL9 := hide hL9; have HX9 := hide (HL8.out.of_block (hb9.block _ HL8.out.lt)); have Hlt9 := hide HL8.out.lt; have HB9 := hide (HB8.out.trans (hb9.mono HB8.out.size)); clear hL9 hb9 hs9)
          | (with_reducible refine wpList_line_store rfl (.tmp 7) (.tmp 25) rfl w8.heap.size _ (lineL zs (seqF zs (r + 1))) rfl rfl (hll.out _) hzl.out HL9.out ?_; intro w10 hL10 ho10
             have HL10 := hide hL10; have HX10 := hide (HX9.out.of_block (ho10.rest _ (Nat.ne_of_lt Hlt9.out))); have HB10 := hide (HB9.out.trans (ho10.below.mono HB8.out.size)); clear hL10 ho10))
        have hle10 := HB10.out.size
        refine (HA.out (r + 1) _ _ HX10.out).mono ?_; rintro e w11 ⟨rfl, hb11⟩
        have HX11 := hide (HX10.out.of_block (hb11.block _ HX10.out.lt))
        have HL11 := hide (HL10.out.of_block (hb11.block _ HL10.out.lt))
        have HB11 := hide (HB10.out.trans (hb11.mono hle10))
        have hle8 := HB8.out.size
        clear hb11
        go_wp2_with (with_reducible refine wpList_line_store rfl (.tmp 7) (.tmp 21) rfl w8.heap.size _ (lineL zs (seqF zs (r + 2))) rfl rfl (hll.out _) (hll.out _) HL11.out ?_; intro w12 hL12 ho12; have HL12 := hide hL12; have HX12 := hide (HX11.out.of_block (ho12.rest _ (Nat.ne_of_lt Hlt9.out))); have HB12 := hide (HB11.out.trans (ho12.below.mono hle8)); clear hL12 ho12)
        go_simp
        go_roundw
        case rel => exact ⟨r + 1, by omega, HN2.out, HX12.out, HL12.out, Hlt9.out, HB12.out⟩
        case measure => simp [intOf]; omega
      · have HRd := hide (rounds_of HG.out r hre Hno.out)
        rw [hre] at HE
        clear hre
        go_wp2_with (first
          | (with_reducible refine wpList_row_load (o := ⟨some 17, _, _, _, _, _⟩) rfl (.tmp 16) rfl b _ zs (seqF zs (r + 1)) rfl HNr.out ?_)
          | (with_reducible refine wpList_row_load (o := ⟨some 19, _, _, _, _, _⟩) rfl (.tmp 18) rfl w2.heap.size _ zs (seqF zs r) rfl HLr.out ?_)
          | (with_reducible refine wpList_row_neq rfl (.tmp 17) (.tmp 19) _ rfl (rowL zs (seqF zs (r + 1))) (rowL zs (seqF zs r)) rfl rfl (hrl.out _) (hrl.out _) true HE.out ?_))
        go_ret2
        exact ⟨by rw [HR.out, HRd.out]; rfl, HBr.out⟩
end Go.Proofs.Ytcfofofhdbnlaaa
