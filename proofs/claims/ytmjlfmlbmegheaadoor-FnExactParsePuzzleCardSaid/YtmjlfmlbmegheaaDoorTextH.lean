
/-
  TEXTS OF LISTS OF NUMBERS, BOTH WAYS: hpText, joinNumbers.
-/
import Derived.Test.YtmjlfmlbmegheaaDoorTextP
import Derived.Test.YtmjlfmlbmegheaaDoorShelfT
import Derived.Lib.AppendIntMem
namespace Go.Proofs.YtmjlfmlbmegheaaDoor
open Go.RowKit Go.Deep
set_option linter.unusedVariables false

theorem bs_size (l : List UInt8) : (bs l).size = l.length := by simp [bs, ByteArray.size]

theorem pow10_g : Tryd.prog.globalNamed "internal/strconv.uint64pow10" = some 1 := by kernel_rfl
/-- The table of strconv lies in its variable. -/
def TabP (w : World) : Prop := Lib.TabIs Tryd.prog w "internal/strconv.uint64pow10" .u64 Lib.pow10Tab
theorem TabP.next {w w' : World} (h : TabP w) (hb : Below w.heap.size w w') : TabP w' := var_below h pow10_g hb (var_lt h pow10_g)

theorem Itoa_any (x : Int) (h0 : 0 ≤ x) (h1 : x < 1000000) (w : World) (hT : TabP w) :
    Calls Tryd.prog 20 #[.int .i64 x] w fun e w' => e = .returned (.string (bs (dtxt x))) ∧ Below w.heap.size w w' := by
  refine (Tryd.strconv_Itoa x (by omega) (by omega) w hT).mono ?_
  rintro e w' ⟨rfl, k, os, rfl⟩
  refine ⟨?_, Lib.below_grow _ _ (Nat.le_refl _) _ _⟩
  unfold Lib.itoa
  rw [if_neg (by omega)]
  rfl

theorem infoStr : (Tryd.prog.info? 9).map (fun i => (i.zero, i.size, i.bytes)) = some (some (.string ⟨#[]⟩), 1, 16) := by kernel_rfl

set_option maxRecDepth 1000000 in
theorem joinNumbers_any (A : Option Addr) (n c B : Nat) (zs : List Int) (w : World) (hr : Ints w B A n zs) (hB : B ≤ w.heap.size) (hn : n ≤ 1000) (hz : ∀ (k : Nat) (_ : k < zs.length), 0 ≤ zs[k] ∧ zs[k] < 1000000) (hT : TabP w) :
    Calls Tryd.prog 19 #[.slice A n c, .string ⟨#[45]⟩] w fun e w' => e = .returned (.string (bs (txt zs))) ∧ Below w.heap.size w w' := by
  obtain rfl := hr.len
  have HZ := hide hz
  have HL := hide (txt_len zs hz zs.length (Nat.le_refl _))
  have HT := hide hT
  have hmk := run_make_row' (P := Tryd.prog) 42 9 (.string ⟨#[]⟩) 16 Tryd.underlying42 infoStr rfl .i64 .i64 zs.length (by omega) (by omega)
  clear hz hT
  go_enter Tryd.func19, Tryd.ntmps19
  go_wp2_with fail
  go_loopw [13] (fun i wr => ∃ k : Nat, k ≤ zs.length ∧ i = .int .i64 k ∧ wr.rowIs w.heap.size 9 zs.length (fun j => if j < k then .string (bs (dtxt (zs.getD j 0))) else .string ⟨#[]⟩) ∧ Below w.heap.size w wr ∧ w.heap.size < wr.heap.size)
    (fun i _ => zs.length - (intOf i).toNat)
  case atStart => exact ⟨0, Nat.zero_le _, rfl, (World.rowIs_made w _ _ _).congr (fun i _ => by simp), (Below.refl _ _).alloc (Nat.le_refl _) _, by simp⟩
  case round =>
    obtain ⟨k, hk, rfl, hrow, hb, hs⟩ := hrel
    by_cases hlt : k < zs.length
    · obtain ⟨ad, rfl, hab, hcell⟩ := (hr.below hb hB).at_ hlt
      have hzk := HZ.out k hlt
      rw [show zs.getD k 0 = zs[k] from by simp [List.getD, List.getElem?_eq_getElem hlt]] at hcell
      have HI := hide (Itoa_any zs[k] hzk.1 hzk.2 wr (HT.out.next hb))
      have HG := hide (show zs.getD k 0 = zs[k] from by simp [List.getD, List.getElem?_eq_getElem hlt])
      generalize hsk : bs (dtxt zs[k]) = sk at *
      have HSK := hide hsk
      have Hrow := hide hrow
      clear hsk hrow
      go_wp2_with fail
      refine HI.out.mono ?_; rintro e w2 ⟨rfl, hb2⟩
      have hrow2 := Hrow.out.of_block (hb2.block _ hs)
      have hold := hrow2.cell hlt
      have hfz := hrow2.frozen k
      have s2 := hb2.size
      have hb0 := hb.size
      go_wp2_with fail
      go_roundw
      case rel =>
        refine ⟨k + 1, by omega, by go_num, (hrow2.set k _).congr (fun i hi => ?_), (hb.trans (hb2.mono hb0)).setCell (Nat.le_refl _) _, by simp; omega⟩
        by_cases e : i = k
        · subst e; rw [if_pos rfl, if_pos (by omega), HG.out, HSK.out]
        · rw [if_neg e]
          by_cases h2 : i < k
          · rw [if_pos h2, if_pos (by omega)]
          · rw [if_neg h2, if_neg (by omega)]
      case measure => simp [intOf]; omega
    · have hm : (zs.map fun x => bs (dtxt x)).map (·.data.toList) = zs.map dtxt := by simp [bs]
      have hj := Tryd.strings_Join w.heap.size 0 zs.length (zs.map fun x => bs (dtxt x)) ⟨#[45]⟩ wr (by
        intro j x hx
        rw [List.getElem?_map] at hx
        obtain ⟨z, hz, rfl⟩ := Option.map_eq_some_iff.1 hx
        obtain ⟨hj, rfl⟩ := List.getElem?_eq_some_iff.1 hz
        have := hrow.cell hj
        rw [if_pos (by omega)] at this
        rw [Nat.zero_add, this]
        simp [List.getD, hj]) hs (by simp; omega) (by simp) (by
        rw [hm]; have := HL.out; rw [txt_all] at this; unfold txt at this; show (Lib.join _ [45]).length ≤ _; omega)
      rw [hm, List.length_map] at hj
      have HJ := hide hj
      clear hj hm hrow
      go_wp2_with fail
      refine HJ.out.mono ?_; rintro e w2 ⟨rfl, hb2⟩
      go_wp2_with fail
      go_ret
      exact ⟨rfl, hb.trans (hb2.mono hb.size)⟩
end Go.Proofs.YtmjlfmlbmegheaaDoor
