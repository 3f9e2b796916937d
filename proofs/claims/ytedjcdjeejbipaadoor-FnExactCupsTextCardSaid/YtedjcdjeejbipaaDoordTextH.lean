
/-
  TEXTS OF LISTS OF NUMBERS, BOTH WAYS: hpText, joinNumbers.
-/
import Derived.Test.YtedjcdjeejbipaaDoordTextP
import Derived.Test.YtedjcdjeejbipaaDoorShelfT
import Derived.Lib.AppendIntMem
namespace Go.Proofs.YtedjcdjeejbipaaDoor
open Go.RowKit Go.Deep
set_option linter.unusedVariables false

theorem bs_size (l : List UInt8) : (bs l).size = l.length := by simp [bs, ByteArray.size]

set_option maxRecDepth 1000000 in
theorem hpText_any (A : Option Addr) (n c B : Nat) (zs : List Int) (w : World) (hr : Ints w B A n zs) (hB : B ≤ w.heap.size) (hn : n ≤ 1000) (hz : ∀ (k : Nat) (_ : k < zs.length), 0 ≤ zs[k] ∧ zs[k] < 10000000000) :
    Calls Tryd.prog 31 #[.slice A n c] w fun e w' => e = .returned (.string (bs (txt zs))) ∧ Below w.heap.size w w' := by
  obtain rfl := hr.len
  have HZ := hide hz
  have HL := hide (txt_len zs hz)
  clear hz
  go_enter Tryd.func31, Tryd.ntmps31
  go_wp2_with fail
  go_loopw [3, 8] (fun t i wr => ∃ k : Nat, k ≤ zs.length ∧ i = .int .i64 k ∧ t = .string (bs (txt (zs.take k))) ∧ Below w.heap.size w wr)
    (fun _ i _ => zs.length - (intOf i).toNat)
  case atStart => exact ⟨0, Nat.zero_le _, rfl, rfl, Below.refl _ _⟩
  case round =>
    obtain ⟨k, hk, rfl, rfl, hb⟩ := hrel
    by_cases hlt : k < zs.length
    · obtain ⟨ad, rfl, hab, hcell⟩ := (hr.below hb hB).at_ hlt
      have hzk := HZ.out k hlt
      have hlk := HL.out k hk
      have hdk := dtxt_len hzk.1 hzk.2
      rw [show zs.getD k 0 = zs[k] from by simp [List.getD, List.getElem?_eq_getElem hlt]] at hcell
      have HN := hide (fun W => l1Num_any 9 zs[k].toNat W (by omega) (by omega))
      rw [show ((zs[k].toNat : Nat) : Int) = zs[k] from by omega] at HN
      have hb0 := hb.size
      by_cases h0 : k = 0
      · have hadd : ∀ W, (Op.stringOp .add (bs (txt (zs.take k))) (bs (Lib.decDigits zs[k].toNat))).run Tryd.prog W = .ok (.string (bs (txt (zs.take (k + 1))))) W := fun W => by
          rw [run_string_add_sum W _ _ (by rw [bs_size, bs_size]; unfold dtxt at hdk; omega), bs_append]
          subst h0
          rw [show (0 + 1) = 1 from rfl, txt_zero zs hlt]
          rfl
        have HA := hide hadd
        have hk0 : (k : Int) ≤ 0 := by omega
        clear hadd hdk hlk h0
        generalize bs (txt (zs.take k)) = s0 at *
        generalize bs (Lib.decDigits zs[k].toNat) = s1 at *
        generalize hs2 : bs (txt (zs.take (k + 1))) = s2 at *
        have HS2 := hide hs2
        clear hs2
        have hadd := HA.out
        go_wp2_with fail
        refine (HN.out _).mono ?_; rintro e w2 ⟨rfl, hb2⟩
        go_wp2_with fail
        go_roundw
        case rel => exact ⟨k + 1, by omega, by go_num, by rw [HS2.out], hb.trans (hb2.mono hb0)⟩
        case measure => simp [intOf]; omega
      · have hmid : ∀ W, (Op.stringOp .add (bs (txt (zs.take k))) ⟨#[45]⟩).run Tryd.prog W = .ok (.string (bs (txt (zs.take k) ++ [45]))) W := fun W => by
          rw [run_string_add_sum W _ _ (by rw [bs_size]; show _ + 1 ≤ _; omega), show (⟨#[45]⟩ : ByteArray) = bs [45] from rfl, bs_append]
        have hadd : ∀ W, (Op.stringOp .add (bs (txt (zs.take k) ++ [45])) (bs (Lib.decDigits zs[k].toNat))).run Tryd.prog W = .ok (.string (bs (txt (zs.take (k + 1))))) W := fun W => by
          rw [run_string_add_sum W _ _ (by rw [bs_size, bs_size]; unfold dtxt at hdk; simp; omega), bs_append, txt_succ zs k (by omega) hlt]
          rfl
        have HM := hide hmid
        have HA := hide hadd
        have hk0 : 0 < (k : Int) := by omega
        clear hadd hmid hdk hlk h0
        generalize bs (txt (zs.take k)) = s0 at *
        generalize bs (txt (zs.take k) ++ [45]) = s3 at *
        generalize bs (Lib.decDigits zs[k].toNat) = s1 at *
        generalize hs2 : bs (txt (zs.take (k + 1))) = s2 at *
        have HS2 := hide hs2
        clear hs2
        have hadd := HA.out
        have hmid := HM.out
        go_wp2_with fail
        refine (HN.out _).mono ?_; rintro e w2 ⟨rfl, hb2⟩
        go_wp2_with fail
        go_roundw
        case rel => exact ⟨k + 1, by omega, by go_num, by rw [HS2.out], hb.trans (hb2.mono hb0)⟩
        case measure => simp [intOf]; omega
    · have e : k = zs.length := by omega
      have HE := hide (show bs (txt (zs.take k)) = bs (txt zs) from by rw [e, txt_all])
      clear e
      go_wp2_with fail
      go_ret
      exact ⟨by rw [← HE.out]; rfl, hb⟩

theorem pow10_g : Tryd.prog.globalNamed "internal/strconv.uint64pow10" = some 3 := by kernel_rfl
/-- The table of strconv lies in its variable. -/
def TabP (w : World) : Prop := Lib.TabIs Tryd.prog w "internal/strconv.uint64pow10" .u64 Lib.pow10Tab
theorem TabP.next {w w' : World} (h : TabP w) (hb : Below w.heap.size w w') : TabP w' := var_below h pow10_g hb (var_lt h pow10_g)

theorem Itoa_any (x : Int) (h0 : 0 ≤ x) (h1 : x < 10000000000) (w : World) (hT : TabP w) :
    Calls Tryd.prog 20 #[.int .i64 x] w fun e w' => e = .returned (.string (bs (dtxt x))) ∧ Below w.heap.size w w' := by
  refine (Tryd.strconv_Itoa x (by omega) (by omega) w hT).mono ?_
  rintro e w' ⟨rfl, k, os, rfl⟩
  refine ⟨?_, Lib.below_grow _ _ (Nat.le_refl _) _ _⟩
  unfold Lib.itoa
  rw [if_neg (by omega)]
  rfl

theorem infoStr : (Tryd.prog.info? 9).map (fun i => (i.zero, i.size, i.bytes)) = some (some (.string ⟨#[]⟩), 1, 16) := by kernel_rfl

set_option maxRecDepth 1000000 in
theorem joinNumbers_any (A : Option Addr) (n c B : Nat) (zs : List Int) (w : World) (hr : Ints w B A n zs) (hB : B ≤ w.heap.size) (hn : n ≤ 1000) (hz : ∀ (k : Nat) (_ : k < zs.length), 0 ≤ zs[k] ∧ zs[k] < 10000000000) (hT : TabP w) :
    Calls Tryd.prog 19 #[.slice A n c, .string ⟨#[45]⟩] w fun e w' => e = .returned (.string (bs (txt zs))) ∧ Below w.heap.size w w' := by
  obtain rfl := hr.len
  have HZ := hide hz
  have HL := hide (txt_len zs hz zs.length (Nat.le_refl _))
  have HT := hide hT
  have hmk := run_make_row' (P := Tryd.prog) 54 9 (.string ⟨#[]⟩) 16 Tryd.underlying54 infoStr rfl .i64 .i64 zs.length (by omega) (by omega)
  clear hz hT
  go_enter Tryd.func19, Tryd.ntmps19
  go_wp2_with fail
  go_loopw [13] (fun i wr => ∃ k : Nat, k ≤ zs.length ∧ i = .int .i64 k ∧ wr.rowIs w.heap.size 9 zs.length (fun j => if j < k then .string (bs (dtxt (zs.getD j 0))) else .string ⟨#[]⟩) ∧ Below w.heap.size w wr ∧ w.heap.size < wr.heap.size)
    (fun i _ => zs.length - (intOf i).toNat)
  case atStart => exact ⟨0, Nat.zero_le _, rfl, (World.rowIs_made w _ _ _).congr (fun i _ => by simp), (Below.refl _ _).alloc (Nat.le_refl _) _, by simp⟩
  case round =>
    obtain ⟨k, hk, rfl, hrow, hb, hs⟩ := hrel
    by_cases hlt : k < zs.length
    · obtain ⟨ad, rfl, hab, hcell⟩ := (hr.below hb hB).at_ hlt
      have hzk := HZ.out k hlt
      rw [show zs.getD k 0 = zs[k] from by simp [List.getD, List.getElem?_eq_getElem hlt]] at hcell
      have HI := hide (Itoa_any zs[k] hzk.1 hzk.2 wr (HT.out.next hb))
      have HG := hide (show zs.getD k 0 = zs[k] from by simp [List.getD, List.getElem?_eq_getElem hlt])
      generalize hsk : bs (dtxt zs[k]) = sk at *
      have HSK := hide hsk
      have Hrow := hide hrow
      clear hsk hrow
      go_wp2_with fail
      refine HI.out.mono ?_; rintro e w2 ⟨rfl, hb2⟩
      have hrow2 := Hrow.out.of_block (hb2.block _ hs)
      have hold := hrow2.cell hlt
      have hfz := hrow2.frozen k
      have s2 := hb2.size
      have hb0 := hb.size
      go_wp2_with fail
      go_roundw
      case rel =>
        refine ⟨k + 1, by omega, by go_num, (hrow2.set k _).congr (fun i hi => ?_), (hb.trans (hb2.mono hb0)).setCell (Nat.le_refl _) _, by simp; omega⟩
        by_cases e : i = k
        · subst e; rw [if_pos rfl, if_pos (by omega), HG.out, HSK.out]
        · rw [if_neg e]
          by_cases h2 : i < k
          · rw [if_pos h2, if_pos (by omega)]
          · rw [if_neg h2, if_neg (by omega)]
      case measure => simp [intOf]; omega
    · have hm : (zs.map fun x => bs (dtxt x)).map (·.data.toList) = zs.map dtxt := by simp [bs]
      have hj := Tryd.strings_Join w.heap.size 0 zs.length (zs.map fun x => bs (dtxt x)) ⟨#[45]⟩ wr (by
        intro j x hx
        rw [List.getElem?_map] at hx
        obtain ⟨z, hz, rfl⟩ := Option.map_eq_some_iff.1 hx
        obtain ⟨hj, rfl⟩ := List.getElem?_eq_some_iff.1 hz
        have := hrow.cell hj
        rw [if_pos (by omega)] at this
        rw [Nat.zero_add, this]
        simp [List.getD, hj]) hs (by simp; omega) (by simp) (by
        rw [hm]; have := HL.out; rw [txt_all] at this; unfold txt at this; show (Lib.join _ [45]).length ≤ _; omega)
      rw [hm, List.length_map] at hj
      have HJ := hide hj
      clear hj hm hrow
      go_wp2_with fail
      refine HJ.out.mono ?_; rintro e w2 ⟨rfl, hb2⟩
      go_wp2_with fail
      go_ret
      exact ⟨rfl, hb.trans (hb2.mono hb.size)⟩
end Go.Proofs.YtedjcdjeejbipaaDoor
