
/-
  lineOf: the line of a list of chips.
-/
import Derived.Test.YtpcckckmloeanaaLnM
namespace Go.Proofs.Ytpcckckmloeanaa
open Go.RowKit Go.Deep
set_option linter.unusedVariables false

theorem lineL_first (zs : List Int) (h20 : zs.length ≤ 20) : lineL zs (noF zs.length) = ((zs.length : Int) :: 0 :: zs) ++ List.replicate (41 - zs.length) 0 := by
  refine list_ext_getD (by rw [lineL_length]; simp; omega) fun j hj => ?_
  rw [lineL_length] at hj
  cases j with
  | zero => rfl
  | succ q =>
    by_cases hq : q < 22
    · rw [lineL_getD_row _ _ _ hq, rowAt_noF]
      by_cases h2 : q < zs.length + 1
      · simp only [List.getD]
        rw [List.getElem?_append_left (by simp; omega), List.getElem?_cons_succ]
      · rw [getD_over _ _ (by simp; omega)]
        simp only [List.getD]
        rw [List.getElem?_append_right (by simp; omega), List.getElem?_replicate]
        split <;> rfl
    · obtain ⟨j, rfl⟩ : ∃ j, q = j + 22 := ⟨q - 22, by omega⟩
      rw [show j + 22 + 1 = j + 23 from rfl, lineL_getD_fir _ _ _ (by omega), noF_getD]
      simp only [List.getD]
      rw [List.getElem?_append_right (by simp; omega), List.getElem?_replicate]
      split <;> rfl
theorem newL_cells (n : Int) : newL n = n :: 0 :: List.replicate 41 0 := rfl
theorem splice_line (zs : List Int) (h20 : zs.length ≤ 20) : splice ((newL zs.length).map (Value.int .i64)) 2 (zs.map (Value.int .i64)) = (lineL zs (noF zs.length)).map (Value.int .i64) := by
  rw [lineL_first zs h20, newL_cells]
  unfold splice
  simp only [List.map_cons, List.map_append, List.map_replicate, List.take_succ_cons, List.take_zero, List.length_map, List.cons_append, List.nil_append]
  congr 2
  rw [show 2 + zs.length = zs.length + 1 + 1 from by omega, List.drop_succ_cons, List.drop_succ_cons, List.drop_replicate]

/-- Where a copy's source lies, told in one word. -/
def SrcAt (w : World) (dp : Option Addr) (g off : Nat) (sp : Option Addr) (cs : List Value) : Prop :=
  0 < cs.length → dp = some ⟨g, off, none⟩ ∧ ∃ ad, sp = some ad ∧ ∀ j v, cs[j]? = some v → w.cell? (ad.add j) = some v
theorem SrcAt.out {w : World} {dp : Option Addr} {g off : Nat} {sp : Option Addr} {cs : List Value} (h : SrcAt w dp g off sp cs) :
    0 < cs.length → dp = some ⟨g, off, none⟩ ∧ ∃ ad, sp = some ad ∧ ∀ j v, cs[j]? = some v → w.cell? (ad.add j) = some v := h
theorem src_of_ints {w : World} {B n g off : Nat} {A : Option Addr} {zs : List Int} (hr : Ints w B A n zs) : SrcAt w (some ⟨g, off, none⟩) g off A (zs.map (Value.int .i64)) := fun h => by
  have hl := hr.len
  rw [List.length_map] at h
  obtain ⟨ad, e, _, hcell⟩ := hr.2 (by omega)
  refine ⟨rfl, ad, e, fun j v hv => ?_⟩
  rw [List.getElem?_map] at hv
  obtain ⟨z, hz, rfl⟩ := Option.map_eq_some_iff.1 hv
  obtain ⟨hj, rfl⟩ := List.getElem?_eq_some_iff.1 hz
  rw [hcell j (by omega), getD_ge hj]

theorem row_cut21 (b : Nat) (W : World) :
    (Instr.sliceAt 29 (.pointer (some ⟨b, 1, none⟩)) (some (.int .i64 1)) none none).run Try.prog W = .ok (.slice (some ⟨b, 2, none⟩) 21 21) W := by
  rw [run_sliceAt_array_l W 29 ⟨b, 1, none⟩ chipRow_under .i64 1 (by omega) (by rw [chipRow_len]; omega), chipRow_size]
  simp [slicedAt, chipRow_len, add_mid]

theorem lineOf_no (A : Option Addr) (n c B : Nat) (zs : List Int) (w : World) (hr : Ints w B A n zs) (hB : B ≤ w.heap.size) (hn : n ≤ 17592186044416) (hg : hgood zs = false) :
    Calls Try.prog 9 #[.slice A n c] w fun e w' => e = .returned (.tuple #[aggL zero43, .bool false]) ∧ Below w.heap.size w w' := by
  obtain rfl := hr.len
  have HA := hide (fun W (hb : Below w.heap.size w W) => AreChips_any A zs.length c B zs W (hr.below hb hB) hn)
  rw [hg] at HA
  have hzl := hide zero43_len
  go_enter Try.func9, Try.ntmps9
  go_wp2_with (with_reducible refine wpList_line_new (o := ⟨some 2, _, _, _, _, _⟩) rfl rfl ?_; intro w1 hL1 hb1 hs1)
  refine (HA.out _ hb1).mono ?_; rintro e w' ⟨rfl, rfl⟩
  have HL1 := hide hL1
  have Hb1 := hide hb1
  clear hL1 hb1 hs1
  go_wp2_with (first | (with_reducible refine wpList_line_build0 (o := ⟨some 8, _, _, _, _, _⟩) rfl rfl ?_) | (with_reducible refine wpList_line_store rfl (.tmp 2) (.tmp 8) rfl w.heap.size _ zero43 rfl rfl hzl.out hzl.out HL1.out ?_; intro w2 hL2 ho2))
  exact bodyPost_ret (results_line2 rfl _ _ _ _ rfl hzl.out hL2) rfl ⟨rfl, Hb1.out.trans ho2.below⟩

theorem lineOf_yes (A : Option Addr) (n c B : Nat) (zs : List Int) (w : World) (hr : Ints w B A n zs) (hB : B ≤ w.heap.size) (hg : hgood zs = true) :
    Calls Try.prog 9 #[.slice A n c] w fun e w' => e = .returned (.tuple #[aggL (lineL zs (noF n)), .bool true]) ∧ Below w.heap.size w w' := by
  obtain rfl := hr.len
  obtain ⟨h1, h20, _⟩ := hgood_of hg
  have HA := hide (fun W (hb : Below w.heap.size w W) => AreChips_any A zs.length c B zs W (hr.below hb hB) (by omega))
  rw [hg] at HA
  have hzl := hide zero43_len
  have hnl := hide (newL_len (zs.length : Int))
  have hll := hide (lineL_length zs (noF zs.length))
  have HSp := hide (splice_line zs h20)
  have HS := hide (fun W (hb : Below w.heap.size w W) (g : Nat) => src_of_ints (g := g) (off := 2) (hr.below hb hB))
  have H1 : Hid (∀ v ∈ zs.map (Value.int .i64), v.oneCell' = true) := hide fun v hv => by obtain ⟨z, _, rfl⟩ := List.mem_map.1 hv; rfl
  have HC : Hid ((zs.map (Value.int .i64)).length = Nat.min zs.length 21) := hide (by rw [List.length_map]; exact (Nat.min_eq_left (by omega)).symm)
  have HF : Hid (2 + (zs.map (Value.int .i64)).length ≤ ((newL zs.length).map (Value.int .i64)).length) := hide (by rw [List.length_map, List.length_map, newL_len]; omega)
  clear hg
  go_enter Try.func9, Try.ntmps9
  go_wp2_with (with_reducible refine wpList_line_new (o := ⟨some 2, _, _, _, _, _⟩) rfl rfl ?_; intro w1 hL1 hb1 hs1)
  refine (HA.out _ hb1).mono ?_; rintro e w' ⟨rfl, rfl⟩
  have HL1 := hide hL1
  have Hb1 := hide hb1
  have Hs1 := hide hs1
  have hcut := row_cut21 w1.heap.size
  clear hs1
  have hs1 := hb1.size
  clear hL1 hb1
  go_wp2_with (first
    | (with_reducible refine wpList_line_new (o := ⟨some 4, _, _, _, _, _⟩) rfl rfl ?_; intro w2 hL2 hb2 hs2
       have HL2 := hide hL2; have HB2 := hide (Hb1.out.trans (hb2.mono hs1)); have HB2' := hide hb2; have HO2 := hide (HL1.out.of_block (hb2.block _ HL1.out.lt)); clear hL2 hb2 hs2)
    | (with_reducible refine wpList_line_build rfl (.tmp 10) (zs.length : Int) rfl rfl ?_)
    | (with_reducible refine wpList_line_store rfl (.tmp 4) (.tmp 11) rfl w1.heap.size _ (newL zs.length) rfl rfl hnl.out hzl.out HL2.out ?_; intro w3 hL3 ho3
       have HG := hide (show w3.heap[w1.heap.size]? = some (.cells ((newL zs.length).map (Value.int .i64)).toArray 32 (0, 0)) from hL3)
       have HB3 := hide (HB2.out.trans (ho3.below.mono hs1)); have HB3' := hide (HB2'.out.trans ho3.below); have HP := HS.out w3 HB3.out w1.heap.size
       have HO3 := hide (HO2.out.of_block (ho3.rest _ (Nat.ne_of_lt HL1.out.lt))); clear hL3 ho3)
    | (with_reducible refine wpList_copy_splice rfl (.tmp 13) (.tmp 14) 22 22 rfl 3 Try.underlying22 (by kernel_rfl) (some ⟨w1.heap.size, 2, none⟩) A 21 21 zs.length c rfl rfl w1.heap.size 2 ((newL zs.length).map (Value.int .i64)) 32 HG.out (zs.map (Value.int .i64)) HC.out HP.out HF.out H1.out w1.heap.size w1 HB3'.out (Nat.le_refl _) ?_; intro w4 hg4 hb4
       have HL4 := hide (show LineAt w4 w1.heap.size 32 (lineL zs (noF zs.length)) from by have := hg4.out; rw [HSp.out] at this; exact this); have HO4 := hide (HL1.out.of_block (hb4.block _ HL1.out.lt)); clear hg4)
    | (with_reducible refine wpList_line_load rfl (.tmp 4) rfl w1.heap.size _ rfl hll.out HL4.out ?_)
    | (with_reducible refine wpList_line_store rfl (.tmp 2) (.tmp 16) rfl w.heap.size _ (lineL zs (noF zs.length)) rfl rfl hll.out hzl.out HO4.out ?_; intro w5 hL5 ho5))
  exact bodyPost_ret (results_line2 rfl _ _ _ _ rfl hll.out hL5) rfl ⟨rfl, (Hb1.out.trans (hb4.mono hs1)).trans ho5.below⟩
end Go.Proofs.Ytpcckckmloeanaa
