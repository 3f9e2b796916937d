
/-
  THE TEXT OF A PUZZLE, plainly and the program's way.
-/
import Derived.Test.YtmjlfmlbmegheaaDoorTextH
import Derived.Test.YtmjlfmlbmegheaaDoorGood
import Derived.Test.YtmjlfmlbmegheaaDoorPzD
import Derived.Deep.RegionHeld3
import Derived.Deep.RegionWith
namespace Go.Proofs.YtmjlfmlbmegheaaDoor
open Go.RowKit Go.Deep
set_option linter.unusedVariables false

/-- The numbers of a clue with '.' between them; clues with ','. -/
def clW (d : Cl) : List UInt8 := Lib.join ([d.x0, d.x1, d.x2, d.x3].map dtxt) [46]
def clT (ds : List Cl) : List UInt8 := Lib.join (ds.map clW) [44]
def pzTx (u : Int) (ds : List Cl) : List UInt8 := dtxt u ++ [104] ++ clT ds
def pzxT (u : Int) (ds : List Cl) : ByteArray := if pzOk u ds then bs (pzTx u ds) else ⟨#[]⟩
def small (d : Cl) : Prop := (0 ≤ d.x0 ∧ d.x0 < 100) ∧ (0 ≤ d.x1 ∧ d.x1 < 100) ∧ (0 ≤ d.x2 ∧ d.x2 < 100) ∧ 0 ≤ d.x3 ∧ d.x3 < 100
theorem clue_small {h : Int} {d : Cl} (hh : 2 ≤ h ∧ h ≤ 4) (ho : clueOk h d = true) : small d := by
  obtain ⟨k, a, b, c⟩ := d
  rw [clueOk_eq] at ho
  unfold clueOk2 pzNone pzTwo at ho
  unfold small
  dsimp only at ho ⊢
  split at ho
  · rename_i e; simp at ho; omega
  · split at ho
    · rename_i e; simp at ho; omega
    · split at ho
      · rename_i e; simp at ho; omega
      · split at ho
        · rename_i e; simp at ho; omega
        · split at ho
          · rename_i e; simp at ho; omega
          · cases ho
theorem clW_eq (d : Cl) : clW d = dtxt d.x0 ++ [46] ++ dtxt d.x1 ++ [46] ++ dtxt d.x2 ++ [46] ++ dtxt d.x3 := by
  simp [clW, Lib.join_cons, Lib.joinTail]
theorem dtxt2_len {x : Int} (h : 0 ≤ x ∧ x < 100) : (dtxt x).length ≤ 2 := decDigits_len 1 x.toNat (by omega)
theorem clW_len {d : Cl} (h : small d) : (clW d).length ≤ 11 := by
  obtain ⟨h0, h1, h2, h3⟩ := h
  have l0 := dtxt2_len h0
  have l1 := dtxt2_len h1
  have l2 := dtxt2_len h2
  have l3 := dtxt2_len h3
  rw [clW_eq]
  simp; omega
theorem clT_zero (ds : List Cl) (h : 0 < ds.length) : clT (ds.take 1) = clW ds[0] := by
  unfold clT
  rw [List.take_one, List.head?_eq_getElem?, List.getElem?_eq_getElem h]
  simp [Lib.join_one]
theorem clT_succ (ds : List Cl) (k : Nat) (h0 : 0 < k) (h : k < ds.length) : clT (ds.take (k + 1)) = clT (ds.take k) ++ [44] ++ clW ds[k] := by
  unfold clT
  rw [List.take_succ_eq_append_getElem h, List.map_append]
  exact join_snoc _ _ _ (by simp; exact ⟨by omega, by intro e; rw [e] at h; simp at h⟩)
theorem clT_len (ds : List Cl) (h : ∀ (k : Nat) (_ : k < ds.length), small ds[k]) : ∀ k, k ≤ ds.length → (clT (ds.take k)).length ≤ 12 * k
  | 0, _ => by simp [clT, Lib.join_nil]
  | k + 1, hk => by
    have hd := clW_len (h k (by omega))
    rcases Nat.eq_zero_or_pos k with rfl | hp
    · rw [clT_zero ds (by omega)]; omega
    · have := clT_len ds h k (by omega)
      rw [clT_succ ds k hp (by omega)]
      simp; omega
theorem clT_all (ds : List Cl) : clT (ds.take ds.length) = clT ds := by rw [List.take_length]
theorem puzzle_small {u : Int} {cs : List Cl} (ho : pzOk u cs = true) (k : Nat) (hk : k < cs.length) : small cs[k] := clue_small (pzOk_parts ho).1 (cluesOk_get (pzOk_parts ho).2.2 k hk)
theorem Itoa100_any (x : Int) (h0 : 0 ≤ x) (h1 : x < 100) (w : World) :
    Calls Tryd.prog 20 #[.int .i64 x] w fun e w' => e = .returned (.string (bs (dtxt x))) ∧ w = w' := by
  have h := Tryd.strconv_Itoa_small x.toNat (by omega) w
  rw [show ((x.toNat : Nat) : Int) = x from by omega] at h
  exact h.mono fun e w' ⟨he, hw⟩ => ⟨he, hw.symm⟩
theorem to_belowZ {P : Program} {f : FuncId} {args : Array Value} {w : World} {v : Value} (h : Calls P f args w fun e w' => e = .returned v ∧ w = w') : Calls P f args w fun e w' => e = .returned v ∧ Below w.heap.size w w' :=
  h.mono fun e w' ⟨he, hw⟩ => ⟨he, hw ▸ Below.refl _ _⟩
theorem ints_four (w : World) (d : Cl) (t : TypeId) : Ints (w.alloc (.cells #[.int .i64 d.x0, .int .i64 d.x1, .int .i64 d.x2, .int .i64 d.x3] t)) (w.heap.size + 1) (some ⟨w.heap.size, 0, none⟩) 4 [d.x0, d.x1, d.x2, d.x3] :=
  ⟨rfl, fun _ => ⟨_, rfl, Nat.lt_succ_self _, fun k hk => by
    have h : k = 0 ∨ k = 1 ∨ k = 2 ∨ k = 3 := by omega
    rcases h with rfl | rfl | rfl | rfl <;> simp [Addr.add]⟩⟩

set_option maxRecDepth 1000000 in
theorem joinDot_any (A : Option Addr) (n c B : Nat) (zs : List Int) (w : World) (hr : Ints w B A n zs) (hB : B ≤ w.heap.size) (hn : n ≤ 1000) (hz : ∀ (k : Nat) (_ : k < zs.length), 0 ≤ zs[k] ∧ zs[k] < 100) (hJ : (Lib.join (zs.map dtxt) [46]).length ≤ 1000) :
    Calls Tryd.prog 19 #[.slice A n c, .string ⟨#[46]⟩] w fun e w' => e = .returned (.string (bs (Lib.join (zs.map dtxt) [46]))) ∧ Below w.heap.size w w' := by
  obtain rfl := hr.len
  have HZ := hide hz
  have HL := hide hJ
  have hmk := run_make_row' (P := Tryd.prog) 42 9 (.string ⟨#[]⟩) 16 Tryd.underlying42 infoStr rfl .i64 .i64 zs.length (by omega) (by omega)
  clear hz hJ
  go_enter Tryd.func19, Tryd.ntmps19
  go_wp2_with fail
  go_loopw [13] (fun i wr => ∃ k : Nat, k ≤ zs.length ∧ i = .int .i64 k ∧ wr.rowIs w.heap.size 9 zs.length (fun j => if j < k then .string (bs (dtxt (zs.getD j 0))) else .string ⟨#[]⟩) ∧ Below w.heap.size w wr ∧ w.heap.size < wr.heap.size)
    (fun i _ => zs.length - (intOf i).toNat)
  case atStart => exact ⟨0, Nat.zero_le _, rfl, (World.rowIs_made w _ _ _).congr (fun i _ => by simp), (Below.refl _ _).alloc (Nat.le_refl _) _, by simp⟩
  case round =>
    obtain ⟨k, hk, rfl, hrow, hb, hs⟩ := hrel
    by_cases hlt : k < zs.length
    · obtain ⟨ad, rfl, hab, hcell⟩ := (hr.below hb hB).at_ hlt
      have hzk := HZ.out k hlt
      rw [show zs.getD k 0 = zs[k] from by simp [List.getD, List.getElem?_eq_getElem hlt]] at hcell
      have HI := hide (Itoa100_any zs[k] hzk.1 hzk.2 wr)
      have HG := hide (show zs.getD k 0 = zs[k] from by simp [List.getD, List.getElem?_eq_getElem hlt])
      generalize hsk : bs (dtxt zs[k]) = sk at *
      have HSK := hide hsk
      have Hrow := hide hrow
      clear hsk hrow
      go_wp2_with fail
      refine (to_belowZ HI.out).mono ?_; rintro e w2 ⟨rfl, hb2⟩
      have hrow2 := Hrow.out.of_block (hb2.block _ hs)
      have hold := hrow2.cell hlt
      have hfz := hrow2.frozen k
      have s2 := hb2.size
      have hb0 := hb.size
      go_wp2_with fail
      go_roundw
      case rel =>
        refine ⟨k + 1, by omega, by go_num, (hrow2.set k _).congr (fun i hi => ?_), (hb.trans (hb2.mono hb0)).setCell (Nat.le_refl _) _, by simp; omega⟩
        by_cases e : i = k
        · subst e; rw [if_pos rfl, if_pos (by omega), HG.out, HSK.out]
        · rw [if_neg e]
          by_cases h2 : i < k
          · rw [if_pos h2, if_pos (by omega)]
          · rw [if_neg h2, if_neg (by omega)]
      case measure => simp [intOf]; omega
    · have hm : (zs.map fun x => bs (dtxt x)).map (·.data.toList) = zs.map dtxt := by simp [bs]
      have hj := Tryd.strings_Join w.heap.size 0 zs.length (zs.map fun x => bs (dtxt x)) ⟨#[46]⟩ wr (by
        intro j x hx
        rw [List.getElem?_map] at hx
        obtain ⟨z, hz, rfl⟩ := Option.map_eq_some_iff.1 hx
        obtain ⟨hj, rfl⟩ := List.getElem?_eq_some_iff.1 hz
        have := hrow.cell hj
        rw [if_pos (by omega)] at this
        rw [Nat.zero_add, this]
        simp [List.getD, hj]) hs (by simp; omega) (by simp) (by
        rw [hm]; have := HL.out; show (Lib.join _ [46]).length ≤ _; omega)
      rw [hm, List.length_map] at hj
      have HJ := hide hj
      clear hj hm hrow
      go_wp2_with fail
      refine HJ.out.mono ?_; rintro e w2 ⟨rfl, hb2⟩
      go_wp2_with fail
      go_ret
      exact ⟨rfl, hb.trans (hb2.mono hb.size)⟩

set_option maxRecDepth 1000000 in
set_option maxHeartbeats 2000000 in
/-- The program's PuzzleText. -/
theorem PuzzleText_any (A : Option Addr) (n c B : Nat) (cs : List Cl) (u : Int) (w : World) (hr : Cls w B A n cs) (hB : B ≤ w.heap.size) (hn : n ≤ 17592186044416) :
    Calls Tryd.prog 8 #[.agg #[.int .i64 u, .slice A n c]] w fun e w' => e = .returned (.tuple #[.string (pzxT u cs), .bool (pzOk u cs)]) ∧ Below w.heap.size w w' := by
  obtain rfl := hr.len
  have b1 : Below w.heap.size w (w.alloc (.cells #[.int .i64 u, .slice A cs.length c] 30)) := (Below.refl _ _).alloc (Nat.le_refl _) _
  have HX := hide (Bx.new w 30 (.int .i64 u) (.slice A cs.length c))
  have HG := hide (IsPuzzle_any A cs.length c B cs u _ (hr.below b1 hB) (Nat.le_trans hB b1.size) hn)
  have HB := hide b1
  clear b1
  cases hg : pzOk u cs
  · rw [hg] at HG
    have HT : Hid (pzxT u cs = ⟨#[]⟩) := hide (by unfold pzxT; rw [hg]; rfl)
    rw [HT.out]
    clear hg
    go_enter Tryd.func8, Tryd.ntmps8
    go_wp2_with fail
    refine HG.out.mono ?_; rintro e w2 ⟨rfl, hb2⟩
    have HB2 := hide (HB.out.trans (hb2.mono HB.out.size))
    clear hb2
    go_wp2_with fail
    go_ret2
    exact ⟨rfl, HB2.out⟩
  · rw [hg] at HG
    have HT : Hid (pzxT u cs = bs (pzTx u cs)) := hide (by unfold pzxT; rw [hg]; rfl)
    obtain ⟨⟨hu1, hu2⟩, h6, _⟩ := pzOk_parts hg
    have HSM := hide (puzzle_small hg)
    clear hg
    have hmk := run_make_row' (P := Tryd.prog) 42 9 (.string ⟨#[]⟩) 16 Tryd.underlying42 infoStr rfl .i64 .i64 cs.length (by omega) (by omega)
    go_enter Tryd.func8, Tryd.ntmps8
    go_wp2_with fail
    refine HG.out.mono ?_; rintro e w2 ⟨rfl, hb2⟩
    have HB2 := hide (HB.out.trans (hb2.mono HB.out.size))
    have HX2 := hide (HX.out.next hb2)
    have x0 := HX2.out.c0
    have x1 := HX2.out.c1
    have hx := HX2.out.lt
    clear hb2 HG
    go_wp2_with fail
    go_loopw [17] (fun i wr => ∃ k : Nat, k ≤ cs.length ∧ i = .int .i64 k ∧ Hid (wr.rowIs w2.heap.size 9 cs.length (fun j => if j < k then .string (bs (clW (cs.getD j ⟨0, 0, 0, 0⟩))) else .string ⟨#[]⟩)) ∧ Hid (Below w2.heap.size w2 wr) ∧ w2.heap.size < wr.heap.size)
      (fun i _ => cs.length - (intOf i).toNat)
    case atStart => exact ⟨0, Nat.zero_le _, rfl, hide ((World.rowIs_made w2 _ _ _).congr (fun i _ => by simp)), hide ((Below.refl _ _).alloc (Nat.le_refl _) _), by simp⟩
    case round =>
      obtain ⟨k, hk, rfl, HRow, HBr, hs⟩ := hrel
      have HBw := hide (HB2.out.trans (HBr.out.mono HB2.out.size))
      by_cases hlt : k < cs.length
      · obtain ⟨b, off, rfl, hab, hc0, hc1, hc2, hc3⟩ := (hr.below HBw.out hB).at_ hlt hlt
        have HSk := hide (HSM.out k hlt)
        have HJ := hide (fun g W (h : Ints W W.heap.size (some ⟨g, 0, none⟩) 4 [cs[k].x0, cs[k].x1, cs[k].x2, cs[k].x3]) => joinDot_any (some ⟨g, 0, none⟩) 4 4 W.heap.size [cs[k].x0, cs[k].x1, cs[k].x2, cs[k].x3] W h (Nat.le_refl _) (by omega) (fun j hj => by
          have hs := HSk.out
          unfold small at hs
          have h2 : j = 0 ∨ j = 1 ∨ j = 2 ∨ j = 3 := by simp at hj; omega
          rcases h2 with rfl | rfl | rfl | rfl
          · exact hs.1
          · exact hs.2.1
          · exact hs.2.2.1
          · exact hs.2.2.2) (Nat.le_trans (show (clW cs[k]).length ≤ 11 from clW_len HSk.out) (by omega)))
        rw [show Lib.join ([cs[k].x0, cs[k].x1, cs[k].x2, cs[k].x3].map dtxt) [46] = clW cs[k] from rfl] at HJ
        have HG := hide (show cs.getD k ⟨0, 0, 0, 0⟩ = cs[k] from by simp [List.getD, List.getElem?_eq_getElem hlt])
        have hlti : (k : Int) < (cs.length : Int) := by omega
        generalize hsk : bs (clW cs[k]) = sk at *
        have HSK := hide hsk
        clear hsk
        generalize cs[k] = d at *
        have HI := hide (show Ints ((wr.alloc (.cells #[.int .i64 d.x0, .int .i64 d.x1, .int .i64 d.x2, .int .i64 d.x3] 44)).alloc (.cells #[.int .i64 d.x0, .int .i64 d.x1, .int .i64 d.x2, .int .i64 d.x3] 3)) ((wr.alloc (.cells #[.int .i64 d.x0, .int .i64 d.x1, .int .i64 d.x2, .int .i64 d.x3] 44)).alloc (.cells #[.int .i64 d.x0, .int .i64 d.x1, .int .i64 d.x2, .int .i64 d.x3] 3)).heap.size (some ⟨wr.heap.size + 1, 0, none⟩) 4 [d.x0, d.x1, d.x2, d.x3] from by have h := ints_four (wr.alloc (.cells #[.int .i64 d.x0, .int .i64 d.x1, .int .i64 d.x2, .int .i64 d.x3] 44)) d 3; simpa using h)
        have hb2 : Below wr.heap.size wr ((wr.alloc (.cells #[.int .i64 d.x0, .int .i64 d.x1, .int .i64 d.x2, .int .i64 d.x3] 44)).alloc (.cells #[.int .i64 d.x0, .int .i64 d.x1, .int .i64 d.x2, .int .i64 d.x3] 3)) := ((Below.refl _ _).alloc (Nat.le_refl _) _).alloc (by simp) _
        have HBB := hide hb2
        clear hb2 x0 x1
        go_wp2_with fail
        refine (HJ.out _ _ HI.out).mono ?_; rintro e w3 ⟨rfl, hb3⟩
        have HB3 := hide (HBB.out.trans (hb3.mono HBB.out.size))
        have hrow3 := HRow.out.of_block (HB3.out.block _ hs)
        have hold := hrow3.cell hlt
        have hfz := hrow3.frozen k
        have HR3 := hide hrow3
        have hs3 : w2.heap.size < w3.heap.size := Nat.lt_of_lt_of_le hs HB3.out.size
        clear hrow3 hb3 HI hc0 hc1 hc2 hc3
        go_wp2_with fail
        go_roundw
        case rel =>
          refine ⟨k + 1, by omega, by go_num, hide ((HR3.out.set k _).congr (fun i hi => ?_)), hide ((HBr.out.trans (HB3.out.mono (Nat.le_of_lt hs))).setCell (p := ⟨w2.heap.size, k, none⟩) (Nat.le_refl _) _), by simpa using hs3⟩
          by_cases e : i = k
          · subst e; rw [if_pos rfl, if_pos (by omega), HG.out, HSK.out]
          · rw [if_neg e]
            by_cases h2 : i < k
            · rw [if_pos h2, if_pos (by omega)]
            · rw [if_neg h2, if_neg (by omega)]
        case measure => simp [intOf]; omega
      · have HL := clT_len cs (fun j hj => HSM.out j hj) cs.length (Nat.le_refl _)
        rw [clT_all] at HL
        have hm : (cs.map fun d => bs (clW d)).map (·.data.toList) = cs.map clW := by simp [bs]
        have hj := Tryd.strings_Join w2.heap.size 0 cs.length (cs.map fun d => bs (clW d)) ⟨#[44]⟩ wr (by
          intro j x hx
          rw [List.getElem?_map] at hx
          obtain ⟨z, hz, rfl⟩ := Option.map_eq_some_iff.1 hx
          obtain ⟨hj, rfl⟩ := List.getElem?_eq_some_iff.1 hz
          have := HRow.out.cell hj
          rw [if_pos (by omega)] at this
          rw [Nat.zero_add, this]
          simp [List.getD, hj]) hs (by simp; omega) (by simp) (by
          rw [hm]; show (clT cs).length ≤ _; omega)
        rw [hm, List.length_map] at hj
        have hdu := dtxt2_len (x := u) (by omega)
        have hA : ∀ W, (Op.stringOp .add (bs (dtxt u)) ⟨#[104]⟩).run Tryd.prog W = .ok (.string (bs (dtxt u ++ [104]))) W := fun W => by
          rw [run_string_add_sum W _ _ (by rw [bs_size]; show _ + 1 ≤ _; omega), show (⟨#[104]⟩ : ByteArray) = bs [104] from rfl, bs_append]
        have hC : ∀ W, (Op.stringOp .add (bs (dtxt u ++ [104])) (bs (clT cs))).run Tryd.prog W = .ok (.string (bs (pzTx u cs))) W := fun W => by
          rw [run_string_add_sum W _ _ (by rw [bs_size, bs_size]; simp; omega), bs_append]; rfl
        have HI := hide (fun W => Itoa100_any u (by omega) (by omega) W)
        have y0 := (HX2.out.next HBr.out).c0
        have HJ := hide hj
        have HAA := hide hA
        have HCC := hide hC
        clear hj hm HL hA hC hdu x0 x1
        change Hid (Calls Tryd.prog _ _ _ fun e w' => e = .returned (.string (bs (clT cs))) ∧ _) at HJ
        generalize bs (dtxt u ++ [104]) = s1 at *
        generalize bs (dtxt u) = s0 at *
        generalize bs (clT cs) = s2 at *
        generalize bs (pzTx u cs) = s3 at *
        have hA := HAA.out
        have hC := HCC.out
        go_wp2_with fail
        refine (HI.out _).mono ?_; rintro e w4 ⟨rfl, rfl⟩
        go_wp2_with fail
        refine HJ.out.mono ?_; rintro e w5 ⟨rfl, hb5⟩
        have HB5 := hide (HBw.out.trans (hb5.mono HBw.out.size))
        clear hb5
        go_wp2_with fail
        go_ret2
        rw [HT.out]
        exact ⟨rfl, HB5.out⟩
end Go.Proofs.YtmjlfmlbmegheaaDoor
