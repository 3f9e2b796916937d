
/-
  THE TEXT OF A PLAN, BOTH WAYS: ldText, joinNumbers with nothing between, PlanText.
-/
import Derived.Test.YtifkdppjepdcpaaDoorTextH
import Derived.Test.YtifkdppjepdcpaaDoorLdP
import Derived.Test.YtifkdppjepdcpaaDoorGood
namespace Go.Proofs.YtifkdppjepdcpaaDoor
open Go.RowKit Go.Deep
set_option linter.unusedVariables false

def txt0 (zs : List Int) : List UInt8 := Lib.join (zs.map dtxt) []
theorem txt0_succ (zs : List Int) (k : Nat) (h : k < zs.length) : txt0 (zs.take (k + 1)) = txt0 (zs.take k) ++ dtxt zs[k] := by
  unfold txt0
  rw [List.take_succ_eq_append_getElem h, List.map_append]
  rcases Nat.eq_zero_or_pos k with rfl | hp
  · simp [Lib.join_one, Lib.join_nil]
  · rw [show List.map dtxt [zs[k]] = [dtxt zs[k]] from rfl, join_snoc _ _ _ (by simp; exact ⟨by omega, by intro e; rw [e] at h; simp at h⟩)]
    simp
theorem txt0_len (zs : List Int) (h : ∀ (k : Nat) (_ : k < zs.length), 0 ≤ zs[k] ∧ zs[k] < 1000000) : ∀ k, k ≤ zs.length → (txt0 (zs.take k)).length ≤ 7 * k
  | 0, _ => by simp [txt0, Lib.join_nil]
  | k + 1, hk => by
    have hd := dtxt_len (h k (by omega)).1 (h k (by omega)).2
    have := txt0_len zs h k (by omega)
    rw [txt0_succ zs k (by omega), List.length_append]
    omega
theorem txt0_all (zs : List Int) : txt0 (zs.take zs.length) = txt0 zs := by rw [List.take_length]

/-- A plan of any jobs. -/
def pany (zs : List Int) : Bool := decide (1 ≤ zs.length ∧ zs.length ≤ 9) && within 0 3 zs
theorem pany_of {zs : List Int} (h : pany zs = true) : 1 ≤ zs.length ∧ zs.length ≤ 9 ∧ within 0 3 zs = true := by
  unfold pany at h; simp at h; exact ⟨by omega, h.1.2, h.2⟩
theorem pany_in {zs : List Int} (h : 1 ≤ zs.length ∧ zs.length ≤ 9) : pany zs = within 0 3 zs := by unfold pany; simp [h]
theorem pany_out {zs : List Int} (h : ¬ (1 ≤ zs.length ∧ zs.length ≤ 9)) : pany zs = false := by unfold pany; simp; omega
theorem pany_z {zs : List Int} (h : pany zs = true) : ∀ (k : Nat) (_ : k < zs.length), 0 ≤ zs[k] ∧ zs[k] < 1000000 := fun k hk => by
  have := within_get (pany_of h).2.2 k hk; omega
def planT (zs : List Int) : ByteArray := if pany zs then bs (txt0 zs) else ⟨#[]⟩

set_option maxRecDepth 1000000 in
theorem joinNumbers0_any (A : Option Addr) (n c B : Nat) (zs : List Int) (w : World) (hr : Ints w B A n zs) (hB : B ≤ w.heap.size) (hn : n ≤ 1000) (hz : ∀ (k : Nat) (_ : k < zs.length), 0 ≤ zs[k] ∧ zs[k] < 1000000) (hT : TabP w) :
    Calls Tryd.prog 16 #[.slice A n c, .string ⟨#[]⟩] w fun e w' => e = .returned (.string (bs (txt0 zs))) ∧ Below w.heap.size w w' := by
  obtain rfl := hr.len
  have HZ := hide hz
  have HL := hide (txt0_len zs hz zs.length (Nat.le_refl _))
  have HT := hide hT
  have hmk := run_make_row' (P := Tryd.prog) 39 9 (.string ⟨#[]⟩) 16 Tryd.underlying39 infoStr rfl .i64 .i64 zs.length (by omega) (by omega)
  clear hz hT
  go_enter Tryd.func16, Tryd.ntmps16
  go_wp2_with fail
  go_loopw [13] (fun i wr => ∃ k : Nat, k ≤ zs.length ∧ i = .int .i64 k ∧ wr.rowIs w.heap.size 9 zs.length (fun j => if j < k then .string (bs (dtxt (zs.getD j 0))) else .string ⟨#[]⟩) ∧ Below w.heap.size w wr ∧ w.heap.size < wr.heap.size)
    (fun i _ => zs.length - (intOf i).toNat)
  case atStart => exact ⟨0, Nat.zero_le _, rfl, (World.rowIs_made w _ _ _).congr (fun i _ => by simp), (Below.refl _ _).alloc (Nat.le_refl _) _, by simp⟩
  case round =>
    obtain ⟨k, hk, rfl, hrow, hb, hs⟩ := hrel
    by_cases hlt : k < zs.length
    · obtain ⟨ad, rfl, hab, hcell⟩ := (hr.below hb hB).at_ hlt
      have hzk := HZ.out k hlt
      rw [show zs.getD k 0 = zs[k] from by simp [List.getD, List.getElem?_eq_getElem hlt]] at hcell
      have HI := hide (Itoa_any zs[k] hzk.1 hzk.2 wr (HT.out.next hb))
      have HG := hide (show zs.getD k 0 = zs[k] from by simp [List.getD, List.getElem?_eq_getElem hlt])
      generalize hsk : bs (dtxt zs[k]) = sk at *
      have HSK := hide hsk
      have Hrow := hide hrow
      clear hsk hrow
      go_wp2_with fail
      refine HI.out.mono ?_; rintro e w2 ⟨rfl, hb2⟩
      have hrow2 := Hrow.out.of_block (hb2.block _ hs)
      have hold := hrow2.cell hlt
      have hfz := hrow2.frozen k
      have s2 := hb2.size
      have hb0 := hb.size
      go_wp2_with fail
      go_roundw
      case rel =>
        refine ⟨k + 1, by omega, by go_num, (hrow2.set k _).congr (fun i hi => ?_), (hb.trans (hb2.mono hb0)).setCell (Nat.le_refl _) _, by simp; omega⟩
        by_cases e : i = k
        · subst e; rw [if_pos rfl, if_pos (by omega), HG.out, HSK.out]
        · rw [if_neg e]
          by_cases h2 : i < k
          · rw [if_pos h2, if_pos (by omega)]
          · rw [if_neg h2, if_neg (by omega)]
      case measure => simp [intOf]; omega
    · have hm : (zs.map fun x => bs (dtxt x)).map (·.data.toList) = zs.map dtxt := by simp [bs]
      have hj := Tryd.strings_Join w.heap.size 0 zs.length (zs.map fun x => bs (dtxt x)) ⟨#[]⟩ wr (by
        intro j x hx
        rw [List.getElem?_map] at hx
        obtain ⟨z, hz, rfl⟩ := Option.map_eq_some_iff.1 hx
        obtain ⟨hj, rfl⟩ := List.getElem?_eq_some_iff.1 hz
        have := hrow.cell hj
        rw [if_pos (by omega)] at this
        rw [Nat.zero_add, this]
        simp [List.getD, hj]) hs (by simp; omega) (by simp) (by
        rw [hm]; have := HL.out; rw [txt0_all] at this; unfold txt0 at this; show (Lib.join _ []).length ≤ _; omega)
      rw [hm, List.length_map] at hj
      have HJ := hide hj
      clear hj hm hrow
      go_wp2_with fail
      refine HJ.out.mono ?_; rintro e w2 ⟨rfl, hb2⟩
      go_wp2_with fail
      go_ret
      exact ⟨rfl, hb.trans (hb2.mono hb.size)⟩

/-- The model's ldText. -/
theorem ldText_any (A : Option Addr) (n c B : Nat) (zs : List Int) (w : World) (hr : Ints w B A n zs) (hB : B ≤ w.heap.size) (hn : n ≤ 1000) (hz : ∀ (k : Nat) (_ : k < zs.length), 0 ≤ zs[k] ∧ zs[k] < 1000000) :
    Calls Tryd.prog 14 #[.slice A n c] w fun e w' => e = .returned (.string (bs (txt0 zs))) ∧ Below w.heap.size w w' := by
  obtain rfl := hr.len
  have HZ := hide hz
  have HL := hide (txt0_len zs hz)
  clear hz
  go_enter Tryd.func14, Tryd.ntmps14
  go_wp2_with fail
  go_loopw [3, 8] (fun t i wr => ∃ k : Nat, k ≤ zs.length ∧ i = .int .i64 k ∧ t = .string (bs (txt0 (zs.take k))) ∧ Below w.heap.size w wr)
    (fun _ i _ => zs.length - (intOf i).toNat)
  case atStart => exact ⟨0, Nat.zero_le _, rfl, rfl, Below.refl _ _⟩
  case round =>
    obtain ⟨k, hk, rfl, rfl, hb⟩ := hrel
    by_cases hlt : k < zs.length
    · obtain ⟨ad, rfl, hab, hcell⟩ := (hr.below hb hB).at_ hlt
      have hzk := HZ.out k hlt
      have hlk := HL.out k hk
      have hdk := dtxt_len hzk.1 hzk.2
      rw [show zs.getD k 0 = zs[k] from by simp [List.getD, List.getElem?_eq_getElem hlt]] at hcell
      have HN := hide (fun W => l1Num_any 5 zs[k].toNat W (by omega) (by omega))
      rw [show ((zs[k].toNat : Nat) : Int) = zs[k] from by omega] at HN
      have hb0 := hb.size
      have hadd : ∀ W, (Op.stringOp .add (bs (txt0 (zs.take k))) (bs (Lib.decDigits zs[k].toNat))).run Tryd.prog W = .ok (.string (bs (txt0 (zs.take (k + 1))))) W := fun W => by
        rw [run_string_add_sum W _ _ (by rw [bs_size, bs_size]; unfold dtxt at hdk; omega), bs_append, txt0_succ zs k hlt]
        rfl
      have HA := hide hadd
      clear hadd hdk hlk
      generalize bs (txt0 (zs.take k)) = s0 at *
      generalize bs (Lib.decDigits zs[k].toNat) = s1 at *
      generalize hs2 : bs (txt0 (zs.take (k + 1))) = s2 at *
      have HS2 := hide hs2
      clear hs2
      have hadd := HA.out
      go_wp2_with fail
      refine (HN.out _).mono ?_; rintro e w2 ⟨rfl, hb2⟩
      go_wp2_with fail
      go_roundw
      case rel => exact ⟨k + 1, by omega, by go_num, by rw [HS2.out], hb.trans (hb2.mono hb0)⟩
      case measure => simp [intOf]; omega
    · have e : k = zs.length := by omega
      have HE := hide (show bs (txt0 (zs.take k)) = bs (txt0 zs) from by rw [e, txt0_all])
      clear e
      go_wp2_with fail
      go_ret
      exact ⟨by rw [← HE.out]; rfl, hb⟩

/-- The program's isPlanOfSome. -/
theorem isPlanOfSome_any (A : Option Addr) (n c B : Nat) (zs : List Int) (w : World) (hr : Ints w B A n zs) (hn : n ≤ 17592186044416) :
    Calls Tryd.prog 15 #[.slice A n c] w fun e w' => e = .returned (.bool (pany zs)) ∧ w = w' := by
  have hlen := hr.len
  by_cases h1 : 1 ≤ n
  · by_cases h2 : n ≤ 9
    · have Hg := hide (pany_in (zs := zs) (by omega))
      have Hw := hide (areWithin_any A n c B zs 0 3)
      go_enter Tryd.func15, Tryd.ntmps15
      go_wp2_with (go_at_call 22; refine (Hw.out _ hr hn).mono ?_; rintro e w' ⟨rfl, rfl⟩)
      go_ret
      exact ⟨by rw [Hg.out]; rfl, rfl⟩
    · have Hg := hide (pany_out (zs := zs) (by omega))
      go_enter Tryd.func15, Tryd.ntmps15
      go_wp2_with fail
      go_ret
      exact ⟨by rw [Hg.out]; rfl, rfl⟩
  · have Hg := hide (pany_out (zs := zs) (by omega))
    go_enter Tryd.func15, Tryd.ntmps15
    go_wp2_with fail
    go_ret
    exact ⟨by rw [Hg.out]; rfl, rfl⟩

/-- The model's ldAny. -/
theorem ldAny_any (A : Option Addr) (n c B : Nat) (zs : List Int) (w : World) (hr : Ints w B A n zs) (hn : n ≤ 17592186044416) :
    Calls Tryd.prog 13 #[.slice A n c] w fun e w' => e = .returned (.bool (pany zs)) ∧ w = w' := by
  have hlen := hr.len
  by_cases h1 : 1 ≤ n ∧ n ≤ 9
  · have Hg := hide (pany_in (zs := zs) (by omega))
    have hd : decide ((1 : Int) ≤ (n : Int) ∧ (n : Int) ≤ 9) = true := by simp; omega
    go_enter Tryd.func13, Tryd.ntmps13
    go_wp2_with fail
    refine (l1In_any _ _ _ _).mono ?_; rintro e w' ⟨rfl, rfl⟩; rw [hd]
    go_wp2_with fail
    refine (l1All_any _ _ _ _ _ _ _ _ hr hn).mono ?_; rintro e w' ⟨rfl, rfl⟩
    go_wp2_with fail
    go_ret
    exact ⟨by rw [Hg.out]; rfl, rfl⟩
  · have Hg := hide (pany_out (zs := zs) (by omega))
    have hd : decide ((1 : Int) ≤ (n : Int) ∧ (n : Int) ≤ 9) = false := by simp; omega
    go_enter Tryd.func13, Tryd.ntmps13
    go_wp2_with fail
    refine (l1In_any _ _ _ _).mono ?_; rintro e w' ⟨rfl, rfl⟩; rw [hd]
    go_wp2_with fail
    go_ret
    exact ⟨by rw [Hg.out]; rfl, rfl⟩

theorem PlanText_any (A : Option Addr) (n c B : Nat) (zs : List Int) (w : World) (hr : Ints w B A n zs) (hB : B ≤ w.heap.size) (hn : n ≤ 17592186044416) (hT : TabP w) :
    Calls Tryd.prog 7 #[.slice A n c] w fun e w' => e = .returned (.tuple #[.string (planT zs), .bool (pany zs)]) ∧ Below w.heap.size w w' := by
  obtain rfl := hr.len
  have HG := hide (isPlanOfSome_any A zs.length c B zs w hr hn)
  cases hg : pany zs
  · have H := hide (show planT zs = ⟨#[]⟩ from by unfold planT; rw [hg]; rfl)
    rw [hg] at HG
    rw [H.out]
    clear hg hT
    go_enter Tryd.func7, Tryd.ntmps7
    go_wp2_with fail
    refine HG.out.mono ?_; rintro e w' ⟨rfl, rfl⟩
    go_wp2_with fail
    go_ret2
    exact ⟨rfl, Below.refl _ _⟩
  · have H := hide (show planT zs = bs (txt0 zs) from by unfold planT; rw [hg]; rfl)
    have HJ := hide (joinNumbers0_any A zs.length c B zs w hr hB (by have := (pany_of hg).2.1; omega) (pany_z hg) hT)
    rw [hg] at HG
    rw [H.out]
    generalize bs (txt0 zs) = t at *
    clear hg hT
    go_enter Tryd.func7, Tryd.ntmps7
    go_wp2_with fail
    refine HG.out.mono ?_; rintro e w' ⟨rfl, rfl⟩
    go_wp2_with fail
    refine HJ.out.mono ?_; rintro e w' ⟨rfl, hb⟩
    go_wp2_with fail
    go_ret2
    exact ⟨rfl, hb⟩

theorem specPlanText_any (A : Option Addr) (n c B : Nat) (zs : List Int) (w : World) (hr : Ints w B A n zs) (hB : B ≤ w.heap.size) (hn : n ≤ 17592186044416) :
    Calls Tryd.prog 5 #[.slice A n c] w fun e w' => e = .returned (.tuple #[.string (planT zs), .bool (pany zs)]) ∧ Below w.heap.size w w' := by
  obtain rfl := hr.len
  have HG := hide (ldAny_any A zs.length c B zs w hr hn)
  cases hg : pany zs
  · have H := hide (show planT zs = ⟨#[]⟩ from by unfold planT; rw [hg]; rfl)
    rw [hg] at HG
    rw [H.out]
    clear hg
    go_enter Tryd.func5, Tryd.ntmps5
    go_wp2_with fail
    refine HG.out.mono ?_; rintro e w' ⟨rfl, rfl⟩
    go_wp2_with fail
    go_ret2
    exact ⟨rfl, Below.refl _ _⟩
  · have H := hide (show planT zs = bs (txt0 zs) from by unfold planT; rw [hg]; rfl)
    have HJ := hide (ldText_any A zs.length c B zs w hr hB (by have := (pany_of hg).2.1; omega) (pany_z hg))
    rw [hg] at HG
    rw [H.out]
    generalize bs (txt0 zs) = t at *
    clear hg
    go_enter Tryd.func5, Tryd.ntmps5
    go_wp2_with fail
    refine HG.out.mono ?_; rintro e w' ⟨rfl, rfl⟩
    go_wp2_with fail
    refine HJ.out.mono ?_; rintro e w' ⟨rfl, hb⟩
    go_wp2_with fail
    go_ret2
    exact ⟨rfl, hb⟩

theorem lawPlanText (A : Option Addr) (n c : Nat) (zs : List Int) (w : World) (hr : Ints w w.heap.size A n zs) (hT : TabP w) :
    Calls Tryd.prog 3 #[.slice A n c] w fun e w' => e = .returned (.bool true) ∧ Below w.heap.size w w' := by
  obtain rfl := hr.len
  by_cases hbig : 1048576 < zs.length
  · clear hT
    go_enter Tryd.func3, Tryd.ntmps3
    go_wp2_with fail
    go_ret
    exact ⟨rfl, Below.refl _ _⟩
  · have hcap : zs.length ≤ 17592186044416 := by omega
    have HS := hide (fun (g : Nat) (B : Nat) (W : World) (h1 : Ints W B (some ⟨g, 0, none⟩) zs.length zs) (h2 : B ≤ W.heap.size) => specPlanText_any (some ⟨g, 0, none⟩) zs.length zs.length B zs W h1 h2 hcap)
    have HI := hide (fun (g : Nat) (B : Nat) (W : World) (h1 : Ints W B (some ⟨g, 0, none⟩) zs.length zs) (h2 : B ≤ W.heap.size) (h3 : TabP W) => PlanText_any (some ⟨g, 0, none⟩) zs.length zs.length B zs W h1 h2 hcap h3)
    have HT := hide hT
    clear hT
    generalize planT zs = t at *
    generalize pany zs = o at *
    have e2 : (o != o) = false := by simp
    go_enter Tryd.func3, Tryd.ntmps3
    go_wp2_with fail
    refine (toIntS_any _ _ _ _ _ hr hcap).mono ?_
    rintro e w1 ⟨g1, _, hz1, rfl, hrow1, hb1⟩
    have hr1 := hr.next hb1
    go_wp2_with fail
    refine (HS.out _ _ _ (hrow1.ints hz1) (Nat.le_refl _)).mono ?_
    rintro e w2 ⟨rfl, hb2⟩
    have hr2 := hr1.next hb2
    go_wp2_with fail
    refine (toIntS_any _ _ _ _ _ hr2 hcap).mono ?_
    rintro e w3 ⟨g2, _, hz2, rfl, hrow2, hb3⟩
    have hr3 := hr2.next hb3
    have hx3 := hrow2.ints hz2
    go_wp2_with fail
    refine (HI.out _ _ _ hx3 (Nat.le_refl _) (((HT.out.next hb1).next hb2).next hb3)).mono ?_
    rintro e w4 ⟨rfl, hb4⟩
    have hr4 := hr3.next hb4
    have hx4 := hx3.next hb4
    go_wp2_with fail
    refine (toIntS_any _ _ _ _ _ hr4 hcap).mono ?_
    rintro e w5 ⟨g3, _, hz3, rfl, hrow3, hb5⟩
    have hx5 := hx4.next hb5
    go_wp2_with fail
    refine (eqIntS_same _ _ _ _ _ _ _ _ _ hx5 (hrow3.ints hz3) (Nat.le_refl _) (Nat.le_refl _) (by omega)).mono ?_
    rintro e w6 ⟨rfl, hb6⟩
    go_wp2_with fail
    go_ret
    exact ⟨rfl, below_next (below_next (below_next (below_next (below_next hb1 hb2) hb3) hb4) hb5) hb6⟩
end Go.Proofs.YtifkdppjepdcpaaDoor
