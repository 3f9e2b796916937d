
/-
  THE TEXT OF CUPS, BOTH WAYS.
-/
import Derived.Test.YtedjcdjeejbipaaDoorCuS
import Derived.Test.YtedjcdjeejbipaaDoorCuL
import Derived.Test.YtedjcdjeejbipaaDoordTextH
import Derived.Deep.RegionHeld3
namespace Go.Proofs.YtedjcdjeejbipaaDoor
open Go.RowKit Go.Deep
set_option linter.unusedVariables false

def cupT (zs : List Int) (u : Int) : ByteArray := if cuOk zs u then bs (txt zs ++ [47] ++ dtxt u) else ⟨#[]⟩
theorem cupT_no {zs : List Int} {u : Int} (h : cuOk zs u = false) : cupT zs u = ⟨#[]⟩ := by unfold cupT; rw [h]; rfl
theorem cupT_yes {zs : List Int} {u : Int} (h : cuOk zs u = true) : cupT zs u = bs (txt zs ++ [47] ++ dtxt u) := by unfold cupT; rw [h]; rfl

/-- What the two steps of the text come to. -/
theorem cup_adds {zs : List Int} {u : Int} (hc : cuOk zs u = true) :
    (∀ (k : Nat) (_ : k < zs.length), 0 ≤ zs[k] ∧ zs[k] < 10000000000) ∧ (0 ≤ u ∧ u < 10000000000) ∧
    (∀ W, (Op.stringOp .add (bs (txt zs)) ⟨#[47]⟩).run Tryd.prog W = .ok (.string (bs (txt zs ++ [47]))) W) ∧
    (∀ W, (Op.stringOp .add (bs (txt zs ++ [47])) (bs (dtxt u))).run Tryd.prog W = .ok (.string (bs (txt zs ++ [47] ++ dtxt u))) W) := by
  obtain ⟨h2, h6, hu, hw, _⟩ := cuOk_of hc
  have hub := isU_bd hu
  have hz : ∀ (k : Nat) (_ : k < zs.length), 0 ≤ zs[k] ∧ zs[k] < 10000000000 := fun k hk => by
    have := within_toNat hw zs[k] (List.getElem_mem hk); omega
  have hl := txt_len zs hz zs.length (Nat.le_refl _)
  rw [txt_all] at hl
  have hd := dtxt_len (x := u) (by omega) (by omega)
  refine ⟨hz, ⟨by omega, by omega⟩, fun W => ?_, fun W => ?_⟩
  · rw [run_string_add_sum W _ _ (by rw [bs_size]; show _ + 1 ≤ _; omega), show (⟨#[47]⟩ : ByteArray) = bs [47] from rfl, bs_append]
  · rw [run_string_add_sum W _ _ (by rw [bs_size, bs_size]; simp; omega), bs_append]

set_option maxRecDepth 1000000 in
theorem CupsText_any (A : Option Addr) (n c B : Nat) (zs : List Int) (u : Int) (w : World) (hr : Ints w B A n zs) (hB : B ≤ w.heap.size) (hn : n ≤ 17592186044416) (hT : TabP w ∧ Tab w) :
    Calls Tryd.prog 8 #[.agg #[.slice A n c, .int .i64 u]] w fun e w' => e = .returned (.tuple #[.string (cupT zs u), .bool (cuOk zs u)]) ∧ Below w.heap.size w w' := by
  obtain rfl := hr.len
  have kb : Below w.heap.size w (w.alloc (.cells #[.slice A zs.length c, .int .i64 u] 28)) := (Below.refl _ _).alloc (Nat.le_refl _) _
  have KX := hide (Bx.new w 28 (.slice A zs.length c) (.int .i64 u))
  have HA := hide (AreCups_any A zs.length c B zs u _ (hr.below kb hB) (Nat.le_trans hB kb.size) hn (hT.2.next kb))
  have HKB := hide kb
  have HR := hide hr
  have HT := hide hT
  clear kb hr hT
  cases hc : cuOk zs u
  · rw [cupT_no hc]
    rw [hc] at HA
    clear hc
    go_enter Tryd.func8, Tryd.ntmps8
    go_wp2_with fail
    refine HA.out.mono ?_; rintro e w2 ⟨rfl, hb2⟩
    have HB := hide (HKB.out.trans (hb2.mono HKB.out.size))
    clear hb2
    go_wp2_with fail
    go_ret2
    exact ⟨rfl, HB.out⟩
  · rw [cupT_yes hc]
    obtain ⟨h2, h6, _⟩ := cuOk_of hc
    obtain ⟨hz, hu, hmid, hadd⟩ := cup_adds hc
    have HM := hide hmid
    have HD := hide hadd
    rw [hc] at HA
    have HJ := hide (fun W (h : Below w.heap.size w W) => joinNumbers_any A zs.length c B zs W (HR.out.below h hB) (Nat.le_trans hB h.size) (by omega) hz (HT.out.1.next h))
    have HI := hide (fun W (h : Below w.heap.size w W) => Itoa_any u hu.1 hu.2 W (HT.out.1.next h))
    clear hc hz hu hmid hadd
    generalize bs (txt zs) = s0 at *
    generalize bs (txt zs ++ [47] ++ dtxt u) = s2 at *
    generalize bs (txt zs ++ [47]) = s1 at *
    generalize bs (dtxt u) = s3 at *
    have hmid := HM.out
    have hadd := HD.out
    go_enter Tryd.func8, Tryd.ntmps8
    go_wp2_with fail
    refine HA.out.mono ?_; rintro e w2 ⟨rfl, hb2⟩
    have HB := hide (HKB.out.trans (hb2.mono HKB.out.size))
    have X2 := hide (KX.out.next hb2)
    have c0 := X2.out.c0
    have c1 := X2.out.c1
    clear hb2
    have HS := hide (fun W (h : Below w2.heap.size w2 W) => And.intro h (And.intro (X2.out.next h).c0 (X2.out.next h).c1))
    have HJ2 := hide (fun W (h : Below w2.heap.size w2 W) => HJ.out W (below_next HB.out h))
    have HI2 := hide (fun W (h : Below w2.heap.size w2 W) => HI.out W (below_next HB.out h))
    clear HJ HI
    go_wp2_with fail
    go_region_held3 (fun W => Below w2.heap.size w2 W ∧ W.cell? ⟨w.heap.size, 0, none⟩ = some (.slice A zs.length c) ∧ W.cell? ⟨w.heap.size, 1, none⟩ = some (.int .i64 u))
      (first | exact HS.out _ (Below.refl _ _).drew | exact HS.out _ (below_next (And.left (by assumption)) hb4) | exact HS.out _ (below_next (And.left (by assumption)) hb3) | go_keep)
      (first
      | (go_at_call 19; (with_reducible refine (HJ2.out _ (And.left (by assumption))).mono ?_); rintro e w3 ⟨rfl, hb3⟩)
      | (go_at_call 20; (with_reducible refine (HI2.out _ (And.left (by assumption))).mono ?_); rintro e w4 ⟨rfl, hb4⟩))
    all_goals
      have hB4 : Below w2.heap.size w2 w4 := And.left (by assumption : Below w2.heap.size w2 w4 ∧ _)
      have HE := hide (below_next HB.out hB4)
      clear hB4 hb3 hb4
      go_wp2_with fail
      go_ret2
      exact ⟨rfl, HE.out⟩

set_option maxRecDepth 1000000 in
theorem cuText_any (A : Option Addr) (n c B : Nat) (zs : List Int) (u : Int) (w : World) (hr : Ints w B A n zs) (hB : B ≤ w.heap.size) (hc : cuOk zs u = true) :
    Calls Tryd.prog 16 #[.agg #[.slice A n c, .int .i64 u]] w fun e w' => e = .returned (.string (bs (txt zs ++ [47] ++ dtxt u))) ∧ Below w.heap.size w w' := by
  obtain rfl := hr.len
  have kb : Below w.heap.size w (w.alloc (.cells #[.slice A zs.length c, .int .i64 u] 28)) := (Below.refl _ _).alloc (Nat.le_refl _) _
  have X2 := hide (Bx.new w 28 (.slice A zs.length c) (.int .i64 u))
  have HB := hide kb
  have HR := hide hr
  clear kb hr
  obtain ⟨h2, h6, _⟩ := cuOk_of hc
  obtain ⟨hz, hu, hmid, hadd⟩ := cup_adds hc
  have HM := hide hmid
  have HD := hide hadd
  have HJ := hide (fun W (h : Below w.heap.size w W) => hpText_any A zs.length c B zs W (HR.out.below h hB) (Nat.le_trans hB h.size) (by omega) hz)
  have HI := hide (fun W => l1Num_any 9 u.toNat W (by omega) (by omega))
  rw [show ((u.toNat : Nat) : Int) = u from by omega, show Lib.decDigits u.toNat = dtxt u from rfl] at HI
  clear hc hz hu hmid hadd
  generalize bs (txt zs) = s0 at *
  generalize bs (txt zs ++ [47] ++ dtxt u) = s2 at *
  generalize bs (txt zs ++ [47]) = s1 at *
  generalize bs (dtxt u) = s3 at *
  have hmid := HM.out
  have hadd := HD.out
  have c0 := X2.out.c0
  have c1 := X2.out.c1
  go_enter Tryd.func16, Tryd.ntmps16
  go_wp2_with fail
  generalize (w.alloc (.cells #[.slice A zs.length c, .int .i64 u] 28)) = w2 at *
  have HS := hide (fun W (h : Below w2.heap.size w2 W) => And.intro h (And.intro (X2.out.next h).c0 (X2.out.next h).c1))
  have HJ2 := hide (fun W (h : Below w2.heap.size w2 W) => HJ.out W (HB.out.trans (h.mono HB.out.size)))
  clear HJ
  go_region_held3 (fun W => Below w2.heap.size w2 W ∧ W.cell? ⟨w.heap.size, 0, none⟩ = some (.slice A zs.length c) ∧ W.cell? ⟨w.heap.size, 1, none⟩ = some (.int .i64 u))
    (first | exact HS.out _ (Below.refl _ _).drew | exact HS.out _ (below_next (And.left (by assumption)) hb4) | exact HS.out _ (below_next (And.left (by assumption)) hb3) | go_keep)
    (first
    | (go_at_call 31; (with_reducible refine (HJ2.out _ (And.left (by assumption))).mono ?_); rintro e w3 ⟨rfl, hb3⟩)
    | (go_at_call 32; (with_reducible refine (HI.out _).mono ?_); rintro e w4 ⟨rfl, hb4⟩))
  all_goals
    have hB4 : Below w2.heap.size w2 w4 := And.left (by assumption : Below w2.heap.size w2 w4 ∧ _)
    have HE := hide (HB.out.trans (hB4.mono HB.out.size))
    clear hB4 hb3 hb4
    go_wp2_with fail
    go_ret
    exact ⟨rfl, HE.out⟩

set_option maxRecDepth 1000000 in
theorem specCupsText_any (A : Option Addr) (n c B : Nat) (zs : List Int) (u : Int) (w : World) (hr : Ints w B A n zs) (hB : B ≤ w.heap.size) (hn : n ≤ 17592186044416) :
    Calls Tryd.prog 6 #[.agg #[.slice A n c, .int .i64 u]] w fun e w' => e = .returned (.tuple #[.string (cupT zs u), .bool (cuOk zs u)]) ∧ Below w.heap.size w w' := by
  obtain rfl := hr.len
  have kb : Below w.heap.size w (w.alloc (.cells #[.slice A zs.length c, .int .i64 u] 28)) := (Below.refl _ _).alloc (Nat.le_refl _) _
  have KX := hide (Bx.new w 28 (.slice A zs.length c) (.int .i64 u))
  have HA := hide (cuGood_any A zs.length c B zs u _ (hr.below kb hB) (Nat.le_trans hB kb.size) hn)
  have HKB := hide kb
  have HR := hide hr
  clear kb hr
  cases hc : cuOk zs u
  · rw [cupT_no hc]
    rw [hc] at HA
    clear hc
    go_enter Tryd.func6, Tryd.ntmps6
    go_wp2_with fail
    refine HA.out.mono ?_; rintro e w2 ⟨rfl, hb2⟩
    have HB := hide (HKB.out.trans (hb2.mono HKB.out.size))
    clear hb2
    go_wp2_with fail
    go_ret2
    exact ⟨rfl, HB.out⟩
  · rw [cupT_yes hc]
    rw [hc] at HA
    have HC := hide (fun W (h : Below w.heap.size w W) => cuText_any A zs.length c B zs u W (HR.out.below h hB) (Nat.le_trans hB h.size) hc)
    clear hc
    generalize bs (txt zs ++ [47] ++ dtxt u) = s2 at *
    go_enter Tryd.func6, Tryd.ntmps6
    go_wp2_with fail
    refine HA.out.mono ?_; rintro e w2 ⟨rfl, hb2⟩
    have HB := hide (HKB.out.trans (hb2.mono HKB.out.size))
    have c0 := (KX.out.next hb2).c0
    have c1 := (KX.out.next hb2).c1
    clear hb2
    go_wp2_with fail
    refine (HC.out _ HB.out).mono ?_; rintro e w3 ⟨rfl, hb3⟩
    have HE := hide (below_next HB.out hb3)
    clear hb3 c0 c1
    go_wp2_with fail
    go_ret2
    exact ⟨rfl, HE.out⟩
end Go.Proofs.YtedjcdjeejbipaaDoor
