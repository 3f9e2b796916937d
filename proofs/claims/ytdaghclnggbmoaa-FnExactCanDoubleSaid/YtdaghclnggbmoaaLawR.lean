
/-
  THE WALKS OF EXACT LAWS OVER ONE LIST AND A STRUCT, the given frame left out: for all numbers the law returns true and writes nothing that was there.
-/
import Derived.Test.YtdaghclnggbmoaaLaws0
import Derived.Test.YtdaghclnggbmoaaMark
import Derived.Test.YtdaghclnggbmoaaDoubB
import Derived.Test.YtdaghclnggbmoaaLaws0
namespace Go.Proofs.Ytdaghclnggbmoaa
open Go.RowKit Go.Deep

set_option maxRecDepth 100000 in
theorem lawCanDouble (A : Option Addr) (n c : Nat) (zs : List Int) (m : Db) (w : World) (hr : Ints w w.heap.size A n zs) :
    Calls Try.prog 3 #[.slice A n c, .agg #[.int .i64 m.x0, .int .i64 m.x1]] w fun e w' => e = .returned (.bool true) ∧ Below w.heap.size w w' := by
  obtain rfl := hr.len
  by_cases hbig : 1048576 < zs.length
  · go_enter Try.func3, Try.ntmps3
    go_wp2_with fail
    go_ret
    exact ⟨rfl, (Below.refl _ _).alloc (Nat.le_refl _) _⟩
  · have hcap : zs.length ≤ 17592186044416 := by omega
    have hcap' : zs.length ≤ 1048576 := by omega
    have HSp := hide (fun (g : Option Addr) (B : Nat) (W : World) (h1 : Ints W B g zs.length zs) (h2 : B ≤ W.heap.size) => specCanDouble_any g zs.length zs.length B zs m W h1 h2 hcap)
    have HIm := hide (fun (g : Option Addr) (B : Nat) (W : World) (h1 : Ints W B g zs.length zs) (h2 : B ≤ W.heap.size) => CanDouble_any g zs.length zs.length B zs m W h1 h2 hcap)
    have HV := hide (fun (W : World) => toDoubling_any m W)
    generalize canV zs m = fs at *
    generalize few zs = bs at *
    have e1 : (fs != fs) = false := by simp
    have e2 : (bs != bs) = false := by simp
    go_enter Try.func3, Try.ntmps3
    -- the model's answer
    go_wp2_with fail
    have hA : Below w.heap.size w (w.alloc (.cells #[.int .i64 m.x0, .int .i64 m.x1] 24)) := (Below.refl _ _).alloc (Nat.le_refl _) _
    have k0 : (w.alloc (.cells #[.int .i64 m.x0, .int .i64 m.x1] 24)).cell? ⟨w.heap.size, 0, none⟩ = some (.int .i64 m.x0) := by simp
    have k1 : (w.alloc (.cells #[.int .i64 m.x0, .int .i64 m.x1] 24)).cell? ⟨w.heap.size, 1, none⟩ = some (.int .i64 m.x1) := by simp
    have hz0 : w.heap.size < (w.alloc (.cells #[.int .i64 m.x0, .int .i64 m.x1] 24)).heap.size := by simp
    have hr0 := (hr.below hA (Nat.le_refl _)).more hA.size
    have s0 := hA.size
    generalize hbw : w.heap.size = bw at *
    generalize (w.alloc (.cells #[.int .i64 m.x0, .int .i64 m.x1] 24)) = W0 at *
    obtain ⟨bx, hbx⟩ : ∃ bx, bx = bw := ⟨_, rfl⟩
    rw [← hbx] at k0 k1 hz0
    have HK : Hid (∀ W', Below W0.heap.size W0 W' → (W'.cell? ⟨bx, 0, none⟩ = some (.int .i64 m.x0) ∧ W'.cell? ⟨bx, 1, none⟩ = some (.int .i64 m.x1))) :=
      hide fun W' h => ⟨(h.cell (p := ⟨bx, 0, none⟩) hz0).trans k0, (h.cell (p := ⟨bx, 1, none⟩) hz0).trans k1⟩
    have HS := hide (fun W' (h : Below W0.heap.size W0 W') => And.intro h (HK.out W' h))
    have HT := hide (fun W (h : Below W0.heap.size W0 W) => toIntS_any A zs.length c zs W ((hr0.below h (Nat.le_refl _)).more h.size) hcap)
    subst hbx
    first | go_region_held3 (fun W => Below W0.heap.size W0 W ∧ W.cell? ⟨bx, 0, none⟩ = some (.int .i64 m.x0) ∧ W.cell? ⟨bx, 1, none⟩ = some (.int .i64 m.x1))
      (first | exact HS.out _ (Below.refl _ _).drew | exact HS.out _ (below_next (And.left (by assumption)) hb2) | exact HS.out _ (below_next (And.left (by assumption)) hbx1) | exact HS.out _ (below_next (And.left (by assumption)) hb1) | go_keep)
      (first
      | (go_at_call 8; (with_reducible refine (HT.out _ (And.left (by assumption))).mono ?_); rintro e w1 ⟨g1, ha1, hz1, rfl, hrow1, hb1⟩)
      | (go_at_call 9; (with_reducible refine (HV.out _).mono ?_); rintro e x1 ⟨rfl, hbx1⟩)
      | (go_at_call 7; (with_reducible refine (HSp.out _ _ _ ((hrow1.ints hz1).below hbx1 (Nat.le_refl _)) hbx1.size).mono ?_); rintro e w2 ⟨rfl, hb2⟩)) | fail
    have hB2 : Below W0.heap.size W0 w2 := And.left (by assumption : Below W0.heap.size W0 w2 ∧ _)
    have s2 := hB2.size
    have hr2 := hr0.below hB2 (Nat.le_refl _)
    clear hrow1 hz1 hb1 hbx1 hb2 HT HS ha1
    -- the program's
    go_wp2_with fail
    refine (toIntS_any _ _ _ _ _ (hr2.more s2) hcap).mono ?_
    rintro e w3 ⟨g2, ha2, hz2, rfl, hrow2, hb3⟩
    have hr3 := hr2.below hb3 (by omega)
    have hX3 := Own.of_row hrow2 ha2 (by unfold maxLen; omega)
    have s3 := hb3.size
    have hB3 := below_next hB2 hb3
    obtain ⟨o0, o1⟩ := HK.out _ hB3
    go_wp2_with fail
    refine (HV.out _).mono ?_
    rintro e x3 ⟨rfl, hbx3⟩
    clear o0 o1
    have hr3 := hr3.below hbx3 (by omega)
    have hX3 := hX3.below hbx3
    have sx3 := hbx3.size
    have hI3 := (hrow2.ints hz2).below hbx3 (Nat.le_refl _)
    go_wp2_with fail
    refine (HIm.out _ _ _ hI3 sx3).mono ?_
    rintro e w4 ⟨rfl, hb4⟩
    have hr4 := hr3.below hb4 (by omega)
    have hX4 := hX3.below hb4
    have s4 := hb4.size
    go_wp2_with fail
    refine (toIntS_any _ _ _ _ _ (hr4.more (by omega)) hcap).mono ?_
    rintro e w6 ⟨g3, _, hz3, rfl, hrow3, hb6⟩
    have hX6 := hX4.below hb6
    go_wp2_with fail
    refine (eqIntS_same _ _ _ _ _ _ _ _ _ hX6.ints (hrow3.ints hz3) (Nat.le_refl _) (Nat.le_refl _) (by omega)).mono ?_
    rintro e w7 ⟨rfl, hb7⟩
    go_wp2_with fail
    go_ret
    exact ⟨rfl, by rw [hbw]; exact hA.trans ((below_next (below_next (below_next (below_next hB3 hbx3) hb4) hb6) hb7).mono s0)⟩
end Go.Proofs.Ytdaghclnggbmoaa
