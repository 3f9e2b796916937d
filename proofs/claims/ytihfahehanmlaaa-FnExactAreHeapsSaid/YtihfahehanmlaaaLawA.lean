/-
  THE WALKS OF THE EXACT LAWS, the given frame left out: for all numbers the law returns true and writes nothing that was there.
-/
import Derived.Test.YtihfahehanmlaaaGood
namespace Go.Proofs.Ytihfahehanmlaaa
open Go.RowKit Go.Deep

theorem size_below {w w' : World} (h : Below w.heap.size w w') : w.heap.size ≤ w'.heap.size := h.size

theorem lawAreHeaps (A : Option Addr) (n c : Nat) (zs : List Int) (w : World) (hr : Ints w w.heap.size A n zs) :
    Calls Try.prog 3 #[.slice A n c] w fun e w' => e = .returned (.bool true) ∧ Below w.heap.size w w' := by
  obtain rfl := hr.len
  by_cases hbig : 1048576 < zs.length
  · go_enter Try.func3, Try.ntmps3
    go_wp2_with fail
    go_ret
    exact ⟨rfl, Below.refl _ _⟩
  · have hcap : zs.length ≤ 17592186044416 := by omega
    go_enter Try.func3, Try.ntmps3
    go_wp2_with fail
    refine (toIntS_any _ _ _ _ _ hr hcap).mono ?_
    rintro e w1 ⟨g1, ha1, hz1, rfl, hrow1, hb1⟩
    go_wp2_with fail
    refine (specAreHeaps_any _ _ _ _ _ _ (hrow1.ints hz1) (by omega)).mono ?_
    rintro e w2 ⟨rfl, rfl⟩
    go_wp2_with fail
    have hr1 := (hr.below hb1 (Nat.le_refl _)).more hb1.size
    refine (toIntS_any _ _ _ _ _ hr1 hcap).mono ?_
    rintro e w2 ⟨g2, ha2, hz2, rfl, hrow2, hb2⟩
    go_wp2_with fail
    refine (AreHeaps_any _ _ _ _ _ _ (hrow2.ints hz2) (by omega)).mono ?_
    rintro e w3 ⟨rfl, rfl⟩
    have hgg : (good zs != good zs) = false := by simp
    go_wp2_with fail
    have hr2 := (hr1.below hb2 (Nat.le_refl _)).more hb2.size
    refine (toIntS_any _ _ _ _ _ hr2 hcap).mono ?_
    rintro e w3 ⟨g3, ha3, hz3, rfl, hrow3, hb3⟩
    go_wp2_with fail
    refine (eqIntS_same _ _ _ _ _ _ _ _ _ ((hrow2.ints hz2).below hb3 (Nat.le_refl _)) (hrow3.ints hz3) hb3.size (Nat.le_refl _) (by omega)).mono ?_
    rintro e w4 ⟨rfl, hb4⟩
    go_wp2_with fail
    go_ret
    exact ⟨rfl, ((hb1.trans (hb2.mono hb1.size)).trans (hb3.mono (by omega))).trans (hb4.mono (by omega))⟩
end Go.Proofs.Ytihfahehanmlaaa
