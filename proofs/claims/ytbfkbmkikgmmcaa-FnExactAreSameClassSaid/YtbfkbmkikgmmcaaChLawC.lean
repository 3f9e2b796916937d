
/-
  THE WALK OF AreSameClass' EXACT LAW, the given frame left out.
-/
import Derived.Test.YtbfkbmkikgmmcaaLaws0
import Derived.Test.YtbfkbmkikgmmcaaChB
namespace Go.Proofs.Ytbfkbmkikgmmcaa
open Go.RowKit Go.Deep

set_option maxRecDepth 100000 in
theorem lawAreSameClass (A : Option Addr) (n c : Nat) (zs : List Int) (A' : Option Addr) (n' c' : Nat) (ys : List Int) (w : World) (hr : Ints w w.heap.size A n zs) (hs : Ints w w.heap.size A' n' ys) :
    Calls Try.prog 6 #[.slice A n c, .slice A' n' c'] w fun e w' => e = .returned (.bool true) ∧ Below w.heap.size w w' := by
  obtain rfl := hr.len
  obtain rfl := hs.len
  by_cases hbig : 1048576 < zs.length
  · go_enter Try.func6, Try.ntmps6
    go_wp2_with fail
    go_ret
    exact ⟨rfl, Below.refl _ _⟩
  · by_cases hbig2 : 1048576 < ys.length
    · go_enter Try.func6, Try.ntmps6
      go_wp2_with fail
      go_ret
      exact ⟨rfl, Below.refl _ _⟩
    · have hcap : zs.length ≤ 17592186044416 := by omega
      have hcap2 : ys.length ≤ 17592186044416 := by omega
      go_enter Try.func6, Try.ntmps6
      go_wp2_with fail
      refine (toIntS_any _ _ _ _ _ hr hcap).mono ?_
      rintro e w1 ⟨g1, _, hz1, rfl, hrow1, hb1⟩
      have hr1 := hr.next hb1
      have hs1 := hs.next hb1
      have hx1 := hrow1.ints hz1
      go_wp2_with fail
      refine (toIntS_any _ _ _ _ _ hs1 hcap2).mono ?_
      rintro e w2 ⟨g2, _, hz2, rfl, hrow2, hb2⟩
      have hr2 := hr1.next hb2
      have hs2 := hs1.next hb2
      have hx2 := hx1.next hb2
      have hy2 := hrow2.ints hz2
      go_wp2_with fail
      refine (to_below (specAreSameClass_any _ _ _ _ _ _ _ _ _ _ _ hx2 hy2 (by omega) (by omega))).mono ?_
      rintro e w3 ⟨rfl, hb3⟩
      have hr3 := hr2.next hb3
      have hs3 := hs2.next hb3
      go_wp2_with fail
      refine (toIntS_any _ _ _ _ _ hr3 hcap).mono ?_
      rintro e w4 ⟨g4, _, hz4, rfl, hrow4, hb4⟩
      have hr4 := hr3.next hb4
      have hs4 := hs3.next hb4
      have hx4 := hrow4.ints hz4
      go_wp2_with fail
      refine (toIntS_any _ _ _ _ _ hs4 hcap2).mono ?_
      rintro e w5 ⟨g5, _, hz5, rfl, hrow5, hb5⟩
      have hr5 := hr4.next hb5
      have hs5 := hs4.next hb5
      have hx5 := hx4.next hb5
      have hy5 := hrow5.ints hz5
      go_wp2_with fail
      refine (to_below (AreSameClass_any _ _ _ _ _ _ _ _ _ _ _ hx5 hy5 (by omega) (by omega))).mono ?_
      rintro e w6 ⟨rfl, hb6⟩
      have hr6 := hr5.next hb6
      have hs6 := hs5.next hb6
      have hx6 := hx5.next hb6
      have hy6 := hy5.next hb6
      go_wp2_with fail
      refine (toIntS_any _ _ _ _ _ hr6 hcap).mono ?_
      rintro e w7 ⟨g7, _, hz7, rfl, hrow7, hb7⟩
      have hs7 := hs6.next hb7
      have hx7 := hx6.next hb7
      have hy7 := hy6.next hb7
      go_wp2_with fail
      refine (eqIntS_same _ _ _ _ _ _ _ _ _ hx7 (hrow7.ints hz7) (Nat.le_refl _) (Nat.le_refl _) (by omega)).mono ?_
      rintro e w8 ⟨rfl, hb8⟩
      have hs8 := hs7.next hb8
      have hy8 := hy7.next hb8
      go_wp2_with fail
      refine (toIntS_any _ _ _ _ _ hs8 hcap2).mono ?_
      rintro e w9 ⟨g9, _, hz9, rfl, hrow9, hb9⟩
      have hy9 := hy8.next hb9
      go_wp2_with fail
      refine (eqIntS_same _ _ _ _ _ _ _ _ _ hy9 (hrow9.ints hz9) (Nat.le_refl _) (Nat.le_refl _) (by omega)).mono ?_
      rintro e w10 ⟨rfl, hb10⟩
      go_wp2_with fail
      go_ret
      exact ⟨rfl, below_next (below_next (below_next (below_next (below_next (below_next (below_next (below_next (below_next hb1 hb2) hb3) hb4) hb5) hb6) hb7) hb8) hb9) hb10⟩
end Go.Proofs.Ytbfkbmkikgmmcaa
