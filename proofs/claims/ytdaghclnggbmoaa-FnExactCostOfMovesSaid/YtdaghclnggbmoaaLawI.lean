
/-
  THE WALK OF THE EXACT LAW ON COSTS OF MOVES, the given frame left out.
-/
import Derived.Test.YtdaghclnggbmoaaCostB
import Derived.Test.YtdaghclnggbmoaaLaws0
namespace Go.Proofs.Ytdaghclnggbmoaa
open Go.RowKit Go.Deep

theorem Mvs.next {w w' : World} {A : Option Addr} {n : Nat} {ms : List Mv} (h : Mvs w w.heap.size A n ms) (hb : Below w.heap.size w w') : Mvs w' w'.heap.size A n ms :=
  (h.below hb (Nat.le_refl _)).more hb.size
theorem RowM.mvs {w : World} {g B : Nat} {ms : List Mv} (h : RowM w g ms) (hg : g < B) : Mvs w B (some ⟨g, 0, none⟩) ms.length ms :=
  ⟨rfl, fun _ => ⟨g, 0, rfl, hg, fun i hi => by rw [Nat.zero_add]; exact World.rowIs.cell h hi⟩⟩

theorem lawCostOfMoves (A : Option Addr) (n c : Nat) (ms : List Mv) (w : World) (hr : Mvs w w.heap.size A n ms) (hmax : n ≤ 9223372036854775807) :
    Calls Try.prog 4 #[.slice A n c] w fun e w' => e = .returned (.bool true) ∧ Below w.heap.size w w' := by
  obtain rfl := hr.len
  by_cases hbig : (1048576 : Int) < (ms.length : Int)
  · have hsz := szMoveS_any A ms.length c 1048576 w hmax (by omega) (by omega)
    rw [if_pos hbig] at hsz
    have HSz := hide hsz
    clear hsz
    go_enter Try.func4, Try.ntmps4
    go_wp2_with fail
    refine HSz.out.mono ?_
    rintro e w1 ⟨rfl, rfl⟩
    go_wp2_with fail
    go_ret
    exact ⟨rfl, Below.refl _ _⟩
  · have hcap : ms.length ≤ 1099511627776 := by omega
    have hsz := szMoveS_any A ms.length c 1048576 w hmax (by omega) (by omega)
    rw [if_neg hbig] at hsz
    have HSz := hide hsz
    clear hsz
    have hnn : 0 ≤ 1048576 - (ms.length : Int) := by omega
    go_enter Try.func4, Try.ntmps4
    go_wp2_with fail
    refine HSz.out.mono ?_
    rintro e w0 ⟨rfl, rfl⟩
    go_wp2_with fail
    refine (toMoveS_any _ _ _ _ _ hr hcap).mono ?_
    rintro e w1 ⟨g1, _, hz1, rfl, hrow1, hb1⟩
    have hr1 := hr.next hb1
    go_wp2_with fail
    refine (specCostOfMoves_any _ _ _ _ _ _ (hrow1.mvs hz1) (Nat.le_refl _) hcap).mono ?_
    rintro e w2 ⟨rfl, hb2⟩
    have hr2 := hr1.next hb2
    go_wp2_with fail
    refine (toMoveS_any _ _ _ _ _ hr2 hcap).mono ?_
    rintro e w3 ⟨g2, _, hz2, rfl, hrow2, hb3⟩
    have hr3 := hr2.next hb3
    have hx3 := hrow2.mvs hz2
    go_wp2_with fail
    refine (CostOfMoves_any _ _ _ _ _ _ hx3 (Nat.le_refl _) hcap).mono ?_
    rintro e w4 ⟨rfl, hb4⟩
    have hr4 := hr3.next hb4
    have hx4 := hx3.next hb4
    go_wp2_with fail
    refine (toMoveS_any _ _ _ _ _ hr4 hcap).mono ?_
    rintro e w5 ⟨g3, _, hz3, rfl, hrow3, hb5⟩
    have hx5 := hx4.next hb5
    go_wp2_with fail
    refine (eqMoveS_same _ _ _ _ _ _ _ _ _ hx5 (hrow3.mvs hz3) (Nat.le_refl _) (Nat.le_refl _) hcap).mono ?_
    rintro e w6 ⟨rfl, hb6⟩
    go_wp2_with fail
    go_ret
    exact ⟨rfl, below_next (below_next (below_next (below_next (below_next hb1 hb2) hb3) hb4) hb5) hb6⟩
end Go.Proofs.Ytdaghclnggbmoaa
