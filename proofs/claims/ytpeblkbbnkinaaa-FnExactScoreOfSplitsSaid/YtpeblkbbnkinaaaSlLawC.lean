
/-
  THE WALKS OF EXACT LAWS ON SPLITS WHOSE RESULTS ARE NO MEMORY, the given frame left out: AreSplitHeaps, FullScore, ScoreOfSplits.
-/
import Derived.Test.YtpeblkbbnkinaaaLaws0
import Derived.Test.YtpeblkbbnkinaaaSpM
import Derived.Test.YtpeblkbbnkinaaaSpB
import Derived.Test.YtpeblkbbnkinaaaSlC
namespace Go.Proofs.Ytpeblkbbnkinaaa
open Go.RowKit Go.Deep
set_option linter.unusedVariables false

theorem Sps.next {w w' : World} {A : Option Addr} {n : Nat} {ms : List Sp} (h : Sps w w.heap.size A n ms) (hb : Below w.heap.size w w') : Sps w' w'.heap.size A n ms := (h.below hb (Nat.le_refl _)).more hb.size

set_option maxRecDepth 1000000 in
theorem lawScoreOfSplits (h : Int) (A : Option Addr) (n c : Nat) (ds : List Sp) (w : World) (hr : Sps w w.heap.size A n ds) (hmax : n ≤ 9223372036854775807) :
    Calls Try.prog 7 #[.int .i64 h, .slice A n c] w fun e w' => e = .returned (.bool true) ∧ Below w.heap.size w w' := by
  obtain rfl := hr.len
  have hsz := szSplitS_any A ds.length c 1048576 w hmax (by omega) (by omega)
  by_cases hbig : 1048576 < ds.length
  · rw [if_pos (by omega)] at hsz
    have HZ := hide hsz
    clear hsz
    go_enter Try.func7, Try.ntmps7
    go_wp2_with fail
    refine HZ.out.mono ?_; rintro e w1 ⟨rfl, rfl⟩
    go_wp2_with fail
    go_ret
    exact ⟨rfl, Below.refl _ _⟩
  · rw [if_neg (by omega)] at hsz
    have HZ := hide hsz
    clear hsz
    have hcap : ds.length ≤ 1099511627776 := by omega
    have hleft : 0 ≤ 1048576 - (ds.length : Int) := by omega
    have HS := hide (fun (g : Nat) (B : Nat) (W : World) (h1 : Sps W B (some ⟨g, 0, none⟩) ds.length ds) (h2 : B ≤ W.heap.size) => specScoreOfSplits_any h (some ⟨g, 0, none⟩) ds.length ds.length B ds W h1 h2 hcap)
    have HI := hide (fun (g : Nat) (B : Nat) (W : World) (h1 : Sps W B (some ⟨g, 0, none⟩) ds.length ds) (h2 : B ≤ W.heap.size) => ScoreOfSplits_any h (some ⟨g, 0, none⟩) ds.length ds.length B ds W h1 h2 hcap)
    generalize scN h ds = t at *
    generalize scOk h ds = o at *
    have e1 : (t != t) = false := by simp
    have e2 : (o != o) = false := by simp
    go_enter Try.func7, Try.ntmps7
    go_wp2_with fail
    refine HZ.out.mono ?_; rintro e w0 ⟨rfl, rfl⟩
    go_wp2_with fail
    refine (toSplitS_any _ _ _ _ _ hr hcap).mono ?_
    rintro e w1 ⟨g1, _, hz1, rfl, hrow1, hb1⟩
    have hr1 := hr.next hb1
    go_wp2_with fail
    refine (HS.out _ _ _ (hrow1.list hz1) (Nat.le_refl _)).mono ?_
    rintro e w2 ⟨rfl, hb2⟩
    have hr2 := hr1.next hb2
    go_wp2_with fail
    refine (toSplitS_any _ _ _ _ _ hr2 hcap).mono ?_
    rintro e w3 ⟨g2, _, hz2, rfl, hrow2, hb3⟩
    have hr3 := hr2.next hb3
    have hx3 := hrow2.list hz2
    go_wp2_with fail
    refine (HI.out _ _ _ hx3 (Nat.le_refl _)).mono ?_
    rintro e w4 ⟨rfl, hb4⟩
    have hr4 := hr3.next hb4
    have hx4 := hx3.next hb4
    go_wp2_with fail
    refine (toSplitS_any _ _ _ _ _ hr4 hcap).mono ?_
    rintro e w5 ⟨g3, _, hz3, rfl, hrow3, hb5⟩
    have hx5 := hx4.next hb5
    go_wp2_with fail
    refine (eqSplitS_same _ _ _ _ _ _ _ _ _ hx5 (hrow3.list hz3) (Nat.le_refl _) (Nat.le_refl _) hcap).mono ?_
    rintro e w6 ⟨rfl, hb6⟩
    go_wp2_with fail
    go_ret
    exact ⟨rfl, below_next (below_next (below_next (below_next (below_next hb1 hb2) hb3) hb4) hb5) hb6⟩
end Go.Proofs.Ytpeblkbbnkinaaa
