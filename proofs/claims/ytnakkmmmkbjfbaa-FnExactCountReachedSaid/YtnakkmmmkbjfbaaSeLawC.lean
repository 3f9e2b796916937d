
/-
  THE WALKS OF EXACT LAWS, the given frame left out: for all numbers the law returns true and writes nothing that was there. (Printed by lawgen.py.)
-/
import Derived.Test.YtnakkmmmkbjfbaaLaws0
import Derived.Test.YtnakkmmmkbjfbaaMark
import Derived.Test.YtnakkmmmkbjfbaaSeC
namespace Go.Proofs.Ytnakkmmmkbjfbaa
open Go.RowKit Go.Deep

set_option maxRecDepth 100000 in
set_option maxHeartbeats 2000000 in
theorem lawCountReached (A_xs : Option Addr) (n_xs c_xs : Nat) (xs : List Int) (w : World) (hr_xs : Ints w w.heap.size A_xs n_xs xs) :
    Calls Try.prog 5 #[.slice A_xs n_xs c_xs] w fun e w' => e = .returned (.bool true) ∧ Below w.heap.size w w' := by
  obtain rfl := hr_xs.len
  by_cases hbig_xs : 1048576 < xs.length
  · go_enter Try.func5, Try.ntmps5
    go_wp2_with fail
    go_ret
    exact ⟨rfl, Below.refl _ _⟩
  have hcap_xs : xs.length ≤ 17592186044416 := by omega
  have hlow_xs : xs.length ≤ 1048576 := by omega
  have HS := hide (fun A_xs c_xs w (h_xs : Ints w w.heap.size A_xs xs.length xs) => specCountReached_any A_xs xs.length c_xs xs w h_xs hcap_xs)
  have HI := hide (fun A_xs c_xs w (h_xs : Ints w w.heap.size A_xs xs.length xs) => CountReached_any A_xs xs.length c_xs xs w h_xs hcap_xs)
  go_enter Try.func5, Try.ntmps5
  go_wp2_with fail
  refine (toIntS_any _ _ _ _ _ (hr_xs.more (by omega)) hcap_xs).mono ?_
  rintro e w1 ⟨ga_xs, ha1, hz1, rfl, hrow1, hb1⟩
  have q1 := hb1
  have s1 := hb1.size
  have t1 := q1.size
  have r_xs_1 := hr_xs.below hb1 (by omega)
  have Xa_xs_1 := Own.of_row hrow1 ha1 (by unfold maxLen; omega)
  go_wp2_with fail
  refine (HS.out _ _ _ Xa_xs_1.ints).mono ?_
  rintro e w2 ⟨rfl, hb2⟩
  have q2 := below_next q1 hb2
  have s2 := hb2.size
  have t2 := q2.size
  have r_xs_2 := r_xs_1.below hb2 (by omega)
  have Xa_xs_2 := Xa_xs_1.below hb2
  clear q1 r_xs_1 Xa_xs_1
  clear Xa_xs_2
  go_wp2_with fail
  refine (toIntS_any _ _ _ _ _ (r_xs_2.more (by omega)) hcap_xs).mono ?_
  rintro e w3 ⟨gb_xs, ha3, hz3, rfl, hrow3, hb3⟩
  have q3 := below_next q2 hb3
  have s3 := hb3.size
  have t3 := q3.size
  have r_xs_3 := r_xs_2.below hb3 (by omega)
  clear q2 r_xs_2
  have Xb_xs_3 := Own.of_row hrow3 ha3 (by unfold maxLen; omega)
  go_wp2_with fail
  refine (HI.out _ _ _ Xb_xs_3.ints).mono ?_
  rintro e w4 ⟨rfl, hb4⟩
  have q4 := below_next q3 hb4
  have s4 := hb4.size
  have t4 := q4.size
  have r_xs_4 := r_xs_3.below hb4 (by omega)
  have Xb_xs_4 := Xb_xs_3.below hb4
  clear q3 r_xs_3 Xb_xs_3
  go_wp2_with fail
  refine (toIntS_any _ _ _ _ _ (r_xs_4.more (by omega)) hcap_xs).mono ?_
  rintro e w5 ⟨gc_xs, _, hz5, rfl, hrow5, hb5⟩
  have q5 := below_next q4 hb5
  have s5 := hb5.size
  have t5 := q5.size
  have r_xs_5 := r_xs_4.below hb5 (by omega)
  have Xb_xs_5 := Xb_xs_4.below hb5
  clear q4 r_xs_4 Xb_xs_4
  go_wp2_with fail
  refine (eqIntS_same _ _ _ _ _ _ _ _ _ Xb_xs_5.ints (hrow5.ints hz5) (Nat.le_refl _) (Nat.le_refl _) hcap_xs).mono ?_
  rintro e w6 ⟨rfl, hb6⟩
  have q6 := below_next q5 hb6
  have s6 := hb6.size
  have t6 := q6.size
  have r_xs_6 := r_xs_5.below hb6 (by omega)
  have Xb_xs_6 := Xb_xs_5.below hb6
  clear q5 r_xs_5 Xb_xs_5
  go_wp2_with fail
  go_ret
  exact ⟨rfl, q6⟩
end Go.Proofs.Ytnakkmmmkbjfbaa
