
/-
  THE WALKS OF EXACT LAWS, the given frame left out: for all numbers the law returns true and writes nothing that was there. (Printed by lawgen.py.)
-/
import Derived.Test.YtaplnbjljgeakaaLaws0
import Derived.Test.YtaplnbjljgeakaaMark
import Derived.Test.YtaplnbjljgeakaaMfD
namespace Go.Proofs.Ytaplnbjljgeakaa
open Go.RowKit Go.Deep

set_option maxRecDepth 100000 in
set_option maxHeartbeats 2000000 in
theorem lawMachinesFor (A_zs : Option Addr) (n_zs c_zs : Nat) (zs : List Int) (m : Int) (w : World) (hr_zs : Ints w w.heap.size A_zs n_zs zs) :
    Calls Try.prog 3 #[.slice A_zs n_zs c_zs, .int .i64 m] w fun e w' => e = .returned (.bool true) ∧ Below w.heap.size w w' := by
  obtain rfl := hr_zs.len
  by_cases hbig_zs : 1048576 < zs.length
  · go_enter Try.func3, Try.ntmps3
    go_wp2_with fail
    go_ret
    exact ⟨rfl, Below.refl _ _⟩
  have hcap_zs : zs.length ≤ 17592186044416 := by omega
  have hlow_zs : zs.length ≤ 1048576 := by omega
  have HS := hide (fun A_zs c_zs w (h_zs : Ints w w.heap.size A_zs zs.length zs) => specMachinesFor_any A_zs zs.length c_zs zs m w h_zs hcap_zs)
  have HI := hide (fun A_zs c_zs w (h_zs : Ints w w.heap.size A_zs zs.length zs) => MachinesFor_any A_zs zs.length c_zs zs m w h_zs hcap_zs)
  go_enter Try.func3, Try.ntmps3
  go_wp2_with fail
  refine (toIntS_any _ _ _ _ _ (hr_zs.more (by omega)) hcap_zs).mono ?_
  rintro e w1 ⟨ga_zs, ha1, hz1, rfl, hrow1, hb1⟩
  have q1 := hb1
  have s1 := hb1.size
  have t1 := q1.size
  have r_zs_1 := hr_zs.below hb1 (by omega)
  have Xa_zs_1 := Own.of_row hrow1 ha1 (by unfold maxLen; omega)
  go_wp2_with fail
  refine (HS.out _ _ _ Xa_zs_1.ints).mono ?_
  rintro e w2 ⟨rfl, hb2⟩
  have q2 := below_next q1 hb2
  have s2 := hb2.size
  have t2 := q2.size
  have r_zs_2 := r_zs_1.below hb2 (by omega)
  have Xa_zs_2 := Xa_zs_1.below hb2
  clear q1 r_zs_1 Xa_zs_1
  clear Xa_zs_2
  go_wp2_with fail
  refine (toIntS_any _ _ _ _ _ (r_zs_2.more (by omega)) hcap_zs).mono ?_
  rintro e w3 ⟨gb_zs, ha3, hz3, rfl, hrow3, hb3⟩
  have q3 := below_next q2 hb3
  have s3 := hb3.size
  have t3 := q3.size
  have r_zs_3 := r_zs_2.below hb3 (by omega)
  clear q2 r_zs_2
  have Xb_zs_3 := Own.of_row hrow3 ha3 (by unfold maxLen; omega)
  go_wp2_with fail
  refine (HI.out _ _ _ Xb_zs_3.ints).mono ?_
  rintro e w4 ⟨rfl, hb4⟩
  have q4 := below_next q3 hb4
  have s4 := hb4.size
  have t4 := q4.size
  have r_zs_4 := r_zs_3.below hb4 (by omega)
  have Xb_zs_4 := Xb_zs_3.below hb4
  clear q3 r_zs_3 Xb_zs_3
  go_wp2_with fail
  refine (toIntS_any _ _ _ _ _ (r_zs_4.more (by omega)) hcap_zs).mono ?_
  rintro e w5 ⟨gc_zs, _, hz5, rfl, hrow5, hb5⟩
  have q5 := below_next q4 hb5
  have s5 := hb5.size
  have t5 := q5.size
  have r_zs_5 := r_zs_4.below hb5 (by omega)
  have Xb_zs_5 := Xb_zs_4.below hb5
  clear q4 r_zs_4 Xb_zs_4
  go_wp2_with fail
  refine (eqIntS_same _ _ _ _ _ _ _ _ _ Xb_zs_5.ints (hrow5.ints hz5) (Nat.le_refl _) (Nat.le_refl _) hcap_zs).mono ?_
  rintro e w6 ⟨rfl, hb6⟩
  have q6 := below_next q5 hb6
  have s6 := hb6.size
  have t6 := q6.size
  have r_zs_6 := r_zs_5.below hb6 (by omega)
  have Xb_zs_6 := Xb_zs_5.below hb6
  clear q5 r_zs_5 Xb_zs_5
  go_wp2_with fail
  go_ret
  exact ⟨rfl, q6⟩
end Go.Proofs.Ytaplnbjljgeakaa
