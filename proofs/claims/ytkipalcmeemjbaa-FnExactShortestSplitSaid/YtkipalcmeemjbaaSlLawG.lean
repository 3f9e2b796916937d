
/-
  THE WALKS OF EXACT LAWS, the given frame left out: for all numbers the law returns true and writes nothing that was there. (Printed by lawgen.py.)
-/
import Derived.Test.YtkipalcmeemjbaaLaws0
import Derived.Test.YtkipalcmeemjbaaMark
import Derived.Test.YtkipalcmeemjbaaSlH
namespace Go.Proofs.Ytkipalcmeemjbaa
open Go.RowKit Go.Deep

set_option maxRecDepth 100000 in
set_option maxHeartbeats 2000000 in
theorem lawLongestSplit (r : Int) (h : Int) (w : World) :
    Calls Try.prog 3 #[.int .i64 r, .int .i64 h] w fun e w' => e = .returned (.bool true) ∧ Below w.heap.size w w' := by
  have HS := hide (fun  w  => specLongestSplit_any r h w  )
  have HI := hide (fun  w  => LongestSplit_any r h w  )
  go_enter Try.func3, Try.ntmps3
  go_wp2_with fail
  refine (HS.out  _ ).mono ?_
  rintro e w1 ⟨rfl, hb1⟩
  have q1 := hb1
  have s1 := hb1.size
  have t1 := q1.size
  go_wp2_with fail
  refine (HI.out  _ ).mono ?_
  rintro e w2 ⟨rfl, hb2⟩
  have q2 := below_next q1 hb2
  have s2 := hb2.size
  have t2 := q2.size
  clear q1
  go_wp2_with fail
  go_ret
  exact ⟨rfl, q2⟩

set_option maxRecDepth 100000 in
set_option maxHeartbeats 2000000 in
theorem lawShortestSplit (r : Int) (h : Int) (w : World) :
    Calls Try.prog 4 #[.int .i64 r, .int .i64 h] w fun e w' => e = .returned (.bool true) ∧ Below w.heap.size w w' := by
  have HS := hide (fun  w  => specShortestSplit_any r h w  )
  have HI := hide (fun  w  => ShortestSplit_any r h w  )
  go_enter Try.func4, Try.ntmps4
  go_wp2_with fail
  refine (HS.out  _ ).mono ?_
  rintro e w1 ⟨rfl, hb1⟩
  have q1 := hb1
  have s1 := hb1.size
  have t1 := q1.size
  go_wp2_with fail
  refine (HI.out  _ ).mono ?_
  rintro e w2 ⟨rfl, hb2⟩
  have q2 := below_next q1 hb2
  have s2 := hb2.size
  have t2 := q2.size
  clear q1
  go_wp2_with fail
  go_ret
  exact ⟨rfl, q2⟩
end Go.Proofs.Ytkipalcmeemjbaa
