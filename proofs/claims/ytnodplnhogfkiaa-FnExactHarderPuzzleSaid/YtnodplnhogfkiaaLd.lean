
/-
  JOBS, MACHINES, PLANS AND LOADS, BOTH WAYS: AreJobs, areJobsOn, IsLoadPlan, LoadsOf, loadsOf; ldGood, ldAsked, ldPlan, ldBoth, ldLoads.
-/
import Derived.Test.YtnodplnhogfkiaaGood
import Derived.Test.YtnodplnhogfkiaaLaws0
import Derived.Test.YtnodplnhogfkiaaFlows
import Derived.Test.YtnodplnhogfkiaaLdP
namespace Go.Proofs.Ytnodplnhogfkiaa
open Go.RowKit Go.Deep

end Go.Proofs.Ytnodplnhogfkiaa
