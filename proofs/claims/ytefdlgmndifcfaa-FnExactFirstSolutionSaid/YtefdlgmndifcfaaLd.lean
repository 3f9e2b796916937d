
/-
  JOBS, MACHINES, PLANS AND LOADS, BOTH WAYS: AreJobs, areJobsOn, IsLoadPlan, LoadsOf, loadsOf; ldGood, ldAsked, ldPlan, ldBoth, ldLoads.
-/
import Derived.Test.YtefdlgmndifcfaaGood
import Derived.Test.YtefdlgmndifcfaaLaws0
import Derived.Test.YtefdlgmndifcfaaFlows
import Derived.Test.YtefdlgmndifcfaaLdP
namespace Go.Proofs.Ytefdlgmndifcfaa
open Go.RowKit Go.Deep

end Go.Proofs.Ytefdlgmndifcfaa
