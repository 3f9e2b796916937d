
/-
  JOBS, MACHINES, PLANS AND LOADS, BOTH WAYS: AreJobs, areJobsOn, IsLoadPlan, LoadsOf, loadsOf; ldGood, ldAsked, ldPlan, ldBoth, ldLoads.
-/
import Derived.Test.YtpgjhmgmfajelaaGood
import Derived.Test.YtpgjhmgmfajelaaLaws0
import Derived.Test.YtpgjhmgmfajelaaFlows
import Derived.Test.YtpgjhmgmfajelaaLdP
namespace Go.Proofs.Ytpgjhmgmfajelaa
open Go.RowKit Go.Deep

end Go.Proofs.Ytpgjhmgmfajelaa
