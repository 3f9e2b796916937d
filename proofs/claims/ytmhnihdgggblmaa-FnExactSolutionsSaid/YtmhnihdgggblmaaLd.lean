
/-
  JOBS, MACHINES, PLANS AND LOADS, BOTH WAYS: AreJobs, areJobsOn, IsLoadPlan, LoadsOf, loadsOf; ldGood, ldAsked, ldPlan, ldBoth, ldLoads.
-/
import Derived.Test.YtmhnihdgggblmaaGood
import Derived.Test.YtmhnihdgggblmaaLaws0
import Derived.Test.YtmhnihdgggblmaaFlows
import Derived.Test.YtmhnihdgggblmaaLdP
namespace Go.Proofs.Ytmhnihdgggblmaa
open Go.RowKit Go.Deep

end Go.Proofs.Ytmhnihdgggblmaa
