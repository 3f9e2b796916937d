
/-
  LEADS, PERIODS, RINGS BEHIND MANY STEPS, ZEROS, GREATEST NUMBERS AT LAST, THE PROGRAM's WAY.
-/
import Derived.Test.YtkhcabgpbmhimaaWkF
import Derived.Test.YtkhcabgpbmhimaaRiD
import Derived.Deep.QuietTactic
import Derived.BigQuiet
namespace Go.Proofs.Ytkhcabgpbmhimaa
open Go.RowKit Go.Deep
set_option linter.unusedVariables false

theorem lastF_pad {zs : List Int} (h : rgood zs = true) : (pad10 (lastF zs)).length = 10 := pad10_len (by rw [lastF_length]; exact (rgood_of h).2.1)

end Go.Proofs.Ytkhcabgpbmhimaa
