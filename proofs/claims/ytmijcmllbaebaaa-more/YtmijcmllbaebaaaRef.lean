/-
  The document's answer (package trailref) on texts: the walks.
-/
import Derived.Test.YtmijcmllbaebaaaWrt
import Derived.Test.YtmijcmllbaebaaaRdr
namespace Go.Proofs.Ytmijcmllbaebaaa
open Go.RowKit Txt
set_option maxRecDepth 100000

end Go.Proofs.Ytmijcmllbaebaaa
