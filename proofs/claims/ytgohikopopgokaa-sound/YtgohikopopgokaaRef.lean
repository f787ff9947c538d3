/-
  The document's answer (package trailref) on texts: the walks.
-/
import Derived.Test.YtgohikopopgokaaWrt
import Derived.Test.YtgohikopopgokaaRdr
namespace Go.Proofs.Ytgohikopopgokaa
open Go.RowKit Txt
set_option maxRecDepth 100000

end Go.Proofs.Ytgohikopopgokaa
