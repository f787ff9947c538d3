/-
  The document's answer (package trailref) on texts: the walks.
-/
import Derived.Test.YthboeppmlhbofaaWrt
import Derived.Test.YthboeppmlhbofaaRdr
namespace Go.Proofs.Ythboeppmlhbofaa
open Go.RowKit Txt
set_option maxRecDepth 100000

end Go.Proofs.Ythboeppmlhbofaa
