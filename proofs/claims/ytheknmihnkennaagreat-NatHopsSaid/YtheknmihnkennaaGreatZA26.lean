/-
  What the laws of icmp have in common: Parse's error alone; culvertlaw08's wakes; a message that comes in, opened.
-/
import Derived.Test.YtheknmihnkennaaGreatZA22
import Derived.Test.YtheknmihnkennaaGreatZA21
import Derived.Test.YtheknmihnkennaaGreatZA09
import Derived.Lib.SmallJoins
namespace Go.Proofs.YtheknmihnkennaaGreat
set_option maxRecDepth 10000
open Go.Joins Go.ChangeShapes Go.WideShapes Go.ChangeAt Go.RowKit Go.Deep
set_option linter.unusedSimpArgs false
set_option linter.unusedVariables false

end Go.Proofs.YtheknmihnkennaaGreat
