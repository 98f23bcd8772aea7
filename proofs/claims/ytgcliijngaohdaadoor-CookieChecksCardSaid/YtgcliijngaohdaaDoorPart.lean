/-
  A part of a slice of bytes, s[lo:hi], as one run equation: wherever it begins. No function of the program.
-/
import Derived.Test.YtgcliijngaohdaaDoorBut
namespace Go.Proofs.YtgcliijngaohdaaDoor
set_option maxRecDepth 10000
open Go.RowKit
end Go.Proofs.YtgcliijngaohdaaDoor
