/-
  Bounds of a beginning brought into bounds.
-/
import Derived.Test.YtncbkgcblmohoaaRxFit
namespace Go.Proofs.Ytncbkgcblmohoaa
set_option maxRecDepth 10000
theorem fit_bd (y r t : Int) : (0 ≤ fitW y ∧ fitW y < 70000) ∧ (1 ≤ fitR r ∧ fitR r ≤ 50) ∧ (1 ≤ fitT t ∧ fitT t ≤ 10) := by unfold fitW fitR fitT; omega
end Go.Proofs.Ytncbkgcblmohoaa
