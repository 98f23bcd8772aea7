/-
  The contract of bytes.Equal (for the stages that do not need the options'): over bytes that read as lists.
-/
import Derived.Test.YthhgdmdobfjipaaRd
import Derived.Lib.Hide
import Derived.Outline
namespace Go.Proofs.Ythhgdmdobfjipaa
set_option maxRecDepth 10000
open Go.RowKit

theorem strs_eqB (a b : List Int) (ha : ∀ x ∈ a, 0 ≤ x ∧ x < 256) (hb : ∀ x ∈ b, 0 ≤ x ∧ x < 256) : ((strOfNums a).toList == (strOfNums b).toList) = decide (a = b) := by
  rw [ByteArray.toList_eq, ByteArray.toList_eq]
  by_cases e : a = b
  · subst e; simp
  · rw [beq_eq_false_iff_ne.2 (fun x => e (nums_inj _ _ ha hb (by simpa [strOfNums_data] using x)))]
    simp [e]
end Go.Proofs.Ythhgdmdobfjipaa
