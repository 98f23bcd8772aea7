/-
  How many Types and Codes are of each sort: counted as IcmpKnown counts. No function of the program.
-/
import Derived.Test.YtcdflpfgjodeaaaIcmp
namespace Go.Proofs.Ytcdflpfgjodeaaa
set_option maxRecDepth 10000
def rowN (s : Int) (t : Nat) : Nat → Int
  | 0 => 0
  | c + 1 => rowN s t c + (if sortM (t : Int) (c : Int) = s then 1 else 0)
def totN (s : Int) : Nat → Int
  | 0 => 0
  | t + 1 => totN s t + rowN s t 256
theorem rowN_bd (s : Int) (t : Nat) : ∀ c, 0 ≤ rowN s t c ∧ rowN s t c ≤ (c : Int)
  | 0 => by simp [rowN]
  | c + 1 => by have := rowN_bd s t c; unfold rowN; split <;> omega
theorem totN_bd (s : Int) : ∀ t, 0 ≤ totN s t ∧ totN s t ≤ 256 * (t : Int)
  | 0 => by simp [totN]
  | t + 1 => by have := totN_bd s t; have := rowN_bd s t 256; unfold totN; omega
theorem sortM_bd (ty cd : Int) : sortM ty cd = 0 ∨ sortM ty cd = 1 ∨ sortM ty cd = 2 ∨ sortM ty cd = 3 := by
  unfold sortM
  split
  · simp
  split
  · simp
  split
  · simp
  · simp
theorem tot0 : totN 0 256 = 64766 := by decide +kernel
theorem tot1 : totN 1 256 = 1 := by decide +kernel
theorem tot2 : totN 2 256 = 1 := by decide +kernel
theorem tot3 : totN 3 256 = 768 := by decide +kernel
end Go.Proofs.Ytcdflpfgjodeaaa
