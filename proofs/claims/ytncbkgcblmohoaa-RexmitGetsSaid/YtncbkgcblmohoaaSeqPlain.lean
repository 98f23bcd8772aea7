/-
  Plain facts on numbers that go round (chapter 1): sums, distances, stretches, as functions on whole numbers. Nothing of the program is imported.
-/
import Derived.WalkKit
import Derived.OpenShut
namespace Go.Proofs.Ytncbkgcblmohoaa
set_option maxRecDepth 10000
open Go.RowKit

/-- A number of 32 bits. -/
def U32 (a : Int) : Prop := 0 ≤ a ∧ a < 4294967296
def sAdd (a n : Int) : Int := (a + n) % 4294967296
def sAhead (a b : Int) : Int := (b - a + 2147483648) % 4294967296 - 2147483648
def sLess (a b : Int) : Bool := decide (0 < sAhead a b)
def sLater (a b : Int) : Int := if 0 < sAhead a b then b else a
def sWithin (x f l : Int) : Bool := decide ((x - f) % 4294967296 < l)
def sAccept (at_ n next window : Int) : Bool :=
  if n ≤ 0 then decide (at_ = next) || sWithin at_ next window else sWithin at_ next window || sWithin (sAdd at_ (n - 1)) next window

theorem u32_wf {a : Int} (h : (Lit.int .u32 a).wf = true) : U32 a := by
  have := bounds_u32 h
  unfold U32; omega
theorem sAdd_u32 (a n : Int) : U32 (sAdd a n) := by unfold U32 sAdd; omega
theorem sAhead_bd (a b : Int) : -2147483648 ≤ sAhead a b ∧ sAhead a b ≤ 2147483647 := by unfold sAhead; omega
theorem wrap32_ahead (a b : Int) : wrap32 ((b - a) % 4294967296) = sAhead a b := by unfold wrap32 sAhead; omega

/-- The place in n bytes of what is x ahead of the first, or the nearest end. -/
def pl (x : Int) (n : Nat) : Nat := (min (max x 0) (n : Int)).toNat
theorem pl_le (x : Int) (n : Nat) : pl x n ≤ n := by unfold pl; omega
theorem pl_mono {x y : Int} (n : Nat) (h : x ≤ y) : pl x n ≤ pl y n := by unfold pl; omega

end Go.Proofs.Ytncbkgcblmohoaa
