/-
  Datagrams as numbers and a list.
-/
import Derived.Test.YtgcliijngaohdaaDoorRd
namespace Go.Proofs.YtgcliijngaohdaaDoor
set_option maxRecDepth 10000

/-- A datagram, plainly. -/
structure Dg where
  sp : Int
  dp : Int
  d : List Int
structure DgNum (s : Dg) : Prop where
  sp : 0 ≤ s.sp ∧ s.sp < 65536
  dp : 0 ≤ s.dp ∧ s.dp < 65536
end Go.Proofs.YtgcliijngaohdaaDoor
