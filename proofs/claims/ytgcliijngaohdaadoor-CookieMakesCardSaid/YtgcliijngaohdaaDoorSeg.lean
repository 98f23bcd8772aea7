/-
  Segments (api.Segment): what one holds, one that comes in; culvertref06's Length and Same.
-/
import Derived.Test.YtgcliijngaohdaaDoorTcpLay
import Derived.Test.YtgcliijngaohdaaDoorOptParse
import Derived.Test.YtgcliijngaohdaaDoorOptPut
import Derived.Lib.SmallJoins
namespace Go.Proofs.YtgcliijngaohdaaDoor
set_option maxRecDepth 10000
open Go.RowKit

/-- A segment, plainly. -/
structure Seg where
  sp : Int
  dp : Int
  sq : Int
  ak : Int
  fl : Int
  wn : Int
  ug : Int
  os : List (Int × List Int)
  d : List Int
/-- Its nine cells, as the model has them. -/
def segC (s : Seg) (AO : Option Addr) (nO cO : Nat) (AD : Option Addr) (nD cD : Nat) : Array Value :=
  #[.int .u16 s.sp, .int .u16 s.dp, .int .u32 s.sq, .int .u32 s.ak, .int .u8 s.fl, .int .u16 s.wn, .int .u16 s.ug, .slice AO nO cO, .slice AD nD cD]
structure SegNum (s : Seg) : Prop where
  sp : 0 ≤ s.sp ∧ s.sp < 65536
  dp : 0 ≤ s.dp ∧ s.dp < 65536
  sq : 0 ≤ s.sq ∧ s.sq < 4294967296
  ak : 0 ≤ s.ak ∧ s.ak < 4294967296
  fl : 0 ≤ s.fl ∧ s.fl < 256
  wn : 0 ≤ s.wn ∧ s.wn < 65536
  ug : 0 ≤ s.ug ∧ s.ug < 65536
/-- A segment's value reads as the segment. -/
structure SegRd (w : World) (s : Seg) (AO : Option Addr) (nO cO : Nat) (oss : List OptV) (AD : Option Addr) (nD cD : Nat) : Prop where
  num : SegNum s
  oc : nO ≤ cO ∧ cO ≤ maxLen
  dc : nD ≤ cD ∧ cD ≤ maxLen
  o : RdO w AO nO oss
  os : Reads w oss s.os
  d : Rd w AD nD s.d
theorem SegRd.below {w w' : World} {s : Seg} {AO : Option Addr} {nO cO : Nat} {oss : List OptV} {AD : Option Addr} {nD cD : Nat} (h : SegRd w s AO nO cO oss AD nD cD) (hb : Below w.heap.size w w') : SegRd w' s AO nO cO oss AD nD cD :=
  ⟨h.num, h.oc, h.dc, h.o.below hb, h.os.below hb, h.d.below hb⟩

def lenS (fl : Int) (nD : Nat) : Int := ((nD : Int) + fl % 2 + fl / 2 % 2) % 4294967296
def segSame (s t : Seg) : Bool := decide (s.sp = t.sp) && decide (s.dp = t.dp) && decide (s.sq = t.sq) && decide (s.ak = t.ak) && decide (s.fl = t.fl) && decide (s.wn = t.wn) && decide (s.ug = t.ug) && decide (s.os = t.os) && decide (s.d = t.d)
end Go.Proofs.YtgcliijngaohdaaDoor
