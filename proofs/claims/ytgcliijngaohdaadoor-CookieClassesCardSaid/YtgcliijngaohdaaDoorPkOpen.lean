/-
  A packet (api.Packet) that comes in, opened: numbers within their bounds, slices of bytes and of options.
-/
import Derived.Test.YtgcliijngaohdaaDoorPkVal
import Derived.Test.YtgcliijngaohdaaDoorTcpOpen
import Derived.Test.YtgcliijngaohdaaDoorHead
import Derived.Test.YtgcliijngaohdaaDoorFields
namespace Go.Proofs.YtgcliijngaohdaaDoor
set_option maxRecDepth 10000
open Go.Joins Go.ChangeShapes Go.WideShapes Go.ChangeAt Go.RowKit Go.Deep

/-- A packet that came in. -/
def PkAt (w : World) (v : Value) : Prop := ∃ (p : Pk) (a : PkA), v = .agg #[.int .u8 p.h.to, .int .u16 p.h.id, .bool p.h.df, .int .u8 p.h.tt, .int .u8 p.h.pr, .int .u32 p.h.sr, .int .u32 p.h.ds, .slice a.AH a.nH a.cH, .int .u16 p.s.sp, .int .u16 p.s.dp, .int .u32 p.s.sq, .int .u32 p.s.ak, .int .u8 p.s.fl, .int .u16 p.s.wn, .int .u16 p.s.ug, .slice a.AO a.nO a.cO, .slice a.AD a.nD a.cD, .int .u16 p.u.sp, .int .u16 p.u.dp, .slice a.AU a.nU a.cU, .int .u8 p.m.ty, .int .u8 p.m.cd, .int .u32 p.m.rs, .slice a.AM a.nM a.cM] ∧ PkRd w p a
section
variable {H : Type} {enc : TypeId × Value → H} {W : World} {base : Nat} {v : Value} {d : DataW H} {p : List MemPlace}
end
end Go.Proofs.YtgcliijngaohdaaDoor
