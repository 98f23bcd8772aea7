/-
  Texts laid together: PkPay, PkSame, PkMay, PkRefPut.
-/
import Derived.Test.YtoegfgbalcholaaZD26
import Derived.Test.YtoegfgbalcholaaZD24
import Derived.Test.YtoegfgbalcholaaZD25
import Derived.Test.YtoegfgbalcholaaZD08
import Derived.Test.YtoegfgbalcholaaZD17
import Derived.Test.YtoegfgbalcholaaZD23
import Derived.Test.YtoegfgbalcholaaZD21

/-
  Package packet's payloads: a map of closures that tell a Proto's part as bytes; what each tells.
-/
namespace Go.Proofs.Ytoegfgbalcholaa
set_option maxRecDepth 10000
open Go.RowKit
set_option linter.unusedSimpArgs false
set_option linter.unusedVariables false

/-- Where payloads' closures find what they took. -/
structure PayAt (p : Pk) (a : PkA) (q r b B : Nat) (w : World) : Prop where
  src : Box w q 23 (.int .u32 p.h.sr)
  dst : Box w r 23 (.int .u32 p.h.ds)
  pkt : w.heap[b]? = some (.cells #[.int .u8 p.h.to, .int .u16 p.h.id, .bool p.h.df, .int .u8 p.h.tt, .int .u8 p.h.pr, .int .u32 p.h.sr, .int .u32 p.h.ds, .slice a.AH a.nH a.cH, .int .u16 p.s.sp, .int .u16 p.s.dp, .int .u32 p.s.sq, .int .u32 p.s.ak, .int .u8 p.s.fl, .int .u16 p.s.wn, .int .u16 p.s.ug, .slice a.AO a.nO a.cO, .slice a.AD a.nD a.cD, .int .u16 p.u.sp, .int .u16 p.u.dp, .slice a.AU a.nU a.cU, .int .u8 p.m.ty, .int .u8 p.m.cd, .int .u32 p.m.rs, .slice a.AM a.nM a.cM] 52 (0, 0))
  at_ : B ≤ q ∧ B ≤ r ∧ B ≤ b
theorem PayAt.on {p : Pk} {a : PkA} {q r b B : Nat} {w w' : World} (h : PayAt p a q r b B w) (hb : Below w.heap.size w w') : PayAt p a q r b B w' :=
  ⟨blk_on h.src hb, blk_on h.dst hb, blk_on h.pkt hb, h.at_⟩
end Go.Proofs.Ytoegfgbalcholaa

/-
  Whether two heads (ipv4.Same), two packets (packet.Same) have all the same.
-/
namespace Go.Proofs.Ytoegfgbalcholaa
set_option maxRecDepth 10000
open Go.RowKit
set_option linter.unusedSimpArgs false
set_option linter.unusedVariables false

end Go.Proofs.Ytoegfgbalcholaa

/-
  Package packet's May: whether a packet may be.
-/
namespace Go.Proofs.Ytoegfgbalcholaa
set_option maxRecDepth 10000
open Go.RowKit
set_option linter.unusedSimpArgs false
set_option linter.unusedVariables false

end Go.Proofs.Ytoegfgbalcholaa

/-
  The document's own answers for packets (culvertref09): Put, Own.
-/
namespace Go.Proofs.Ytoegfgbalcholaa
set_option maxRecDepth 10000
open Go.RowKit
set_option linter.unusedSimpArgs false
set_option linter.unusedVariables false

end Go.Proofs.Ytoegfgbalcholaa
