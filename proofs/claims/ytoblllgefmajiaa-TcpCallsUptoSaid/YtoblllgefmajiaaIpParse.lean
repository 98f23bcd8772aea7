/-
  The contract of package ipv4's Parse: what is wrong is told as the document's own order has it; else the head and the payload, in rows of the call's own.
-/
import Derived.Test.YtoblllgefmajiaaIpAsk
import Derived.Test.YtoblllgefmajiaaSumAny
import Derived.Deep.RegionHeld3
namespace Go.Proofs.Ytoblllgefmajiaa
set_option maxRecDepth 10000
open Go.RowKit

def headCells (tos id_ : Int) (df : Bool) (ttl proto src dst : Int) (A : Option Addr) (n c : Nat) : Array Value := #[.int .u8 tos, .int .u16 id_, .bool df, .int .u8 ttl, .int .u8 proto, .int .u32 src, .int .u32 dst, .slice A n c]
theorem set8_blk {w : World} {q : Nat} {u0 u1 u2 u3 u4 u5 u6 u7 : Value} {t : TypeId} (h : w.heap[q]? = some (.cells #[u0, u1, u2, u3, u4, u5, u6, u7] t (0, 0))) (v0 v1 v2 v3 v4 v5 v6 v7 : Value) :
    ((((((((w.setCell ⟨q, 0, none⟩ v0).setCell ⟨q, 1, none⟩ v1).setCell ⟨q, 2, none⟩ v2).setCell ⟨q, 3, none⟩ v3).setCell ⟨q, 4, none⟩ v4).setCell ⟨q, 5, none⟩ v5).setCell ⟨q, 6, none⟩ v6).setCell ⟨q, 7, none⟩ v7).heap[q]? = some (.cells #[v0, v1, v2, v3, v4, v5, v6, v7] t (0, 0)) := by
  have h1 := setCell_block (i := 0) h v0
  have h2 := setCell_block (i := 1) h1 v1
  have h3 := setCell_block (i := 2) h2 v2
  have h4 := setCell_block (i := 3) h3 v3
  have h5 := setCell_block (i := 4) h4 v4
  have h6 := setCell_block (i := 5) h5 v5
  have h7 := setCell_block (i := 6) h6 v6
  have h8 := setCell_block (i := 7) h7 v7
  simpa using h8
theorem set8_but (w : World) (q : Nat) (v0 v1 v2 v3 v4 v5 v6 v7 : Value) : But (fun k => k = q) w ((((((((w.setCell ⟨q, 0, none⟩ v0).setCell ⟨q, 1, none⟩ v1).setCell ⟨q, 2, none⟩ v2).setCell ⟨q, 3, none⟩ v3).setCell ⟨q, 4, none⟩ v4).setCell ⟨q, 5, none⟩ v5).setCell ⟨q, 6, none⟩ v6).setCell ⟨q, 7, none⟩ v7) := (((((((((But.refl (fun k => k = q) w).setCell (p := ⟨q, 0, none⟩) rfl v0).setCell (p := ⟨q, 1, none⟩) rfl v1).setCell (p := ⟨q, 2, none⟩) rfl v2).setCell (p := ⟨q, 3, none⟩) rfl v3).setCell (p := ⟨q, 4, none⟩) rfl v4).setCell (p := ⟨q, 5, none⟩) rfl v5).setCell (p := ⟨q, 6, none⟩) rfl v6).setCell (p := ⟨q, 7, none⟩) rfl v7)

theorem ne7 (x1 x2 x3 x4 x5 x6 x7 : Bool) : ∀ p ∈ [(x1, (5 : Int)), (x2, 4), (x3, 5), (x4, 20), (x5, 5), (x6, 21), (x7, 23)], p.2 ≠ 0 := by simp

end Go.Proofs.Ytoblllgefmajiaa
