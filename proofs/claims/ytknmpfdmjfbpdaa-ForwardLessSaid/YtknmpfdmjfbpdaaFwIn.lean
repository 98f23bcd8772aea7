/-
  The document's own Inside (culvertref14). Written ahead of stage 14.
-/
import Derived.Test.YtknmpfdmjfbpdaaFwRef
namespace Go.Proofs.Ytknmpfdmjfbpdaa
set_option maxRecDepth 10000
open Go.RowKit
set_option linter.unusedSimpArgs false
set_option linter.unusedVariables false

/-- A configuration (api.Config): its 19 cells, of which four are read. -/
structure Cfg where
  ins : Int
  msk : Int
  lo : Int
  hi : Int
  v2 : Value
  v5 : Value
  v6 : Value
  v7 : Value
  v8 : Value
  v9 : Value
  va : Value
  vb : Value
  vc : Value
  vd : Value
  ve : Value
  vf : Value
  vg : Value
  vh : Value
  vi : Value
def insB (k : Cfg) (a : Int) : Bool := bits BinOp.and IntKind.u32 a k.msk == bits BinOp.and IntKind.u32 k.ins k.msk
/-- One forward may be. -/
def mayOne (k : Cfg) (f : Fw) : Bool := (f.pr == 6 || f.pr == 17) && (!(f.po == 0) && (!(f.tp == 0) && (!(decide (k.lo ≤ f.po) && decide (f.po ≤ k.hi)) && insB k f.ad)))
theorem rinside14_any (k : Cfg) (a : Int) (x : Bool) (w : World) (hx : insB k a = x) : Calls Try.prog 12 #[.agg #[.int .u32 k.ins, .int .u32 k.msk, k.v2, .int .u16 k.lo, .int .u16 k.hi, k.v5, k.v6, k.v7, k.v8, k.v9, k.va, k.vb, k.vc, k.vd, k.ve, k.vf, k.vg, k.vh, k.vi], .int .u32 a] w (FwTells (.bool x) w) := by
  obtain ⟨w0, ew⟩ : ∃ w0, w.alloc (.cells #[.int .u32 k.ins, .int .u32 k.msk, k.v2, .int .u16 k.lo, .int .u16 k.hi, k.v5, k.v6, k.v7, k.v8, k.v9, k.va, k.vb, k.vc, k.vd, k.ve, k.vf, k.vg, k.vh, k.vi] 29) = w0 := ⟨_, rfl⟩
  obtain ⟨z, hz⟩ : ∃ z, w.heap.size = z := ⟨_, rfl⟩
  have hb0 : Below w.heap.size w w0 := by rw [← ew]; exact (Below.refl _ _).alloc (Nat.le_refl _) _
  have hk0 : w0.heap[z]? = some (.cells #[.int .u32 k.ins, .int .u32 k.msk, k.v2, .int .u16 k.lo, .int .u16 k.hi, k.v5, k.v6, k.v7, k.v8, k.v9, k.va, k.vb, k.vc, k.vd, k.ve, k.vf, k.vg, k.vh, k.vi] 29 (0, 0)) := by rw [← ew, ← hz]; exact heap_alloc_new w _
  have d0 : w0.cell? ⟨z, 0, none⟩ = some (.int .u32 k.ins) := blk_cell hk0 0
  have d1 : w0.cell? ⟨z, 1, none⟩ = some (.int .u32 k.msk) := blk_cell hk0 1
  have Hx := Lib.hid hx
  have Hb0 := Lib.hid hb0
  clear hx hk0 hb0
  go_enter Try.func12, Try.ntmps12
  go_upto_region 1 with (fail)
  try rw [ew]
  try rw [hz]
  clear ew hz
  go_wp2_with fail
  go_ret
  exact ⟨by rw [← Hx.out]; rfl, Hb0.out⟩
end Go.Proofs.Ytknmpfdmjfbpdaa
