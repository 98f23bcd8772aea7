/-
  culvertlaw14's config.
-/
import Derived.Test.YtknmpfdmjfbpdaaFwMay
namespace Go.Proofs.Ytknmpfdmjfbpdaa
set_option maxRecDepth 10000
open Go.RowKit
set_option linter.unusedSimpArgs false
set_option linter.unusedVariables false

/-- The chapter's configuration. -/
structure Chap (k : Cfg) : Prop where
  ins : k.ins = 167772160
  msk : k.msk = 4278190080
  lo : k.lo = 1000
  hi : k.hi = 2000
  one : (#[.int .u32 k.ins, .int .u32 k.msk, k.v2, .int .u16 k.lo, .int .u16 k.hi, k.v5, k.v6, k.v7, k.v8, k.v9, k.va, k.vb, k.vc, k.vd, k.ve, k.vf, k.vg, k.vh, k.vi] : Array Value).all (·.oneCell') = true
def ConfigIs (w : World) (e : Ending) (w' : World) : Prop := ∃ k : Cfg, e = .returned (.agg #[.int .u32 k.ins, .int .u32 k.msk, k.v2, .int .u16 k.lo, .int .u16 k.hi, k.v5, k.v6, k.v7, k.v8, k.v9, k.va, k.vb, k.vc, k.vd, k.ve, k.vf, k.vg, k.vh, k.vi]) ∧ Chap k ∧ Below w.heap.size w w'
theorem config14_any (w : World) : Calls Try.prog 23 #[] w (ConfigIs w) := by
  go_enter Try.func23, Try.ntmps23
  try simp only []
  repeat (first | go_values | go_skip | ((fail_if_success (with_reducible refine wpList_new (.tmp 0) (.tmp 1) rfl ?_ ?_ ?_ ?_ ?_ ?_ ?_ ?_ ?_)); (first | go_step | go_upon | go_back)))
  refine wpList_new (.tmp 0) (.tmp 1) rfl rfl ?hww _ rfl rfl (by kernel_rfl) rfl (by kernel_rfl) ?_
  case hww => kernel_rfl
  go_wp2_with fail
  refine bodyPost_ret (results_cell_row rfl _ _ w.heap.size _ _ _ _ rfl (heap_alloc_new w _) Try.underlying29 rfl (by kernel_rfl)) rfl ?_
  exact ⟨⟨167772160, 4278190080, 1000, 2000, .int .u32 0, .int .u64 0, .int .i64 0, .slice none 0 0, .int .i64 0, .int .u16 0, .int .i64 0, .bool false, .int .u64 0, .slice none 0 0, .slice none 0 0, .int .u64 0, .int .i64 0, .int .u64 0, .int .u64 0⟩, rfl, ⟨rfl, rfl, rfl, rfl, by kernel_rfl⟩, (Below.refl _ _).alloc (Nat.le_refl _) _⟩
end Go.Proofs.Ytknmpfdmjfbpdaa
