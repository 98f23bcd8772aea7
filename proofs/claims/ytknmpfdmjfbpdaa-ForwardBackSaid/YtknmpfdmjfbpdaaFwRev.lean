/-
  The contract of tuple's Reverse.
-/
import Derived.Test.YtknmpfdmjfbpdaaTupVal
import Derived.Test.YtknmpfdmjfbpdaaFwRef
namespace Go.Proofs.Ytknmpfdmjfbpdaa
set_option maxRecDepth 10000
open Go.RowKit
set_option linter.unusedSimpArgs false
set_option linter.unusedVariables false

theorem rev_fw (t t' : Tu) (w : World) (ht : revT t = t') : Calls Try.prog 22 #[.agg #[.int .u8 t.pr, .int .u32 t.sr, .int .u32 t.ds, .int .u16 t.sp, .int .u16 t.dp]] w (FwTells (.agg #[.int .u8 t'.pr, .int .u32 t'.sr, .int .u32 t'.ds, .int .u16 t'.sp, .int .u16 t'.dp]) w) := by
  subst ht
  obtain ⟨pr, sr, ds, sp, dp⟩ := t
  simp only
  by_cases h : pr = 1
  · subst h
    go_enter Try.func22, Try.ntmps22
    go_wp2_with fail
    refine bodyPost_ret (v := .agg #[.int .u8 1, .int .u32 ds, .int .u32 sr, .int .u16 sp, .int .u16 dp]) (by simp [results, Try.results22, go_sem]) rfl ?_
    exact ⟨by unfold revT; simp [Nat.add_zero], by repeat (first | exact Below.refl _ _ | refine Below.drew ?_ | (refine Below.alloc ?_ (by simp <;> omega) _) | (refine Below.setCell ?_ (by simp <;> omega) _))⟩
  · have hb : (pr != 1) = true := by simpa using h
    go_enter Try.func22, Try.ntmps22
    go_wp2_with fail
    refine bodyPost_ret (v := .agg #[.int .u8 pr, .int .u32 ds, .int .u32 sr, .int .u16 dp, .int .u16 sp]) (by simp [results, Try.results22, go_sem]) rfl ?_
    exact ⟨by unfold revT; simp [h], by repeat (first | exact Below.refl _ _ | refine Below.drew ?_ | (refine Below.alloc ?_ (by simp <;> omega) _) | (refine Below.setCell ?_ (by simp <;> omega) _))⟩
end Go.Proofs.Ytknmpfdmjfbpdaa
