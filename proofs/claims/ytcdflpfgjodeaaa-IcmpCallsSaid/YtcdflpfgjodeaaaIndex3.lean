/-
  a[i] of an array of three slices of bytes ('[3][]byte'), i a number of the program's own. No function of the program.
-/
import Derived.Test.YtcdflpfgjodeaaaBytesApp
namespace Go.Proofs.Ytcdflpfgjodeaaa
set_option maxRecDepth 10000
open Go.RowKit
set_option linter.unusedSimpArgs false
theorem info_slice8 : (Try.prog.info? 23).map (fun i => (i.size, i.zero)) = some (1, some (.slice none 0 0)) := by kernel_rfl
theorem index3_0 (a b c : Value) (w : World) :
    (Instr.index 42 (.agg #[a, b, c]) (.int .i64 0)).run Try.prog w = .ok a w := by
  have h := info_slice8
  cases hi : Try.prog.info? 23 with
  | none => rw [hi] at h; simp at h
  | some i =>
    rw [hi] at h
    simp at h
    simp [Instr.index, run_underlying Try.underlying42, part, isAgg, run_underlying Try.underlying23, sizeOf, typeInfo, hi, h, Result.andThen, go_sem]
theorem index3_1 (a b c : Value) (w : World) :
    (Instr.index 42 (.agg #[a, b, c]) (.int .i64 1)).run Try.prog w = .ok b w := by
  have h := info_slice8
  cases hi : Try.prog.info? 23 with
  | none => rw [hi] at h; simp at h
  | some i =>
    rw [hi] at h
    simp at h
    simp [Instr.index, run_underlying Try.underlying42, part, isAgg, run_underlying Try.underlying23, sizeOf, typeInfo, hi, h, Result.andThen, go_sem]
theorem index3_2 (a b c : Value) (w : World) :
    (Instr.index 42 (.agg #[a, b, c]) (.int .i64 2)).run Try.prog w = .ok c w := by
  have h := info_slice8
  cases hi : Try.prog.info? 23 with
  | none => rw [hi] at h; simp at h
  | some i =>
    rw [hi] at h
    simp at h
    simp [Instr.index, run_underlying Try.underlying42, part, isAgg, run_underlying Try.underlying23, sizeOf, typeInfo, hi, h, Result.andThen, go_sem]
end Go.Proofs.Ytcdflpfgjodeaaa
