/-
  'make([]byte, m)': a row of noughts of the call's own. No function of the program.
-/
import Derived.Test.YtncbkgcblmohoaaBytesApp
namespace Go.Proofs.Ytncbkgcblmohoaa
set_option maxRecDepth 10000
open Go.RowKit
theorem made_run (m : Nat) (hm : m ≤ 2147483647) (w : World) :
    (Instr.makeSlice 37 (.int .i64 (m : Int)) (.int .i64 (m : Int))).run Try.prog w = .ok (.slice (some ⟨w.heap.size, 0, none⟩) m m) (w.alloc (.cells (madeCells (Value.int .u8 0).cells m) 5)) := by
  obtain ⟨i0, hi, hz0, hz1, hz2⟩ := info_parts info5
  have h := run_make (P := Try.prog) w 37 5 i0 (.int .u8 0) Try.underlying37 hi hz0 .i64 .i64 (m : Int) (m : Int) (by omega) (by omega) (by rw [hz2]; omega) (by omega)
  rw [hz1] at h
  simpa using h
theorem made_nums (w : World) (g : Nat) (hg : w.heap.size = g) (m : Nat) : Rd (w.alloc (.cells (madeCells (Value.int .u8 0).cells m) 5)) (some ⟨g, 0, none⟩) m (List.replicate m 0) := by
  subst hg
  refine ⟨by simp, fun x hx => by rw [List.eq_of_mem_replicate hx]; omega, fun _ => ⟨_, 0, rfl, by simp, fun i hi => ?_⟩⟩
  have h : (w.alloc (.cells (madeCells #[Value.int .u8 0] m) 5)).heap[w.heap.size]? = some (.cells (madeCells #[Value.int .u8 0] m) 5 (0, 0)) := heap_alloc_new w _
  have e : (Value.int .u8 0).cells = #[Value.int .u8 0] := rfl
  rw [e]
  simp only [World.cell?, h, Nat.zero_add]
  rw [← Array.getElem?_toList, toList_madeCells_one]
  simp [List.getD, hi]
/-- The same, as a walk spells it. -/
theorem made_lit (w : World) (g : Nat) (hg : w.heap.size = g) (m : Nat) : Rd (w.alloc (.cells (madeCells #[Value.int .u8 0] m) 5)) (some ⟨g, 0, none⟩) m (List.replicate m 0) := made_nums w g hg m
end Go.Proofs.Ytncbkgcblmohoaa
