/-
  The program's Find, Inward, Outward and All (package forward), of no table.
-/
import Derived.Test.YtknmpfdmjfbpdaaFwFind
namespace Go.Proofs.Ytknmpfdmjfbpdaa
set_option maxRecDepth 10000
open Go.RowKit
set_option linter.unusedSimpArgs false
set_option linter.unusedVariables false

theorem find_nil (p q : Int) (w : World) : Calls Try.prog 13 #[.pointer none, .int .u8 p, .int .u16 q] w (FwTells (.tuple #[.agg #[.int .u8 0, .int .u16 0, .int .u32 0, .int .u16 0], .bool false]) w) := by
  obtain ⟨w0, ew⟩ : ∃ w0, w.alloc (.cells #[.int .u8 0, .int .u16 0, .int .u32 0, .int .u16 0] 40) = w0 := ⟨_, rfl⟩
  obtain ⟨z, hz⟩ : ∃ z, w.heap.size = z := ⟨_, rfl⟩
  have hb0 : Below w.heap.size w w0 := by rw [← ew]; exact (Below.refl _ _).alloc (Nat.le_refl _) _
  have hk0 : w0.heap[z]? = some (.cells #[.int .u8 0, .int .u16 0, .int .u32 0, .int .u16 0] 40 (0, 0)) := by rw [← ew, ← hz]; exact heap_alloc_new w _
  have HK := Lib.hid hk0
  have HB := Lib.hid hb0
  have Ew := Lib.hid ew
  have Hz := Lib.hid hz
  have fz := fun i => blk_free hk0 i
  have e0 : w0.cell? ⟨z, 0, none⟩ = some (.int .u8 0) := blk_cell hk0 0
  have e1 : w0.cell? ⟨z, 1, none⟩ = some (.int .u16 0) := blk_cell hk0 1
  have e2 : w0.cell? ⟨z, 2, none⟩ = some (.int .u32 0) := blk_cell hk0 2
  have e3 : w0.cell? ⟨z, 3, none⟩ = some (.int .u16 0) := blk_cell hk0 3
  clear ew hz hb0 hk0
  go_enter Try.func13, Try.ntmps13
  go_upto_region 1 with (fail)
  rw [Ew.out]
  try rw [Hz.out]
  go_wp2_with fail
  exact bodyPost_ret (v := .tuple #[.agg #[.int .u8 0, .int .u16 0, .int .u32 0, .int .u16 0], .bool false]) (results_row_tmp rfl _ _ z _ _ _ _ _ rfl rfl (set4_blk HK.out _ _ _ _) Try.underlying40 rfl (by kernel_rfl)) rfl ⟨rfl, set4_below HB.out (by rw [Hz.out]; exact Nat.le_refl _) _ _ _ _⟩
theorem all_nil (w : World) : Calls Try.prog 19 #[.pointer none] w (FwTells (.slice none 0 0) w) := by
  go_enter Try.func19, Try.ntmps19
  go_wp2_with fail
  go_ret
  exact ⟨rfl, Below.refl _ _⟩
theorem outward_nil (x : Tu) (outer : Int) (w : World) : Calls Try.prog 17 #[.pointer none, .agg #[.int .u8 x.pr, .int .u32 x.sr, .int .u32 x.ds, .int .u16 x.sp, .int .u16 x.dp], .int .u32 outer] w (FwTells (.tuple #[.agg #[.int .u8 x.pr, .int .u32 x.sr, .int .u32 x.ds, .int .u16 x.sp, .int .u16 x.dp], .bool false]) w) := by
  obtain ⟨w0, ew⟩ : ∃ w0, (w.alloc (.cells #[.int .u8 x.pr, .int .u32 x.sr, .int .u32 x.ds, .int .u16 x.sp, .int .u16 x.dp] 31)).alloc (.cells #[.int .u8 0, .int .u32 0, .int .u32 0, .int .u16 0, .int .u16 0] 31) = w0 := ⟨_, rfl⟩
  obtain ⟨z, hz⟩ : ∃ z, w.heap.size = z := ⟨_, rfl⟩
  have hb0 : Below w.heap.size w w0 := by rw [← ew]; exact ((Below.refl _ _).alloc (Nat.le_refl _) _).alloc (by simp) _
  have hk0 : w0.heap[z]? = some (.cells #[.int .u8 x.pr, .int .u32 x.sr, .int .u32 x.ds, .int .u16 x.sp, .int .u16 x.dp] 31 (0, 0)) := by rw [← ew, Below.heap_alloc _ _ _ (by simp [hz]), ← hz]; exact heap_alloc_new w _
  have hk1 : w0.heap[z + 1]? = some (.cells #[.int .u8 0, .int .u32 0, .int .u32 0, .int .u16 0, .int .u16 0] 31 (0, 0)) := by
    rw [← ew, ← hz]; simpa using heap_alloc_new (w.alloc (.cells #[.int .u8 x.pr, .int .u32 x.sr, .int .u32 x.ds, .int .u16 x.sp, .int .u16 x.dp] 31)) (.cells #[.int .u8 0, .int .u32 0, .int .u32 0, .int .u16 0, .int .u16 0] 31)
  have Ew := Lib.hid ew
  have Hz := Lib.hid hz
  have Hb0 := Lib.hid hb0
  have HK0 := Lib.hid hk0
  have HK1 := Lib.hid hk1
  obtain ⟨a0, a1, a2, a3, a4⟩ := cells5 hk0
  obtain ⟨e0, e1, e2, e3, e4⟩ := cells5 hk1
  have fz := fun i => blk_free hk1 i
  clear ew hz hb0 hk0 hk1
  go_enter Try.func17, Try.ntmps17
  go_upto_region 1 with (fail)
  rw [Ew.out]
  try rw [Hz.out]
  go_wp2_with fail
  exact bodyPost_ret (v := .tuple #[.agg #[.int .u8 x.pr, .int .u32 x.sr, .int .u32 x.ds, .int .u16 x.sp, .int .u16 x.dp], .bool false]) (results_row_tmp rfl _ _ (z + 1) _ _ _ _ _ rfl rfl (set5_blk HK1.out _ _ _ _ _) Try.underlying31 rfl (by kernel_rfl)) rfl ⟨rfl, set5_below Hb0.out (by rw [Hz.out]; omega) _ _ _ _ _⟩
theorem inward_nil (x : Tu) (w : World) : Calls Try.prog 15 #[.pointer none, .agg #[.int .u8 x.pr, .int .u32 x.sr, .int .u32 x.ds, .int .u16 x.sp, .int .u16 x.dp]] w (FwTells (.tuple #[.agg #[.int .u8 x.pr, .int .u32 x.sr, .int .u32 x.ds, .int .u16 x.sp, .int .u16 x.dp], .bool false]) w) := by
  obtain ⟨w0, ew⟩ : ∃ w0, (w.alloc (.cells #[.int .u8 x.pr, .int .u32 x.sr, .int .u32 x.ds, .int .u16 x.sp, .int .u16 x.dp] 31)).alloc (.cells #[.int .u8 0, .int .u32 0, .int .u32 0, .int .u16 0, .int .u16 0] 31) = w0 := ⟨_, rfl⟩
  obtain ⟨z, hz⟩ : ∃ z, w.heap.size = z := ⟨_, rfl⟩
  have hb0 : Below w.heap.size w w0 := by rw [← ew]; exact ((Below.refl _ _).alloc (Nat.le_refl _) _).alloc (by simp) _
  have hk0 : w0.heap[z]? = some (.cells #[.int .u8 x.pr, .int .u32 x.sr, .int .u32 x.ds, .int .u16 x.sp, .int .u16 x.dp] 31 (0, 0)) := by rw [← ew, Below.heap_alloc _ _ _ (by simp [hz]), ← hz]; exact heap_alloc_new w _
  have hk1 : w0.heap[z + 1]? = some (.cells #[.int .u8 0, .int .u32 0, .int .u32 0, .int .u16 0, .int .u16 0] 31 (0, 0)) := by
    rw [← ew, ← hz]; simpa using heap_alloc_new (w.alloc (.cells #[.int .u8 x.pr, .int .u32 x.sr, .int .u32 x.ds, .int .u16 x.sp, .int .u16 x.dp] 31)) (.cells #[.int .u8 0, .int .u32 0, .int .u32 0, .int .u16 0, .int .u16 0] 31)
  have Ew := Lib.hid ew
  have Hz := Lib.hid hz
  have Hb0 := Lib.hid hb0
  have HK0 := Lib.hid hk0
  have HK1 := Lib.hid hk1
  obtain ⟨a0, a1, a2, a3, a4⟩ := cells5 hk0
  have Hf := Lib.hid (find_nil x.pr x.dp w0)
  clear ew hz hb0 hk0 hk1
  go_enter Try.func15, Try.ntmps15
  go_upto_region 1 with (fail)
  rw [Ew.out]
  try rw [Hz.out]
  go_wp2_with fail
  refine Hf.out.mono ?_
  rintro e w1 ⟨rfl, hb⟩
  obtain ⟨z2, ez2⟩ : ∃ z, w1.heap.size = z := ⟨_, rfl⟩
  obtain ⟨w2, ew2⟩ : ∃ v, w1.alloc (.cells #[.int .u8 0, .int .u16 0, .int .u32 0, .int .u16 0] 40) = v := ⟨_, rfl⟩
  have hb2 : Below w1.heap.size w1 w2 := by rw [← ew2]; exact (Below.refl _ _).alloc (Nat.le_refl _) _
  have hbb := below_trans hb hb2
  have hk0 := blk_on HK0.out hbb
  have hk1 := blk_on HK1.out hbb
  have HB2 := Lib.hid (below_trans Hb0.out hbb)
  have HK3 := Lib.hid hk1
  have Ew2 := Lib.hid ew2
  have fz1 := fun i => blk_free hk1 i
  clear a0 a1 a2 a3 a4
  obtain ⟨b0, b1, b2, b3, b4⟩ := cells5 hk0
  obtain ⟨e0, e1, e2, e3, e4⟩ := cells5 hk1
  clear hb hb2 hbb hk0 hk1 ez2 ew2
  go_upto_region 2 with (fail)
  rw [Ew2.out]
  go_wp2_with fail
  exact bodyPost_ret (v := .tuple #[.agg #[.int .u8 x.pr, .int .u32 x.sr, .int .u32 x.ds, .int .u16 x.sp, .int .u16 x.dp], .bool false]) (results_row_tmp rfl _ _ (z + 1) _ _ _ _ _ rfl rfl (set5_blk HK3.out _ _ _ _ _) Try.underlying31 rfl (by kernel_rfl)) rfl ⟨rfl, set5_below HB2.out (by rw [Hz.out]; omega) _ _ _ _ _⟩
end Go.Proofs.Ytknmpfdmjfbpdaa
