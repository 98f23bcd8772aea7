/-
  Package table's calls of no table, and of one that New did not make.
-/
import Derived.Test.YtnhlbohdlnjaaaaTbTold
namespace Go.Proofs.Ytnhlbohdlnjaaaa
set_option maxRecDepth 10000
open Go.RowKit
set_option linter.unusedSimpArgs false
set_option linter.unusedVariables false

theorem place_nil (id : Int)  (w : World)  : Calls Try.prog 32 #[.pointer none, .int .u64 id] w (TellsT (.tuple #[.int .i64 0, .int .i64 2]) w) := by
  obtain ⟨w0, ew⟩ : ∃ w0, w.alloc (.cells #[.int .u64 id] 32) = w0 := ⟨_, rfl⟩
  have hb0 : Below w.heap.size w w0 := by rw [← ew]; exact (Below.refl _ _).alloc (Nat.le_refl _) _
  have Hno := Lib.hid (tnone_nil w0)
  have Hb0 := Lib.hid hb0
  have Ew := Lib.hid ew
  skip
  clear hb0 ew
  go_enter Try.func32, Try.ntmps32
  go_upto_region 1 with (fail)
  rw [Ew.out]
  go_wp2_with fail
  refine Hno.out.mono ?_
  rintro e w1 ⟨rfl, rfl⟩
  go_wp2_with fail
  go_ret2
  exact ⟨rfl, Hb0.out⟩
theorem place_zero (id : Int) (g : Nat) (w : World) (h : g < w.heap.size ∧ w.cell? ⟨g, 0, none⟩ = some (.pointer none)) : Calls Try.prog 32 #[.pointer (some ⟨g, 0, none⟩), .int .u64 id] w (TellsT (.tuple #[.int .i64 0, .int .i64 2]) w) := by
  obtain ⟨w0, ew⟩ : ∃ w0, w.alloc (.cells #[.int .u64 id] 32) = w0 := ⟨_, rfl⟩
  have hb0 : Below w.heap.size w w0 := by rw [← ew]; exact (Below.refl _ _).alloc (Nat.le_refl _) _
  have Hno := Lib.hid (tnone_zero g w0 ((hb0.cell (p := ⟨g, 0, none⟩) h.1).trans h.2))
  have Hb0 := Lib.hid hb0
  have Ew := Lib.hid ew
  clear h
  clear hb0 ew
  go_enter Try.func32, Try.ntmps32
  go_upto_region 1 with (fail)
  rw [Ew.out]
  go_wp2_with fail
  refine Hno.out.mono ?_
  rintro e w1 ⟨rfl, rfl⟩
  go_wp2_with fail
  go_ret2
  exact ⟨rfl, Hb0.out⟩
theorem drop_zero (id : Int) (g : Nat) (w : World) (h : g < w.heap.size ∧ w.cell? ⟨g, 0, none⟩ = some (.pointer none)) : Calls Try.prog 20 #[.pointer (some ⟨g, 0, none⟩), .int .u64 id] w (TellsT (.int .i64 2) w) := by
  have Hp := Lib.hid (place_zero id g w h)
  clear h
  go_enter Try.func20, Try.ntmps20
  go_wp2_with fail
  refine Hp.out.mono ?_
  rintro e w1 ⟨rfl, hb⟩
  have Hb := Lib.hid hb
  clear hb
  go_wp2_with fail
  go_ret
  exact ⟨rfl, Hb.out⟩
theorem touch_nil (id : Int) (w : World) : Calls Try.prog 11 #[.pointer none, .int .u64 id] w (TellsT (.int .i64 2) w) := by
  have Hp := Lib.hid (place_nil id w)
  go_enter Try.func11, Try.ntmps11
  go_wp2_with fail
  refine Hp.out.mono ?_
  rintro e w1 ⟨rfl, hb⟩
  have Hb := Lib.hid hb
  clear hb
  go_wp2_with fail
  go_ret
  exact ⟨rfl, Hb.out⟩
theorem lead_nil (id : Int) (x : Tu) (w : World) : Calls Try.prog 15 #[.pointer none, .int .u64 id, .agg #[.int .u8 x.pr, .int .u32 x.sr, .int .u32 x.ds, .int .u16 x.sp, .int .u16 x.dp]] w (TellsT (.int .i64 2) w) := by
  obtain ⟨w0, ew⟩ : ∃ w0, w.alloc (.cells #[.int .u8 x.pr, .int .u32 x.sr, .int .u32 x.ds, .int .u16 x.sp, .int .u16 x.dp] 37) = w0 := ⟨_, rfl⟩
  have hb0 : Below w.heap.size w w0 := by rw [← ew]; exact (Below.refl _ _).alloc (Nat.le_refl _) _
  have Hp := Lib.hid (place_nil id w0)
  have Hb0 := Lib.hid hb0
  have Ew := Lib.hid ew
  clear hb0 ew
  go_enter Try.func15, Try.ntmps15
  go_upto_region 1 with (fail)
  rw [Ew.out]
  go_wp2_with fail
  refine Hp.out.mono ?_
  rintro e w1 ⟨rfl, hb⟩
  have Hb := Lib.hid (below_trans Hb0.out hb)
  clear hb
  go_wp2_with fail
  go_ret
  exact ⟨rfl, Hb.out⟩
theorem add_nil (t x : Tu) (w : World) : Calls Try.prog 13 #[.pointer none, .agg #[.int .u8 t.pr, .int .u32 t.sr, .int .u32 t.ds, .int .u16 t.sp, .int .u16 t.dp], .agg #[.int .u8 x.pr, .int .u32 x.sr, .int .u32 x.ds, .int .u16 x.sp, .int .u16 x.dp]] w (TellsT (.tuple #[.int .u64 0, .int .u64 0, .int .i64 2]) w) := by
  obtain ⟨w0, ew⟩ : ∃ w0, (w.alloc (.cells #[.int .u8 t.pr, .int .u32 t.sr, .int .u32 t.ds, .int .u16 t.sp, .int .u16 t.dp] 37)).alloc (.cells #[.int .u8 x.pr, .int .u32 x.sr, .int .u32 x.ds, .int .u16 x.sp, .int .u16 x.dp] 37) = w0 := ⟨_, rfl⟩
  have hb0 : Below w.heap.size w w0 := by rw [← ew]; exact ((Below.refl _ _).alloc (Nat.le_refl _) _).alloc (by simp) _
  have Hno := Lib.hid (tnone_nil w0)
  have Hb0 := Lib.hid hb0
  have Ew := Lib.hid ew
  clear hb0 ew
  go_enter Try.func13, Try.ntmps13
  go_upto_region 1 with (fail)
  rw [Ew.out]
  go_wp2_with fail
  refine Hno.out.mono ?_
  rintro e w1 ⟨rfl, rfl⟩
  go_wp2_with fail
  go_ret3
  exact ⟨rfl, Hb0.out⟩
theorem flow_nil (id : Int) (w : World) : Calls Try.prog 27 #[.pointer none, .int .u64 id] w (TellsT (.tuple #[.agg (flV f0).toArray, .bool false]) w) := by
  obtain ⟨w0, ew⟩ : ∃ w0, w.alloc (.cells (flV f0).toArray 51) = w0 := ⟨_, rfl⟩
  obtain ⟨z, hz⟩ : ∃ z, w.heap.size = z := ⟨_, rfl⟩
  have hb0 : Below w.heap.size w w0 := by rw [← ew]; exact (Below.refl _ _).alloc (Nat.le_refl _) _
  have hk0 : w0.heap[z]? = some (.cells (flV f0).toArray 51 (0, 0)) := by rw [← ew, ← hz]; exact heap_alloc_new w _
  have ew' : w.alloc (.cells #[.int .u64 0, .int .u8 0, .int .u32 0, .int .u32 0, .int .u16 0, .int .u16 0, .int .u8 0, .int .u32 0, .int .u32 0, .int .u16 0, .int .u16 0, .bool false] 51) = w0 := ew
  have Ew := Lib.hid ew'
  have Hz := Lib.hid hz
  have Hb0 := Lib.hid hb0
  have HK := Lib.hid (show ∀ W, Below w0.heap.size w0 W → W.heap[z]? = some (.cells (flV f0).toArray 51 (0, 0)) from fun W hb => blk_on hk0 hb)
  have Hp := Lib.hid (place_nil id w0)
  clear hb0 hk0 ew ew' hz
  go_enter Try.func27, Try.ntmps27
  go_upto_region 1 with (fail)
  rw [Ew.out]
  try rw [Hz.out]
  go_wp2_with fail
  refine Hp.out.mono ?_
  rintro e w1 ⟨rfl, hb⟩
  have Hb1 := Lib.hid hb
  have HK1 := Lib.hid (HK.out w1 hb)
  have e0 := fun i => blk_cell (HK.out w1 hb) i
  have fz := fun i => blk_free (HK.out w1 hb) i
  rw [fl_arr] at e0
  have d0 := e0 0
  have d1 := e0 1
  have d2 := e0 2
  have d3 := e0 3
  have d4 := e0 4
  have d5 := e0 5
  have d6 := e0 6
  have d7 := e0 7
  have d8 := e0 8
  have d9 := e0 9
  have da := e0 10
  have db := e0 11
  simp at d0 d1 d2 d3 d4 d5 d6 d7 d8 d9 da db
  clear hb e0
  go_wp2_with fail
  exact bodyPost_ret (v := .tuple #[.agg (flV f0).toArray, .bool false]) (results_row_tmp rfl _ _ z _ _ _ _ _ rfl rfl (set12_blk HK1.out rfl _ _ _ _ _ _ _ _ _ _ _ _) Try.underlying51 rfl (by kernel_rfl)) rfl ⟨rfl, set12_below (below_trans Hb0.out Hb1.out) (by rw [Hz.out]; exact Nat.le_refl _) _ _ _ _ _ _ _ _ _ _ _ _⟩
theorem len_nil (w : World) : Calls Try.prog 12 #[.pointer none] w (JustIs (.int .i64 0) w) := by
  have Hno := Lib.hid (tnone_nil w)
  go_enter Try.func12, Try.ntmps12
  go_wp2_with fail
  refine Hno.out.mono ?_
  rintro e w1 ⟨rfl, rfl⟩
  go_wp2_with fail
  go_ret
  exact ⟨rfl, rfl⟩
theorem all_nil (w : World) : Calls Try.prog 30 #[.pointer none] w (JustIs (.slice none 0 0) w) := by
  have Hno := Lib.hid (tnone_nil w)
  go_enter Try.func30, Try.ntmps30
  go_wp2_with fail
  refine Hno.out.mono ?_
  rintro e w1 ⟨rfl, rfl⟩
  go_wp2_with fail
  go_ret
  exact ⟨rfl, rfl⟩
theorem copy_nil (w : World) : Calls Try.prog 22 #[.pointer none] w (JustIs (.pointer none) w) := by
  have Hno := Lib.hid (tnone_nil w)
  go_enter Try.func22, Try.ntmps22
  go_wp2_with fail
  refine Hno.out.mono ?_
  rintro e w1 ⟨rfl, rfl⟩
  go_wp2_with fail
  go_ret
  exact ⟨rfl, rfl⟩
end Go.Proofs.Ytnhlbohdlnjaaaa
