/-
  The document's own Inward (culvertref14). Written ahead of stage 14.
-/
import Derived.Test.YtknmpfdmjfbpdaaFwIn
namespace Go.Proofs.Ytknmpfdmjfbpdaa
set_option maxRecDepth 10000
open Go.RowKit
set_option linter.unusedSimpArgs false
set_option linter.unusedVariables false

set_option maxHeartbeats 1000000 in
theorem rinward14_any (A : Option Addr) (n c : Nat) (L : FWL) (x y : Tu) (b : Bool) (w : World) (h : RdW w A L) (hn : L.length = n) (hl : n ≤ 1000000) (hx : fwInw x L = (y, b)) :
    Calls Try.prog 16 #[.slice A n c, .agg #[.int .u8 x.pr, .int .u32 x.sr, .int .u32 x.ds, .int .u16 x.sp, .int .u16 x.dp]] w (FwTells (.tuple #[.agg #[.int .u8 y.pr, .int .u32 y.sr, .int .u32 y.ds, .int .u16 y.sp, .int .u16 y.dp], .bool b]) w) := by
  obtain ⟨w0, ew⟩ : ∃ w0, (w.alloc (.cells #[.int .u8 x.pr, .int .u32 x.sr, .int .u32 x.ds, .int .u16 x.sp, .int .u16 x.dp] 31)).alloc (.cells #[.int .u8 0, .int .u32 0, .int .u32 0, .int .u16 0, .int .u16 0] 31) = w0 := ⟨_, rfl⟩
  obtain ⟨z, hz⟩ : ∃ z, w.heap.size = z := ⟨_, rfl⟩
  have hb0 : Below w.heap.size w w0 := by rw [← ew]; exact ((Below.refl _ _).alloc (Nat.le_refl _) _).alloc (by simp) _
  have hk0 : w0.heap[z]? = some (.cells #[.int .u8 x.pr, .int .u32 x.sr, .int .u32 x.ds, .int .u16 x.sp, .int .u16 x.dp] 31 (0, 0)) := by rw [← ew, Below.heap_alloc _ _ _ (by simp [hz]), ← hz]; exact heap_alloc_new w _
  have hk1 : w0.heap[z + 1]? = some (.cells #[.int .u8 0, .int .u32 0, .int .u32 0, .int .u16 0, .int .u16 0] 31 (0, 0)) := by
    rw [← ew, ← hz]; simpa using heap_alloc_new (w.alloc (.cells #[.int .u8 x.pr, .int .u32 x.sr, .int .u32 x.ds, .int .u16 x.sp, .int .u16 x.dp] 31)) (.cells #[.int .u8 0, .int .u32 0, .int .u32 0, .int .u16 0, .int .u16 0] 31)
  obtain ⟨f, ef⟩ : ∃ f, fwOf (fwFind x.pr x.dp L) = f := ⟨_, rfl⟩
  obtain ⟨is_, ei⟩ : ∃ i, fwIs (fwFind x.pr x.dp L) = i := ⟨_, rfl⟩
  have Hf := Lib.hid (rfind14_any A n c L x.pr x.dp w0 (h.below hb0) hn hl f is_ ef ei)
  have hy : (is_ = false ∧ y = x ∧ b = false) ∨ (is_ = true ∧ y = { x with ds := f.ad, dp := f.tp } ∧ b = true) := by
    unfold fwInw at hx
    cases he : fwFind x.pr x.dp L with
    | none =>
      rw [he] at hx ei
      simp only [Prod.mk.injEq] at hx
      exact .inl ⟨ei.symm, hx.1.symm, hx.2.symm⟩
    | some g =>
      rw [he] at hx ei ef
      simp only [Prod.mk.injEq] at hx
      have eg : g = f := ef
      subst eg
      exact .inr ⟨ei.symm, hx.1.symm, hx.2.symm⟩
  have Hy := Lib.hid hy
  have Ew := Lib.hid ew
  have Hz := Lib.hid hz
  have Hb0 := Lib.hid hb0
  have HK0 := Lib.hid hk0
  have HK1 := Lib.hid hk1
  obtain ⟨a0, a1, a2, a3, a4⟩ := cells5 hk0
  clear h hb0 hk0 hk1 hx ef ei hy ew hz
  go_enter Try.func16, Try.ntmps16
  go_upto_region 1 with (fail)
  rw [Ew.out]
  try rw [Hz.out]
  go_wp2_with fail
  refine Hf.out.mono ?_
  rintro e w1 ⟨rfl, hb⟩
  obtain ⟨z2, ez2⟩ : ∃ z, w1.heap.size = z := ⟨_, rfl⟩
  obtain ⟨w2, ew2⟩ : ∃ v, w1.alloc (.cells #[.int .u8 f.pr, .int .u16 f.po, .int .u32 f.ad, .int .u16 f.tp] 40) = v := ⟨_, rfl⟩
  have hb2 : Below w1.heap.size w1 w2 := by rw [← ew2]; exact (Below.refl _ _).alloc (Nat.le_refl _) _
  have hbb := below_trans hb hb2
  have hk0 := blk_on HK0.out hbb
  have hk1 := blk_on HK1.out hbb
  have hkf : w2.heap[z2]? = some (.cells #[.int .u8 f.pr, .int .u16 f.po, .int .u32 f.ad, .int .u16 f.tp] 40 (0, 0)) := by rw [← ew2, ← ez2]; exact heap_alloc_new w1 _
  have HB2 := Lib.hid (below_trans Hb0.out hbb)
  have HZ := Lib.hid (show w.heap.size = z from Hz.out)
  have HK2 := Lib.hid hk0
  have HK3 := Lib.hid hk1
  have g2 : w2.cell? ⟨z2, 2, none⟩ = some (.int .u32 f.ad) := blk_cell hkf 2
  have g3 : w2.cell? ⟨z2, 3, none⟩ = some (.int .u16 f.tp) := blk_cell hkf 3
  have fz := fun i => blk_free hk0 i
  have fz1 := fun i => blk_free hk1 i
  have HKf := Lib.hid hkf
  have Hne := Lib.hid (show z2 ≠ z by have := lt_of_block HK0.out; have := hb.size; omega)
  obtain ⟨b0, b1, b2, b3, b4⟩ := cells5 hk0
  obtain ⟨e0, e1, e2, e3, e4⟩ := cells5 hk1
  clear hb hb2 hbb hk0 hk1 hkf a0 a1 a2 a3 a4
  go_upto_region 2 with (fail)
  try rw [ew2]
  try rw [ez2]
  clear ew2 ez2
  rcases Hy.out with ⟨rfl, rfl, rfl⟩ | ⟨rfl, rfl, rfl⟩
  · go_wp2_with fail
    exact bodyPost_ret (v := .tuple #[.agg #[.int .u8 y.pr, .int .u32 y.sr, .int .u32 y.ds, .int .u16 y.sp, .int .u16 y.dp], .bool false]) (results_row_tmp rfl _ _ (z + 1) _ _ _ _ _ rfl rfl (set5_blk HK3.out _ _ _ _ _) Try.underlying31 rfl (by kernel_rfl)) rfl ⟨rfl, set5_below HB2.out (by rw [HZ.out]; omega) _ _ _ _ _⟩
  · obtain ⟨v1, ev1⟩ : ∃ v, w2.setCell ⟨z, 2, none⟩ (.int .u32 f.ad) = v := ⟨_, rfl⟩
    have k1 : v1.heap[z]? = some (.cells #[.int .u8 x.pr, .int .u32 x.sr, .int .u32 f.ad, .int .u16 x.sp, .int .u16 x.dp] 31 (0, 0)) := by rw [← ev1]; have := heap_setCell_at HK2.out 2 (.int .u32 f.ad); simpa using this
    have k2 : v1.cell? ⟨z2, 3, none⟩ = some (.int .u16 f.tp) := by rw [← ev1]; exact keep_cell g3 (fun e => Hne.out e.symm) _
    have k3 : v1.heap[z + 1]? = some (.cells #[.int .u8 0, .int .u32 0, .int .u32 0, .int .u16 0, .int .u16 0] 31 (0, 0)) := by rw [← ev1]; exact keep_blk HK3.out (by omega) _
    have fy := fun i => blk_free k1 i
    obtain ⟨v2, ev2⟩ : ∃ v, v1.setCell ⟨z, 4, none⟩ (.int .u16 f.tp) = v := ⟨_, rfl⟩
    have m1 : v2.heap[z]? = some (.cells #[.int .u8 x.pr, .int .u32 x.sr, .int .u32 f.ad, .int .u16 x.sp, .int .u16 f.tp] 31 (0, 0)) := by rw [← ev2]; have := heap_setCell_at k1 4 (.int .u16 f.tp); simpa using this
    have m3 : v2.heap[z + 1]? = some (.cells #[.int .u8 0, .int .u32 0, .int .u32 0, .int .u16 0, .int .u16 0] 31 (0, 0)) := by rw [← ev2]; exact keep_blk k3 (by omega) _
    have fw' := fun i => blk_free m3 i
    have HB4 := Lib.hid (show Below w.heap.size w v2 by rw [← ev2, ← ev1]; exact set_below (set_below HB2.out (by rw [HZ.out]; exact Nat.le_refl _) _) (by rw [HZ.out]; exact Nat.le_refl _) _)
    have HM3 := Lib.hid m3
    obtain ⟨n0, n1, n2, n3, n4⟩ := cells5 m1
    obtain ⟨r0, r1, r2, r3, r4⟩ := cells5 m3
    obtain ⟨p0, p1, p2, p3, p4⟩ := cells5 k1
    clear k1 k3 m1 m3
    go_upto_region 5 with (fail)
    try rw [ev1]
    clear g2 g3 b0 b1 b2 b3 b4 e0 e1 e2 e3 e4 fz fz1 ev1
    go_upto_region 6 with (fail)
    try rw [ev2]
    clear ev2 k2 fy p0 p1 p2 p3 p4
    go_wp2_with fail
    exact bodyPost_ret (v := .tuple #[.agg #[.int .u8 x.pr, .int .u32 x.sr, .int .u32 f.ad, .int .u16 x.sp, .int .u16 f.tp], .bool true]) (results_row_tmp rfl _ _ (z + 1) _ _ _ _ _ rfl rfl (set5_blk HM3.out _ _ _ _ _) Try.underlying31 rfl (by kernel_rfl)) rfl ⟨rfl, set5_below HB4.out (by rw [HZ.out]; omega) _ _ _ _ _⟩
end Go.Proofs.Ytknmpfdmjfbpdaa
