/-
  culvertlaw14's wakes, with config.
-/
import Derived.Test.YtknmpfdmjfbpdaaFwConfig
import Derived.Deep.RegionHeld3
namespace Go.Proofs.Ytknmpfdmjfbpdaa
set_option maxRecDepth 10000
open Go.RowKit
set_option linter.unusedSimpArgs false
set_option linter.unusedVariables false

theorem cells44 {w : World} {g : Nat} {c0 c1 c2 c3 : Value} {T : TypeId} (h : w.heap[g]? = some (.cells #[c0, c1, c2, c3] T (0, 0))) :
    w.cell? ⟨g, 0, none⟩ = some c0 ∧ w.cell? ⟨g, 1, none⟩ = some c1 ∧ w.cell? ⟨g, 2, none⟩ = some c2 ∧ w.cell? ⟨g, 3, none⟩ = some c3 := ⟨blk_cell h 0, blk_cell h 1, blk_cell h 2, blk_cell h 3⟩
def fA : Fw := ⟨6, 80, 167772165, 8080⟩
def fB : Fw := ⟨17, 80, 167772165, 53⟩
def fP : Fw := ⟨6, 1500, 167772165, 8080⟩
def fE : Fw := ⟨1, 80, 167772165, 8080⟩
def fO : Fw := ⟨6, 80, 184549381, 8080⟩
def AllAre (v1 v2 v3 : Value) (A : Array Value) (w wx : World) : Prop := ∃ p q r, v1 = .pointer (some ⟨p, 0, none⟩) ∧ v2 = .pointer (some ⟨q, 0, none⟩) ∧ v3 = .pointer (some ⟨r, 0, none⟩) ∧ (p ≠ q ∧ p ≠ r ∧ q ≠ r) ∧ (w.heap.size ≤ p ∧ w.heap.size ≤ q ∧ w.heap.size ≤ r) ∧
  wx.heap[p]? = some (.cells A 40 (0, 0)) ∧ wx.heap[q]? = some (.cells A 40 (0, 0)) ∧ wx.heap[r]? = some (.cells A 40 (0, 0)) ∧ Below w.heap.size w wx
theorem RdW.lit (w : World) (L : FWL) (g : Nat) (hg : w.heap.size = g) : RdW (w.alloc (.cells (flatW4 L).toArray 40)) (some ⟨g, 0, none⟩) L := ⟨fun h0 => by
  subst hg
  have hk := heap_alloc_new w (.cells (flatW4 L).toArray 40)
  refine ⟨w.heap.size, 0, rfl, by simp, fun i hi => ?_⟩
  have key : ∀ k, k < 4 → (w.alloc (.cells (flatW4 L).toArray 40)).cell? ⟨w.heap.size, 0 + i * 4 + k, none⟩ = (fwV (L.getD i fw0))[k]? := fun k hk2 => by
    rw [blk_cell hk, ← flatW4_get L hi hk2, Nat.zero_add]
    simp
  exact ⟨key 0 (by omega), key 1 (by omega), key 2 (by omega), key 3 (by omega)⟩⟩
theorem chap_row {k : Cfg} (h : Chap k) : FwMay (okF k) [fA, fB] := by
  refine ⟨by decide, fun f hf => ?_, ?_⟩
  · simp only [List.mem_cons, List.not_mem_nil, or_false] at hf
    rcases hf with rfl | rfl <;> (unfold okF mayOne insB; rw [h.ins, h.msk, h.lo, h.hi]; decide)
  · simp [FwNe, fA, fB]
theorem chap_no {k : Cfg} (h : Chap k) {f : Fw} (hf : f = fP ∨ f = fE ∨ f = fO) : ¬ FwMay (okF k) [f] := by
  intro hm
  have := hm.each f (by simp)
  revert this
  rcases hf with rfl | rfl | rfl <;> (unfold okF mayOne insB; rw [h.ins, h.msk, h.lo, h.hi]; decide)
theorem three_are (w : World) (A : Array Value) {x y z : Nat} (h : (x = w.heap.size ∧ y = w.heap.size + 1 ∧ z = w.heap.size + 1 + 1) ∨ (x = w.heap.size ∧ y = w.heap.size + 1 + 1 ∧ z = w.heap.size + 1) ∨ (x = w.heap.size + 1 ∧ y = w.heap.size ∧ z = w.heap.size + 1 + 1) ∨ (x = w.heap.size + 1 ∧ y = w.heap.size + 1 + 1 ∧ z = w.heap.size) ∨ (x = w.heap.size + 1 + 1 ∧ y = w.heap.size ∧ z = w.heap.size + 1) ∨ (x = w.heap.size + 1 + 1 ∧ y = w.heap.size + 1 ∧ z = w.heap.size)) :
    AllAre (.pointer (some ⟨x, 0, none⟩)) (.pointer (some ⟨y, 0, none⟩)) (.pointer (some ⟨z, 0, none⟩)) A w ((((w.alloc (.cells A 40)).alloc (.cells A 40)).alloc (.cells A 40)).drew) := by
  have k2 : ((((w.alloc (.cells A 40)).alloc (.cells A 40)).alloc (.cells A 40)).drew).heap[w.heap.size + 1 + 1]? = some (.cells A 40 (0, 0)) := by
    have e : ((w.alloc (.cells A 40)).alloc (.cells A 40)).heap.size = w.heap.size + 1 + 1 := by simp
    show (((w.alloc (.cells A 40)).alloc (.cells A 40)).alloc (.cells A 40)).heap[w.heap.size + 1 + 1]? = _
    rw [← e]
    exact heap_alloc_new _ _
  have k1 : ((((w.alloc (.cells A 40)).alloc (.cells A 40)).alloc (.cells A 40)).drew).heap[w.heap.size + 1]? = some (.cells A 40 (0, 0)) := by
    have h1 := heap_alloc_new (w.alloc (.cells A 40)) (.cells A 40)
    show (((w.alloc (.cells A 40)).alloc (.cells A 40)).alloc (.cells A 40)).heap[w.heap.size + 1]? = _
    rw [Below.heap_alloc _ _ _ (by simp)]
    simpa using h1
  have k0 : ((((w.alloc (.cells A 40)).alloc (.cells A 40)).alloc (.cells A 40)).drew).heap[w.heap.size]? = some (.cells A 40 (0, 0)) := by
    show (((w.alloc (.cells A 40)).alloc (.cells A 40)).alloc (.cells A 40)).heap[w.heap.size]? = _
    rw [Below.heap_alloc _ _ _ (by simp; omega), Below.heap_alloc _ _ _ (by simp)]
    exact heap_alloc_new w _
  have hB : Below w.heap.size w ((((w.alloc (.cells A 40)).alloc (.cells A 40)).alloc (.cells A 40)).drew) := ((((Below.refl _ _).alloc (Nat.le_refl _) _).alloc (by simp) _).alloc (by simp; omega) _).drew
  rcases h with ⟨rfl, rfl, rfl⟩ | ⟨rfl, rfl, rfl⟩ | ⟨rfl, rfl, rfl⟩ | ⟨rfl, rfl, rfl⟩ | ⟨rfl, rfl, rfl⟩ | ⟨rfl, rfl, rfl⟩
  · exact ⟨_, _, _, rfl, rfl, rfl, by omega, by omega, k0, k1, k2, hB⟩
  · exact ⟨_, _, _, rfl, rfl, rfl, by omega, by omega, k0, k2, k1, hB⟩
  · exact ⟨_, _, _, rfl, rfl, rfl, by omega, by omega, k1, k0, k2, hB⟩
  · exact ⟨_, _, _, rfl, rfl, rfl, by omega, by omega, k1, k2, k0, hB⟩
  · exact ⟨_, _, _, rfl, rfl, rfl, by omega, by omega, k2, k0, k1, hB⟩
  · exact ⟨_, _, _, rfl, rfl, rfl, by omega, by omega, k2, k1, k0, hB⟩
theorem wakes14_any (w : World) : Calls Try.prog 7 #[] w (FwTells (.bool true) w) := by
  obtain ⟨z, hz⟩ : ∃ z, w.heap.size = z := ⟨_, rfl⟩
  obtain ⟨w0, ew⟩ : ∃ w0, (w.alloc (.cells #[.int .u8 6, .int .u16 80, .int .u32 167772165, .int .u16 8080] 40)).alloc (.cells #[.int .u8 17, .int .u16 80, .int .u32 167772165, .int .u16 53] 40) = w0 := ⟨_, rfl⟩
  have hk0 : w0.heap[z]? = some (.cells #[.int .u8 6, .int .u16 80, .int .u32 167772165, .int .u16 8080] 40 (0, 0)) := by rw [← ew, Below.heap_alloc _ _ _ (by simp [hz]), ← hz]; exact heap_alloc_new w _
  have hk1 : w0.heap[z + 1]? = some (.cells #[.int .u8 17, .int .u16 80, .int .u32 167772165, .int .u16 53] 40 (0, 0)) := by
    rw [← ew, ← hz]; simpa using heap_alloc_new (w.alloc (.cells #[.int .u8 6, .int .u16 80, .int .u32 167772165, .int .u16 8080] 40)) (.cells #[.int .u8 17, .int .u16 80, .int .u32 167772165, .int .u16 53] 40)
  have hb0 : Below w.heap.size w w0 := by rw [← ew]; exact ((Below.refl _ _).alloc (Nat.le_refl _) _).alloc (by simp) _
  have HK0 := Lib.hid hk0
  have HK1 := Lib.hid hk1
  have Hb0 := Lib.hid hb0
  have Ew := Lib.hid ew
  have Hz := Lib.hid hz
  have HS := Lib.hid (show ∀ w', Below w0.heap.size w0 w' → (w'.cell? ⟨z, 0, none⟩ = some (.int .u8 6) ∧ w'.cell? ⟨z, 1, none⟩ = some (.int .u16 80) ∧ w'.cell? ⟨z, 2, none⟩ = some (.int .u32 167772165) ∧ w'.cell? ⟨z, 3, none⟩ = some (.int .u16 8080)) from
    fun w' hb => by have hk := blk_on hk0 hb; exact ⟨blk_cell hk 0, blk_cell hk 1, blk_cell hk 2, blk_cell hk 3⟩)
  clear hk0 hk1 hb0 ew hz
  go_enter Try.func7, Try.ntmps7
  go_upto_region 3 with (fail)
  rw [Ew.out]
  try rw [Hz.out]
  go_cut [3, 4, 5] (fun v1 v2 v3 wx => Hid (AllAre v1 v2 v3 #[.int .u8 6, .int .u16 80, .int .u32 167772165, .int .u16 8080] w0 wx))
  case first =>
    go_region_held3 (fun w' => w'.cell? ⟨z, 0, none⟩ = some (.int .u8 6) ∧ w'.cell? ⟨z, 1, none⟩ = some (.int .u16 80) ∧ w'.cell? ⟨z, 2, none⟩ = some (.int .u32 167772165) ∧ w'.cell? ⟨z, 3, none⟩ = some (.int .u16 8080)) (exact HS.out _ (by repeat (first | exact Below.refl _ _ | refine Below.drew ?_ | (refine Below.alloc ?_ (by first | (simp; done) | (simp; omega) | omega) _) | (refine Below.setCell ?_ (by first | (simp; done) | (simp; omega) | omega) _)))) (fail)
    all_goals go_wp2_with fail
    all_goals go_meet
    all_goals first
      | exact Lib.hid (three_are w0 _ (.inl ⟨rfl, rfl, rfl⟩))
      | exact Lib.hid (three_are w0 _ (.inr (.inl ⟨rfl, rfl, rfl⟩)))
      | exact Lib.hid (three_are w0 _ (.inr (.inr (.inl ⟨rfl, rfl, rfl⟩))))
      | exact Lib.hid (three_are w0 _ (.inr (.inr (.inr (.inl ⟨rfl, rfl, rfl⟩)))))
      | exact Lib.hid (three_are w0 _ (.inr (.inr (.inr (.inr (.inl ⟨rfl, rfl, rfl⟩))))))
      | exact Lib.hid (three_are w0 _ (.inr (.inr (.inr (.inr (.inr ⟨rfl, rfl, rfl⟩))))))
  case rest =>
    obtain ⟨p, q, r, rfl, rfl, rfl, hne, hge, hp, hq, hr, hb1⟩ := hcut.out
    have hz0 := lt_of_block HK0.out
    have hz1 := lt_of_block HK1.out
    have ha := blk_on HK0.out hb1
    have hb := blk_on HK1.out hb1
    obtain ⟨v1, ev1⟩ : ∃ v, wc.setCell ⟨p, 1, none⟩ (.int .u16 1500) = v := ⟨_, rfl⟩
    obtain ⟨v2, ev2⟩ : ∃ v, v1.setCell ⟨q, 0, none⟩ (.int .u8 1) = v := ⟨_, rfl⟩
    obtain ⟨v3, ev3⟩ : ∃ v, v2.setCell ⟨r, 2, none⟩ (.int .u32 184549381) = v := ⟨_, rfl⟩
    have hp1 : v1.heap[p]? = some (.cells #[.int .u8 6, .int .u16 1500, .int .u32 167772165, .int .u16 8080] 40 (0, 0)) := by rw [← ev1]; have := heap_setCell_at hp 1 (.int .u16 1500); simpa using this
    have hq1 : v1.heap[q]? = some (.cells #[.int .u8 6, .int .u16 80, .int .u32 167772165, .int .u16 8080] 40 (0, 0)) := by rw [← ev1]; exact keep_blk hq (by omega) _
    have hr1 : v1.heap[r]? = some (.cells #[.int .u8 6, .int .u16 80, .int .u32 167772165, .int .u16 8080] 40 (0, 0)) := by rw [← ev1]; exact keep_blk hr (by omega) _
    have hp2 : v2.heap[p]? = some (.cells #[.int .u8 6, .int .u16 1500, .int .u32 167772165, .int .u16 8080] 40 (0, 0)) := by rw [← ev2]; exact keep_blk hp1 (by omega) _
    have hq2 : v2.heap[q]? = some (.cells #[.int .u8 1, .int .u16 80, .int .u32 167772165, .int .u16 8080] 40 (0, 0)) := by rw [← ev2]; have := heap_setCell_at hq1 0 (.int .u8 1); simpa using this
    have hr2 : v2.heap[r]? = some (.cells #[.int .u8 6, .int .u16 80, .int .u32 167772165, .int .u16 8080] 40 (0, 0)) := by rw [← ev2]; exact keep_blk hr1 (by omega) _
    have hp3 : v3.heap[p]? = some (.cells #[.int .u8 6, .int .u16 1500, .int .u32 167772165, .int .u16 8080] 40 (0, 0)) := by rw [← ev3]; exact keep_blk hp2 (by omega) _
    have hq3 : v3.heap[q]? = some (.cells #[.int .u8 1, .int .u16 80, .int .u32 167772165, .int .u16 8080] 40 (0, 0)) := by rw [← ev3]; exact keep_blk hq2 (by omega) _
    have hr3 : v3.heap[r]? = some (.cells #[.int .u8 6, .int .u16 80, .int .u32 184549381, .int .u16 8080] 40 (0, 0)) := by rw [← ev3]; have := heap_setCell_at hr2 2 (.int .u32 184549381); simpa using this
    have ha3 : v3.heap[z]? = some (.cells #[.int .u8 6, .int .u16 80, .int .u32 167772165, .int .u16 8080] 40 (0, 0)) := by rw [← ev3, ← ev2, ← ev1]; exact keep_blk (keep_blk (keep_blk ha (by omega) _) (by omega) _) (by omega) _
    have hb3 : v3.heap[z + 1]? = some (.cells #[.int .u8 17, .int .u16 80, .int .u32 167772165, .int .u16 53] 40 (0, 0)) := by rw [← ev3, ← ev2, ← ev1]; exact keep_blk (keep_blk (keep_blk hb (by omega) _) (by omega) _) (by omega) _
    have HB3 := Lib.hid (show Below w.heap.size w v3 by
      have h0 := Hb0.out.size
      rw [← ev3, ← ev2, ← ev1]
      exact set_below (set_below (set_below (below_trans Hb0.out hb1) (by omega) _) (by omega) _) (by omega) _)
    have HX3 := Lib.hid (show v3.heap[z]? = _ ∧ v3.heap[z + 1]? = _ ∧ v3.heap[p]? = _ ∧ v3.heap[q]? = _ ∧ v3.heap[r]? = _ from ⟨ha3, hb3, hp3, hq3, hr3⟩)
    have c1 : wc.cell? ⟨p, 1, none⟩ = some (.int .u16 80) := blk_cell hp 1
    have c2 : v1.cell? ⟨q, 0, none⟩ = some (.int .u8 6) := blk_cell hq1 0
    have c3 : v2.cell? ⟨r, 2, none⟩ = some (.int .u32 167772165) := blk_cell hr2 2
    have f1 := blk_free hp 1
    have f2 := blk_free hq1 0
    have f3 := blk_free hr2 2
    clear hne hge hp hq hr hb1 hz0 hz1 ha hb hp1 hq1 hr1 hp2 hq2 hr2 hp3 hq3 hr3 ha3 hb3
    go_upto_region 5 with (fail)
    clear c1 c2 c3 f1 f2 f3 ev1 ev2 ev3
    go_wp2_with fail
    refine (config14_any v3).mono ?_
    rintro e w5 ⟨k, rfl, hch, hb5⟩
    have Hch := Lib.hid hch
    obtain ⟨s, es⟩ : ∃ s, w5.heap.size = s := ⟨_, rfl⟩
    obtain ⟨w6, ew6⟩ : ∃ v, w5.alloc (.cells #[.int .u32 k.ins, .int .u32 k.msk, k.v2, .int .u16 k.lo, .int .u16 k.hi, k.v5, k.v6, k.v7, k.v8, k.v9, k.va, k.vb, k.vc, k.vd, k.ve, k.vf, k.vg, k.vh, k.vi] 29) = v := ⟨_, rfl⟩
    have hb6 : Below w5.heap.size w5 w6 := by rw [← ew6]; exact (Below.refl _ _).alloc (Nat.le_refl _) _
    have hks : w6.heap[s]? = some (.cells #[.int .u32 k.ins, .int .u32 k.msk, k.v2, .int .u16 k.lo, .int .u16 k.hi, k.v5, k.v6, k.v7, k.v8, k.v9, k.va, k.vb, k.vc, k.vd, k.ve, k.vf, k.vg, k.vh, k.vi] 29 (0, 0)) := by rw [← ew6, ← es]; exact heap_alloc_new w5 _
    have hb35 := below_trans hb5 hb6
    have HB6 := Lib.hid (below_trans HB3.out hb35)
    have HX := Lib.hid (show ∀ W, Below w6.heap.size w6 W → W.heap[s]? = some (.cells #[.int .u32 k.ins, .int .u32 k.msk, k.v2, .int .u16 k.lo, .int .u16 k.hi, k.v5, k.v6, k.v7, k.v8, k.v9, k.va, k.vb, k.vc, k.vd, k.ve, k.vf, k.vg, k.vh, k.vi] 29 (0, 0)) ∧ W.heap[z]? = some (.cells #[.int .u8 6, .int .u16 80, .int .u32 167772165, .int .u16 8080] 40 (0, 0)) ∧ W.heap[z + 1]? = some (.cells #[.int .u8 17, .int .u16 80, .int .u32 167772165, .int .u16 53] 40 (0, 0)) ∧
        W.heap[p]? = some (.cells #[.int .u8 6, .int .u16 1500, .int .u32 167772165, .int .u16 8080] 40 (0, 0)) ∧ W.heap[q]? = some (.cells #[.int .u8 1, .int .u16 80, .int .u32 167772165, .int .u16 8080] 40 (0, 0)) ∧ W.heap[r]? = some (.cells #[.int .u8 6, .int .u16 80, .int .u32 184549381, .int .u16 8080] 40 (0, 0)) from by
      obtain ⟨a1, a2, a3, a4, a5⟩ := HX3.out
      intro W hW
      have hb := below_trans hb35 hW
      exact ⟨blk_on hks hW, blk_on a1 hb, blk_on a2 hb, blk_on a3 hb, blk_on a4 hb, blk_on a5 hb⟩)
    have HX6 := Lib.hid (HX.out w6 (Below.refl _ _))
    have Ew6 := Lib.hid ew6
    have Es := Lib.hid es
    clear hch es ew6 hb6 hks hb35 hb5 HX3
    try simp only []
    repeat (first | go_values | go_skip | ((fail_if_success (with_reducible refine wpList_new (.tmp 6) (.tmp 15) rfl ?_ ?_ ?_ ?_ ?_ ?_ ?_ ?_ ?_)); (first | go_step | go_upon | go_back)))
    refine wpList_new (.tmp 6) (.tmp 15) rfl rfl ?hww _ rfl rfl (by kernel_rfl) rfl Hch.out.one ?_
    case hww => kernel_rfl
    rw [Ew6.out]
    try rw [Es.out]
    go_upto_region 6 with (fail)
    have HBl := Lib.hid (Below.refl w6.heap.size w6)
    try simp only []
    repeat (first | go_values | go_skip | ((fail_if_success (with_reducible refine wpList_row 29 (.tmp 6) rfl ?_ ?_ ?_ ?_ ?_ ?_ ?_ ?_ ?_ ?_ ?_ ?_)); (first | go_step | go_upon | go_back)))
    refine wpList_row 29 (.tmp 6) rfl ?hww s _ _ _ _ HX6.out.1 rfl Try.underlying29 rfl (by kernel_rfl) ?_
    case hww => kernel_rfl
    (try simp only [Act.put, List.setIfInBounds_toArray, List.set_cons_zero, List.set_cons_succ])
    obtain ⟨d0, d1, d2, d3⟩ := cells44 HX6.out.2.1
    obtain ⟨e0, e1, e2, e3⟩ := cells44 HX6.out.2.2.1
    have HM := Lib.hid (may_any k (some ⟨w6.heap.size, 0, none⟩) 2 2 [fA, fB] true (w6.alloc (.cells #[.int .u8 6, .int .u16 80, .int .u32 167772165, .int .u16 8080, .int .u8 17, .int .u16 80, .int .u32 167772165, .int .u16 53] 40)) (RdW.lit w6 [fA, fB] _ rfl) rfl (by omega) ⟨fun _ => chap_row Hch.out, fun _ => rfl⟩)
    go_wp2_with fail
    refine HM.out.mono ?_
    rintro e w7 ⟨rfl, hb7⟩
    have HBlw7 := Lib.hid (below_trans HBl.out (below_trans ((Below.refl w6.heap.size w6).alloc (Nat.le_refl _) _) hb7))
    have HXw7 := Lib.hid (HX.out w7 HBlw7.out)
    clear d0 d1 d2 d3 e0 e1 e2 e3 hb7 HM
    try simp only []
    repeat (first | go_values | go_skip | ((fail_if_success (with_reducible refine wpList_row 29 (.tmp 6) rfl ?_ ?_ ?_ ?_ ?_ ?_ ?_ ?_ ?_ ?_ ?_ ?_)); (first | go_step | go_upon | go_back)))
    refine wpList_row 29 (.tmp 6) rfl ?hww s _ _ _ _ HXw7.out.1 rfl Try.underlying29 rfl (by kernel_rfl) ?_
    case hww => kernel_rfl
    (try simp only [Act.put, List.setIfInBounds_toArray, List.set_cons_zero, List.set_cons_succ])
    obtain ⟨d0, d1, d2, d3⟩ := cells44 HXw7.out.2.2.2.1
    have HM := Lib.hid (may_any k (some ⟨w7.heap.size, 0, none⟩) 1 1 [fP] false (w7.alloc (.cells #[.int .u8 6, .int .u16 1500, .int .u32 167772165, .int .u16 8080] 40)) (RdW.lit w7 [fP] _ rfl) rfl (by omega) ⟨fun h => (by cases h), fun h => absurd h (chap_no Hch.out (.inl rfl))⟩)
    go_wp2_with fail
    refine HM.out.mono ?_
    rintro e w8 ⟨rfl, hb7⟩
    have HBlw8 := Lib.hid (below_trans HBlw7.out (below_trans ((Below.refl w7.heap.size w7).alloc (Nat.le_refl _) _) hb7))
    have HXw8 := Lib.hid (HX.out w8 HBlw8.out)
    clear d0 d1 d2 d3 hb7 HM
    try simp only []
    repeat (first | go_values | go_skip | ((fail_if_success (with_reducible refine wpList_row 29 (.tmp 6) rfl ?_ ?_ ?_ ?_ ?_ ?_ ?_ ?_ ?_ ?_ ?_ ?_)); (first | go_step | go_upon | go_back)))
    refine wpList_row 29 (.tmp 6) rfl ?hww s _ _ _ _ HXw8.out.1 rfl Try.underlying29 rfl (by kernel_rfl) ?_
    case hww => kernel_rfl
    (try simp only [Act.put, List.setIfInBounds_toArray, List.set_cons_zero, List.set_cons_succ])
    obtain ⟨d0, d1, d2, d3⟩ := cells44 HXw8.out.2.2.2.2.1
    have HM := Lib.hid (may_any k (some ⟨w8.heap.size, 0, none⟩) 1 1 [fE] false (w8.alloc (.cells #[.int .u8 1, .int .u16 80, .int .u32 167772165, .int .u16 8080] 40)) (RdW.lit w8 [fE] _ rfl) rfl (by omega) ⟨fun h => (by cases h), fun h => absurd h (chap_no Hch.out (.inr (.inl rfl)))⟩)
    go_wp2_with fail
    refine HM.out.mono ?_
    rintro e w9 ⟨rfl, hb7⟩
    have HBlw9 := Lib.hid (below_trans HBlw8.out (below_trans ((Below.refl w8.heap.size w8).alloc (Nat.le_refl _) _) hb7))
    have HXw9 := Lib.hid (HX.out w9 HBlw9.out)
    clear d0 d1 d2 d3 hb7 HM
    try simp only []
    repeat (first | go_values | go_skip | ((fail_if_success (with_reducible refine wpList_row 29 (.tmp 6) rfl ?_ ?_ ?_ ?_ ?_ ?_ ?_ ?_ ?_ ?_ ?_ ?_)); (first | go_step | go_upon | go_back)))
    refine wpList_row 29 (.tmp 6) rfl ?hww s _ _ _ _ HXw9.out.1 rfl Try.underlying29 rfl (by kernel_rfl) ?_
    case hww => kernel_rfl
    (try simp only [Act.put, List.setIfInBounds_toArray, List.set_cons_zero, List.set_cons_succ])
    obtain ⟨d0, d1, d2, d3⟩ := cells44 HXw9.out.2.2.2.2.2
    have HM := Lib.hid (may_any k (some ⟨w9.heap.size, 0, none⟩) 1 1 [fO] false (w9.alloc (.cells #[.int .u8 6, .int .u16 80, .int .u32 184549381, .int .u16 8080] 40)) (RdW.lit w9 [fO] _ rfl) rfl (by omega) ⟨fun h => (by cases h), fun h => absurd h (chap_no Hch.out (.inr (.inr rfl)))⟩)
    go_wp2_with fail
    refine HM.out.mono ?_
    rintro e w10 ⟨rfl, hb7⟩
    have HBlw10 := Lib.hid (below_trans HBlw9.out (below_trans ((Below.refl w9.heap.size w9).alloc (Nat.le_refl _) _) hb7))
    have HXw10 := Lib.hid (HX.out w10 HBlw10.out)
    clear d0 d1 d2 d3 hb7 HM
    go_wp2_with fail
    go_ret
    exact ⟨rfl, below_trans HB6.out HBlw10.out⟩
end Go.Proofs.Ytknmpfdmjfbpdaa
