/-
  Texts laid together: NatBox, NatChg, NatStep.
-/
import Derived.Test.YtoegfgbalcholaaGreatZT37
import Derived.Test.YtoegfgbalcholaaGreatZT05
import Derived.Test.YtoegfgbalcholaaGreatZT20
import Derived.Test.YtoegfgbalcholaaGreatZT06
import Derived.Deep.RegionHeld3
import Derived.Test.YtoegfgbalcholaaGreatZT01
import Derived.Test.YtoegfgbalcholaaGreatZT02
import Derived.Test.YtoegfgbalcholaaGreatZT12
import Derived.BigRegion

/-
  Package nat's fields of a packet and the closure that changes a word.
-/
namespace Go.Proofs.YtoegfgbalcholaaGreat
set_option maxRecDepth 10000
open Go.RowKit
set_option linter.unusedSimpArgs false
set_option linter.unusedVariables false

theorem header_any (h : Hd) (A : Option Addr) (n c : Nat) (w : World) (hn : n ≤ 1000) :
    Calls Tryz.prog 26 #[.agg #[.int .u8 h.to, .int .u16 h.id, .bool h.df, .int .u8 h.tt, .int .u8 h.pr, .int .u32 h.sr, .int .u32 h.ds, .slice A n c]] w fun e w' => e = .returned (.int .i64 (20 + (n : Int))) ∧ Below w.heap.size w w' := by
  have hmi : (n : Int) ≤ 1000 := by omega
  have hw : IntKind.i64.wrap (20 + (n : Int)) = 20 + (n : Int) := IntWalk.i64_in _ (by omega)
  have hb := (Below.refl w.heap.size w).alloc (Nat.le_refl _) (.cells #[.int .u8 h.to, .int .u16 h.id, .bool h.df, .int .u8 h.tt, .int .u8 h.pr, .int .u32 h.sr, .int .u32 h.ds, .slice A n c] 26)
  go_enter Tryz.func26, Tryz.ntmps26
  go_wp2_with fail
  go_ret
  exact ⟨rfl, hb⟩
/-- One of a packet's fields. -/
structure Fd where
  a : Int
  s : Nat
  m : Nat
  o : Bool
  z : Bool
  L : List (Int × Int)

theorem set8n_blk {w : World} {q : Nat} {u0 u1 u2 u3 u4 u5 u6 u7 : Value} {t : TypeId} (h : w.heap[q]? = some (.cells #[u0, u1, u2, u3, u4, u5, u6, u7] t (0, 0))) (v0 v1 v2 v3 v4 v5 v6 v7 : Value) :
    ((((((((w.setCell ⟨q, 0, none⟩ v0).setCell ⟨q, 1, none⟩ v1).setCell ⟨q, 2, none⟩ v2).setCell ⟨q, 3, none⟩ v3).setCell ⟨q, 4, none⟩ v4).setCell ⟨q, 5, none⟩ v5).setCell ⟨q, 6, none⟩ v6).setCell ⟨q, 7, none⟩ v7).heap[q]? = some (.cells #[v0, v1, v2, v3, v4, v5, v6, v7] t (0, 0)) := by
  have h0 := setCell_block (i := 0) h v0
  have h1 := setCell_block (i := 1) h0 v1
  have h2 := setCell_block (i := 2) h1 v2
  have h3 := setCell_block (i := 3) h2 v3
  have h4 := setCell_block (i := 4) h3 v4
  have h5 := setCell_block (i := 5) h4 v5
  have h6 := setCell_block (i := 6) h5 v6
  have h7 := setCell_block (i := 7) h6 v7
  simpa using h7
theorem set8n_but (w : World) (q : Nat) (v0 v1 v2 v3 v4 v5 v6 v7 : Value) : But (fun k => k = q) w ((((((((w.setCell ⟨q, 0, none⟩ v0).setCell ⟨q, 1, none⟩ v1).setCell ⟨q, 2, none⟩ v2).setCell ⟨q, 3, none⟩ v3).setCell ⟨q, 4, none⟩ v4).setCell ⟨q, 5, none⟩ v5).setCell ⟨q, 6, none⟩ v6).setCell ⟨q, 7, none⟩ v7) :=
  (((((((((But.refl (fun k => k = q) w).setCell (p := ⟨q, 0, none⟩) rfl v0).setCell (p := ⟨q, 1, none⟩) rfl v1).setCell (p := ⟨q, 2, none⟩) rfl v2).setCell (p := ⟨q, 3, none⟩) rfl v3).setCell (p := ⟨q, 4, none⟩) rfl v4).setCell (p := ⟨q, 5, none⟩) rfl v5).setCell (p := ⟨q, 6, none⟩) rfl v6).setCell (p := ⟨q, 7, none⟩) rfl v7)
theorem half8_blk {w : World} {q : Nat} {u0 u1 u2 u3 u4 u5 u6 u7 : Value} {t : TypeId} (h : w.heap[q]? = some (.cells #[u0, u1, u2, u3, u4, u5, u6, u7] t (0, 0))) (v4 v5 v6 v7 : Value) :
    ((((w.setCell ⟨q, 4, none⟩ v4).setCell ⟨q, 5, none⟩ v5).setCell ⟨q, 6, none⟩ v6).setCell ⟨q, 7, none⟩ v7).heap[q]? = some (.cells #[u0, u1, u2, u3, v4, v5, v6, v7] t (0, 0)) := by
  have h4 := setCell_block (i := 4) h v4
  have h5 := setCell_block (i := 5) h4 v5
  have h6 := setCell_block (i := 6) h5 v6
  have h7 := setCell_block (i := 7) h6 v7
  simpa using h7
theorem half8_but (w : World) (q : Nat) (v4 v5 v6 v7 : Value) : But (fun k => k = q) w ((((w.setCell ⟨q, 4, none⟩ v4).setCell ⟨q, 5, none⟩ v5).setCell ⟨q, 6, none⟩ v6).setCell ⟨q, 7, none⟩ v7) :=
  (((((But.refl (fun k => k = q) w).setCell (p := ⟨q, 4, none⟩) rfl v4).setCell (p := ⟨q, 5, none⟩) rfl v5).setCell (p := ⟨q, 6, none⟩) rfl v6).setCell (p := ⟨q, 7, none⟩) rfl v7)
theorem cells8n {w : World} {g : Nat} {v0 v1 v2 v3 v4 v5 v6 v7 : Value} {t : TypeId} (h : w.heap[g]? = some (.cells #[v0, v1, v2, v3, v4, v5, v6, v7] t (0, 0))) :
    w.cell? ⟨g, 0, none⟩ = some v0 ∧ w.cell? ⟨g, 1, none⟩ = some v1 ∧ w.cell? ⟨g, 2, none⟩ = some v2 ∧ w.cell? ⟨g, 3, none⟩ = some v3 ∧ w.cell? ⟨g, 4, none⟩ = some v4 ∧ w.cell? ⟨g, 5, none⟩ = some v5 ∧ w.cell? ⟨g, 6, none⟩ = some v6 ∧ w.cell? ⟨g, 7, none⟩ = some v7 := by
  refine ⟨?_, ?_, ?_, ?_, ?_, ?_, ?_, ?_⟩ <;> (rw [blk_cell h]; rfl)
theorem results_row1 {P : Program} {fn : Func} {p : Tmp} {ty : TypeId} (h : fn.results = #[.cell p ty]) (tmps : Array Value) (w : World) (g : Nat) (t : TypeId) (cs : Array Value) (fr : Nat × Nat) (d : TypeDesc)
    (hp : tmps.getD p undef = .pointer (some ⟨g, 0, none⟩)) (hg : w.heap[g]? = some (.cells cs t fr))
    (hu : P.underlying ty = some d) (hd : (match d with | .struct _ | .array _ _ => true | _ => false) = true) (hi : (P.info? ty).map (·.size) = some cs.size) :
    (results fn tmps).run P w = .ok (.agg cs) w := by
  have hp' : tmps[p]?.getD undef = .pointer (some ⟨g, 0, none⟩) := by simpa using hp
  simp [results, h, hp', asAddr, run_loadVar_row w g t ty cs fr d hg hu hd hi]
theorem alloc4 (w : World) (a b c d : Obj) (y : Nat) (hy : w.heap.size = y) : ((((w.alloc a).alloc b).alloc c).alloc d).heap[y]? = some a ∧ ((((w.alloc a).alloc b).alloc c).alloc d).heap[y + 1]? = some b ∧ ((((w.alloc a).alloc b).alloc c).alloc d).heap[y + 1 + 1]? = some c ∧ ((((w.alloc a).alloc b).alloc c).alloc d).heap[y + 1 + 1 + 1]? = some d ∧ ((((w.alloc a).alloc b).alloc c).alloc d).heap.size = y + 1 + 1 + 1 + 1 := by
  subst hy
  refine ⟨?_, ?_, ?_, ?_, by simp⟩
  · rw [Below.heap_alloc _ _ _ (by simp <;> omega), Below.heap_alloc _ _ _ (by simp <;> omega), Below.heap_alloc _ _ _ (by simp)]; exact heap_alloc_new w a
  · rw [Below.heap_alloc _ _ _ (by simp; try omega), Below.heap_alloc _ _ _ (by simp)]; simpa using heap_alloc_new (w.alloc a) b
  · rw [Below.heap_alloc _ _ _ (by simp)]; simpa using heap_alloc_new ((w.alloc a).alloc b) c
  · simpa using heap_alloc_new (((w.alloc a).alloc b).alloc c) d
/-- A packet's two fields: the header's, and its payload's. -/
def FieldsAre (H2 N : Int) (a1 : Int) (o1 z1 : Bool) (m1 : Nat) (L1 : List (Int × Int)) (w : World) (e : Ending) (w' : World) : Prop := ∃ s0 s1, e = .returned (.agg #[.int .i64 10, .slice (some ⟨s0, 0, none⟩) 1 1, .bool false, .bool false, .int .i64 a1, .slice (some ⟨s1, 0, none⟩) m1 m1, .bool o1, .bool z1]) ∧
  SpRd w' s0 1 [(0, H2)] ∧ SpRd w' s1 m1 L1 ∧ w.heap.size ≤ s0 ∧ w.heap.size ≤ s1 ∧ Below w.heap.size w w'
set_option maxHeartbeats 1000000 in
theorem fieldsof_6 (h : Hd) (A : Option Addr) (n c N : Nat) (w : World) (hn : n ≤ 1000) (hN : N ≤ 100000) (hpr : h.pr = 6) :
    Calls Tryz.prog 62 #[.agg #[.int .u8 h.to, .int .u16 h.id, .bool h.df, .int .u8 h.tt, .int .u8 h.pr, .int .u32 h.sr, .int .u32 h.ds, .slice A n c], .int .i64 (N : Int)] w (FieldsAre (20 + (n : Int)) N (20 + (n : Int) + 16) false false 2 [(20 + (n : Int), N), (12, 20)] w) := by
  obtain ⟨z0, hz⟩ : ∃ z, w.heap.size = z := ⟨_, rfl⟩
  obtain ⟨w0, ew⟩ : ∃ w0, (w.alloc (.cells #[.int .u8 h.to, .int .u16 h.id, .bool h.df, .int .u8 h.tt, .int .u8 h.pr, .int .u32 h.sr, .int .u32 h.ds, .slice A n c] 26)).alloc (.cells #[.int .i64 0, .slice none 0 0, .bool false, .bool false, .int .i64 0, .slice none 0 0, .bool false, .bool false] 122) = w0 := ⟨_, rfl⟩
  have hb0 : Below w.heap.size w w0 := by rw [← ew]; exact ((Below.refl _ _).alloc (Nat.le_refl _) _).alloc (by simp) _
  have hk0 : w0.heap[z0]? = some (.cells #[.int .u8 h.to, .int .u16 h.id, .bool h.df, .int .u8 h.tt, .int .u8 h.pr, .int .u32 h.sr, .int .u32 h.ds, .slice A n c] 26 (0, 0)) := by rw [← ew, Below.heap_alloc _ _ _ (by simp [hz]), ← hz]; exact heap_alloc_new w _
  have hk1 : w0.heap[z0 + 1]? = some (.cells #[.int .i64 0, .slice none 0 0, .bool false, .bool false, .int .i64 0, .slice none 0 0, .bool false, .bool false] 122 (0, 0)) := by
    rw [← ew, ← hz]; simpa using heap_alloc_new (w.alloc (.cells #[.int .u8 h.to, .int .u16 h.id, .bool h.df, .int .u8 h.tt, .int .u8 h.pr, .int .u32 h.sr, .int .u32 h.ds, .slice A n c] 26)) _
  have HK0 := Lib.hid hk0
  have HK1 := Lib.hid hk1
  have Hb0 := Lib.hid hb0
  have Ew := Lib.hid ew
  have Hz := Lib.hid hz
  have Hpr := Lib.hid hpr
  have hni : (n : Int) ≤ 1000 := by omega
  have hni0 : (0 : Int) ≤ (n : Int) := by omega
  have hwr : IntKind.i64.wrap (20 + (n : Int) + 16) = 20 + (n : Int) + 16 := IntWalk.i64_in _ (by omega)
  obtain ⟨k0, k1, k2, k3, k4, k5, k6, k7⟩ := cells8n hk0
  clear hz ew hb0 hk0 hk1 hpr
  go_enter Tryz.func62, Tryz.ntmps62
  go_upto_region 1 with (fail)
  rw [Ew.out]
  try rw [Hz.out]
  go_wp2_with fail
  refine (header_any h A n c _ hn).mono ?_
  rintro e w1 ⟨rfl, hb1⟩
  have HB1 := Lib.hid (below_trans Hb0.out hb1)
  have HK0 := Lib.hid (blk_on HK0.out hb1)
  have HK1 := Lib.hid (blk_on HK1.out hb1)
  clear hb1 k0 k1 k2 k3 k4 k5 k6 k7 Ew
  obtain ⟨y, ey⟩ : ∃ y, w1.heap.size = y := ⟨_, rfl⟩
  have Ey := Lib.hid ey
  go_upto_region 4 with (fail)
  try rw [ey]
  clear ey
  obtain ⟨w2, e2⟩ : ∃ v, (((w1.alloc (.cells #[.int .i64 (20 + (n : Int)), .int .i64 (N : Int)] 170)).alloc (.cells #[.int .i64 12, .int .i64 20] 170)).alloc (.cells #[.int .i64 0, .int .i64 (20 + (n : Int))] 170)).alloc
    (.cells #[.int .i64 10, .slice (some ⟨y + 1 + 1, 0, none⟩) 1 1, .bool false, .bool false, .int .i64 0, .slice none 0 0, .bool false, .bool false] 122) = v := ⟨_, rfl⟩
  have HB2 := Lib.hid (show Below w1.heap.size w1 w2 by rw [← e2]; exact ((((Below.refl _ _).alloc (Nat.le_refl _) _).alloc (by simp) _).alloc (by simp; omega) _).alloc (by simp; omega) _)
  obtain ⟨hy0, hy1, hy2, hy3, hs2⟩ := alloc4 w1 _ _ _ _ y Ey.out
  rw [e2] at hy0 hy1 hy2 hy3 hs2
  have Hs2 := Lib.hid hs2
  rw [e2]
  clear e2
  have HZ := Lib.hid (show w.heap.size ≤ y ∧ z0 + 1 < y ∧ z0 < y by have := HB1.out.size; have := Ey.out; have := lt_of_block HK1.out; exact ⟨by omega, by omega, by omega⟩)
  have HK0 := Lib.hid (blk_on HK0.out HB2.out)
  have HK1 := Lib.hid (blk_on HK1.out HB2.out)
  have HB2 := Lib.hid (below_trans HB1.out HB2.out)
  have k4 : w2.cell? ⟨z0, 4, none⟩ = some (.int .u8 6) := by rw [blk_cell HK0.out, ← Hpr.out]; rfl
  have p0 : w2.cell? ⟨y, 0, none⟩ = some (.int .i64 (20 + (n : Int))) := blk_cell hy0 0
  have p1 : w2.cell? ⟨y, 1, none⟩ = some (.int .i64 (N : Int)) := blk_cell hy0 1
  have q0 : w2.cell? ⟨y + 1, 0, none⟩ = some (.int .i64 12) := blk_cell hy1 0
  have q1 : w2.cell? ⟨y + 1, 1, none⟩ = some (.int .i64 20) := blk_cell hy1 1
  have HY2 := Lib.hid hy2
  have HY3 := Lib.hid hy3
  clear hy0 hy1 hy2 hy3 hs2
  go_upto_region 6 with (fail)
  clear k4
  have hac : ∀ (W : World) (o : Obj) (i : Nat), W.heap.size = y + 1 + 1 + 1 + 1 → (W.alloc o).cell? ⟨y + 1 + 1 + 1, i, none⟩ = W.cell? ⟨y + 1 + 1 + 1, i, none⟩ := fun W o i hs => World.cell?_of_block (w := W) (Below.heap_alloc _ _ _ (by simp only; omega))
  have haf : ∀ (W : World) (o : Obj) (i : Nat), W.heap.size = y + 1 + 1 + 1 + 1 → (W.alloc o).frozen? ⟨y + 1 + 1 + 1, i, none⟩ = W.frozen? ⟨y + 1 + 1 + 1, i, none⟩ := fun W o i hs => World.frozen?_of_block (w := W) (Below.heap_alloc _ _ _ (by simp only; omega))
  obtain ⟨t0, t1, t2, t3, t4, t5, t6, t7⟩ := cells8n HY3.out
  have fz := fun i => blk_free HY3.out i
  have hs2 := Hs2.out
  go_upto_region 11 with (fail)
  clear t0 t1 t2 t3 t4 t5 t6 t7 fz hs2 hac haf
  obtain ⟨w3, e3⟩ : ∃ v, (((w2.setCell ⟨y + 1 + 1 + 1, 4, none⟩ (.int .i64 (20 + (n : Int) + 16))).setCell ⟨y + 1 + 1 + 1, 5, none⟩ (.slice (some ⟨y + 1 + 1 + 1 + 1, 0, none⟩) 2 2)).setCell ⟨y + 1 + 1 + 1, 6, none⟩ (.bool false)).setCell ⟨y + 1 + 1 + 1, 7, none⟩ (.bool false) = v := ⟨_, rfl⟩
  have hy3 := half8_blk HY3.out (.int .i64 (20 + (n : Int) + 16)) (.slice (some ⟨y + 1 + 1 + 1 + 1, 0, none⟩) 2 2) (.bool false) (.bool false)
  have hbt := half8_but w2 (y + 1 + 1 + 1) (.int .i64 (20 + (n : Int) + 16)) (.slice (some ⟨y + 1 + 1 + 1 + 1, 0, none⟩) 2 2) (.bool false) (.bool false)
  have hs3 : w3.heap.size = y + 1 + 1 + 1 + 1 := by rw [← e3, ← Hs2.out]; simp [World.setCell]
  rw [e3] at hy3 hbt ⊢
  clear e3
  obtain ⟨w4, e4⟩ : ∃ v, w3.alloc (.cells #[.int .i64 (20 + (n : Int)), .int .i64 (N : Int), .int .i64 12, .int .i64 20] 170) = v := ⟨_, rfl⟩
  have hb4 : Below w3.heap.size w3 w4 := by rw [← e4]; exact (Below.refl _ _).alloc (Nat.le_refl _) _
  have hsp : w4.heap[y + 1 + 1 + 1 + 1]? = some (.cells #[.int .i64 (20 + (n : Int)), .int .i64 (N : Int), .int .i64 12, .int .i64 20] 170 (0, 0)) := by rw [← e4, ← hs3]; exact heap_alloc_new w3 _
  rw [e4]
  clear e4 hs3
  have HY2 := Lib.hid (blk_on (hbt.blk HY2.out (by omega)) hb4)
  have hk1 := blk_on (hbt.blk HK1.out (by have := HZ.out; omega)) hb4
  have HK1 := Lib.hid hk1
  have HSP := Lib.hid hsp
  have HB4 := Lib.hid (below_trans (HB2.out.trans (hbt.below (fun k hk => by subst hk; have := HZ.out; omega) (by have := Hs2.out; have := HZ.out; omega))) hb4)
  have hy3 := blk_on hy3 hb4
  obtain ⟨t0, t1, t2, t3, t4, t5, t6, t7⟩ := cells8n hy3
  obtain ⟨u0, u1, u2, u3, u4, u5, u6, u7⟩ := cells8n hk1
  have fz := fun i => blk_free hk1 i
  clear hsp hbt hb4 hk1 hy3
  go_wp2_with fail
  refine bodyPost_ret (v := .agg #[.int .i64 10, .slice (some ⟨y + 1 + 1, 0, none⟩) 1 1, .bool false, .bool false, .int .i64 (20 + (n : Int) + 16), .slice (some ⟨y + 1 + 1 + 1 + 1, 0, none⟩) 2 2, .bool false, .bool false])
    (results_row1 rfl _ _ (z0 + 1) _ _ _ _ rfl (set8n_blk HK1.out _ _ _ _ _ _ _ _) Tryz.underlying122 rfl (by kernel_rfl)) rfl ?_
  have hbz := set8n_but w4 (z0 + 1) (.int .i64 10) (.slice (some ⟨y + 1 + 1, 0, none⟩) 1 1) (.bool false) (.bool false) (.int .i64 (20 + (n : Int) + 16)) (.slice (some ⟨y + 1 + 1 + 1 + 1, 0, none⟩) 2 2) (.bool false) (.bool false)
  have hZ := HZ.out
  exact ⟨y + 1 + 1, y + 1 + 1 + 1 + 1, rfl, (SpRd.one HY2.out).but hbz (by omega), (SpRd.two HSP.out).but hbz (by omega), by omega, by omega, HB4.out.trans (hbz.below (fun k hk => by subst hk; have := Hz.out; omega) HB4.out.size)⟩
set_option maxHeartbeats 1000000 in
theorem fieldsof_17 (h : Hd) (A : Option Addr) (n c N : Nat) (w : World) (hn : n ≤ 1000) (hN : N ≤ 100000) (hpr : h.pr = 17) :
    Calls Tryz.prog 62 #[.agg #[.int .u8 h.to, .int .u16 h.id, .bool h.df, .int .u8 h.tt, .int .u8 h.pr, .int .u32 h.sr, .int .u32 h.ds, .slice A n c], .int .i64 (N : Int)] w (FieldsAre (20 + (n : Int)) N (20 + (n : Int) + 6) true true 2 [(20 + (n : Int), N), (12, 20)] w) := by
  obtain ⟨z0, hz⟩ : ∃ z, w.heap.size = z := ⟨_, rfl⟩
  obtain ⟨w0, ew⟩ : ∃ w0, (w.alloc (.cells #[.int .u8 h.to, .int .u16 h.id, .bool h.df, .int .u8 h.tt, .int .u8 h.pr, .int .u32 h.sr, .int .u32 h.ds, .slice A n c] 26)).alloc (.cells #[.int .i64 0, .slice none 0 0, .bool false, .bool false, .int .i64 0, .slice none 0 0, .bool false, .bool false] 122) = w0 := ⟨_, rfl⟩
  have hb0 : Below w.heap.size w w0 := by rw [← ew]; exact ((Below.refl _ _).alloc (Nat.le_refl _) _).alloc (by simp) _
  have hk0 : w0.heap[z0]? = some (.cells #[.int .u8 h.to, .int .u16 h.id, .bool h.df, .int .u8 h.tt, .int .u8 h.pr, .int .u32 h.sr, .int .u32 h.ds, .slice A n c] 26 (0, 0)) := by rw [← ew, Below.heap_alloc _ _ _ (by simp [hz]), ← hz]; exact heap_alloc_new w _
  have hk1 : w0.heap[z0 + 1]? = some (.cells #[.int .i64 0, .slice none 0 0, .bool false, .bool false, .int .i64 0, .slice none 0 0, .bool false, .bool false] 122 (0, 0)) := by
    rw [← ew, ← hz]; simpa using heap_alloc_new (w.alloc (.cells #[.int .u8 h.to, .int .u16 h.id, .bool h.df, .int .u8 h.tt, .int .u8 h.pr, .int .u32 h.sr, .int .u32 h.ds, .slice A n c] 26)) _
  have HK0 := Lib.hid hk0
  have HK1 := Lib.hid hk1
  have Hb0 := Lib.hid hb0
  have Ew := Lib.hid ew
  have Hz := Lib.hid hz
  have Hpr := Lib.hid hpr
  have hni : (n : Int) ≤ 1000 := by omega
  have hni0 : (0 : Int) ≤ (n : Int) := by omega
  have hwr : IntKind.i64.wrap (20 + (n : Int) + 6) = 20 + (n : Int) + 6 := IntWalk.i64_in _ (by omega)
  obtain ⟨k0, k1, k2, k3, k4, k5, k6, k7⟩ := cells8n hk0
  clear hz ew hb0 hk0 hk1 hpr
  go_enter Tryz.func62, Tryz.ntmps62
  go_upto_region 1 with (fail)
  rw [Ew.out]
  try rw [Hz.out]
  go_wp2_with fail
  refine (header_any h A n c _ hn).mono ?_
  rintro e w1 ⟨rfl, hb1⟩
  have HB1 := Lib.hid (below_trans Hb0.out hb1)
  have HK0 := Lib.hid (blk_on HK0.out hb1)
  have HK1 := Lib.hid (blk_on HK1.out hb1)
  clear hb1 k0 k1 k2 k3 k4 k5 k6 k7 Ew
  obtain ⟨y, ey⟩ : ∃ y, w1.heap.size = y := ⟨_, rfl⟩
  have Ey := Lib.hid ey
  go_upto_region 4 with (fail)
  try rw [ey]
  clear ey
  obtain ⟨w2, e2⟩ : ∃ v, (((w1.alloc (.cells #[.int .i64 (20 + (n : Int)), .int .i64 (N : Int)] 170)).alloc (.cells #[.int .i64 12, .int .i64 20] 170)).alloc (.cells #[.int .i64 0, .int .i64 (20 + (n : Int))] 170)).alloc
    (.cells #[.int .i64 10, .slice (some ⟨y + 1 + 1, 0, none⟩) 1 1, .bool false, .bool false, .int .i64 0, .slice none 0 0, .bool false, .bool false] 122) = v := ⟨_, rfl⟩
  have HB2 := Lib.hid (show Below w1.heap.size w1 w2 by rw [← e2]; exact ((((Below.refl _ _).alloc (Nat.le_refl _) _).alloc (by simp) _).alloc (by simp; omega) _).alloc (by simp; omega) _)
  obtain ⟨hy0, hy1, hy2, hy3, hs2⟩ := alloc4 w1 _ _ _ _ y Ey.out
  rw [e2] at hy0 hy1 hy2 hy3 hs2
  have Hs2 := Lib.hid hs2
  rw [e2]
  clear e2
  have HZ := Lib.hid (show w.heap.size ≤ y ∧ z0 + 1 < y ∧ z0 < y by have := HB1.out.size; have := Ey.out; have := lt_of_block HK1.out; exact ⟨by omega, by omega, by omega⟩)
  have HK0 := Lib.hid (blk_on HK0.out HB2.out)
  have HK1 := Lib.hid (blk_on HK1.out HB2.out)
  have HB2 := Lib.hid (below_trans HB1.out HB2.out)
  have k4 : w2.cell? ⟨z0, 4, none⟩ = some (.int .u8 17) := by rw [blk_cell HK0.out, ← Hpr.out]; rfl
  have p0 : w2.cell? ⟨y, 0, none⟩ = some (.int .i64 (20 + (n : Int))) := blk_cell hy0 0
  have p1 : w2.cell? ⟨y, 1, none⟩ = some (.int .i64 (N : Int)) := blk_cell hy0 1
  have q0 : w2.cell? ⟨y + 1, 0, none⟩ = some (.int .i64 12) := blk_cell hy1 0
  have q1 : w2.cell? ⟨y + 1, 1, none⟩ = some (.int .i64 20) := blk_cell hy1 1
  have HY2 := Lib.hid hy2
  have HY3 := Lib.hid hy3
  clear hy0 hy1 hy2 hy3 hs2
  go_upto_region 8 with (fail)
  clear k4
  have hac : ∀ (W : World) (o : Obj) (i : Nat), W.heap.size = y + 1 + 1 + 1 + 1 → (W.alloc o).cell? ⟨y + 1 + 1 + 1, i, none⟩ = W.cell? ⟨y + 1 + 1 + 1, i, none⟩ := fun W o i hs => World.cell?_of_block (w := W) (Below.heap_alloc _ _ _ (by simp only; omega))
  have haf : ∀ (W : World) (o : Obj) (i : Nat), W.heap.size = y + 1 + 1 + 1 + 1 → (W.alloc o).frozen? ⟨y + 1 + 1 + 1, i, none⟩ = W.frozen? ⟨y + 1 + 1 + 1, i, none⟩ := fun W o i hs => World.frozen?_of_block (w := W) (Below.heap_alloc _ _ _ (by simp only; omega))
  obtain ⟨t0, t1, t2, t3, t4, t5, t6, t7⟩ := cells8n HY3.out
  have fz := fun i => blk_free HY3.out i
  have hs2 := Hs2.out
  go_upto_region 11 with (fail)
  clear t0 t1 t2 t3 t4 t5 t6 t7 fz hs2 hac haf
  obtain ⟨w3, e3⟩ : ∃ v, (((w2.setCell ⟨y + 1 + 1 + 1, 4, none⟩ (.int .i64 (20 + (n : Int) + 6))).setCell ⟨y + 1 + 1 + 1, 5, none⟩ (.slice (some ⟨y + 1 + 1 + 1 + 1, 0, none⟩) 2 2)).setCell ⟨y + 1 + 1 + 1, 6, none⟩ (.bool true)).setCell ⟨y + 1 + 1 + 1, 7, none⟩ (.bool true) = v := ⟨_, rfl⟩
  have hy3 := half8_blk HY3.out (.int .i64 (20 + (n : Int) + 6)) (.slice (some ⟨y + 1 + 1 + 1 + 1, 0, none⟩) 2 2) (.bool true) (.bool true)
  have hbt := half8_but w2 (y + 1 + 1 + 1) (.int .i64 (20 + (n : Int) + 6)) (.slice (some ⟨y + 1 + 1 + 1 + 1, 0, none⟩) 2 2) (.bool true) (.bool true)
  have hs3 : w3.heap.size = y + 1 + 1 + 1 + 1 := by rw [← e3, ← Hs2.out]; simp [World.setCell]
  rw [e3] at hy3 hbt ⊢
  clear e3
  obtain ⟨w4, e4⟩ : ∃ v, w3.alloc (.cells #[.int .i64 (20 + (n : Int)), .int .i64 (N : Int), .int .i64 12, .int .i64 20] 170) = v := ⟨_, rfl⟩
  have hb4 : Below w3.heap.size w3 w4 := by rw [← e4]; exact (Below.refl _ _).alloc (Nat.le_refl _) _
  have hsp : w4.heap[y + 1 + 1 + 1 + 1]? = some (.cells #[.int .i64 (20 + (n : Int)), .int .i64 (N : Int), .int .i64 12, .int .i64 20] 170 (0, 0)) := by rw [← e4, ← hs3]; exact heap_alloc_new w3 _
  rw [e4]
  clear e4 hs3
  have HY2 := Lib.hid (blk_on (hbt.blk HY2.out (by omega)) hb4)
  have hk1 := blk_on (hbt.blk HK1.out (by have := HZ.out; omega)) hb4
  have HK1 := Lib.hid hk1
  have HSP := Lib.hid hsp
  have HB4 := Lib.hid (below_trans (HB2.out.trans (hbt.below (fun k hk => by subst hk; have := HZ.out; omega) (by have := Hs2.out; have := HZ.out; omega))) hb4)
  have hy3 := blk_on hy3 hb4
  obtain ⟨t0, t1, t2, t3, t4, t5, t6, t7⟩ := cells8n hy3
  obtain ⟨u0, u1, u2, u3, u4, u5, u6, u7⟩ := cells8n hk1
  have fz := fun i => blk_free hk1 i
  clear hsp hbt hb4 hk1 hy3
  go_wp2_with fail
  refine bodyPost_ret (v := .agg #[.int .i64 10, .slice (some ⟨y + 1 + 1, 0, none⟩) 1 1, .bool false, .bool false, .int .i64 (20 + (n : Int) + 6), .slice (some ⟨y + 1 + 1 + 1 + 1, 0, none⟩) 2 2, .bool true, .bool true])
    (results_row1 rfl _ _ (z0 + 1) _ _ _ _ rfl (set8n_blk HK1.out _ _ _ _ _ _ _ _) Tryz.underlying122 rfl (by kernel_rfl)) rfl ?_
  have hbz := set8n_but w4 (z0 + 1) (.int .i64 10) (.slice (some ⟨y + 1 + 1, 0, none⟩) 1 1) (.bool false) (.bool false) (.int .i64 (20 + (n : Int) + 6)) (.slice (some ⟨y + 1 + 1 + 1 + 1, 0, none⟩) 2 2) (.bool true) (.bool true)
  have hZ := HZ.out
  exact ⟨y + 1 + 1, y + 1 + 1 + 1 + 1, rfl, (SpRd.one HY2.out).but hbz (by omega), (SpRd.two HSP.out).but hbz (by omega), by omega, by omega, HB4.out.trans (hbz.below (fun k hk => by subst hk; have := Hz.out; omega) HB4.out.size)⟩
set_option maxHeartbeats 1000000 in
theorem fieldsof_1 (h : Hd) (A : Option Addr) (n c N : Nat) (w : World) (hn : n ≤ 1000) (hN : N ≤ 100000) (hpr : h.pr = 1) :
    Calls Tryz.prog 62 #[.agg #[.int .u8 h.to, .int .u16 h.id, .bool h.df, .int .u8 h.tt, .int .u8 h.pr, .int .u32 h.sr, .int .u32 h.ds, .slice A n c], .int .i64 (N : Int)] w (FieldsAre (20 + (n : Int)) N (20 + (n : Int) + 2) false true 1 [(20 + (n : Int), N)] w) := by
  obtain ⟨z0, hz⟩ : ∃ z, w.heap.size = z := ⟨_, rfl⟩
  obtain ⟨w0, ew⟩ : ∃ w0, (w.alloc (.cells #[.int .u8 h.to, .int .u16 h.id, .bool h.df, .int .u8 h.tt, .int .u8 h.pr, .int .u32 h.sr, .int .u32 h.ds, .slice A n c] 26)).alloc (.cells #[.int .i64 0, .slice none 0 0, .bool false, .bool false, .int .i64 0, .slice none 0 0, .bool false, .bool false] 122) = w0 := ⟨_, rfl⟩
  have hb0 : Below w.heap.size w w0 := by rw [← ew]; exact ((Below.refl _ _).alloc (Nat.le_refl _) _).alloc (by simp) _
  have hk0 : w0.heap[z0]? = some (.cells #[.int .u8 h.to, .int .u16 h.id, .bool h.df, .int .u8 h.tt, .int .u8 h.pr, .int .u32 h.sr, .int .u32 h.ds, .slice A n c] 26 (0, 0)) := by rw [← ew, Below.heap_alloc _ _ _ (by simp [hz]), ← hz]; exact heap_alloc_new w _
  have hk1 : w0.heap[z0 + 1]? = some (.cells #[.int .i64 0, .slice none 0 0, .bool false, .bool false, .int .i64 0, .slice none 0 0, .bool false, .bool false] 122 (0, 0)) := by
    rw [← ew, ← hz]; simpa using heap_alloc_new (w.alloc (.cells #[.int .u8 h.to, .int .u16 h.id, .bool h.df, .int .u8 h.tt, .int .u8 h.pr, .int .u32 h.sr, .int .u32 h.ds, .slice A n c] 26)) _
  have HK0 := Lib.hid hk0
  have HK1 := Lib.hid hk1
  have Hb0 := Lib.hid hb0
  have Ew := Lib.hid ew
  have Hz := Lib.hid hz
  have Hpr := Lib.hid hpr
  have hni : (n : Int) ≤ 1000 := by omega
  have hni0 : (0 : Int) ≤ (n : Int) := by omega
  have hwr : IntKind.i64.wrap (20 + (n : Int) + 2) = 20 + (n : Int) + 2 := IntWalk.i64_in _ (by omega)
  obtain ⟨k0, k1, k2, k3, k4, k5, k6, k7⟩ := cells8n hk0
  clear hz ew hb0 hk0 hk1 hpr
  go_enter Tryz.func62, Tryz.ntmps62
  go_upto_region 1 with (fail)
  rw [Ew.out]
  try rw [Hz.out]
  go_wp2_with fail
  refine (header_any h A n c _ hn).mono ?_
  rintro e w1 ⟨rfl, hb1⟩
  have HB1 := Lib.hid (below_trans Hb0.out hb1)
  have HK0 := Lib.hid (blk_on HK0.out hb1)
  have HK1 := Lib.hid (blk_on HK1.out hb1)
  clear hb1 k0 k1 k2 k3 k4 k5 k6 k7 Ew
  obtain ⟨y, ey⟩ : ∃ y, w1.heap.size = y := ⟨_, rfl⟩
  have Ey := Lib.hid ey
  go_upto_region 4 with (fail)
  try rw [ey]
  clear ey
  obtain ⟨w2, e2⟩ : ∃ v, (((w1.alloc (.cells #[.int .i64 (20 + (n : Int)), .int .i64 (N : Int)] 170)).alloc (.cells #[.int .i64 12, .int .i64 20] 170)).alloc (.cells #[.int .i64 0, .int .i64 (20 + (n : Int))] 170)).alloc
    (.cells #[.int .i64 10, .slice (some ⟨y + 1 + 1, 0, none⟩) 1 1, .bool false, .bool false, .int .i64 0, .slice none 0 0, .bool false, .bool false] 122) = v := ⟨_, rfl⟩
  have HB2 := Lib.hid (show Below w1.heap.size w1 w2 by rw [← e2]; exact ((((Below.refl _ _).alloc (Nat.le_refl _) _).alloc (by simp) _).alloc (by simp; omega) _).alloc (by simp; omega) _)
  obtain ⟨hy0, hy1, hy2, hy3, hs2⟩ := alloc4 w1 _ _ _ _ y Ey.out
  rw [e2] at hy0 hy1 hy2 hy3 hs2
  have Hs2 := Lib.hid hs2
  rw [e2]
  clear e2
  have HZ := Lib.hid (show w.heap.size ≤ y ∧ z0 + 1 < y ∧ z0 < y by have := HB1.out.size; have := Ey.out; have := lt_of_block HK1.out; exact ⟨by omega, by omega, by omega⟩)
  have HK0 := Lib.hid (blk_on HK0.out HB2.out)
  have HK1 := Lib.hid (blk_on HK1.out HB2.out)
  have HB2 := Lib.hid (below_trans HB1.out HB2.out)
  have k4 : w2.cell? ⟨z0, 4, none⟩ = some (.int .u8 1) := by rw [blk_cell HK0.out, ← Hpr.out]; rfl
  have p0 : w2.cell? ⟨y, 0, none⟩ = some (.int .i64 (20 + (n : Int))) := blk_cell hy0 0
  have p1 : w2.cell? ⟨y, 1, none⟩ = some (.int .i64 (N : Int)) := blk_cell hy0 1
  have q0 : w2.cell? ⟨y + 1, 0, none⟩ = some (.int .i64 12) := blk_cell hy1 0
  have q1 : w2.cell? ⟨y + 1, 1, none⟩ = some (.int .i64 20) := blk_cell hy1 1
  have HY2 := Lib.hid hy2
  have HY3 := Lib.hid hy3
  clear hy0 hy1 hy2 hy3 hs2
  go_upto_region 10 with (fail)
  clear k4
  have hac : ∀ (W : World) (o : Obj) (i : Nat), W.heap.size = y + 1 + 1 + 1 + 1 → (W.alloc o).cell? ⟨y + 1 + 1 + 1, i, none⟩ = W.cell? ⟨y + 1 + 1 + 1, i, none⟩ := fun W o i hs => World.cell?_of_block (w := W) (Below.heap_alloc _ _ _ (by simp only; omega))
  have haf : ∀ (W : World) (o : Obj) (i : Nat), W.heap.size = y + 1 + 1 + 1 + 1 → (W.alloc o).frozen? ⟨y + 1 + 1 + 1, i, none⟩ = W.frozen? ⟨y + 1 + 1 + 1, i, none⟩ := fun W o i hs => World.frozen?_of_block (w := W) (Below.heap_alloc _ _ _ (by simp only; omega))
  obtain ⟨t0, t1, t2, t3, t4, t5, t6, t7⟩ := cells8n HY3.out
  have fz := fun i => blk_free HY3.out i
  have hs2 := Hs2.out
  go_upto_region 11 with (fail)
  clear t0 t1 t2 t3 t4 t5 t6 t7 fz hs2 hac haf
  obtain ⟨w3, e3⟩ : ∃ v, (((w2.setCell ⟨y + 1 + 1 + 1, 4, none⟩ (.int .i64 (20 + (n : Int) + 2))).setCell ⟨y + 1 + 1 + 1, 5, none⟩ (.slice (some ⟨y + 1 + 1 + 1 + 1, 0, none⟩) 1 1)).setCell ⟨y + 1 + 1 + 1, 6, none⟩ (.bool false)).setCell ⟨y + 1 + 1 + 1, 7, none⟩ (.bool true) = v := ⟨_, rfl⟩
  have hy3 := half8_blk HY3.out (.int .i64 (20 + (n : Int) + 2)) (.slice (some ⟨y + 1 + 1 + 1 + 1, 0, none⟩) 1 1) (.bool false) (.bool true)
  have hbt := half8_but w2 (y + 1 + 1 + 1) (.int .i64 (20 + (n : Int) + 2)) (.slice (some ⟨y + 1 + 1 + 1 + 1, 0, none⟩) 1 1) (.bool false) (.bool true)
  have hs3 : w3.heap.size = y + 1 + 1 + 1 + 1 := by rw [← e3, ← Hs2.out]; simp [World.setCell]
  rw [e3] at hy3 hbt ⊢
  clear e3
  obtain ⟨w4, e4⟩ : ∃ v, w3.alloc (.cells #[.int .i64 (20 + (n : Int)), .int .i64 (N : Int)] 170) = v := ⟨_, rfl⟩
  have hb4 : Below w3.heap.size w3 w4 := by rw [← e4]; exact (Below.refl _ _).alloc (Nat.le_refl _) _
  have hsp : w4.heap[y + 1 + 1 + 1 + 1]? = some (.cells #[.int .i64 (20 + (n : Int)), .int .i64 (N : Int)] 170 (0, 0)) := by rw [← e4, ← hs3]; exact heap_alloc_new w3 _
  rw [e4]
  clear e4 hs3
  have HY2 := Lib.hid (blk_on (hbt.blk HY2.out (by omega)) hb4)
  have hk1 := blk_on (hbt.blk HK1.out (by have := HZ.out; omega)) hb4
  have HK1 := Lib.hid hk1
  have HSP := Lib.hid hsp
  have HB4 := Lib.hid (below_trans (HB2.out.trans (hbt.below (fun k hk => by subst hk; have := HZ.out; omega) (by have := Hs2.out; have := HZ.out; omega))) hb4)
  have hy3 := blk_on hy3 hb4
  obtain ⟨t0, t1, t2, t3, t4, t5, t6, t7⟩ := cells8n hy3
  obtain ⟨u0, u1, u2, u3, u4, u5, u6, u7⟩ := cells8n hk1
  have fz := fun i => blk_free hk1 i
  clear hsp hbt hb4 hk1 hy3
  go_wp2_with fail
  refine bodyPost_ret (v := .agg #[.int .i64 10, .slice (some ⟨y + 1 + 1, 0, none⟩) 1 1, .bool false, .bool false, .int .i64 (20 + (n : Int) + 2), .slice (some ⟨y + 1 + 1 + 1 + 1, 0, none⟩) 1 1, .bool false, .bool true])
    (results_row1 rfl _ _ (z0 + 1) _ _ _ _ rfl (set8n_blk HK1.out _ _ _ _ _ _ _ _) Tryz.underlying122 rfl (by kernel_rfl)) rfl ?_
  have hbz := set8n_but w4 (z0 + 1) (.int .i64 10) (.slice (some ⟨y + 1 + 1, 0, none⟩) 1 1) (.bool false) (.bool false) (.int .i64 (20 + (n : Int) + 2)) (.slice (some ⟨y + 1 + 1 + 1 + 1, 0, none⟩) 1 1) (.bool false) (.bool true)
  have hZ := HZ.out
  exact ⟨y + 1 + 1, y + 1 + 1 + 1 + 1, rfl, (SpRd.one HY2.out).but hbz (by omega), (SpRd.one HSP.out).but hbz (by omega), by omega, by omega, HB4.out.trans (hbz.below (fun k hk => by subst hk; have := Hz.out; omega) HB4.out.size)⟩
end Go.Proofs.YtoegfgbalcholaaGreat

/-
  Package nat's closure that changes a word and lets the fields follow: changing and its function literal, changeLong, changeTtl.
-/
namespace Go.Proofs.YtoegfgbalcholaaGreat
set_option maxRecDepth 10000
open Go.RowKit
set_option linter.unusedSimpArgs false
set_option linter.unusedVariables false

theorem info_fld : (Tryz.prog.info? 121).map (fun i => (i.size, i.zero)) = some (4, some (.agg #[.int .i64 0, .slice none 0 0, .bool false, .bool false])) := by kernel_rfl
theorem index2_0 (a b c d a' b' c' d' : Value) (w : World) :
    (Instr.index 122 (.agg #[a, b, c, d, a', b', c', d']) (.int .i64 0)).run Tryz.prog w = .ok (.agg #[a, b, c, d]) w := by
  have h := info_fld
  cases hi : Tryz.prog.info? 121 with
  | none => rw [hi] at h; simp at h
  | some i =>
    rw [hi] at h
    simp at h
    simp [Instr.index, run_underlying Tryz.underlying122, part, isAgg, run_underlying Tryz.underlying121, sizeOf, typeInfo, hi, h, Result.andThen, go_sem]
theorem index2_1 (a b c d a' b' c' d' : Value) (w : World) :
    (Instr.index 122 (.agg #[a, b, c, d, a', b', c', d']) (.int .i64 1)).run Tryz.prog w = .ok (.agg #[a', b', c', d']) w := by
  have h := info_fld
  cases hi : Tryz.prog.info? 121 with
  | none => rw [hi] at h; simp at h
  | some i =>
    rw [hi] at h
    simp at h
    simp [Instr.index, run_underlying Tryz.underlying122, part, isAgg, run_underlying Tryz.underlying121, sizeOf, typeInfo, hi, h, Result.andThen, go_sem]
/-- The closure's own blocks: the bytes' box, the fields' box, the spans. -/
structure ChgAt (w : World) (g n c pb pf : Nat) (f0 f1 : Fd) : Prop where
  hb : w.heap[pb]? = some (.cells #[.slice (some ⟨g, 0, none⟩) n c] 24 (0, 0))
  hf : w.heap[pf]? = some (.cells #[.int .i64 f0.a, .slice (some ⟨f0.s, 0, none⟩) f0.m f0.m, .bool f0.o, .bool f0.z, .int .i64 f1.a, .slice (some ⟨f1.s, 0, none⟩) f1.m f1.m, .bool f1.o, .bool f1.z] 122 (0, 0))
  s0 : SpRd w f0.s f0.m f0.L
  s1 : SpRd w f1.s f1.m f1.L
  nb : pb ≠ g
  nf : pf ≠ g
  n0 : f0.s ≠ g
  n1 : f1.s ≠ g
theorem ChgAt.but {w w' : World} {g n c pb pf : Nat} {f0 f1 : Fd} (h : ChgAt w g n c pb pf f0 f1) (hb : But (fun k => k = g) w w') : ChgAt w' g n c pb pf f0 f1 :=
  ⟨hb.blk h.hb h.nb, hb.blk h.hf h.nf, h.s0.but hb h.n0, h.s1.but hb h.n1, h.nb, h.nf, h.n0, h.n1⟩
/-- One field's step. -/
def stF (K : Nat) (f : Fd) (a was x : Int) (b : List Int) : List Int := if hasSp f.L a = true then layL b K (folF f.o f.z (wordL b K) was x) else b
theorem stF_byte {K : Nat} {f : Fd} {a was x : Int} {b : List Int} (h : Bytes b) (hw : U16 was) (hx : U16 x) : Bytes (stF K f a was x b) := by
  unfold stF
  split
  · exact layL_byte h K (folF_bd _ _ (wordL_bd h K) hw hx)
  · exact h
set_option maxHeartbeats 2000000 in
theorem chg1_any (B g n c pb pf K1 : Nat) (f0 f1 : Fd) (l L : List Int) (a x : Int) (k : Nat) (w : World) (h : ChgAt w g n c pb pf f0 f1) (ho : OwnB w B (some ⟨g, 0, none⟩) n c l) (hl : Bytes l) (hn : n ≤ 100000) (ha : a = 2 * (k : Int)) (hk : 2 * k + 1 < n) (hx : U16 x)
    (h0 : f0.a = 2 * ((5 : Nat) : Int)) (h1 : f1.a = 2 * (K1 : Int)) (hK0 : 2 * 5 + 1 < n) (hK1 : 2 * K1 + 1 < n) (hm0 : f0.m ≤ 1000) (hm1 : f1.m ≤ 1000) (hL : stF K1 f1 a (wordL l k) x (stF 5 f0 a (wordL l k) x (layL l k x)) = L) :
    Calls Tryz.prog 63 #[.int .i64 a, .int .u16 x, .pointer (some ⟨pb, 0, none⟩), .pointer (some ⟨pf, 0, none⟩)] w (NLayIs B g n c L w) := by
  obtain ⟨was, hwas⟩ : ∃ v, wordL l k = v := ⟨_, rfl⟩
  rw [hwas] at hL
  have hwb : U16 was := by rw [← hwas]; exact wordL_bd hl k
  obtain ⟨Sq, hS0, hS1, hS2⟩ : ∃ Sq : Nat → List Int, layL l k x = Sq 0 ∧ Sq 1 = stF 5 f0 a was x (Sq 0) ∧ Sq 2 = stF K1 f1 a was x (Sq 1) := ⟨fun j => if j = 0 then layL l k x else if j = 1 then stF 5 f0 a was x (layL l k x) else stF K1 f1 a was x (stF 5 f0 a was x (layL l k x)), rfl, rfl, rfl⟩
  have hSL : Sq 2 = L := by rw [← hL, hS2, hS1, hS0]
  have hB0 : Bytes (Sq 0) := by rw [← hS0]; exact layL_byte hl k hx
  have hB1 : Bytes (Sq 1) := by rw [hS1]; exact stF_byte hB0 hwb hx
  have HB := Lib.hid (show ∀ j, j < 2 → Bytes (Sq j) from fun j hj => by
    rcases (show j = 0 ∨ j = 1 by omega) with rfl | rfl
    · exact hB0
    · exact hB1)
  have HS0 := Lib.hid hS0
  have HS1 := Lib.hid hS1
  have HS2 := Lib.hid hS2
  have HSL := Lib.hid hSL
  have Hwas := Lib.hid hwas
  have Hwb := Lib.hid hwb
  have Hx := Lib.hid hx
  have Hl := Lib.hid hl
  have Hk := Lib.hid hk
  have Hn := Lib.hid (And.intro hK0 hK1)
  have H0 := Lib.hid h0
  have H1 := Lib.hid h1
  have Ha := Lib.hid ha
  have HC := Lib.hid h
  have HO := Lib.hid ho
  have hnN : n ≤ 140737488355328 := by omega
  have q0 : w.cell? ⟨pb, 0, none⟩ = some (.slice (some ⟨g, 0, none⟩) n c) := blk_cell h.hb 0
  clear hS0 hS1 hS2 hSL hB0 hB1 hL hwas hwb hx hl hk hK0 hK1 h0 h1 ha h ho
  go_enter Tryz.func63, Tryz.ntmps63
  go_wp2_with fail
  refine (nword_any (some ⟨g, 0, none⟩) n c l a was k _ hnN Ha.out Hk.out (HO.out.rd Hl.out) Hwas.out).mono ?_
  rintro e w1 ⟨rfl, hb1⟩
  have HC := Lib.hid (HC.out.but (But.of hb1))
  have HO := Lib.hid (HO.out.on hb1)
  have HBt := Lib.hid (But.of (S := fun k => k = g) hb1)
  have q0 : w1.cell? ⟨pb, 0, none⟩ = some (.slice (some ⟨g, 0, none⟩) n c) := blk_cell HC.out.hb 0
  clear hb1
  go_wp2_with fail
  refine (nlay_any B g n c l a x k _ hnN Ha.out Hk.out Hx.out HO.out (Sq 0) HS0.out).mono ?_
  rintro e w2 ⟨rfl, ho2, hb2⟩
  have HC := Lib.hid (HC.out.but hb2)
  have HO := Lib.hid ho2
  have HBt := Lib.hid (HBt.out.trans hb2)
  clear q0
  obtain ⟨q0, q1, q2, q3, q4, q5, q6, q7⟩ := cells8n HC.out.hf
  clear hb2 ho2
  go_wp2_with fail
  clear q0 q1 q2 q3 q4 q5 q6 q7
  go_loopg [17] 2 (fun gk i wr => ∃ j l2, Hid (gk + j = 2) ∧ j ≤ 2 ∧ i = .int .i64 (j : Int) ∧ Hid (Sq j = l2) ∧ Hid (OwnB wr B (some ⟨g, 0, none⟩) n c l2) ∧ Hid (But (fun k => k = g) w2 wr))
  case atStart => exact ⟨0, _, rfl, by omega, rfl, rfl, HO, Lib.hid (But.refl _ _)⟩
  case round =>
    obtain ⟨j, l2, hgk, hj, rfl, hl2, hO, hBt⟩ := hrel
    have HCr := Lib.hid (HC.out.but hBt.out)
    by_cases hj2 : j < 2
    · obtain ⟨f, Kw, hidx, hsp, hfm, hfa, hK, hng, hst⟩ : ∃ (f : Fd) (Kw : Nat), (∀ W : World, (Instr.index 122 (.agg #[.int .i64 f0.a, .slice (some ⟨f0.s, 0, none⟩) f0.m f0.m, .bool f0.o, .bool f0.z, .int .i64 f1.a, .slice (some ⟨f1.s, 0, none⟩) f1.m f1.m, .bool f1.o, .bool f1.z]) (.int .i64 (j : Int))).run Tryz.prog W = .ok (.agg #[.int .i64 f.a, .slice (some ⟨f.s, 0, none⟩) f.m f.m, .bool f.o, .bool f.z]) W) ∧
          SpRd wr f.s f.m f.L ∧ f.m ≤ 1000 ∧ f.a = 2 * (Kw : Int) ∧ 2 * Kw + 1 < n ∧ f.s ≠ g ∧ Sq (j + 1) = stF Kw f a was x l2 := by
        rcases (show j = 0 ∨ j = 1 by omega) with rfl | rfl
        · exact ⟨f0, 5, fun W => index2_0 _ _ _ _ _ _ _ _ W, HCr.out.s0, hm0, H0.out, Hn.out.1, HCr.out.n0, by rw [← hl2.out]; exact HS1.out⟩
        · exact ⟨f1, K1, fun W => index2_1 _ _ _ _ _ _ _ _ W, HCr.out.s1, hm1, H1.out, Hn.out.2, HCr.out.n1, by rw [← hl2.out]; exact HS2.out⟩
      obtain ⟨z0, ez⟩ : ∃ y, wr.heap.size = y := ⟨_, rfl⟩
      obtain ⟨w3, e3⟩ : ∃ v, wr.alloc (.cells #[.int .i64 f.a, .slice (some ⟨f.s, 0, none⟩) f.m f.m, .bool f.o, .bool f.z] 121) = v := ⟨_, rfl⟩
      have hba : Below wr.heap.size wr w3 := by rw [← e3]; exact (Below.refl _ _).alloc (Nat.le_refl _) _
      have hkf : w3.heap[z0]? = some (.cells #[.int .i64 f.a, .slice (some ⟨f.s, 0, none⟩) f.m f.m, .bool f.o, .bool f.z] 121 (0, 0)) := by rw [← e3, ← ez]; exact heap_alloc_new wr _
      have HSp := Lib.hid (hsp.below hba)
      have hO3 := hO.out.on hba
      have hzg : z0 ≠ g := by
        obtain ⟨g', eg, _, hlt⟩ := hO.out.addr (by have := Hk.out; omega)
        injection eg with eg
        injection eg with eg _ _
        omega
      have Hzg := Lib.hid hzg
      have HO3 := Lib.hid hO3
      have HBt3 := Lib.hid (hBt.out.trans (But.of (S := fun k => k = g) hba))
      have HCr := Lib.hid (HCr.out.but (But.of hba))
      have HBy := Lib.hid (show Bytes l2 by rw [← hl2.out]; exact HB.out j hj2)
      have Hfa := Lib.hid hfa
      have Hf := Lib.hid (And.intro hfm hK)
      have Hst := Lib.hid hst
      have E3 := Lib.hid e3
      have Ez := Lib.hid ez
      have Hj := Lib.hid hj2
      have d0 : w3.cell? ⟨z0, 0, none⟩ = some (.int .i64 f.a) := blk_cell hkf 0
      have d1 : w3.cell? ⟨z0, 1, none⟩ = some (.slice (some ⟨f.s, 0, none⟩) f.m f.m) := blk_cell hkf 1
      have d2 : w3.cell? ⟨z0, 2, none⟩ = some (.bool f.o) := blk_cell hkf 2
      have d3 : w3.cell? ⟨z0, 3, none⟩ = some (.bool f.z) := blk_cell hkf 3
      have HKf := Lib.hid hkf
      have i0 : (0 : Int) ≤ (j : Int) := by omega
      have i1 : (j : Int) < 2 := by omega
      obtain ⟨hv, ehv⟩ : ∃ b, hasSp f.L a = b := ⟨_, rfl⟩
      have Ehv := Lib.hid ehv
      clear hba hkf hO3 hsp hfa hfm hK hst e3 ez hng ehv hzg
      go_upto_region 5 with (fail)
      rw [E3.out]
      try rw [Ez.out]
      clear hidx
      go_wp2_with fail
      refine (has_any f.a f.s f.m f.o f.z f.L a hv w3 HSp.out Hf.out.1 Ehv.out).mono ?_
      rintro e w5 ⟨rfl, hb5⟩
      have HO5 := Lib.hid (HO3.out.on hb5)
      have HBt5 := Lib.hid (HBt3.out.trans (But.of (S := fun k => k = g) hb5))
      have HCr := Lib.hid (HCr.out.but (But.of hb5))
      have HKf := Lib.hid (blk_on HKf.out hb5)
      clear hb5 d0 d1 d2 d3
      cases hv with
      | true =>
        obtain ⟨v, ev⟩ : ∃ v, wordL l2 Kw = v := ⟨_, rfl⟩
        have Ev := Lib.hid ev
        have hvb : U16 v := by rw [← ev]; exact wordL_bd HBy.out Kw
        obtain ⟨fx, efx⟩ : ∃ y, folF f.o f.z v was x = y := ⟨_, rfl⟩
        have Efx := Lib.hid efx
        have Hfx := Lib.hid (show U16 fx by rw [← efx]; exact folF_bd _ _ hvb Hwb.out Hx.out)
        have HU := Lib.hid (show U16 v ∧ U16 was ∧ U16 x from ⟨hvb, Hwb.out, Hx.out⟩)
        obtain ⟨l3, el3⟩ : ∃ y, layL l2 Kw fx = y := ⟨_, rfl⟩
        have HL3 := Lib.hid el3
        have Hnx := Lib.hid (show Sq (j + 1) = l3 by rw [Hst.out]; unfold stF; rw [if_pos Ehv.out, ev, efx, el3])
        clear ev efx el3 hvb
        have HSf0 := Lib.hid (show ∀ w', But (fun k => k = g) w5 w' → w'.cell? ⟨pb, 0, none⟩ = some (.slice (some ⟨g, 0, none⟩) n c) ∧ w'.cell? ⟨z0, 0, none⟩ = some (.int .i64 f.a) ∧ w'.cell? ⟨z0, 1, none⟩ = some (.slice (some ⟨f.s, 0, none⟩) f.m f.m) ∧ w'.cell? ⟨z0, 2, none⟩ = some (.bool f.o) ∧ w'.cell? ⟨z0, 3, none⟩ = some (.bool f.z) from
          fun w' hb => by
            have hk := hb.blk HKf.out Hzg.out
            exact ⟨blk_cell (hb.blk HCr.out.hb HCr.out.nb) 0, blk_cell hk 0, blk_cell hk 1, blk_cell hk 2, blk_cell hk 3⟩)
        go_upto_region 6 with (fail)
        refine wp_region_held_drew (S := fun w' => w'.cell? ⟨pb, 0, none⟩ = some (.slice (some ⟨g, 0, none⟩) n c) ∧ w'.cell? ⟨z0, 0, none⟩ = some (.int .i64 f.a) ∧ w'.cell? ⟨z0, 1, none⟩ = some (.slice (some ⟨f.s, 0, none⟩) f.m f.m) ∧ w'.cell? ⟨z0, 2, none⟩ = some (.bool f.o) ∧ w'.cell? ⟨z0, 3, none⟩ = some (.bool f.z)) (by kernel_rfl) (HSf0.out _ (But.refl _ _).drew) (fun hHeld => ?_)
        obtain ⟨wd, ewd⟩ : ∃ wd, w5.drew = wd := ⟨_, rfl⟩
        have HBtd := Lib.hid (show But (fun k => k = g) w5 wd by rw [← ewd]; exact (But.refl _ _).drew)
        have HO := Lib.hid (show OwnB wd B (some ⟨g, 0, none⟩) n c l2 by rw [← ewd]; exact HO5.out)
        have HSf := Lib.hid (fun w' (hb : But (fun k => k = g) wd w') => HSf0.out w' (HBtd.out.trans hb))
        rw [ewd] at hHeld ⊢
        clear ewd HSf0
        refine tk 0 ?_ rfl ?_ ?_
        rotate_left
        · intro w' hSw; (go_simp <;> (with_reducible rfl))
        try simp only [Act.put, putL]
        refine tk 1 ?_ rfl ?_ ?_
        rotate_left
        · intro w' hSw; (go_simp <;> (with_reducible rfl))
        try simp only [Act.put, putL]
        refine tk 2 ?_ rfl ?_ ?_
        rotate_left
        · intro w' hSw; (go_simp <;> (with_reducible rfl))
        try simp only [Act.put, putL]
        refine tk 3 ?_ rfl ?_ ?_
        rotate_left
        · intro w' hSw; (go_simp <;> (with_reducible rfl))
        try simp only [Act.put, putL]
        refine tk 4 ?_ rfl ?_ ?_
        rotate_left
        · intro w' hSw; (go_simp <;> (with_reducible rfl))
        try simp only [Act.put, putL]
        refine tk 5 ?_ rfl ?_ ?_
        rotate_left
        · intro w' hSw; (go_simp <;> (with_reducible rfl))
        try simp only [Act.put, putL]
        refine tk 6 ?_ rfl ?_ ?_
        rotate_left
        · intro w' hSw; (go_simp <;> (with_reducible rfl))
        try simp only [Act.put, putL]
        refine tk 8 ?_ rfl ?_ ?_
        rotate_left
        · intro w' hSw; (go_simp <;> (with_reducible rfl))
        try simp only [Act.put, putL]
        refine tk 9 ?_ rfl ?_ ?_
        rotate_left
        · intro w' hSw; (go_simp <;> (with_reducible rfl))
        try simp only [Act.put, putL]
        refine tkC 7 rfl (fun K hK => ?_)
        go_simp
        (refine (nword_any (some ⟨g, 0, none⟩) n c l2 f.a v Kw _ hnN Hfa.out Hf.out.2 (HO.out.rd HBy.out) Ev.out).mono ?_; rintro e w7 ⟨rfl, hb7⟩; have HO7 := Lib.hid (HO.out.on hb7); have BT7 := Lib.hid (But.of (S := fun k => k = g) hb7); clear hb7)
        refine hK.out _ _ ?_ (fun hHeld => ?_)
        · exact HSf.out _ BT7.out
        clear hK K
        try simp only [Act.put, putL]
        refine tkC 10 rfl (fun K hK => ?_)
        go_simp
        (refine (follow_any f.a f.s f.m f.o f.z v was x fx _ HU.out Efx.out).mono ?_; rintro e w8 ⟨rfl, hb8⟩; have HO8 := Lib.hid (HO7.out.on hb8); have BT8 := Lib.hid (BT7.out.trans (But.of hb8)); clear hb8)
        refine hK.out _ _ ?_ (fun hHeld => ?_)
        · exact HSf.out _ BT8.out
        clear hK K
        try simp only [Act.put, putL]
        refine tkC 11 rfl (fun K hK => ?_)
        go_simp
        (refine (nlay_any B g n c l2 f.a fx Kw _ hnN Hfa.out Hf.out.2 Hfx.out HO8.out l3 HL3.out).mono ?_; rintro e w9 ⟨rfl, ho9, hb9⟩; have HO9 := Lib.hid ho9; have BT9 := Lib.hid (BT8.out.trans hb9); clear ho9 hb9)
        refine hK.out _ _ ?_ (fun hHeld => ?_)
        · exact HSf.out _ BT9.out
        clear hK K
        try simp only [Act.put, putL]
        refine wpAnyH_done (by kernel_rfl) ?_ _
        clear hHeld
        have HBt9 := Lib.hid (HBt5.out.trans (HBtd.out.trans BT9.out))
        go_wp2_with fail
        go_roundg (gk - 1)
        case measure => have := hgk.out; have := Hj.out; omega
        case rel => exact ⟨j + 1, l3, by have := hgk.out; have := Hj.out; show gk - 1 + (j + 1) = _; omega, by have := Hj.out; omega, by go_num, Hnx, HO9, HBt9⟩
      | false =>
        have Hnx := Lib.hid (show Sq (j + 1) = l2 by rw [Hst.out]; unfold stF; rw [if_neg (by rw [Ehv.out]; simp)])
        go_wp2_with fail
        go_roundg (gk - 1)
        case measure => have := hgk.out; have := Hj.out; omega
        case rel => exact ⟨j + 1, l2, by have := hgk.out; have := Hj.out; show gk - 1 + (j + 1) = _; omega, by have := Hj.out; omega, by go_num, Hnx, HO5, HBt5⟩
    · obtain rfl : j = 2 := by omega
      have Hend := Lib.hid (show l2 = L by rw [← hl2.out]; exact HSL.out)
      have HBe := Lib.hid (HBt.out.trans hBt.out)
      go_wp2_with fail
      go_end0
      exact ⟨rfl, by rw [← Hend.out]; exact hO.out, HBe.out⟩
end Go.Proofs.YtoegfgbalcholaaGreat

/-
  Package nat's change of a word, told: the closure that changing makes does chW; changeLong, changeTtl.
-/
namespace Go.Proofs.YtoegfgbalcholaaGreat
set_option maxRecDepth 10000
open Go.RowKit
set_option linter.unusedSimpArgs false
set_option linter.unusedVariables false

theorem layL_self {b : List Int} (h : Bytes b) {k : Nat} (hl : 2 * k + 1 < b.length) : layL b k (wordL b k) = b := by
  have h1 := getD_byte h (2 * k)
  have h2 := getD_byte h (2 * k + 1)
  unfold layL wordL
  rw [show (b.getD (2 * k) 0 * 256 + b.getD (2 * k + 1) 0) / 256 = b.getD (2 * k) 0 by omega, show (b.getD (2 * k) 0 * 256 + b.getD (2 * k + 1) 0) % 256 = b.getD (2 * k + 1) 0 by omega]
  rw [show b.getD (2 * k) 0 = b[2 * k] by simp [List.getD, show 2 * k < b.length by omega], show b.getD (2 * k + 1) 0 = b[2 * k + 1] by simp [List.getD, hl]]
  rw [List.set_getElem_self, List.set_getElem_self]
def fd0 (H2 : Int) (s : Nat) : Fd := ⟨10, s, 1, false, false, [(0, H2)]⟩
def fd1 (pr H2 N : Int) (s : Nat) : Fd := if pr = 6 then ⟨H2 + 16, s, 2, false, false, [(H2, N), (12, 20)]⟩ else if pr = 17 then ⟨H2 + 6, s, 2, true, true, [(H2, N), (12, 20)]⟩ else ⟨H2 + 2, s, 1, false, true, [(H2, N)]⟩
/-- The word of the payload's field. -/
def fldP (pr : Int) (H : Nat) : Nat := if pr = 6 then H + 8 else if pr = 17 then H + 3 else H + 1
theorem stF_head {H k : Nat} {b : List Int} {x : Int} (s : Nat) (h0 : 0 ≤ (k : Int)) : stF 5 (fd0 (2 * (H : Int)) s) (2 * (k : Int)) (wordL b k) x (layL b k x) = headW H b k x := by
  have e : hasSp (fd0 (2 * (H : Int)) s).L (2 * (k : Int)) = decide (k < H) := by
    unfold hasSp fd0 inSp
    simp only [List.any_cons, List.any_nil, Bool.or_false]
    rw [show decide ((0 : Int) ≤ 2 * (k : Int)) = true by simp; omega, Bool.true_and]
    by_cases hk : k < H
    · rw [decide_eq_true hk]; simp; omega
    · rw [decide_eq_false hk]; simp; omega
  unfold stF headW
  rw [e]
  by_cases hk : k < H
  · rw [if_pos (decide_eq_true hk), if_pos hk]
    unfold folF fd0
    simp
  · rw [if_neg (by rw [decide_eq_false hk]; simp), if_neg hk]
theorem stF_load {pr : Int} {H k : Nat} {b : List Int} {x was : Int} {N : Nat} (s : Nat) (hp : pr = 6 ∨ pr = 17 ∨ pr = 1) (hk : 2 * k + 1 < N) (hb : Bytes b) (hF : 2 * fldP pr H + 1 < b.length) :
    stF (fldP pr H) (fd1 pr (2 * (H : Int)) N s) (2 * (k : Int)) was x b = if overW pr H k ∧ ¬ (pr = 17 ∧ wordL b (fldP pr H) = 0) then layL b (fldP pr H) (fixP pr (wordL b (fldP pr H)) was x) else b := by
  have e1 : decide (2 * (H : Int) ≤ 2 * (k : Int)) = decide (H ≤ k) := by
    by_cases h : H ≤ k
    · rw [decide_eq_true h]; simp; omega
    · rw [decide_eq_false h]; simp; omega
  have e2 : decide (2 * (k : Int) < (N : Int)) = true := by simp; omega
  have e3 : decide ((12 : Int) ≤ 2 * (k : Int)) = decide (6 ≤ k) := by
    by_cases h : 6 ≤ k
    · rw [decide_eq_true h]; simp; omega
    · rw [decide_eq_false h]; simp; omega
  have e4 : decide (2 * (k : Int) < 20) = decide (k ≤ 9) := by
    by_cases h : k ≤ 9
    · rw [decide_eq_true h]; simp; omega
    · rw [decide_eq_false h]; simp; omega
  have eo : hasSp (fd1 pr (2 * (H : Int)) N s).L (2 * (k : Int)) = true ↔ overW pr H k := by
    unfold hasSp fd1 inSp overW
    rcases hp with rfl | rfl | rfl
    · simp [e1, e2, e3, e4]
    · simp [e1, e2, e3, e4]
    · simp [e1, e2]
  unfold stF
  by_cases ho : overW pr H k
  · rw [if_pos (eo.2 ho)]
    rcases hp with rfl | rfl | rfl
    · rw [if_pos ⟨ho, by omega⟩]
      unfold folF fd1 fixP
      simp
    · by_cases hz : wordL b (fldP 17 H) = 0
      · have e0 := layL_self hb hF
        rw [hz] at e0
        rw [show (if overW 17 H k ∧ ¬ ((17 : Int) = 17 ∧ wordL b (fldP 17 H) = 0) then layL b (fldP 17 H) (fixP 17 (wordL b (fldP 17 H)) was x) else b) = b from if_neg (fun h => h.2 ⟨rfl, hz⟩)]
        unfold folF fd1
        rw [hz]
        simpa using e0
      · rw [show (if overW 17 H k ∧ ¬ ((17 : Int) = 17 ∧ wordL b (fldP 17 H) = 0) then layL b (fldP 17 H) (fixP 17 (wordL b (fldP 17 H)) was x) else b) = _ from if_pos ⟨ho, fun h => hz h.2⟩]
        unfold folF fd1 fixP
        simp [hz]
    · rw [if_pos ⟨ho, by omega⟩]
      unfold folF fd1 fixP
      simp
  · rw [if_neg (fun h => ho (eo.1 h)), if_neg (fun h => ho h.1)]
/-- The closure, made: what it may do to a row of the call's own. -/
def Chg (w : World) (g n c : Nat) (pr : Int) (H pb pf : Nat) : Prop := ∃ s0 s1, ChgAt w g n c pb pf (fd0 (2 * (H : Int)) s0) (fd1 pr (2 * (H : Int)) n s1)
theorem Chg.but {w w' : World} {g n c : Nat} {pr : Int} {H pb pf : Nat} (h : Chg w g n c pr H pb pf) (hb : But (fun k => k = g) w w') : Chg w' g n c pr H pb pf := by
  obtain ⟨s0, s1, h⟩ := h
  exact ⟨s0, s1, h.but hb⟩
/-- A packet's row that may be changed. -/
structure RowW (pr : Int) (H n : Nat) (l : List Int) : Prop where
  is_ : pr = 6 ∨ pr = 17 ∨ pr = 1
  lay : LayW H (fldP pr H) l
  len : l.length = n
  max : n ≤ 100000
theorem RowW.step {pr : Int} {H n : Nat} {l : List Int} (h : RowW pr H n l) {k : Nat} {x : Int} (hx : U16 x) (h5 : k ≠ 5) (hF : k ≠ fldP pr H) (hk : 2 * k + 1 < n) : RowW pr H n (chW pr H (fldP pr H) l k x) := by
  have hs := chW_same (pr := pr) h.lay hx h5 hF (by rw [h.len]; exact hk)
  exact ⟨h.is_, hs.lay, hs.len.trans h.len, h.max⟩
theorem chg_told (B g n c pb pf H : Nat) (pr : Int) (l L : List Int) (a x : Int) (k : Nat) (w : World) (h : Chg w g n c pr H pb pf) (hr : RowW pr H n l) (ho : OwnB w B (some ⟨g, 0, none⟩) n c l) (ha : a = 2 * (k : Int)) (hk : 2 * k + 1 < n) (hx : U16 x)
    (hL : chW pr H (fldP pr H) l k x = L) :
    Calls Tryz.prog 63 #[.int .i64 a, .int .u16 x, .pointer (some ⟨pb, 0, none⟩), .pointer (some ⟨pf, 0, none⟩)] w (NLayIs B g n c L w) := by
  obtain ⟨s0, s1, h⟩ := h
  have hw := hr.lay
  have hb := hw.byte
  have h10 := hw.h10
  have hF := hw.hF
  have hln := hw.len
  have hn := hr.len
  have hm := hr.max
  obtain ⟨hhl, hhn⟩ := headW_lay hw k hx
  refine chg1_any B g n c pb pf (fldP pr H) _ _ l L a x k w h ho hb hm ha hk hx rfl ?_ (by omega) (by omega) (by simp [fd0]) ?_ ?_
  · unfold fd1 fldP
    rcases hr.is_ with rfl | rfl | rfl
    · simp; omega
    · simp; omega
    · simp; omega
  · unfold fd1
    rcases hr.is_ with rfl | rfl | rfl <;> simp
  · subst ha
    rw [stF_head s0 (by omega), stF_load s1 hr.is_ hk hhl.byte (by rw [hhn]; exact hln), ← hL]
    rfl
/-- A function value that changes a row's words. -/
def chgV (pb pf : Nat) : Value := .func (.func 63) #[] #[.pointer (some ⟨pb, 0, none⟩), .pointer (some ⟨pf, 0, none⟩)]
def MadeChg (g n c : Nat) (pr : Int) (H : Nat) (w : World) (e : Ending) (w' : World) : Prop := ∃ pb pf, e = .returned (.func (.func 63) #[] #[.pointer (some ⟨pb, 0, none⟩), .pointer (some ⟨pf, 0, none⟩)]) ∧ Chg w' g n c pr H pb pf ∧ Below w.heap.size w w'
theorem fieldsof_any (h : Hd) (A : Option Addr) (nH cH n : Nat) (H : Nat) (w : World) (hH : 20 + (nH : Int) = 2 * (H : Int)) (hn : nH ≤ 1000) (hN : n ≤ 100000) (hp : h.pr = 6 ∨ h.pr = 17 ∨ h.pr = 1) (x : Fd) :
    Calls Tryz.prog 62 #[.agg #[.int .u8 h.to, .int .u16 h.id, .bool h.df, .int .u8 h.tt, .int .u8 h.pr, .int .u32 h.sr, .int .u32 h.ds, .slice A nH cH], .int .i64 (n : Int)] w fun e w' => ∃ (s0 : Nat) (f1 : Fd), e = .returned (.agg #[.int .i64 10, .slice (some ⟨s0, 0, none⟩) 1 1, .bool false, .bool false, .int .i64 f1.a, .slice (some ⟨f1.s, 0, none⟩) f1.m f1.m, .bool f1.o, .bool f1.z]) ∧
      f1 = fd1 h.pr (2 * (H : Int)) n f1.s ∧ SpRd w' s0 1 [(0, 2 * (H : Int))] ∧ SpRd w' f1.s f1.m f1.L ∧ w.heap.size ≤ s0 ∧ w.heap.size ≤ f1.s ∧ Below w.heap.size w w' := by
  rcases hp with e | e | e
  · refine (fieldsof_6 h A nH cH n w hn hN e).mono ?_
    rintro e2 w' ⟨s0, s1, rfl, h1, h2, h3, h4, h5⟩
    rw [hH] at h1 h2 ⊢
    exact ⟨s0, fd1 h.pr (2 * (H : Int)) n s1, by simp [fd1, e], by simp [fd1, e], h1, by simpa [fd1, e] using h2, h3, by simpa [fd1, e] using h4, h5⟩
  · refine (fieldsof_17 h A nH cH n w hn hN e).mono ?_
    rintro e2 w' ⟨s0, s1, rfl, h1, h2, h3, h4, h5⟩
    rw [hH] at h1 h2 ⊢
    exact ⟨s0, fd1 h.pr (2 * (H : Int)) n s1, by simp [fd1, e], by simp [fd1, e], h1, by simpa [fd1, e] using h2, h3, by simpa [fd1, e] using h4, h5⟩
  · refine (fieldsof_1 h A nH cH n w hn hN e).mono ?_
    rintro e2 w' ⟨s0, s1, rfl, h1, h2, h3, h4, h5⟩
    rw [hH] at h1 h2 ⊢
    exact ⟨s0, fd1 h.pr (2 * (H : Int)) n s1, by simp [fd1, e], by simp [fd1, e], h1, by simpa [fd1, e] using h2, h3, by simpa [fd1, e] using h4, h5⟩
set_option maxHeartbeats 1000000 in
theorem changing_any (h : Hd) (A : Option Addr) (nH cH n c g H : Nat) (w : World) (hg : g < w.heap.size) (hH : 20 + (nH : Int) = 2 * (H : Int)) (hn : nH ≤ 1000) (hN : n ≤ 100000) (hp : h.pr = 6 ∨ h.pr = 17 ∨ h.pr = 1) :
    Calls Tryz.prog 24 #[.slice (some ⟨g, 0, none⟩) n c, .agg #[.int .u8 h.to, .int .u16 h.id, .bool h.df, .int .u8 h.tt, .int .u8 h.pr, .int .u32 h.sr, .int .u32 h.ds, .slice A nH cH]] w (MadeChg g n c h.pr H w) := by
  have hmf : ∀ (fn : Fn) (first cap : Array Value) (w : World), (Instr.makeFunc fn first cap).run Tryz.prog w = .ok (.func fn first cap) w := fun _ _ _ _ => rfl
  obtain ⟨z0, hz⟩ : ∃ z, w.heap.size = z := ⟨_, rfl⟩
  obtain ⟨w0, ew⟩ : ∃ w0, (w.alloc (.cells #[.slice (some ⟨g, 0, none⟩) n c] 24)).alloc (.cells #[.int .u8 h.to, .int .u16 h.id, .bool h.df, .int .u8 h.tt, .int .u8 h.pr, .int .u32 h.sr, .int .u32 h.ds, .slice A nH cH] 26) = w0 := ⟨_, rfl⟩
  have hb0 : Below w.heap.size w w0 := by rw [← ew]; exact ((Below.refl _ _).alloc (Nat.le_refl _) _).alloc (by simp) _
  have hk0 : w0.heap[z0]? = some (.cells #[.slice (some ⟨g, 0, none⟩) n c] 24 (0, 0)) := by rw [← ew, Below.heap_alloc _ _ _ (by simp [hz]), ← hz]; exact heap_alloc_new w _
  have hk1 : w0.heap[z0 + 1]? = some (.cells #[.int .u8 h.to, .int .u16 h.id, .bool h.df, .int .u8 h.tt, .int .u8 h.pr, .int .u32 h.sr, .int .u32 h.ds, .slice A nH cH] 26 (0, 0)) := by
    rw [← ew, ← hz]; simpa using heap_alloc_new (w.alloc (.cells #[.slice (some ⟨g, 0, none⟩) n c] 24)) (.cells #[.int .u8 h.to, .int .u16 h.id, .bool h.df, .int .u8 h.tt, .int .u8 h.pr, .int .u32 h.sr, .int .u32 h.ds, .slice A nH cH] 26)
  obtain ⟨k0, k1, k2, k3, k4, k5, k6, k7⟩ := cells8n hk1
  have kb : w0.cell? ⟨z0, 0, none⟩ = some (.slice (some ⟨g, 0, none⟩) n c) := blk_cell hk0 0
  have HK0 := Lib.hid hk0
  have Hb0 := Lib.hid hb0
  have Ew := Lib.hid ew
  have Hz := Lib.hid hz
  have Hg := Lib.hid hg
  have HH := Lib.hid hH
  have Hn := Lib.hid (And.intro hn hN)
  have Hp := Lib.hid hp
  clear hz ew hb0 hk0 hk1 hg hH hn hN hp
  go_enter Tryz.func24, Tryz.ntmps24
  go_upto_region 1 with (fail)
  rw [Ew.out]
  try rw [Hz.out]
  clear Ew
  go_wp2_with fail
  refine (fieldsof_any h A nH cH n H _ HH.out Hn.out.1 Hn.out.2 Hp.out ⟨0, 0, 0, false, false, []⟩).mono ?_
  rintro e w1 ⟨s0, f1, rfl, hf1, hs0, hs1, hl0, hl1, hb1⟩
  have Hf1 := Lib.hid hf1
  have HS := Lib.hid (show SpRd w1 s0 1 [(0, 2 * (H : Int))] ∧ SpRd w1 f1.s f1.m f1.L from ⟨hs0, hs1⟩)
  have HL := Lib.hid (show g < s0 ∧ g < f1.s by have := Hb0.out.size; have := Hg.out; exact ⟨by omega, by omega⟩)
  have HB1 := Lib.hid (below_trans Hb0.out hb1)
  have HK0 := Lib.hid (blk_on HK0.out hb1)
  clear hf1 hs0 hs1 hl0 hl1 hb1 k0 k1 k2 k3 k4 k5 k6 k7 kb
  obtain ⟨y, ey⟩ : ∃ y, w1.heap.size = y := ⟨_, rfl⟩
  obtain ⟨w2, e2⟩ : ∃ v, w1.alloc (.cells #[.int .i64 10, .slice (some ⟨s0, 0, none⟩) 1 1, .bool false, .bool false, .int .i64 f1.a, .slice (some ⟨f1.s, 0, none⟩) f1.m f1.m, .bool f1.o, .bool f1.z] 122) = v := ⟨_, rfl⟩
  have hba : Below w1.heap.size w1 w2 := by rw [← e2]; exact (Below.refl _ _).alloc (Nat.le_refl _) _
  have HF := Lib.hid (show w2.heap[y]? = some (.cells #[.int .i64 10, .slice (some ⟨s0, 0, none⟩) 1 1, .bool false, .bool false, .int .i64 f1.a, .slice (some ⟨f1.s, 0, none⟩) f1.m f1.m, .bool f1.o, .bool f1.z] 122 (0, 0)) by rw [← e2, ← ey]; exact heap_alloc_new w1 _)
  have HK0 := Lib.hid (blk_on HK0.out hba)
  have HS := Lib.hid (And.intro (HS.out.1.below hba) (HS.out.2.below hba))
  have HB2 := Lib.hid (below_trans HB1.out hba)
  have Hyg := Lib.hid (show g < y by have := HB1.out.size; have := Hg.out; omega)
  have E2 := Lib.hid e2
  have Ey := Lib.hid ey
  clear hba e2 ey
  go_upto_region 2 with (fail)
  rw [E2.out]
  try rw [Ey.out]
  go_wp2_with fail
  go_ret
  refine ⟨z0, y, rfl, ⟨s0, f1.s, ?_⟩, HB2.out⟩
  rw [← Hf1.out]
  exact ⟨HK0.out, HF.out, HS.out.1, HS.out.2, by have := Hz.out; have := Hg.out; omega, by have := Hyg.out; omega, by have := HL.out.1; show s0 ≠ g; omega, by have := HL.out.2; omega⟩
set_option maxHeartbeats 1000000 in
theorem changelong_any (B g n c pb pf H : Nat) (pr : Int) (l L1 L2 : List Int) (a v x y : Int) (k : Nat) (w : World) (h : Chg w g n c pr H pb pf) (hr : RowW pr H n l) (ho : OwnB w B (some ⟨g, 0, none⟩) n c l) (ha : a = 2 * (k : Int)) (ha2 : IntKind.i64.wrap (a + 2) = a + 2) (hk : 2 * k + 3 < n) (hv : 0 ≤ v ∧ v < 4294967296)
    (hk5 : k ≠ 5) (hkF : k ≠ fldP pr H) (hx : v / 65536 = x) (hy : v % 65536 = y) (hL1 : chW pr H (fldP pr H) l k x = L1) (hL2 : chW pr H (fldP pr H) L1 (k + 1) y = L2) :
    Calls Tryz.prog 25 #[chgV pb pf, .int .i64 a, .int .u32 v] w (NLayIs B g n c L2 w) := by
  have hxb : U16 x := by rw [← hx]; exact ⟨by omega, by omega⟩
  have hyb : U16 y := by rw [← hy]; exact ⟨by omega, by omega⟩
  have hr1 : RowW pr H n L1 := by rw [← hL1]; exact hr.step hxb hk5 hkF (by omega)
  have hwx : IntKind.u16.wrap (v / 65536) = x := by rw [hx, wrap_u16]; obtain ⟨_, _⟩ := hxb; omega
  have hwy : IntKind.u16.wrap v = y := by rw [wrap_u16]; exact hy
  have hwx2 : IntKind.u16.wrap x = x := by rw [wrap_u16]; obtain ⟨_, _⟩ := hxb; omega
  obtain ⟨hv0, hv1⟩ := hv
  have Ha := Lib.hid ha
  have Hk := Lib.hid hk
  have Hr := Lib.hid hr
  have Hr1 := Lib.hid hr1
  have Ho := Lib.hid ho
  have HC := Lib.hid h
  have Hxb := Lib.hid hxb
  have Hyb := Lib.hid hyb
  have HL1 := Lib.hid hL1
  have HL2 := Lib.hid hL2
  clear ha hk hr hr1 ho h hxb hyb hL1 hL2 hk5 hkF hy
  unfold chgV
  go_enter Tryz.func25, Tryz.ntmps25
  go_wp2_with fail
  refine (chg_told B g n c pb pf H pr l L1 a x k _ HC.out Hr.out Ho.out Ha.out (by have := Hk.out; omega) Hxb.out HL1.out).mono ?_
  rintro e w1 ⟨rfl, ho1, hb1⟩
  have HC := Lib.hid (HC.out.but hb1)
  have Ho1 := Lib.hid ho1
  have Hb1 := Lib.hid hb1
  clear ho1 hb1
  go_wp2_with fail
  refine (chg_told B g n c pb pf H pr L1 L2 (a + 2) y (k + 1) _ HC.out Hr1.out Ho1.out (by have := Ha.out; omega) (by have := Hk.out; omega) Hyb.out HL2.out).mono ?_
  rintro e w2 ⟨rfl, ho2, hb2⟩
  have Ho2 := Lib.hid ho2
  have Hb2 := Lib.hid (Hb1.out.trans hb2)
  clear ho2 hb2
  go_wp2_with fail
  go_end0
  exact ⟨rfl, Ho2.out, Hb2.out⟩
end Go.Proofs.YtoegfgbalcholaaGreat
