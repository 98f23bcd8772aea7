/-
  The program's Inward (package forward), over a table in memory.
-/
import Derived.Test.YtknmpfdmjfbpdaaFwFind
import Derived.Deep.RegionHeld3
namespace Go.Proofs.Ytknmpfdmjfbpdaa
set_option maxRecDepth 10000
open Go.RowKit
set_option linter.unusedSimpArgs false
set_option linter.unusedVariables false

set_option maxHeartbeats 1000000 in
theorem inward_at (S : Nat → Prop) (g : Nat) (L : FWL) (x y : Tu) (b : Bool) (w : World) (h : FwMem w S g L) (hx : fwInw x L = (y, b)) :
    Calls Try.prog 15 #[.pointer (some ⟨g, 0, none⟩), .agg #[.int .u8 x.pr, .int .u32 x.sr, .int .u32 x.ds, .int .u16 x.sp, .int .u16 x.dp]] w (FwTells (.tuple #[.agg #[.int .u8 y.pr, .int .u32 y.sr, .int .u32 y.ds, .int .u16 y.sp, .int .u16 y.dp], .bool b]) w) := by
  obtain ⟨w0, ew⟩ : ∃ w0, (w.alloc (.cells #[.int .u8 x.pr, .int .u32 x.sr, .int .u32 x.ds, .int .u16 x.sp, .int .u16 x.dp] 31)).alloc (.cells #[.int .u8 0, .int .u32 0, .int .u32 0, .int .u16 0, .int .u16 0] 31) = w0 := ⟨_, rfl⟩
  obtain ⟨z, hz⟩ : ∃ z, w.heap.size = z := ⟨_, rfl⟩
  have hb0 : Below w.heap.size w w0 := by rw [← ew]; exact ((Below.refl _ _).alloc (Nat.le_refl _) _).alloc (by simp) _
  have hk0 : w0.heap[z]? = some (.cells #[.int .u8 x.pr, .int .u32 x.sr, .int .u32 x.ds, .int .u16 x.sp, .int .u16 x.dp] 31 (0, 0)) := by rw [← ew, Below.heap_alloc _ _ _ (by simp [hz]), ← hz]; exact heap_alloc_new w _
  have hk1 : w0.heap[z + 1]? = some (.cells #[.int .u8 0, .int .u32 0, .int .u32 0, .int .u16 0, .int .u16 0] 31 (0, 0)) := by
    rw [← ew, ← hz]; simpa using heap_alloc_new (w.alloc (.cells #[.int .u8 x.pr, .int .u32 x.sr, .int .u32 x.ds, .int .u16 x.sp, .int .u16 x.dp] 31)) (.cells #[.int .u8 0, .int .u32 0, .int .u32 0, .int .u16 0, .int .u16 0] 31)
  obtain ⟨f, ef⟩ : ∃ f, fwOf (fwFind x.pr x.dp L) = f := ⟨_, rfl⟩
  obtain ⟨is_, ei⟩ : ∃ i, fwIs (fwFind x.pr x.dp L) = i := ⟨_, rfl⟩
  have Hf := Lib.hid (find_at S g L x.pr x.dp w0 (h.below hb0) f is_ ef ei)
  have hy : (is_ = false ∧ y = x ∧ b = false) ∨ (is_ = true ∧ y = { x with ds := f.ad, dp := f.tp } ∧ b = true) := by
    unfold fwInw at hx
    cases he : fwFind x.pr x.dp L with
    | none =>
      rw [he] at hx ei
      simp only [Prod.mk.injEq] at hx
      exact .inl ⟨ei.symm, hx.1.symm, hx.2.symm⟩
    | some g =>
      rw [he] at hx ei ef
      simp only [Prod.mk.injEq] at hx
      have eg : g = f := ef
      subst eg
      exact .inr ⟨ei.symm, hx.1.symm, hx.2.symm⟩
  have Hy := Lib.hid hy
  have Ew := Lib.hid ew
  have Hz := Lib.hid hz
  have Hb0 := Lib.hid hb0
  have HK0 := Lib.hid hk0
  have HK1 := Lib.hid hk1
  obtain ⟨a0, a1, a2, a3, a4⟩ := cells5 hk0
  clear h hb0 hk0 hk1 hx ef ei hy ew hz
  go_enter Try.func15, Try.ntmps15
  go_upto_region 1 with (fail)
  rw [Ew.out]
  try rw [Hz.out]
  go_wp2_with fail
  refine Hf.out.mono ?_
  rintro e w1 ⟨rfl, hb⟩
  obtain ⟨z2, ez2⟩ : ∃ z, w1.heap.size = z := ⟨_, rfl⟩
  obtain ⟨w2, ew2⟩ : ∃ v, w1.alloc (.cells #[.int .u8 f.pr, .int .u16 f.po, .int .u32 f.ad, .int .u16 f.tp] 40) = v := ⟨_, rfl⟩
  have hb2 : Below w1.heap.size w1 w2 := by rw [← ew2]; exact (Below.refl _ _).alloc (Nat.le_refl _) _
  have hbb := below_trans hb hb2
  have hk0 := blk_on HK0.out hbb
  have hk1 := blk_on HK1.out hbb
  have hkf : w2.heap[z2]? = some (.cells #[.int .u8 f.pr, .int .u16 f.po, .int .u32 f.ad, .int .u16 f.tp] 40 (0, 0)) := by rw [← ew2, ← ez2]; exact heap_alloc_new w1 _
  have HB2 := Lib.hid (below_trans Hb0.out hbb)
  have HZ := Lib.hid (show w.heap.size = z from Hz.out)
  have HK2 := Lib.hid hk0
  have HK3 := Lib.hid hk1
  have g2 : w2.cell? ⟨z2, 2, none⟩ = some (.int .u32 f.ad) := blk_cell hkf 2
  have g3 : w2.cell? ⟨z2, 3, none⟩ = some (.int .u16 f.tp) := blk_cell hkf 3
  have fz := fun i => blk_free hk0 i
  have fz1 := fun i => blk_free hk1 i
  have HKf := Lib.hid hkf
  have Hne := Lib.hid (show z2 ≠ z by have := lt_of_block HK0.out; have := hb.size; omega)
  obtain ⟨b0, b1, b2, b3, b4⟩ := cells5 hk0
  obtain ⟨e0, e1, e2, e3, e4⟩ := cells5 hk1
  clear hb hb2 hbb hk0 hk1 hkf a0 a1 a2 a3 a4
  go_upto_region 2 with (fail)
  try rw [ew2]
  try rw [ez2]
  clear ew2 ez2
  rcases Hy.out with ⟨rfl, rfl, rfl⟩ | ⟨rfl, rfl, rfl⟩
  · go_wp2_with fail
    exact bodyPost_ret (v := .tuple #[.agg #[.int .u8 y.pr, .int .u32 y.sr, .int .u32 y.ds, .int .u16 y.sp, .int .u16 y.dp], .bool false]) (results_row_tmp rfl _ _ (z + 1) _ _ _ _ _ rfl rfl (set5_blk HK3.out _ _ _ _ _) Try.underlying31 rfl (by kernel_rfl)) rfl ⟨rfl, set5_below HB2.out (by rw [HZ.out]; omega) _ _ _ _ _⟩
  · go_upto_region 3 with (fail)
    clear b0 b1 b2 b3 b4 e0 e1 e2 e3 e4 fz fz1
    have HBd := Lib.hid (show w2.drew.cell? ⟨z2, 2, none⟩ = some (.int .u32 f.ad) ∧ w2.drew.cell? ⟨z2, 3, none⟩ = some (.int .u16 f.tp) from ⟨g2, g3⟩)
    clear g2 g3
    refine wp_region_held_drew (S := fun w' => w'.cell? ⟨z2, 2, none⟩ = some (.int .u32 f.ad) ∧ w'.cell? ⟨z2, 3, none⟩ = some (.int .u16 f.tp)) (by kernel_rfl) HBd.out (fun hHeld => ?_)
    obtain ⟨wd, ewd⟩ : ∃ wd, w2.drew = wd := ⟨_, rfl⟩
    have hk : wd.heap[z]? = some (.cells #[.int .u8 x.pr, .int .u32 x.sr, .int .u32 x.ds, .int .u16 x.sp, .int .u16 x.dp] 31 (0, 0)) := by rw [← ewd]; exact HK2.out
    have hk3 : wd.heap[z + 1]? = some (.cells #[.int .u8 0, .int .u32 0, .int .u32 0, .int .u16 0, .int .u16 0] 31 (0, 0)) := by rw [← ewd]; exact HK3.out
    have hbd : Below w.heap.size w wd := by rw [← ewd]; exact HB2.out.drew
    rw [ewd] at HBd hHeld ⊢
    clear ewd
    have q2 : wd.cell? ⟨z, 2, none⟩ = some (.int .u32 x.ds) := blk_cell hk 2
    have fq := fun i => blk_free hk i
    obtain ⟨v1, ev1⟩ : ∃ v, wd.setCell ⟨z, 2, none⟩ (.int .u32 f.ad) = v := ⟨_, rfl⟩
    have k1 : v1.heap[z]? = some (.cells #[.int .u8 x.pr, .int .u32 x.sr, .int .u32 f.ad, .int .u16 x.sp, .int .u16 x.dp] 31 (0, 0)) := by rw [← ev1]; have := heap_setCell_at hk 2 (.int .u32 f.ad); simpa using this
    have k3 : v1.heap[z + 1]? = some (.cells #[.int .u8 0, .int .u32 0, .int .u32 0, .int .u16 0, .int .u16 0] 31 (0, 0)) := by rw [← ev1]; exact keep_blk hk3 (by omega) _
    have HS1 := Lib.hid (show v1.cell? ⟨z2, 2, none⟩ = some (.int .u32 f.ad) ∧ v1.cell? ⟨z2, 3, none⟩ = some (.int .u16 f.tp) by rw [← ev1]; exact ⟨keep_cell HBd.out.1 (fun e => Hne.out e.symm) _, keep_cell HBd.out.2 (fun e => Hne.out e.symm) _⟩)
    have fy := fun i => blk_free k1 i
    have q4 : v1.cell? ⟨z, 4, none⟩ = some (.int .u16 x.dp) := blk_cell k1 4
    obtain ⟨v2, ev2⟩ : ∃ v, v1.setCell ⟨z, 4, none⟩ (.int .u16 f.tp) = v := ⟨_, rfl⟩
    have m1 : v2.heap[z]? = some (.cells #[.int .u8 x.pr, .int .u32 x.sr, .int .u32 f.ad, .int .u16 x.sp, .int .u16 f.tp] 31 (0, 0)) := by rw [← ev2]; have := heap_setCell_at k1 4 (.int .u16 f.tp); simpa using this
    have m3 : v2.heap[z + 1]? = some (.cells #[.int .u8 0, .int .u32 0, .int .u32 0, .int .u16 0, .int .u16 0] 31 (0, 0)) := by rw [← ev2]; exact keep_blk k3 (by omega) _
    have HS2 := Lib.hid (show v2.cell? ⟨z2, 2, none⟩ = some (.int .u32 f.ad) ∧ v2.cell? ⟨z2, 3, none⟩ = some (.int .u16 f.tp) by rw [← ev2]; exact ⟨keep_cell HS1.out.1 (fun e => Hne.out e.symm) _, keep_cell HS1.out.2 (fun e => Hne.out e.symm) _⟩)
    have HB4 := Lib.hid (show Below w.heap.size w v2 by rw [← ev2, ← ev1]; exact set_below (set_below hbd (by rw [HZ.out]; exact Nat.le_refl _) _) (by rw [HZ.out]; exact Nat.le_refl _) _)
    have HM3 := Lib.hid m3
    have HM1 := Lib.hid m1
    have Ev1 := Lib.hid ev1
    have Ev2 := Lib.hid ev2
    clear hk hk3 hbd k1 k3 m1 m3 ev1 ev2
    refine wpAnyH_take (i := 0) (oi := { dst := some 18, op := Go.Op.fieldAddr 40 (Go.Operand.tmp 6) 2, type := 0, pos := "forward.go:76", after := #[], guard := none }) (v := ?_) rfl (by kernel_rfl) (by kernel_rfl) (by kernel_rfl) (fun _ _ _ h => h) (Or.inl ⟨by rfl, ?_⟩) (by assumption) ?_
    rotate_left 1
    · intro w' hSw; (go_simp <;> (with_reducible rfl))
    (try simp only [Act.put, List.setIfInBounds_toArray, List.set_cons_zero, List.set_cons_succ])
    refine wpAnyH_take (i := 1) (oi := { dst := some 19, op := Go.Op.load 22 (Go.Operand.tmp 18), type := 22, pos := "forward.go:76", after := #[{ on := 0, ground := Go.Ground.data }], guard := none }) (v := ?_) rfl (by kernel_rfl) (by kernel_rfl) (by kernel_rfl) (fun _ _ _ h => h) (Or.inl ⟨by rfl, ?_⟩) (by assumption) ?_
    rotate_left 1
    · intro w' hSw; (go_simp <;> (with_reducible rfl))
    (try simp only [Act.put, List.setIfInBounds_toArray, List.set_cons_zero, List.set_cons_succ])
    refine wpAnyH_take (i := 2) (oi := { dst := some 20, op := Go.Op.fieldAddr 40 (Go.Operand.tmp 6) 3, type := 0, pos := "forward.go:76", after := #[{ on := 5, ground := Go.Ground.gcOnly Go.Departure.lateStores }], guard := none }) (v := ?_) rfl (by kernel_rfl) (by kernel_rfl) (by kernel_rfl) (fun _ _ _ h => h) (Or.inl ⟨by rfl, ?_⟩) (by assumption) ?_
    rotate_left 1
    · intro w' hSw; (go_simp <;> (with_reducible rfl))
    (try simp only [Act.put, List.setIfInBounds_toArray, List.set_cons_zero, List.set_cons_succ])
    refine wpAnyH_take (i := 3) (oi := { dst := some 21, op := Go.Op.load 23 (Go.Operand.tmp 20), type := 23, pos := "forward.go:76", after := #[{ on := 2, ground := Go.Ground.data }, { on := 5, ground := Go.Ground.gcOnly Go.Departure.lateStores }], guard := none }) (v := ?_) rfl (by kernel_rfl) (by kernel_rfl) (by kernel_rfl) (fun _ _ _ h => h) (Or.inl ⟨by rfl, ?_⟩) (by assumption) ?_
    rotate_left 1
    · intro w' hSw; (go_simp <;> (with_reducible rfl))
    (try simp only [Act.put, List.setIfInBounds_toArray, List.set_cons_zero, List.set_cons_succ])
    refine wpAnyH_take (i := 4) (oi := { dst := some 22, op := Go.Op.fieldAddr 31 (Go.Operand.tmp 3) 2, type := 0, pos := "forward.go:76", after := #[{ on := 0, ground := Go.Ground.phase }, { on := 1, ground := Go.Ground.phase }, { on := 2, ground := Go.Ground.textOnly Go.Departure.lateStores }, { on := 3, ground := Go.Ground.textOnly Go.Departure.lateStores }], guard := none }) (v := ?_) rfl (by kernel_rfl) (by kernel_rfl) (by kernel_rfl) (fun _ _ _ h => h) (Or.inl ⟨by rfl, ?_⟩) (by assumption) ?_
    rotate_left 1
    · intro w' hSw; (go_simp <;> (with_reducible rfl))
    (try simp only [Act.put, List.setIfInBounds_toArray, List.set_cons_zero, List.set_cons_succ])
    refine wpAnyH_ready (rs := [5]) (by kernel_rfl) (by simp) ?_
    refine AllReadyH.cons (o := { dst := none, op := Go.Op.store 22 (Go.Operand.tmp 22) (Go.Operand.tmp 19), type := 0, pos := "forward.go:76", after := #[{ on := 4, ground := Go.Ground.data }, { on := 1, ground := Go.Ground.data }, { on := 0, ground := Go.Ground.phase }, { on := 1, ground := Go.Ground.phase }, { on := 2, ground := Go.Ground.textOnly Go.Departure.lateStores }, { on := 3, ground := Go.Ground.textOnly Go.Departure.lateStores }], guard := none }) rfl (fun K hK => ?_) AllReadyH.nil
    go_simp
    (rw [Ev1.out]; clear q2 fq)
    refine hK.out _ _ ?_ (fun hHeld => ?_)
    · exact HS1.out
    clear hK K
    (try simp only [Act.put, List.setIfInBounds_toArray, List.set_cons_zero, List.set_cons_succ])
    refine wpAnyH_take (i := 6) (oi := { dst := some 23, op := Go.Op.fieldAddr 31 (Go.Operand.tmp 3) 4, type := 0, pos := "forward.go:76", after := #[{ on := 0, ground := Go.Ground.phase }, { on := 1, ground := Go.Ground.phase }, { on := 2, ground := Go.Ground.phase }, { on := 3, ground := Go.Ground.phase }, { on := 4, ground := Go.Ground.phase }, { on := 5, ground := Go.Ground.phase }], guard := none }) (v := ?_) rfl (by kernel_rfl) (by kernel_rfl) (by kernel_rfl) (fun _ _ _ h => h) (Or.inl ⟨by rfl, ?_⟩) (by assumption) ?_
    rotate_left 1
    · intro w' hSw; (go_simp <;> (with_reducible rfl))
    (try simp only [Act.put, List.setIfInBounds_toArray, List.set_cons_zero, List.set_cons_succ])
    refine wpAnyH_ready (rs := [7]) (by kernel_rfl) (by simp) ?_
    refine AllReadyH.cons (o := { dst := none, op := Go.Op.store 23 (Go.Operand.tmp 23) (Go.Operand.tmp 21), type := 0, pos := "forward.go:76", after := #[{ on := 6, ground := Go.Ground.data }, { on := 3, ground := Go.Ground.data }, { on := 5, ground := Go.Ground.chain }, { on := 0, ground := Go.Ground.phase }, { on := 1, ground := Go.Ground.phase }, { on := 2, ground := Go.Ground.phase }, { on := 3, ground := Go.Ground.phase }, { on := 4, ground := Go.Ground.phase }, { on := 5, ground := Go.Ground.phase }], guard := none }) rfl (fun K hK => ?_) AllReadyH.nil
    go_simp
    (rw [Ev2.out]; clear q4 fy)
    refine hK.out _ _ ?_ (fun hHeld => ?_)
    · exact HS2.out
    clear hK K
    (try simp only [Act.put, List.setIfInBounds_toArray, List.set_cons_zero, List.set_cons_succ])
    refine wpAnyH_done (by kernel_rfl) ?_ _
    clear hHeld
    have fz1 := fun i => blk_free HM3.out i
    obtain ⟨n0, n1, n2, n3, n4⟩ := cells5 HM1.out
    obtain ⟨r0, r1, r2, r3, r4⟩ := cells5 HM3.out
    go_wp2_with fail
    exact bodyPost_ret (v := .tuple #[.agg #[.int .u8 x.pr, .int .u32 x.sr, .int .u32 f.ad, .int .u16 x.sp, .int .u16 f.tp], .bool true]) (results_row_tmp rfl _ _ (z + 1) _ _ _ _ _ rfl rfl (set5_blk HM3.out _ _ _ _ _) Try.underlying31 rfl (by kernel_rfl)) rfl ⟨rfl, set5_below HB4.out (by rw [HZ.out]; omega) _ _ _ _ _⟩
end Go.Proofs.Ytknmpfdmjfbpdaa
