/-
  TupleOrder holds: Compare is a total order, that of Bytes, of any three tuples.
-/
import Derived.Test.YthhgdmdobfjipaaTupWakes
import Derived.Test.YthhgdmdobfjipaaTupCmp
import Derived.Test.YthhgdmdobfjipaaTupOpen
import Derived.RegionTactic
import Derived.BigRegion
import Derived.Deep.DeepCutAuto
import Derived.Deep.CutRange
namespace Go.Proofs.Ythhgdmdobfjipaa.tupleOrder
set_option maxRecDepth 10000
open Go.ChangeShapes Go.WideShapes Go.ChangeAt Go.RowKit
set_option linter.unusedVariables false
set_option linter.unusedSimpArgs false

set_option maxHeartbeats 4000000 in
theorem walk (W : World) (v : Value) (hv : TuAt W v) (va : Value) (hva : TuAt W va) (vb : Value) (hvb : TuAt W vb) :
    Calls Try.prog 5 #[v, va, vb] W fun e w' => e = .returned (.bool true) ∧ Below W.heap.size W w' := by
  obtain ⟨x, rfl, hx⟩ := hv
  obtain ⟨y, rfl, hy⟩ := hva
  obtain ⟨s, rfl, hs⟩ := hvb
  obtain ⟨z, hz⟩ : ∃ z, W.heap.size = z := ⟨_, rfl⟩
  obtain ⟨wa, ewa⟩ : ∃ w0, W.alloc (.cells #[.int .u8 x.pr, .int .u32 x.sr, .int .u32 x.ds, .int .u16 x.sp, .int .u16 x.dp] 37) = w0 := ⟨_, rfl⟩
  obtain ⟨wb, ewb⟩ : ∃ w0, wa.alloc (.cells #[.int .u8 y.pr, .int .u32 y.sr, .int .u32 y.ds, .int .u16 y.sp, .int .u16 y.dp] 37) = w0 := ⟨_, rfl⟩
  obtain ⟨w0, ew⟩ : ∃ w0, wb.alloc (.cells #[.int .u8 s.pr, .int .u32 s.sr, .int .u32 s.ds, .int .u16 s.sp, .int .u16 s.dp] 37) = w0 := ⟨_, rfl⟩
  have hba : Below W.heap.size W wa := by rw [← ewa]; exact (Below.refl _ _).alloc (Nat.le_refl _) _
  have hbb : Below wa.heap.size wa wb := by rw [← ewb]; exact (Below.refl _ _).alloc (Nat.le_refl _) _
  have hbc : Below wb.heap.size wb w0 := by rw [← ew]; exact (Below.refl _ _).alloc (Nat.le_refl _) _
  have hsa : wa.heap.size = z + 1 := by rw [← ewa, ← hz]; simp
  have hsb : wb.heap.size = z + 2 := by rw [← ewb]; simp [hsa]
  have hka : wa.heap[z]? = some (.cells #[.int .u8 x.pr, .int .u32 x.sr, .int .u32 x.ds, .int .u16 x.sp, .int .u16 x.dp] 37 (0, 0)) := by rw [← ewa, ← hz]; exact heap_alloc_new W _
  have hkb : wb.heap[z + 1]? = some (.cells #[.int .u8 y.pr, .int .u32 y.sr, .int .u32 y.ds, .int .u16 y.sp, .int .u16 y.dp] 37 (0, 0)) := by rw [← ewb, ← hsa]; exact heap_alloc_new wa _
  have hkc : w0.heap[z + 2]? = some (.cells #[.int .u8 s.pr, .int .u32 s.sr, .int .u32 s.ds, .int .u16 s.sp, .int .u16 s.dp] 37 (0, 0)) := by rw [← ew, ← hsb]; exact heap_alloc_new wb _
  have Hb0 := Lib.hid (below_trans hba (below_trans hbb hbc))
  have HS := Lib.hid (show ∀ w', Below w0.heap.size w0 w' → w'.heap[z]? = some (.cells #[.int .u8 x.pr, .int .u32 x.sr, .int .u32 x.ds, .int .u16 x.sp, .int .u16 x.dp] 37 (0, 0)) ∧ w'.heap[z + 1]? = some (.cells #[.int .u8 y.pr, .int .u32 y.sr, .int .u32 y.ds, .int .u16 y.sp, .int .u16 y.dp] 37 (0, 0)) ∧ w'.heap[z + 2]? = some (.cells #[.int .u8 s.pr, .int .u32 s.sr, .int .u32 s.ds, .int .u16 s.sp, .int .u16 s.dp] 37 (0, 0)) from
    fun w' hb => ⟨blk_on (blk_on (blk_on hka hbb) hbc) hb, blk_on (blk_on hkb hbc) hb, blk_on hkc hb⟩)
  have Ew := Lib.hid (show ((W.alloc (.cells #[.int .u8 x.pr, .int .u32 x.sr, .int .u32 x.ds, .int .u16 x.sp, .int .u16 x.dp] 37)).alloc (.cells #[.int .u8 y.pr, .int .u32 y.sr, .int .u32 y.ds, .int .u16 y.sp, .int .u16 y.dp] 37)).alloc (.cells #[.int .u8 s.pr, .int .u32 s.sr, .int .u32 s.ds, .int .u16 s.sp, .int .u16 s.dp] 37) = w0 by rw [ewa, ewb, ew])
  have Hz := Lib.hid hz
  have Hx := Lib.hid hx
  have Hy := Lib.hid hy
  have Htr := Lib.hid (cmpT_trans hx hy hs)
  clear hz ewa ewb ew hba hbb hbc hsa hsb hka hkb hkc hx hy hs
  obtain ⟨ab, eab⟩ : ∃ c, cmpT x y = c := ⟨_, rfl⟩
  obtain ⟨bc, ebc⟩ : ∃ c, cmpT y s = c := ⟨_, rfl⟩
  obtain ⟨ac, eac⟩ : ∃ c, cmpT x s = c := ⟨_, rfl⟩
  have Hab := Lib.hid eab
  have Hbc := Lib.hid ebc
  have Hac := Lib.hid eac
  clear eab ebc eac
  go_enter Try.func5, Try.ntmps5
  go_upto_region 1 with (fail)
  rw [Ew.out]
  try rw [Hz.out]
  have HBd := Lib.hid (Below.drew (Below.refl w0.heap.size w0))
  refine wp_region_held_drew (S := fun w' => w'.heap[z]? = some (.cells #[.int .u8 x.pr, .int .u32 x.sr, .int .u32 x.ds, .int .u16 x.sp, .int .u16 x.dp] 37 (0, 0)) ∧ w'.heap[z + 1]? = some (.cells #[.int .u8 y.pr, .int .u32 y.sr, .int .u32 y.ds, .int .u16 y.sp, .int .u16 y.dp] 37 (0, 0)) ∧ w'.heap[z + 2]? = some (.cells #[.int .u8 s.pr, .int .u32 s.sr, .int .u32 s.ds, .int .u16 s.sp, .int .u16 s.dp] 37 (0, 0))) (by kernel_rfl) (HS.out _ HBd.out) (fun hHeld => ?_)
  obtain ⟨wd, ewd⟩ : ∃ wd, w0.drew = wd := ⟨_, rfl⟩
  rw [ewd] at HBd hHeld ⊢
  clear ewd Ew
  refine wpAnyH_take (i := 0) (oi := { dst := some 12, op := Go.Op.load 37 (Go.Operand.tmp 3), type := 37, pos := "outright.go:30", after := #[], guard := none }) (v := .agg #[.int .u8 x.pr, .int .u32 x.sr, .int .u32 x.ds, .int .u16 x.sp, .int .u16 x.dp]) rfl (by kernel_rfl) (by kernel_rfl) (by kernel_rfl) (fun _ _ _ h => h) (Or.inl ⟨by rfl, fun w' hSw => exec_row 37 (.tmp 3) rfl z _ _ _ _ (hSw.1) rfl Try.underlying37 rfl (by kernel_rfl)⟩) (by assumption) ?_
  (try simp only [Act.put, List.setIfInBounds_toArray, List.set_cons_zero, List.set_cons_succ])
  refine wpAnyH_take (i := 1) (oi := { dst := some 13, op := Go.Op.load 37 (Go.Operand.tmp 4), type := 37, pos := "outright.go:30", after := #[], guard := none }) (v := .agg #[.int .u8 y.pr, .int .u32 y.sr, .int .u32 y.ds, .int .u16 y.sp, .int .u16 y.dp]) rfl (by kernel_rfl) (by kernel_rfl) (by kernel_rfl) (fun _ _ _ h => h) (Or.inl ⟨by rfl, fun w' hSw => exec_row 37 (.tmp 4) rfl (z + 1) _ _ _ _ (hSw.2.1) rfl Try.underlying37 rfl (by kernel_rfl)⟩) (by assumption) ?_
  (try simp only [Act.put, List.setIfInBounds_toArray, List.set_cons_zero, List.set_cons_succ])
  refine wpAnyH_take (i := 3) (oi := { dst := some 15, op := Go.Op.load 37 (Go.Operand.tmp 4), type := 37, pos := "outright.go:30", after := #[], guard := none }) (v := .agg #[.int .u8 y.pr, .int .u32 y.sr, .int .u32 y.ds, .int .u16 y.sp, .int .u16 y.dp]) rfl (by kernel_rfl) (by kernel_rfl) (by kernel_rfl) (fun _ _ _ h => h) (Or.inl ⟨by rfl, fun w' hSw => exec_row 37 (.tmp 4) rfl (z + 1) _ _ _ _ (hSw.2.1) rfl Try.underlying37 rfl (by kernel_rfl)⟩) (by assumption) ?_
  (try simp only [Act.put, List.setIfInBounds_toArray, List.set_cons_zero, List.set_cons_succ])
  refine wpAnyH_take (i := 4) (oi := { dst := some 16, op := Go.Op.load 37 (Go.Operand.tmp 5), type := 37, pos := "outright.go:30", after := #[], guard := none }) (v := .agg #[.int .u8 s.pr, .int .u32 s.sr, .int .u32 s.ds, .int .u16 s.sp, .int .u16 s.dp]) rfl (by kernel_rfl) (by kernel_rfl) (by kernel_rfl) (fun _ _ _ h => h) (Or.inl ⟨by rfl, fun w' hSw => exec_row 37 (.tmp 5) rfl (z + 2) _ _ _ _ (hSw.2.2) rfl Try.underlying37 rfl (by kernel_rfl)⟩) (by assumption) ?_
  (try simp only [Act.put, List.setIfInBounds_toArray, List.set_cons_zero, List.set_cons_succ])
  refine wpAnyH_take (i := 6) (oi := { dst := some 18, op := Go.Op.load 37 (Go.Operand.tmp 3), type := 37, pos := "outright.go:30", after := #[], guard := none }) (v := .agg #[.int .u8 x.pr, .int .u32 x.sr, .int .u32 x.ds, .int .u16 x.sp, .int .u16 x.dp]) rfl (by kernel_rfl) (by kernel_rfl) (by kernel_rfl) (fun _ _ _ h => h) (Or.inl ⟨by rfl, fun w' hSw => exec_row 37 (.tmp 3) rfl z _ _ _ _ (hSw.1) rfl Try.underlying37 rfl (by kernel_rfl)⟩) (by assumption) ?_
  (try simp only [Act.put, List.setIfInBounds_toArray, List.set_cons_zero, List.set_cons_succ])
  refine wpAnyH_take (i := 7) (oi := { dst := some 19, op := Go.Op.load 37 (Go.Operand.tmp 5), type := 37, pos := "outright.go:30", after := #[], guard := none }) (v := .agg #[.int .u8 s.pr, .int .u32 s.sr, .int .u32 s.ds, .int .u16 s.sp, .int .u16 s.dp]) rfl (by kernel_rfl) (by kernel_rfl) (by kernel_rfl) (fun _ _ _ h => h) (Or.inl ⟨by rfl, fun w' hSw => exec_row 37 (.tmp 5) rfl (z + 2) _ _ _ _ (hSw.2.2) rfl Try.underlying37 rfl (by kernel_rfl)⟩) (by assumption) ?_
  (try simp only [Act.put, List.setIfInBounds_toArray, List.set_cons_zero, List.set_cons_succ])
  refine wpAnyH_ready (rs := [2]) (by kernel_rfl) (by simp) ?_
  refine AllReadyH.cons (o := { dst := some 14, op := Go.Op.call { callee := Go.Callee.value (Go.Operand.func 11), args := #[Go.Operand.tmp 12, Go.Operand.tmp 13], argTypes := #[37, 37] }, type := 3, pos := "outright.go:30", after := #[{ on := 0, ground := Go.Ground.data }, { on := 1, ground := Go.Ground.data }], guard := none }) rfl (fun K hK => ?_) AllReadyH.nil
  go_simp
  (refine (tcmp_any x y _ ab Hab.out).mono ?_; rintro e w2 ⟨rfl, hb⟩; have HB2 := Lib.hid (below_trans HBd.out hb); clear hb)
  refine hK.out _ _ ?_ (fun hHeld => ?_)
  · exact HS.out _ HB2.out
  clear hK K
  (try simp only [Act.put, List.setIfInBounds_toArray, List.set_cons_zero, List.set_cons_succ])
  refine wpAnyH_ready (rs := [5]) (by kernel_rfl) (by simp) ?_
  refine AllReadyH.cons (o := { dst := some 17, op := Go.Op.call { callee := Go.Callee.value (Go.Operand.func 11), args := #[Go.Operand.tmp 15, Go.Operand.tmp 16], argTypes := #[37, 37] }, type := 3, pos := "outright.go:30", after := #[{ on := 3, ground := Go.Ground.data }, { on := 4, ground := Go.Ground.data }, { on := 2, ground := Go.Ground.chain }], guard := none }) rfl (fun K hK => ?_) AllReadyH.nil
  go_simp
  (refine (tcmp_any y s _ bc Hbc.out).mono ?_; rintro e w3 ⟨rfl, hb⟩; have HB3 := Lib.hid (below_trans HB2.out hb); clear hb)
  refine hK.out _ _ ?_ (fun hHeld => ?_)
  · exact HS.out _ HB3.out
  clear hK K
  (try simp only [Act.put, List.setIfInBounds_toArray, List.set_cons_zero, List.set_cons_succ])
  refine wpAnyH_ready (rs := [8]) (by kernel_rfl) (by simp) ?_
  refine AllReadyH.cons (o := { dst := some 20, op := Go.Op.call { callee := Go.Callee.value (Go.Operand.func 11), args := #[Go.Operand.tmp 18, Go.Operand.tmp 19], argTypes := #[37, 37] }, type := 3, pos := "outright.go:30", after := #[{ on := 6, ground := Go.Ground.data }, { on := 7, ground := Go.Ground.data }, { on := 5, ground := Go.Ground.chain }], guard := none }) rfl (fun K hK => ?_) AllReadyH.nil
  go_simp
  (refine (tcmp_any x s _ ac Hac.out).mono ?_; rintro e w4 ⟨rfl, hb⟩; have HB4 := Lib.hid (below_trans HB3.out hb); clear hb)
  refine hK.out _ _ ?_ (fun hHeld => ?_)
  · exact HS.out _ HB4.out
  clear hK K
  (try simp only [Act.put, List.setIfInBounds_toArray, List.set_cons_zero, List.set_cons_succ])
  refine wpAnyH_take (i := 9) (oi := { dst := some 7, op := Go.Op.assign (Go.Operand.tmp 14), type := 3, pos := "outright.go:30", after := #[{ on := 2, ground := Go.Ground.data }, { on := 8, ground := Go.Ground.chain }, { on := 0, ground := Go.Ground.phase }, { on := 1, ground := Go.Ground.phase }, { on := 2, ground := Go.Ground.phase }, { on := 3, ground := Go.Ground.textOnly Go.Departure.lateStores }, { on := 4, ground := Go.Ground.textOnly Go.Departure.lateStores }, { on := 5, ground := Go.Ground.textOnly Go.Departure.lateStoresUnsure }, { on := 6, ground := Go.Ground.textOnly Go.Departure.lateStores }, { on := 7, ground := Go.Ground.textOnly Go.Departure.lateStores }, { on := 8, ground := Go.Ground.textOnly Go.Departure.lateStoresUnsure }], guard := none }) (v := ?_) rfl (by kernel_rfl) (by kernel_rfl) (by kernel_rfl) (fun _ _ _ h => h) (Or.inl ⟨by rfl, ?_⟩) (by assumption) ?_
  rotate_left 1
  · intro w' hSw; (go_simp <;> (with_reducible rfl))
  (try simp only [Act.put, List.setIfInBounds_toArray, List.set_cons_zero, List.set_cons_succ])
  refine wpAnyH_take (i := 10) (oi := { dst := some 8, op := Go.Op.assign (Go.Operand.tmp 17), type := 3, pos := "outright.go:30", after := #[{ on := 5, ground := Go.Ground.data }, { on := 9, ground := Go.Ground.chain }, { on := 0, ground := Go.Ground.phase }, { on := 1, ground := Go.Ground.phase }, { on := 2, ground := Go.Ground.phase }, { on := 3, ground := Go.Ground.phase }, { on := 4, ground := Go.Ground.phase }, { on := 5, ground := Go.Ground.phase }, { on := 6, ground := Go.Ground.textOnly Go.Departure.lateStores }, { on := 7, ground := Go.Ground.textOnly Go.Departure.lateStores }, { on := 8, ground := Go.Ground.textOnly Go.Departure.lateStoresUnsure }, { on := 9, ground := Go.Ground.phase }], guard := none }) (v := ?_) rfl (by kernel_rfl) (by kernel_rfl) (by kernel_rfl) (fun _ _ _ h => h) (Or.inl ⟨by rfl, ?_⟩) (by assumption) ?_
  rotate_left 1
  · intro w' hSw; (go_simp <;> (with_reducible rfl))
  (try simp only [Act.put, List.setIfInBounds_toArray, List.set_cons_zero, List.set_cons_succ])
  refine wpAnyH_take (i := 11) (oi := { dst := some 9, op := Go.Op.assign (Go.Operand.tmp 20), type := 3, pos := "outright.go:30", after := #[{ on := 8, ground := Go.Ground.data }, { on := 10, ground := Go.Ground.chain }, { on := 0, ground := Go.Ground.phase }, { on := 1, ground := Go.Ground.phase }, { on := 2, ground := Go.Ground.phase }, { on := 3, ground := Go.Ground.phase }, { on := 4, ground := Go.Ground.phase }, { on := 5, ground := Go.Ground.phase }, { on := 6, ground := Go.Ground.phase }, { on := 7, ground := Go.Ground.phase }, { on := 8, ground := Go.Ground.phase }, { on := 9, ground := Go.Ground.phase }, { on := 10, ground := Go.Ground.phase }], guard := none }) (v := ?_) rfl (by kernel_rfl) (by kernel_rfl) (by kernel_rfl) (fun _ _ _ h => h) (Or.inl ⟨by rfl, ?_⟩) (by assumption) ?_
  rotate_left 1
  · intro w' hSw; (go_simp <;> (with_reducible rfl))
  (try simp only [Act.put, List.setIfInBounds_toArray, List.set_cons_zero, List.set_cons_succ])
  refine wpAnyH_done (by kernel_rfl) ?_ _
  clear hHeld
  go_upto_region 2 with (fail)
  have HS2 := Lib.hid (show ∀ w', Below w4.heap.size w4 w' → w'.heap[z]? = some (.cells #[.int .u8 x.pr, .int .u32 x.sr, .int .u32 x.ds, .int .u16 x.sp, .int .u16 x.dp] 37 (0, 0)) ∧ w'.heap[z + 1]? = some (.cells #[.int .u8 y.pr, .int .u32 y.sr, .int .u32 y.ds, .int .u16 y.sp, .int .u16 y.dp] 37 (0, 0)) ∧ w'.heap[z + 2]? = some (.cells #[.int .u8 s.pr, .int .u32 s.sr, .int .u32 s.ds, .int .u16 s.sp, .int .u16 s.dp] 37 (0, 0)) from fun w' hb => HS.out w' (below_trans HB4.out hb))
  have HB4a := Lib.hid (below_trans Hb0.out HB4.out)
  have HBe := Lib.hid (Below.drew (Below.refl w4.heap.size w4))
  clear HS HB2 HB3 HB4 HBd Hb0
  refine wp_region_held_drew (S := fun w' => w'.heap[z]? = some (.cells #[.int .u8 x.pr, .int .u32 x.sr, .int .u32 x.ds, .int .u16 x.sp, .int .u16 x.dp] 37 (0, 0)) ∧ w'.heap[z + 1]? = some (.cells #[.int .u8 y.pr, .int .u32 y.sr, .int .u32 y.ds, .int .u16 y.sp, .int .u16 y.dp] 37 (0, 0)) ∧ w'.heap[z + 2]? = some (.cells #[.int .u8 s.pr, .int .u32 s.sr, .int .u32 s.ds, .int .u16 s.sp, .int .u16 s.dp] 37 (0, 0))) (by kernel_rfl) (HS2.out _ HBe.out) (fun hHeld => ?_)
  obtain ⟨we, ewe⟩ : ∃ wd, w4.drew = wd := ⟨_, rfl⟩
  rw [ewe] at HBe hHeld ⊢
  clear ewe
  refine wpAnyH_take (i := 0) (oi := { dst := some 21, op := Go.Op.load 37 (Go.Operand.tmp 3), type := 37, pos := "outright.go:31", after := #[], guard := none }) (v := .agg #[.int .u8 x.pr, .int .u32 x.sr, .int .u32 x.ds, .int .u16 x.sp, .int .u16 x.dp]) rfl (by kernel_rfl) (by kernel_rfl) (by kernel_rfl) (fun _ _ _ h => h) (Or.inl ⟨by rfl, fun w' hSw => exec_row 37 (.tmp 3) rfl z _ _ _ _ (hSw.1) rfl Try.underlying37 rfl (by kernel_rfl)⟩) (by assumption) ?_
  (try simp only [Act.put, List.setIfInBounds_toArray, List.set_cons_zero, List.set_cons_succ])
  refine wpAnyH_take (i := 3) (oi := { dst := some 24, op := Go.Op.load 37 (Go.Operand.tmp 4), type := 37, pos := "outright.go:31", after := #[], guard := none }) (v := .agg #[.int .u8 y.pr, .int .u32 y.sr, .int .u32 y.ds, .int .u16 y.sp, .int .u16 y.dp]) rfl (by kernel_rfl) (by kernel_rfl) (by kernel_rfl) (fun _ _ _ h => h) (Or.inl ⟨by rfl, fun w' hSw => exec_row 37 (.tmp 4) rfl (z + 1) _ _ _ _ (hSw.2.1) rfl Try.underlying37 rfl (by kernel_rfl)⟩) (by assumption) ?_
  (try simp only [Act.put, List.setIfInBounds_toArray, List.set_cons_zero, List.set_cons_succ])
  refine wpAnyH_ready (rs := [1]) (by kernel_rfl) (by simp) ?_
  refine AllReadyH.cons (o := { dst := some 22, op := Go.Op.call { callee := Go.Callee.value (Go.Operand.func 14), args := #[Go.Operand.tmp 21], argTypes := #[37] }, type := 24, pos := "outright.go:31", after := #[{ on := 0, ground := Go.Ground.data }], guard := none }) rfl (fun K hK => ?_) AllReadyH.nil
  go_simp
  (refine (tbytes_any x _ Hx.out).mono ?_; rintro e w5 ⟨A5, c5, rfl, -, -, ho5, hb⟩; have HR5 := Lib.hid (ho5.rd (tuB_byte Hx.out)); have HB5 := Lib.hid (below_trans HBe.out hb); clear ho5 hb)
  refine hK.out _ _ ?_ (fun hHeld => ?_)
  · exact HS2.out _ HB5.out
  clear hK K
  (try simp only [Act.put, List.setIfInBounds_toArray, List.set_cons_zero, List.set_cons_succ])
  refine anyH_mono (S' := fun w' => (w'.heap[z]? = some (.cells #[.int .u8 x.pr, .int .u32 x.sr, .int .u32 x.ds, .int .u16 x.sp, .int .u16 x.dp] 37 (0, 0)) ∧ w'.heap[z + 1]? = some (.cells #[.int .u8 y.pr, .int .u32 y.sr, .int .u32 y.ds, .int .u16 y.sp, .int .u16 y.dp] 37 (0, 0)) ∧ w'.heap[z + 2]? = some (.cells #[.int .u8 s.pr, .int .u32 s.sr, .int .u32 s.ds, .int .u16 s.sp, .int .u16 s.dp] 37 (0, 0))) ∧ Rd w' A5 13 (tuB x)) (fun _ h => h.1) _ _ _ _ ?_
  have hHeld := And.intro hHeld HR5.out
  refine wpAnyH_take (i := 2) (oi := { dst := some 23, op := Go.Op.convert 24 9 (Go.Operand.tmp 22), type := 9, pos := "outright.go:31", after := #[{ on := 1, ground := Go.Ground.data }], guard := none }) (v := .string (strOfNums (tuB x))) rfl (by kernel_rfl) (by kernel_rfl) (by kernel_rfl) (fun _ _ _ h => h) (Or.inl ⟨by rfl, ?_⟩) (by assumption) ?_
  · intro w' hSw; have hcv := conv_rd hSw.2 c5; (go_simp <;> (with_reducible rfl))
  (try simp only [Act.put, List.setIfInBounds_toArray, List.set_cons_zero, List.set_cons_succ])
  refine wpAnyH_ready (rs := [4]) (by kernel_rfl) (by simp) ?_
  refine AllReadyH.cons (o := { dst := some 25, op := Go.Op.call { callee := Go.Callee.value (Go.Operand.func 14), args := #[Go.Operand.tmp 24], argTypes := #[37] }, type := 24, pos := "outright.go:31", after := #[{ on := 3, ground := Go.Ground.data }, { on := 1, ground := Go.Ground.chain }], guard := none }) rfl (fun K hK => ?_) AllReadyH.nil
  go_simp
  (refine (tbytes_any y _ Hy.out).mono ?_; rintro e w6 ⟨A6, c6, rfl, -, -, ho6, hb⟩; have HR6 := Lib.hid (ho6.rd (tuB_byte Hy.out)); have HB6 := Lib.hid (below_trans HB5.out hb); have HR7 := Lib.hid (HR5.out.below hb); clear ho6 hb)
  refine hK.out _ _ ?_ (fun hHeld => ?_)
  · exact ⟨HS2.out _ HB6.out, HR7.out⟩
  clear hK K
  (try simp only [Act.put, List.setIfInBounds_toArray, List.set_cons_zero, List.set_cons_succ])
  refine anyH_mono (S' := fun w' => ((w'.heap[z]? = some (.cells #[.int .u8 x.pr, .int .u32 x.sr, .int .u32 x.ds, .int .u16 x.sp, .int .u16 x.dp] 37 (0, 0)) ∧ w'.heap[z + 1]? = some (.cells #[.int .u8 y.pr, .int .u32 y.sr, .int .u32 y.ds, .int .u16 y.sp, .int .u16 y.dp] 37 (0, 0)) ∧ w'.heap[z + 2]? = some (.cells #[.int .u8 s.pr, .int .u32 s.sr, .int .u32 s.ds, .int .u16 s.sp, .int .u16 s.dp] 37 (0, 0))) ∧ Rd w' A5 13 (tuB x)) ∧ Rd w' A6 13 (tuB y)) (fun _ h => h.1) _ _ _ _ ?_
  have hHeld := And.intro hHeld HR6.out
  refine wpAnyH_take (i := 5) (oi := { dst := some 26, op := Go.Op.convert 24 9 (Go.Operand.tmp 25), type := 9, pos := "outright.go:31", after := #[{ on := 4, ground := Go.Ground.data }, { on := 6, ground := Go.Ground.gcOnly Go.Departure.lateStores }], guard := none }) (v := .string (strOfNums (tuB y))) rfl (by kernel_rfl) (by kernel_rfl) (by kernel_rfl) (fun _ _ _ h => h) (Or.inl ⟨by rfl, ?_⟩) (by assumption) ?_
  · intro w' hSw; have hcv := conv_rd hSw.2 c6; (go_simp <;> (with_reducible rfl))
  (try simp only [Act.put, List.setIfInBounds_toArray, List.set_cons_zero, List.set_cons_succ])
  refine wpAnyH_take (i := 6) (oi := { dst := some 10, op := Go.Op.assign (Go.Operand.tmp 23), type := 9, pos := "outright.go:31", after := #[{ on := 2, ground := Go.Ground.data }, { on := 4, ground := Go.Ground.chain }, { on := 0, ground := Go.Ground.phase }, { on := 1, ground := Go.Ground.phase }, { on := 2, ground := Go.Ground.phase }, { on := 3, ground := Go.Ground.textOnly Go.Departure.lateStores }, { on := 4, ground := Go.Ground.textOnly Go.Departure.lateStoresUnsure }, { on := 5, ground := Go.Ground.textOnly Go.Departure.lateStores }], guard := none }) (v := ?_) rfl (by kernel_rfl) (by kernel_rfl) (by kernel_rfl) (fun _ _ _ h => h) (Or.inl ⟨by rfl, ?_⟩) (by assumption) ?_
  rotate_left 1
  · intro w' hSw; (go_simp <;> (with_reducible rfl))
  (try simp only [Act.put, List.setIfInBounds_toArray, List.set_cons_zero, List.set_cons_succ])
  refine wpAnyH_take (i := 7) (oi := { dst := some 11, op := Go.Op.assign (Go.Operand.tmp 26), type := 9, pos := "outright.go:31", after := #[{ on := 5, ground := Go.Ground.data }, { on := 6, ground := Go.Ground.chain }, { on := 0, ground := Go.Ground.phase }, { on := 1, ground := Go.Ground.phase }, { on := 2, ground := Go.Ground.phase }, { on := 3, ground := Go.Ground.phase }, { on := 4, ground := Go.Ground.phase }, { on := 5, ground := Go.Ground.phase }, { on := 6, ground := Go.Ground.phase }], guard := none }) (v := ?_) rfl (by kernel_rfl) (by kernel_rfl) (by kernel_rfl) (fun _ _ _ h => h) (Or.inl ⟨by rfl, ?_⟩) (by assumption) ?_
  rotate_left 1
  · intro w' hSw; (go_simp <;> (with_reducible rfl))
  (try simp only [Act.put, List.setIfInBounds_toArray, List.set_cons_zero, List.set_cons_succ])
  refine wpAnyH_done (by kernel_rfl) ?_ _
  clear hHeld
  go_upto_region 3 with (fail)
  have HB6a := Lib.hid (below_trans HB4a.out HB6.out)
  have HS3' := Lib.hid (show ∀ w', Below w6.heap.size w6 w' → w'.heap[z]? = some (.cells #[.int .u8 x.pr, .int .u32 x.sr, .int .u32 x.ds, .int .u16 x.sp, .int .u16 x.dp] 37 (0, 0)) ∧ w'.heap[z + 1]? = some (.cells #[.int .u8 y.pr, .int .u32 y.sr, .int .u32 y.ds, .int .u16 y.sp, .int .u16 y.dp] 37 (0, 0)) ∧ w'.heap[z + 2]? = some (.cells #[.int .u8 s.pr, .int .u32 s.sr, .int .u32 s.ds, .int .u16 s.sp, .int .u16 s.dp] 37 (0, 0)) from fun w' hb => HS2.out w' (below_trans HB6.out hb))
  clear HS2 HB4a HB5 HB6 HBe HR5 HR6 HR7
  obtain ⟨m, em⟩ : ∃ m, tuSame x y = m := ⟨_, rfl⟩
  have Hm := Lib.hid em
  have heq := tu_eql x y
  rw [em] at heq
  have Heq := Lib.hid heq
  have Hless := Lib.hid (show Op.bytesLess (strOfNums (tuB x)).toList (strOfNums (tuB y)).toList = decide (ab < 0) by rw [tu_less Hx.out Hy.out, Hab.out])
  have Hseq := Lib.hid (show ((strOfNums (tuB x)).toList == (strOfNums (tuB y)).toList) = m by rw [tu_seq Hx.out Hy.out, em])
  have Hmab := Lib.hid (show m = decide (ab = 0) by
    rw [← em, ← Hab.out, Bool.eq_iff_iff, tuSame_iff, decide_eq_true_eq]
    exact (cmpT_zero x y).symm)
  have Hba := Lib.hid (show cmpT y x = -ab by rw [cmpT_turn, Hab.out])
  have Hbd := Lib.hid (cmpT_bd x y)
  rw [Hab.out] at Hbd
  clear em heq
  go_cut [62] (fun v wx => v = .bool false ∧ Hid (Below w6.heap.size w6 wx))
  case first =>
    rcases Hbd.out with rfl | rfl | rfl
    · skip
      have heq := Heq.out
      have hless := Hless.out
      have hseq := Hseq.out
      have hmab := Hmab.out
      rw [show decide ((-1 : Int) = 0) = false from rfl] at hmab
      rw [show decide ((-1 : Int) < 0) = true from rfl] at hless
      subst hmab
      have hsz : (strOfNums (tuB x)).size = 13 := by rw [strOfNums_size, tuB_len]
      obtain ⟨a0, a1, a2, a3, a4⟩ := cells5 (HS3'.out _ (Below.refl _ _)).1
      obtain ⟨b0, b1, b2, b3, b4⟩ := cells5 (HS3'.out _ (Below.refl _ _)).2.1
      go_wp2_with fail
      refine (tcmp_any y x _ 1 Hba.out).mono ?_
      rintro e w7 ⟨rfl, hb7⟩
      clear a0 a1 a2 a3 a4 b0 b1 b2 b3 b4 heq hless hseq hsz
      go_wp2_with fail
      go_meet
      exact ⟨rfl, Lib.hid hb7⟩
    · skip
      have heq := Heq.out
      have hless := Hless.out
      have hseq := Hseq.out
      have hmab := Hmab.out
      rw [show decide ((0 : Int) = 0) = true from rfl] at hmab
      rw [show decide ((0 : Int) < 0) = false from rfl] at hless
      subst hmab
      have hsz : (strOfNums (tuB x)).size = 13 := by rw [strOfNums_size, tuB_len]
      obtain ⟨a0, a1, a2, a3, a4⟩ := cells5 (HS3'.out _ (Below.refl _ _)).1
      obtain ⟨b0, b1, b2, b3, b4⟩ := cells5 (HS3'.out _ (Below.refl _ _)).2.1
      go_wp2_with fail
      refine (tcmp_any y x _ 0 Hba.out).mono ?_
      rintro e w7 ⟨rfl, hb7⟩
      clear a0 a1 a2 a3 a4 b0 b1 b2 b3 b4 heq hless hseq hsz
      go_wp2_with fail
      go_meet
      exact ⟨rfl, Lib.hid hb7⟩
    · skip
      have heq := Heq.out
      have hless := Hless.out
      have hseq := Hseq.out
      have hmab := Hmab.out
      rw [show decide ((1 : Int) = 0) = false from rfl] at hmab
      rw [show decide ((1 : Int) < 0) = false from rfl] at hless
      subst hmab
      have hsz : (strOfNums (tuB x)).size = 13 := by rw [strOfNums_size, tuB_len]
      obtain ⟨a0, a1, a2, a3, a4⟩ := cells5 (HS3'.out _ (Below.refl _ _)).1
      obtain ⟨b0, b1, b2, b3, b4⟩ := cells5 (HS3'.out _ (Below.refl _ _)).2.1
      go_wp2_with fail
      refine (tcmp_any y x _ (-1) Hba.out).mono ?_
      rintro e w7 ⟨rfl, hb7⟩
      clear a0 a1 a2 a3 a4 b0 b1 b2 b3 b4 heq hless hseq hsz
      go_wp2_with fail
      go_meet
      exact ⟨rfl, Lib.hid hb7⟩
  case rest =>
    obtain ⟨rfl, HBc⟩ := hcut
    clear Hless Hseq Hmab Hba
    have Hbe := Lib.hid (show bc = -1 ∨ bc = 0 ∨ bc = 1 by rw [← Hbc.out]; exact cmpT_bd y s)
    have Hbf := Lib.hid (show ac = -1 ∨ ac = 0 ∨ ac = 1 by rw [← Hac.out]; exact cmpT_bd x s)
    have Hto := Lib.hid (show ab ≤ 0 → bc ≤ 0 → ac < 0 ∨ (ac = 0 ∧ ab = 0 ∧ bc = 0) by
      have h := Htr.out
      rw [Hab.out, Hbc.out, Hac.out] at h
      exact h)
    go_upto_region 5 with (fail)
    go_cut [84] (fun v wx => v = .bool false ∧ wc = wx)
    case first =>
      have hto := Hto.out
      have hab := Hbd.out
      have hbc := Hbe.out
      have hac := Hbf.out
      clear Hto Hbd Hbe Hbf Htr Hab Hbc Hac
      rcases hab with rfl | rfl | rfl
      · rcases hbc with rfl | rfl | rfl
        · obtain rfl : ac = -1 := by omega
          clear hto hac
          go_wp2_with fail
          go_meet
          exact ⟨rfl, rfl⟩
        · obtain rfl : ac = -1 := by omega
          clear hto hac
          go_wp2_with fail
          go_meet
          exact ⟨rfl, rfl⟩
        · clear hto hac
          go_wp2_with fail
          go_meet
          exact ⟨rfl, rfl⟩
      · rcases hbc with rfl | rfl | rfl
        · obtain rfl : ac = -1 := by omega
          clear hto hac
          go_wp2_with fail
          go_meet
          exact ⟨rfl, rfl⟩
        · have h2 : ac = -1 ∨ ac = 0 := by omega
          clear hto hac
          rcases h2 with rfl | rfl
          · skip
            go_wp2_with fail
            go_meet
            exact ⟨rfl, rfl⟩
          · skip
            go_wp2_with fail
            go_meet
            exact ⟨rfl, rfl⟩
        · clear hto hac
          go_wp2_with fail
          go_meet
          exact ⟨rfl, rfl⟩
      · clear hto hac hbc
        go_wp2_with fail
        go_meet
        exact ⟨rfl, rfl⟩
    case rest =>
      obtain ⟨rfl, rfl⟩ := hcut
      clear Hto Hbd Hbe Hbf Htr Hab Hbc Hac
      go_upto_region 7 with (fail)
      obtain ⟨r, er⟩ : ∃ r, revT x = r := ⟨_, rfl⟩
      obtain ⟨q, eq⟩ : ∃ r, revT y = r := ⟨_, rfl⟩
      obtain ⟨nb, enb⟩ : ∃ n, noneT x = n := ⟨_, rfl⟩
      have Hr := Lib.hid er
      have Hr2 := Lib.hid eq
      have Hnb := Lib.hid enb
      have Hrr := Lib.hid (show revT r = x by rw [← er]; exact revT_twice x)
      have Hnr := Lib.hid (show noneT r = nb by rw [← er, noneT_rev]; exact enb)
      have heqR := tu_eql r q
      rw [show tuSame r q = m by
        rw [← Hm.out, Bool.eq_iff_iff, tuSame_iff, tuSame_iff, ← er, ← eq]
        exact revT_inj x y] at heqR
      have heq := Heq.out
      clear er eq enb
      have HS3 := Lib.hid (show ∀ w', Below wc.heap.size wc w' → w'.heap[z]? = some (.cells #[.int .u8 x.pr, .int .u32 x.sr, .int .u32 x.ds, .int .u16 x.sp, .int .u16 x.dp] 37 (0, 0)) ∧ w'.heap[z + 1]? = some (.cells #[.int .u8 y.pr, .int .u32 y.sr, .int .u32 y.ds, .int .u16 y.sp, .int .u16 y.dp] 37 (0, 0)) ∧ w'.heap[z + 2]? = some (.cells #[.int .u8 s.pr, .int .u32 s.sr, .int .u32 s.ds, .int .u16 s.sp, .int .u16 s.dp] 37 (0, 0)) from fun w' hb => HS3'.out w' (below_trans HBc.out hb))
      have HCd := Lib.hid (Below.drew (Below.refl wc.heap.size wc))
      refine wp_region_held_drew (S := fun w' => w'.heap[z]? = some (.cells #[.int .u8 x.pr, .int .u32 x.sr, .int .u32 x.ds, .int .u16 x.sp, .int .u16 x.dp] 37 (0, 0)) ∧ w'.heap[z + 1]? = some (.cells #[.int .u8 y.pr, .int .u32 y.sr, .int .u32 y.ds, .int .u16 y.sp, .int .u16 y.dp] 37 (0, 0)) ∧ w'.heap[z + 2]? = some (.cells #[.int .u8 s.pr, .int .u32 s.sr, .int .u32 s.ds, .int .u16 s.sp, .int .u16 s.dp] 37 (0, 0))) (by kernel_rfl) (HS3.out _ HCd.out) (fun hHeld => ?_)
      obtain ⟨wf, ewf⟩ : ∃ wd, wc.drew = wd := ⟨_, rfl⟩
      rw [ewf] at HCd hHeld ⊢
      clear ewf
      refine wpAnyH_take (i := 0) (oi := { dst := some 85, op := Go.Op.load 37 (Go.Operand.tmp 3), type := 37, pos := "outright.go:38", after := #[], guard := none }) (v := .agg #[.int .u8 x.pr, .int .u32 x.sr, .int .u32 x.ds, .int .u16 x.sp, .int .u16 x.dp]) rfl (by kernel_rfl) (by kernel_rfl) (by kernel_rfl) (fun _ _ _ h => h) (Or.inl ⟨by rfl, fun w' hSw => exec_row 37 (.tmp 3) rfl z _ _ _ _ (hSw.1) rfl Try.underlying37 rfl (by kernel_rfl)⟩) (by assumption) ?_
      (try simp only [Act.put, List.setIfInBounds_toArray, List.set_cons_zero, List.set_cons_succ])
      refine wpAnyH_take (i := 3) (oi := { dst := some 88, op := Go.Op.load 37 (Go.Operand.tmp 3), type := 37, pos := "outright.go:38", after := #[], guard := none }) (v := .agg #[.int .u8 x.pr, .int .u32 x.sr, .int .u32 x.ds, .int .u16 x.sp, .int .u16 x.dp]) rfl (by kernel_rfl) (by kernel_rfl) (by kernel_rfl) (fun _ _ _ h => h) (Or.inl ⟨by rfl, fun w' hSw => exec_row 37 (.tmp 3) rfl z _ _ _ _ (hSw.1) rfl Try.underlying37 rfl (by kernel_rfl)⟩) (by assumption) ?_
      (try simp only [Act.put, List.setIfInBounds_toArray, List.set_cons_zero, List.set_cons_succ])
      refine wpAnyH_ready (rs := [1]) (by kernel_rfl) (by simp) ?_
      refine AllReadyH.cons (o := { dst := some 86, op := Go.Op.call { callee := Go.Callee.value (Go.Operand.func 9), args := #[Go.Operand.tmp 85], argTypes := #[37] }, type := 37, pos := "outright.go:38", after := #[{ on := 0, ground := Go.Ground.data }], guard := none }) rfl (fun K hK => ?_) AllReadyH.nil
      go_simp
      (refine (rev_any x _).mono ?_; rw [Hr.out]; rintro e v1 ⟨rfl, hb⟩; have HC1 := Lib.hid (below_trans HCd.out hb); clear hb)
      refine hK.out _ _ ?_ (fun hHeld => ?_)
      · exact HS3.out _ HC1.out
      clear hK K
      (try simp only [Act.put, List.setIfInBounds_toArray, List.set_cons_zero, List.set_cons_succ])
      refine wpAnyH_ready (rs := [2]) (by kernel_rfl) (by simp) ?_
      refine AllReadyH.cons (o := { dst := some 87, op := Go.Op.call { callee := Go.Callee.value (Go.Operand.func 9), args := #[Go.Operand.tmp 86], argTypes := #[37] }, type := 37, pos := "outright.go:38", after := #[{ on := 1, ground := Go.Ground.data }, { on := 1, ground := Go.Ground.chain }], guard := none }) rfl (fun K hK => ?_) AllReadyH.nil
      go_simp
      (refine (rev_any r _).mono ?_; rw [Hrr.out]; rintro e v2 ⟨rfl, hb⟩; have HC2 := Lib.hid (below_trans HC1.out hb); clear hb)
      refine hK.out _ _ ?_ (fun hHeld => ?_)
      · exact HS3.out _ HC2.out
      clear hK K
      (try simp only [Act.put, List.setIfInBounds_toArray, List.set_cons_zero, List.set_cons_succ])
      refine wpAnyH_take (i := 4) (oi := { dst := some 89, op := Go.Op.binOp Go.BinOp.eql 37 (Go.Operand.tmp 87) (Go.Operand.tmp 88) 37, type := 4, pos := "outright.go:38", after := #[{ on := 2, ground := Go.Ground.data }, { on := 3, ground := Go.Ground.data }], guard := none }) (v := ?_) rfl (by kernel_rfl) (by kernel_rfl) (by kernel_rfl) (fun _ _ _ h => h) (Or.inl ⟨by rfl, ?_⟩) (by assumption) ?_
      rotate_left 1
      · intro w' hSw; (go_simp <;> (with_reducible rfl))
      (try simp only [Act.put, List.setIfInBounds_toArray, List.set_cons_zero, List.set_cons_succ])
      refine wpAnyH_take (i := 5) (oi := { dst := some 90, op := Go.Op.move (Go.Operand.tmp 89), type := 4, pos := "outright.go:38", after := #[{ on := 4, ground := Go.Ground.data }, { on := 2, ground := Go.Ground.chain }], guard := none }) (v := ?_) rfl (by kernel_rfl) (by kernel_rfl) (by kernel_rfl) (fun _ _ _ h => h) (Or.inl ⟨by rfl, ?_⟩) (by assumption) ?_
      rotate_left 1
      · intro w' hSw; (go_simp <;> (with_reducible rfl))
      (try simp only [Act.put, List.setIfInBounds_toArray, List.set_cons_zero, List.set_cons_succ])
      refine wpAnyH_take (i := 6) (oi := { dst := some 91, op := Go.Op.load 37 (Go.Operand.tmp 3), type := 37, pos := "outright.go:38", after := #[{ on := 5, ground := Go.Ground.guard }], guard := some (5, true) }) (v := .agg #[.int .u8 x.pr, .int .u32 x.sr, .int .u32 x.ds, .int .u16 x.sp, .int .u16 x.dp]) rfl (by kernel_rfl) (by kernel_rfl) (by kernel_rfl) (fun _ _ _ h => h) (Or.inl ⟨by rfl, fun w' hSw => exec_row 37 (.tmp 3) rfl z _ _ _ _ (hSw.1) rfl Try.underlying37 rfl (by kernel_rfl)⟩) (by assumption) ?_
      (try simp only [Act.put, List.setIfInBounds_toArray, List.set_cons_zero, List.set_cons_succ])
      refine wpAnyH_take (i := 8) (oi := { dst := some 93, op := Go.Op.load 37 (Go.Operand.tmp 4), type := 37, pos := "outright.go:38", after := #[{ on := 5, ground := Go.Ground.guard }], guard := some (5, true) }) (v := .agg #[.int .u8 y.pr, .int .u32 y.sr, .int .u32 y.ds, .int .u16 y.sp, .int .u16 y.dp]) rfl (by kernel_rfl) (by kernel_rfl) (by kernel_rfl) (fun _ _ _ h => h) (Or.inl ⟨by rfl, fun w' hSw => exec_row 37 (.tmp 4) rfl (z + 1) _ _ _ _ (hSw.2.1) rfl Try.underlying37 rfl (by kernel_rfl)⟩) (by assumption) ?_
      (try simp only [Act.put, List.setIfInBounds_toArray, List.set_cons_zero, List.set_cons_succ])
      refine wpAnyH_take (i := 11) (oi := { dst := some 96, op := Go.Op.load 37 (Go.Operand.tmp 3), type := 37, pos := "outright.go:38", after := #[{ on := 5, ground := Go.Ground.guard }], guard := some (5, true) }) (v := .agg #[.int .u8 x.pr, .int .u32 x.sr, .int .u32 x.ds, .int .u16 x.sp, .int .u16 x.dp]) rfl (by kernel_rfl) (by kernel_rfl) (by kernel_rfl) (fun _ _ _ h => h) (Or.inl ⟨by rfl, fun w' hSw => exec_row 37 (.tmp 3) rfl z _ _ _ _ (hSw.1) rfl Try.underlying37 rfl (by kernel_rfl)⟩) (by assumption) ?_
      (try simp only [Act.put, List.setIfInBounds_toArray, List.set_cons_zero, List.set_cons_succ])
      refine wpAnyH_take (i := 12) (oi := { dst := some 97, op := Go.Op.load 37 (Go.Operand.tmp 4), type := 37, pos := "outright.go:38", after := #[{ on := 5, ground := Go.Ground.guard }], guard := some (5, true) }) (v := .agg #[.int .u8 y.pr, .int .u32 y.sr, .int .u32 y.ds, .int .u16 y.sp, .int .u16 y.dp]) rfl (by kernel_rfl) (by kernel_rfl) (by kernel_rfl) (fun _ _ _ h => h) (Or.inl ⟨by rfl, fun w' hSw => exec_row 37 (.tmp 4) rfl (z + 1) _ _ _ _ (hSw.2.1) rfl Try.underlying37 rfl (by kernel_rfl)⟩) (by assumption) ?_
      (try simp only [Act.put, List.setIfInBounds_toArray, List.set_cons_zero, List.set_cons_succ])
      refine wpAnyH_take (i := 13) (oi := { dst := some 98, op := Go.Op.binOp Go.BinOp.eql 37 (Go.Operand.tmp 96) (Go.Operand.tmp 97) 37, type := 4, pos := "outright.go:38", after := #[{ on := 11, ground := Go.Ground.data }, { on := 12, ground := Go.Ground.data }, { on := 5, ground := Go.Ground.guard }], guard := some (5, true) }) (v := ?_) rfl (by kernel_rfl) (by kernel_rfl) (by kernel_rfl) (fun _ _ _ h => h) (Or.inl ⟨by rfl, ?_⟩) (by assumption) ?_
      rotate_left 1
      · intro w' hSw; (go_simp <;> (with_reducible rfl))
      (try simp only [Act.put, List.setIfInBounds_toArray, List.set_cons_zero, List.set_cons_succ])
      refine wpAnyH_ready (rs := [7]) (by kernel_rfl) (by simp) ?_
      refine AllReadyH.cons (o := { dst := some 92, op := Go.Op.call { callee := Go.Callee.value (Go.Operand.func 9), args := #[Go.Operand.tmp 91], argTypes := #[37] }, type := 37, pos := "outright.go:38", after := #[{ on := 6, ground := Go.Ground.data }, { on := 5, ground := Go.Ground.chain }, { on := 5, ground := Go.Ground.guard }], guard := some (5, true) }) rfl (fun K hK => ?_) AllReadyH.nil
      go_simp
      (refine (rev_any x _).mono ?_; rw [Hr.out]; rintro e v7 ⟨rfl, hb⟩; have HC7 := Lib.hid (below_trans HC2.out hb); clear hb)
      refine hK.out _ _ ?_ (fun hHeld => ?_)
      · exact HS3.out _ HC7.out
      clear hK K
      (try simp only [Act.put, List.setIfInBounds_toArray, List.set_cons_zero, List.set_cons_succ])
      refine wpAnyH_ready (rs := [9]) (by kernel_rfl) (by simp) ?_
      refine AllReadyH.cons (o := { dst := some 94, op := Go.Op.call { callee := Go.Callee.value (Go.Operand.func 9), args := #[Go.Operand.tmp 93], argTypes := #[37] }, type := 37, pos := "outright.go:38", after := #[{ on := 8, ground := Go.Ground.data }, { on := 7, ground := Go.Ground.chain }, { on := 5, ground := Go.Ground.guard }], guard := some (5, true) }) rfl (fun K hK => ?_) AllReadyH.nil
      go_simp
      (refine (rev_any y _).mono ?_; rw [Hr2.out]; rintro e v9 ⟨rfl, hb⟩; have HC9 := Lib.hid (below_trans HC7.out hb); clear hb)
      refine hK.out _ _ ?_ (fun hHeld => ?_)
      · exact HS3.out _ HC9.out
      clear hK K
      (try simp only [Act.put, List.setIfInBounds_toArray, List.set_cons_zero, List.set_cons_succ])
      refine wpAnyH_take (i := 10) (oi := { dst := some 95, op := Go.Op.binOp Go.BinOp.eql 37 (Go.Operand.tmp 92) (Go.Operand.tmp 94) 37, type := 4, pos := "outright.go:38", after := #[{ on := 7, ground := Go.Ground.data }, { on := 9, ground := Go.Ground.data }, { on := 5, ground := Go.Ground.guard }], guard := some (5, true) }) (v := ?_) rfl (by kernel_rfl) (by kernel_rfl) (by kernel_rfl) (fun _ _ _ h => h) (Or.inl ⟨by rfl, ?_⟩) (by assumption) ?_
      rotate_left 1
      · intro w' hSw; (go_simp <;> (with_reducible rfl))
      (try simp only [Act.put, List.setIfInBounds_toArray, List.set_cons_zero, List.set_cons_succ])
      refine wpAnyH_take (i := 14) (oi := { dst := some 99, op := Go.Op.binOp Go.BinOp.eql 4 (Go.Operand.tmp 95) (Go.Operand.tmp 98) 4, type := 4, pos := "outright.go:38", after := #[{ on := 10, ground := Go.Ground.data }, { on := 13, ground := Go.Ground.data }, { on := 5, ground := Go.Ground.guard }], guard := some (5, true) }) (v := ?_) rfl (by kernel_rfl) (by kernel_rfl) (by kernel_rfl) (fun _ _ _ h => h) (Or.inl ⟨by rfl, ?_⟩) (by assumption) ?_
      rotate_left 1
      · intro w' hSw; (go_simp <;> (with_reducible rfl))
      (try simp only [Act.put, List.setIfInBounds_toArray, List.set_cons_zero, List.set_cons_succ])
      refine wpAnyH_take (i := 15) (oi := { dst := some 100, op := Go.Op.pick (Go.Operand.tmp 90) (Go.Operand.tmp 99) (Go.Operand.const (Go.Value.bool false)), type := 4, pos := "outright.go:38", after := #[{ on := 5, ground := Go.Ground.data }, { on := 14, ground := Go.Ground.data }], guard := none }) (v := ?_) rfl (by kernel_rfl) (by kernel_rfl) (by kernel_rfl) (fun _ _ _ h => h) (Or.inl ⟨by rfl, ?_⟩) (by assumption) ?_
      rotate_left 1
      · intro w' hSw; (go_simp <;> (with_reducible rfl))
      (try simp only [Act.put, List.setIfInBounds_toArray, List.set_cons_zero, List.set_cons_succ])
      refine wpAnyH_take (i := 16) (oi := { dst := some 101, op := Go.Op.move (Go.Operand.tmp 100), type := 4, pos := "outright.go:38", after := #[{ on := 15, ground := Go.Ground.data }, { on := 9, ground := Go.Ground.chain }], guard := none }) (v := ?_) rfl (by kernel_rfl) (by kernel_rfl) (by kernel_rfl) (fun _ _ _ h => h) (Or.inl ⟨by rfl, ?_⟩) (by assumption) ?_
      rotate_left 1
      · intro w' hSw; (go_simp <;> (with_reducible rfl))
      (try simp only [Act.put, List.setIfInBounds_toArray, List.set_cons_zero, List.set_cons_succ])
      refine wpAnyH_take (i := 17) (oi := { dst := some 102, op := Go.Op.load 37 (Go.Operand.tmp 3), type := 37, pos := "outright.go:38", after := #[{ on := 16, ground := Go.Ground.guard }], guard := some (16, true) }) (v := .agg #[.int .u8 x.pr, .int .u32 x.sr, .int .u32 x.ds, .int .u16 x.sp, .int .u16 x.dp]) rfl (by kernel_rfl) (by kernel_rfl) (by kernel_rfl) (fun _ _ _ h => h) (Or.inl ⟨by rfl, fun w' hSw => exec_row 37 (.tmp 3) rfl z _ _ _ _ (hSw.1) rfl Try.underlying37 rfl (by kernel_rfl)⟩) (by assumption) ?_
      (try simp only [Act.put, List.setIfInBounds_toArray, List.set_cons_zero, List.set_cons_succ])
      refine wpAnyH_take (i := 19) (oi := { dst := some 104, op := Go.Op.load 37 (Go.Operand.tmp 3), type := 37, pos := "outright.go:38", after := #[{ on := 16, ground := Go.Ground.guard }], guard := some (16, true) }) (v := .agg #[.int .u8 x.pr, .int .u32 x.sr, .int .u32 x.ds, .int .u16 x.sp, .int .u16 x.dp]) rfl (by kernel_rfl) (by kernel_rfl) (by kernel_rfl) (fun _ _ _ h => h) (Or.inl ⟨by rfl, fun w' hSw => exec_row 37 (.tmp 3) rfl z _ _ _ _ (hSw.1) rfl Try.underlying37 rfl (by kernel_rfl)⟩) (by assumption) ?_
      (try simp only [Act.put, List.setIfInBounds_toArray, List.set_cons_zero, List.set_cons_succ])
      refine wpAnyH_ready (rs := [18]) (by kernel_rfl) (by simp) ?_
      refine AllReadyH.cons (o := { dst := some 103, op := Go.Op.call { callee := Go.Callee.value (Go.Operand.func 13), args := #[Go.Operand.tmp 102], argTypes := #[37] }, type := 4, pos := "outright.go:38", after := #[{ on := 17, ground := Go.Ground.data }, { on := 16, ground := Go.Ground.chain }, { on := 16, ground := Go.Ground.guard }], guard := some (16, true) }) rfl (fun K hK => ?_) AllReadyH.nil
      go_simp
      (refine (none_any x _ nb Hnb.out).mono ?_; rintro e v18 ⟨rfl, hb⟩; have HC18 := Lib.hid (below_trans HC9.out hb); clear hb)
      refine hK.out _ _ ?_ (fun hHeld => ?_)
      · exact HS3.out _ HC18.out
      clear hK K
      (try simp only [Act.put, List.setIfInBounds_toArray, List.set_cons_zero, List.set_cons_succ])
      refine wpAnyH_ready (rs := [20]) (by kernel_rfl) (by simp) ?_
      refine AllReadyH.cons (o := { dst := some 105, op := Go.Op.call { callee := Go.Callee.value (Go.Operand.func 9), args := #[Go.Operand.tmp 104], argTypes := #[37] }, type := 37, pos := "outright.go:38", after := #[{ on := 19, ground := Go.Ground.data }, { on := 18, ground := Go.Ground.chain }, { on := 16, ground := Go.Ground.guard }], guard := some (16, true) }) rfl (fun K hK => ?_) AllReadyH.nil
      go_simp
      (refine (rev_any x _).mono ?_; rw [Hr.out]; rintro e v20 ⟨rfl, hb⟩; have HC20 := Lib.hid (below_trans HC18.out hb); clear hb)
      refine hK.out _ _ ?_ (fun hHeld => ?_)
      · exact HS3.out _ HC20.out
      clear hK K
      (try simp only [Act.put, List.setIfInBounds_toArray, List.set_cons_zero, List.set_cons_succ])
      refine wpAnyH_ready (rs := [21]) (by kernel_rfl) (by simp) ?_
      refine AllReadyH.cons (o := { dst := some 106, op := Go.Op.call { callee := Go.Callee.value (Go.Operand.func 13), args := #[Go.Operand.tmp 105], argTypes := #[37] }, type := 4, pos := "outright.go:38", after := #[{ on := 20, ground := Go.Ground.data }, { on := 20, ground := Go.Ground.chain }, { on := 16, ground := Go.Ground.guard }], guard := some (16, true) }) rfl (fun K hK => ?_) AllReadyH.nil
      go_simp
      (refine (none_any r _ nb Hnr.out).mono ?_; rintro e v21 ⟨rfl, hb⟩; have HC21 := Lib.hid (below_trans HC20.out hb); clear hb)
      refine hK.out _ _ ?_ (fun hHeld => ?_)
      · exact HS3.out _ HC21.out
      clear hK K
      (try simp only [Act.put, List.setIfInBounds_toArray, List.set_cons_zero, List.set_cons_succ])
      refine wpAnyH_take (i := 22) (oi := { dst := some 107, op := Go.Op.binOp Go.BinOp.eql 4 (Go.Operand.tmp 103) (Go.Operand.tmp 106) 4, type := 4, pos := "outright.go:38", after := #[{ on := 18, ground := Go.Ground.data }, { on := 21, ground := Go.Ground.data }, { on := 16, ground := Go.Ground.guard }], guard := some (16, true) }) (v := ?_) rfl (by kernel_rfl) (by kernel_rfl) (by kernel_rfl) (fun _ _ _ h => h) (Or.inl ⟨by rfl, ?_⟩) (by assumption) ?_
      rotate_left 1
      · intro w' hSw; (go_simp <;> (with_reducible rfl))
      (try simp only [Act.put, List.setIfInBounds_toArray, List.set_cons_zero, List.set_cons_succ])
      refine wpAnyH_take (i := 23) (oi := { dst := some 108, op := Go.Op.pick (Go.Operand.tmp 101) (Go.Operand.tmp 107) (Go.Operand.const (Go.Value.bool false)), type := 4, pos := "outright.go:38", after := #[{ on := 16, ground := Go.Ground.data }, { on := 22, ground := Go.Ground.data }], guard := none }) (v := ?_) rfl (by kernel_rfl) (by kernel_rfl) (by kernel_rfl) (fun _ _ _ h => h) (Or.inl ⟨by rfl, ?_⟩) (by assumption) ?_
      rotate_left 1
      · intro w' hSw; (go_simp <;> (with_reducible rfl))
      (try simp only [Act.put, List.setIfInBounds_toArray, List.set_cons_zero, List.set_cons_succ])
      refine wpAnyH_take (i := 24) (oi := { dst := some 109, op := Go.Op.move (Go.Operand.tmp 108), type := 4, pos := "outright.go:38", after := #[{ on := 23, ground := Go.Ground.data }, { on := 21, ground := Go.Ground.chain }], guard := none }) (v := ?_) rfl (by kernel_rfl) (by kernel_rfl) (by kernel_rfl) (fun _ _ _ h => h) (Or.inl ⟨by rfl, ?_⟩) (by assumption) ?_
      rotate_left 1
      · intro w' hSw; (go_simp <;> (with_reducible rfl))
      (try simp only [Act.put, List.setIfInBounds_toArray, List.set_cons_zero, List.set_cons_succ])
      refine wpAnyH_ready (rs := [25]) (by kernel_rfl) (by simp) ?_
      refine AllReadyH.cons (o := { dst := some 110, op := Go.Op.call { callee := Go.Callee.value (Go.Operand.func 16), args := #[], argTypes := #[] }, type := 4, pos := "outright.go:38", after := #[{ on := 24, ground := Go.Ground.chain }, { on := 24, ground := Go.Ground.guard }], guard := some (24, true) }) rfl (fun K hK => ?_) AllReadyH.nil
      go_simp
      (refine (tupwake_any _).mono ?_; rintro e v25 ⟨rfl, hb⟩; have HC25 := Lib.hid (below_trans HC21.out hb); clear hb)
      refine hK.out _ _ ?_ (fun hHeld => ?_)
      · exact HS3.out _ HC25.out
      clear hK K
      (try simp only [Act.put, List.setIfInBounds_toArray, List.set_cons_zero, List.set_cons_succ])
      refine wpAnyH_take (i := 26) (oi := { dst := some 111, op := Go.Op.pick (Go.Operand.tmp 109) (Go.Operand.tmp 110) (Go.Operand.const (Go.Value.bool false)), type := 4, pos := "outright.go:38", after := #[{ on := 24, ground := Go.Ground.data }, { on := 25, ground := Go.Ground.data }], guard := none }) (v := ?_) rfl (by kernel_rfl) (by kernel_rfl) (by kernel_rfl) (fun _ _ _ h => h) (Or.inl ⟨by rfl, ?_⟩) (by assumption) ?_
      rotate_left 1
      · intro w' hSw; (go_simp <;> (with_reducible rfl))
      (try simp only [Act.put, List.setIfInBounds_toArray, List.set_cons_zero, List.set_cons_succ])
      refine wpAnyH_take (i := 27) (oi := { dst := some 6, op := Go.Op.assign (Go.Operand.tmp 111), type := 4, pos := "outright.go:38", after := #[{ on := 26, ground := Go.Ground.data }, { on := 25, ground := Go.Ground.chain }, { on := 0, ground := Go.Ground.phase }, { on := 1, ground := Go.Ground.phase }, { on := 2, ground := Go.Ground.phase }, { on := 3, ground := Go.Ground.phase }, { on := 4, ground := Go.Ground.phase }, { on := 5, ground := Go.Ground.phase }, { on := 6, ground := Go.Ground.phase }, { on := 7, ground := Go.Ground.phase }, { on := 8, ground := Go.Ground.phase }, { on := 9, ground := Go.Ground.phase }, { on := 10, ground := Go.Ground.phase }, { on := 11, ground := Go.Ground.phase }, { on := 12, ground := Go.Ground.phase }, { on := 13, ground := Go.Ground.phase }, { on := 14, ground := Go.Ground.phase }, { on := 15, ground := Go.Ground.phase }, { on := 16, ground := Go.Ground.phase }, { on := 17, ground := Go.Ground.phase }, { on := 18, ground := Go.Ground.phase }, { on := 19, ground := Go.Ground.phase }, { on := 20, ground := Go.Ground.phase }, { on := 21, ground := Go.Ground.phase }, { on := 22, ground := Go.Ground.phase }, { on := 23, ground := Go.Ground.phase }, { on := 24, ground := Go.Ground.phase }, { on := 25, ground := Go.Ground.phase }, { on := 26, ground := Go.Ground.phase }], guard := none }) (v := ?_) rfl (by kernel_rfl) (by kernel_rfl) (by kernel_rfl) (fun _ _ _ h => h) (Or.inl ⟨by rfl, ?_⟩) (by assumption) ?_
      rotate_left 1
      · intro w' hSw; (go_simp <;> (with_reducible rfl))
      (try simp only [Act.put, List.setIfInBounds_toArray, List.set_cons_zero, List.set_cons_succ])
      refine wpAnyH_done (by kernel_rfl) ?_ _
      clear hHeld
      go_wp2_with fail
      go_ret
      exact ⟨rfl, below_trans HB6a.out (below_trans HBc.out HC25.out)⟩
theorem own : ownKnob Try.prog.godebug = none := by kernel_rfl
theorem laidOut : laidOutB Try.prog = true := by kernel_rfl

set_option maxRecDepth 100000 in
theorem lifted (os : Os) (started : os.Started) (H : Type) (enc : TypeId × Value → H) :
    ReturnsInHanded {} Try.checked os 5 .any (Rows.tupleOrderSpec.pre6 enc Try.prog Try.f5 Rows.tupleOrderRow.domain false) (Rows.tupleOrderSpec.post enc Try.prog Try.f5 false true false false) := by
  refine returnsInHanded_of_change (C := Try.checked) own started (by kernel_rfl) Try.func5
    (ChangeSpec.witness6 (enc := enc) (C := Try.checked) false ⟨#[], #[(.agg #[.int .u8 0, .int .u32 0, .int .u32 0, .int .u16 0, .int .u16 0]), (.agg #[.int .u8 0, .int .u32 0, .int .u32 0, .int .u16 0, .int .u16 0]), (.agg #[.int .u8 0, .int .u32 0, .int .u32 0, .int .u16 0, .int .u16 0])], []⟩ 8 (by kernel_rfl) (by kernel_rfl) (by kernel_rfl) (by kernel_rfl)) ?_
  intro W base args ds gs before hval0 hW hcnd _
  have hval : ∀ (j : Nat) t v, Try.f5.params[j]? = some t → args[j]? = some v → Value.okWide Try.prog W .any base t v := hval0
  have hW' := hW
  obtain ⟨p, q, hA0, hV, rfl, hfz, hnd⟩ := hW
  have hA : DataW.TrodAll enc Try.prog W 0 (fun _ => true) true Try.f5.params.toList args.toList ds p := hA0
  rw [Try.params5] at hA hval
  obtain ⟨v0, vs0, d0, ds0, p0, q0, hargs, rfl, rfl, h0, r0⟩ := trodAll_cons hA
  obtain ⟨v1, vs1, d1, ds1, p1, q1, rfl, rfl, rfl, h1, r1⟩ := trodAll_cons r0
  obtain ⟨v2, vs2, d2, ds2, p2, q2, rfl, rfl, rfl, h2, r2⟩ := trodAll_cons r1
  obtain ⟨rfl, rfl, rfl⟩ := trodAll_nil r2
  obtain rfl : args = #[v0, v1, v2] := by cases args; simp_all
  obtain ⟨rfl, rfl⟩ := trodVars_none hV
  have k0 := tu_open (hval 0 37 v0 rfl rfl) h0
  have lt0 : ∀ x ∈ p0, x.block < W.heap.size := by obtain ⟨m, hm⟩ := h0; exact DataW.trod_lt m _ _ _ hm
  have k1 := tu_open (hval 1 37 v1 rfl rfl) h1
  have lt1 : ∀ x ∈ p1, x.block < W.heap.size := by obtain ⟨m, hm⟩ := h1; exact DataW.trod_lt m _ _ _ hm
  have k2 := tu_open (hval 2 37 v2 rfl rfl) h2
  have lt2 : ∀ x ∈ p2, x.block < W.heap.size := by obtain ⟨m, hm⟩ := h2; exact DataW.trod_lt m _ _ _ hm
  clear hA0 hval0
  refine (walk W v0 k0 v1 k1 v2 k2).mono fun e W' ⟨he, bel⟩ => ?_
  subst he
  exact ⟨_, rfl, _, _, _, [], _, [], hW', trodAll_mk1 (shut_bool Try.underlying4 _), (trodAll_cons_mk (Below.trod laidOut (by kernel_rfl) (of_decide_eq_true (by kernel_rfl)) h0 bel lt0) (trodAll_cons_mk (Below.trod laidOut (by kernel_rfl) (of_decide_eq_true (by kernel_rfl)) h1 bel lt1) (trodAll_cons_mk (Below.trod laidOut (by kernel_rfl) (of_decide_eq_true (by kernel_rfl)) h2 bel lt2) trodAll_mk0))), rfl, bel.frame _, fun h => by cases h⟩

theorem over : Rows.tupleOrderRow.holds Try.pinned (OpenSpec.ofChange Rows.tupleOrderSpec) :=
  OpenClaim.holds_of_wide 5 Try.f5 rfl rfl rfl rfl rfl rfl rfl ⟨rfl, rfl, rfl, rfl, rfl⟩ rfl rfl rfl rfl rfl (by kernel_rfl) Try.func5 (by kernel_rfl)
    (of_decide_eq_true (by kernel_rfl)) (by unfold Func.isWrapper; first | (rw [if_pos (by decide +kernel)]; kernel_rfl) | (rw [if_neg (by decide +kernel)]; exact ⟨rfl, rfl⟩))
    (fun os started H enc _ => lifted os started H enc)

/-- The statement. -/
theorem proved : Rows.TupleOrderSaid := over
#print axioms proved
end Go.Proofs.Ythhgdmdobfjipaa.tupleOrder
