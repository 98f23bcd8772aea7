/-
  PacketPuts holds: whether packets may be, whether two are the same, and their bytes, are the document's: for any two packets (their bytes cut to 1600, their options to 20 of 60 bytes).
-/
import Derived.Test.YtkooehejdfaekaaGreatZP29
import Derived.Test.YtkooehejdfaekaaGreatZP31
import Derived.Test.YtkooehejdfaekaaGreatZP32
import Derived.Test.YtkooehejdfaekaaGreatZP27
import Derived.RegionTactic
import Derived.BigRegion
namespace Go.Proofs.YtkooehejdfaekaaGreat.packetPuts
set_option maxRecDepth 10000
open Go.ChangeShapes Go.WideShapes Go.ChangeAt Go.RowKit
set_option linter.unusedVariables false
set_option linter.unusedSimpArgs false

set_option maxHeartbeats 4000000 in
theorem walk (W : World) (v : Value) (hv : PkAt W v) (v1 : Value) (hv1 : PkAt W v1) :
    Calls Tryz.prog 3 #[v, v1] W fun e w' => e = .returned (.bool true) ∧ Below W.heap.size W w' := by
  obtain ⟨p, a, rfl, hp⟩ := hv
  obtain ⟨p2, a2, rfl, hp2⟩ := hv1
  obtain ⟨z, hz⟩ : ∃ z, W.heap.size = z := ⟨_, rfl⟩
  obtain ⟨w0, ew⟩ : ∃ w0, (W.alloc (.cells #[.int .u8 p.h.to, .int .u16 p.h.id, .bool p.h.df, .int .u8 p.h.tt, .int .u8 p.h.pr, .int .u32 p.h.sr, .int .u32 p.h.ds, .slice a.AH a.nH a.cH, .int .u16 p.s.sp, .int .u16 p.s.dp, .int .u32 p.s.sq, .int .u32 p.s.ak, .int .u8 p.s.fl, .int .u16 p.s.wn, .int .u16 p.s.ug, .slice a.AO a.nO a.cO, .slice a.AD a.nD a.cD, .int .u16 p.u.sp, .int .u16 p.u.dp, .slice a.AU a.nU a.cU, .int .u8 p.m.ty, .int .u8 p.m.cd, .int .u32 p.m.rs, .slice a.AM a.nM a.cM] 35)).alloc (.cells #[.int .u8 p2.h.to, .int .u16 p2.h.id, .bool p2.h.df, .int .u8 p2.h.tt, .int .u8 p2.h.pr, .int .u32 p2.h.sr, .int .u32 p2.h.ds, .slice a2.AH a2.nH a2.cH, .int .u16 p2.s.sp, .int .u16 p2.s.dp, .int .u32 p2.s.sq, .int .u32 p2.s.ak, .int .u8 p2.s.fl, .int .u16 p2.s.wn, .int .u16 p2.s.ug, .slice a2.AO a2.nO a2.cO, .slice a2.AD a2.nD a2.cD, .int .u16 p2.u.sp, .int .u16 p2.u.dp, .slice a2.AU a2.nU a2.cU, .int .u8 p2.m.ty, .int .u8 p2.m.cd, .int .u32 p2.m.rs, .slice a2.AM a2.nM a2.cM] 35) = w0 := ⟨_, rfl⟩
  have hb0 : Below W.heap.size W w0 := by rw [← ew]; exact ((Below.refl _ _).alloc (Nat.le_refl _) _).alloc (by simp) _
  have hk0 : w0.heap[z]? = some (.cells #[.int .u8 p.h.to, .int .u16 p.h.id, .bool p.h.df, .int .u8 p.h.tt, .int .u8 p.h.pr, .int .u32 p.h.sr, .int .u32 p.h.ds, .slice a.AH a.nH a.cH, .int .u16 p.s.sp, .int .u16 p.s.dp, .int .u32 p.s.sq, .int .u32 p.s.ak, .int .u8 p.s.fl, .int .u16 p.s.wn, .int .u16 p.s.ug, .slice a.AO a.nO a.cO, .slice a.AD a.nD a.cD, .int .u16 p.u.sp, .int .u16 p.u.dp, .slice a.AU a.nU a.cU, .int .u8 p.m.ty, .int .u8 p.m.cd, .int .u32 p.m.rs, .slice a.AM a.nM a.cM] 35 (0, 0)) := by rw [← ew, Below.heap_alloc _ _ _ (by simp [hz]), ← hz]; exact heap_alloc_new W _
  have hk1 : w0.heap[z + 1]? = some (.cells #[.int .u8 p2.h.to, .int .u16 p2.h.id, .bool p2.h.df, .int .u8 p2.h.tt, .int .u8 p2.h.pr, .int .u32 p2.h.sr, .int .u32 p2.h.ds, .slice a2.AH a2.nH a2.cH, .int .u16 p2.s.sp, .int .u16 p2.s.dp, .int .u32 p2.s.sq, .int .u32 p2.s.ak, .int .u8 p2.s.fl, .int .u16 p2.s.wn, .int .u16 p2.s.ug, .slice a2.AO a2.nO a2.cO, .slice a2.AD a2.nD a2.cD, .int .u16 p2.u.sp, .int .u16 p2.u.dp, .slice a2.AU a2.nU a2.cU, .int .u8 p2.m.ty, .int .u8 p2.m.cd, .int .u32 p2.m.rs, .slice a2.AM a2.nM a2.cM] 35 (0, 0)) := by
    have := heap_alloc_new (W.alloc (.cells #[.int .u8 p.h.to, .int .u16 p.h.id, .bool p.h.df, .int .u8 p.h.tt, .int .u8 p.h.pr, .int .u32 p.h.sr, .int .u32 p.h.ds, .slice a.AH a.nH a.cH, .int .u16 p.s.sp, .int .u16 p.s.dp, .int .u32 p.s.sq, .int .u32 p.s.ak, .int .u8 p.s.fl, .int .u16 p.s.wn, .int .u16 p.s.ug, .slice a.AO a.nO a.cO, .slice a.AD a.nD a.cD, .int .u16 p.u.sp, .int .u16 p.u.dp, .slice a.AU a.nU a.cU, .int .u8 p.m.ty, .int .u8 p.m.cd, .int .u32 p.m.rs, .slice a.AM a.nM a.cM] 35)) (.cells #[.int .u8 p2.h.to, .int .u16 p2.h.id, .bool p2.h.df, .int .u8 p2.h.tt, .int .u8 p2.h.pr, .int .u32 p2.h.sr, .int .u32 p2.h.ds, .slice a2.AH a2.nH a2.cH, .int .u16 p2.s.sp, .int .u16 p2.s.dp, .int .u32 p2.s.sq, .int .u32 p2.s.ak, .int .u8 p2.s.fl, .int .u16 p2.s.wn, .int .u16 p2.s.ug, .slice a2.AO a2.nO a2.cO, .slice a2.AD a2.nD a2.cD, .int .u16 p2.u.sp, .int .u16 p2.u.dp, .slice a2.AU a2.nU a2.cU, .int .u8 p2.m.ty, .int .u8 p2.m.cd, .int .u32 p2.m.rs, .slice a2.AM a2.nM a2.cM] 35)
    rw [show (W.alloc (.cells #[.int .u8 p.h.to, .int .u16 p.h.id, .bool p.h.df, .int .u8 p.h.tt, .int .u8 p.h.pr, .int .u32 p.h.sr, .int .u32 p.h.ds, .slice a.AH a.nH a.cH, .int .u16 p.s.sp, .int .u16 p.s.dp, .int .u32 p.s.sq, .int .u32 p.s.ak, .int .u8 p.s.fl, .int .u16 p.s.wn, .int .u16 p.s.ug, .slice a.AO a.nO a.cO, .slice a.AD a.nD a.cD, .int .u16 p.u.sp, .int .u16 p.u.dp, .slice a.AU a.nU a.cU, .int .u8 p.m.ty, .int .u8 p.m.cd, .int .u32 p.m.rs, .slice a.AM a.nM a.cM] 35)).heap.size = z + 1 by simp [hz], ew] at this
    exact this
  have HS := Lib.hid (show ∀ w', Below w0.heap.size w0 w' → (w'.heap[z]? = some (.cells #[.int .u8 p.h.to, .int .u16 p.h.id, .bool p.h.df, .int .u8 p.h.tt, .int .u8 p.h.pr, .int .u32 p.h.sr, .int .u32 p.h.ds, .slice a.AH a.nH a.cH, .int .u16 p.s.sp, .int .u16 p.s.dp, .int .u32 p.s.sq, .int .u32 p.s.ak, .int .u8 p.s.fl, .int .u16 p.s.wn, .int .u16 p.s.ug, .slice a.AO a.nO a.cO, .slice a.AD a.nD a.cD, .int .u16 p.u.sp, .int .u16 p.u.dp, .slice a.AU a.nU a.cU, .int .u8 p.m.ty, .int .u8 p.m.cd, .int .u32 p.m.rs, .slice a.AM a.nM a.cM] 35 (0, 0)) ∧ w'.heap[z + 1]? = some (.cells #[.int .u8 p2.h.to, .int .u16 p2.h.id, .bool p2.h.df, .int .u8 p2.h.tt, .int .u8 p2.h.pr, .int .u32 p2.h.sr, .int .u32 p2.h.ds, .slice a2.AH a2.nH a2.cH, .int .u16 p2.s.sp, .int .u16 p2.s.dp, .int .u32 p2.s.sq, .int .u32 p2.s.ak, .int .u8 p2.s.fl, .int .u16 p2.s.wn, .int .u16 p2.s.ug, .slice a2.AO a2.nO a2.cO, .slice a2.AD a2.nD a2.cD, .int .u16 p2.u.sp, .int .u16 p2.u.dp, .slice a2.AU a2.nU a2.cU, .int .u8 p2.m.ty, .int .u8 p2.m.cd, .int .u32 p2.m.rs, .slice a2.AM a2.nM a2.cM] 35 (0, 0))) ∧ PkRd w' p a ∧ PkRd w' p2 a2 from fun w' hb => ⟨⟨blk_on hk0 hb, blk_on hk1 hb⟩, (hp.below hb0).below hb, (hp2.below hb0).below hb⟩)
  have Hoff := Lib.hid (show a.Off (fun k => k = z ∨ k = z + 1) ∧ a2.Off (fun k => k = z ∨ k = z + 1) from ⟨hp.off.sub (fun g hg => by omega), hp2.off.sub (fun g hg => by omega)⟩)
  have Hzl := Lib.hid (show z + 1 < w0.heap.size from lt_of_block hk1)
  have Hb0 := Lib.hid hb0
  have Ew := Lib.hid ew
  have Hz := Lib.hid hz
  clear hz ew hb0 hk0 hk1 hp hp2
  go_enter Tryz.func3, Tryz.ntmps3
  try simp only []
  repeat (first | go_values | go_skip | go_guarded | go_step | go_upon | go_back)
  rw [Ew.out]
  try rw [Hz.out]
  have HBd := Lib.hid (Below.drew (Below.refl w0.heap.size w0))
  refine wp_region_heldT (S := fun w' => (w'.heap[z]? = some (.cells #[.int .u8 p.h.to, .int .u16 p.h.id, .bool p.h.df, .int .u8 p.h.tt, .int .u8 p.h.pr, .int .u32 p.h.sr, .int .u32 p.h.ds, .slice a.AH a.nH a.cH, .int .u16 p.s.sp, .int .u16 p.s.dp, .int .u32 p.s.sq, .int .u32 p.s.ak, .int .u8 p.s.fl, .int .u16 p.s.wn, .int .u16 p.s.ug, .slice a.AO a.nO a.cO, .slice a.AD a.nD a.cD, .int .u16 p.u.sp, .int .u16 p.u.dp, .slice a.AU a.nU a.cU, .int .u8 p.m.ty, .int .u8 p.m.cd, .int .u32 p.m.rs, .slice a.AM a.nM a.cM] 35 (0, 0)) ∧ w'.heap[z + 1]? = some (.cells #[.int .u8 p2.h.to, .int .u16 p2.h.id, .bool p2.h.df, .int .u8 p2.h.tt, .int .u8 p2.h.pr, .int .u32 p2.h.sr, .int .u32 p2.h.ds, .slice a2.AH a2.nH a2.cH, .int .u16 p2.s.sp, .int .u16 p2.s.dp, .int .u32 p2.s.sq, .int .u32 p2.s.ak, .int .u8 p2.s.fl, .int .u16 p2.s.wn, .int .u16 p2.s.ug, .slice a2.AO a2.nO a2.cO, .slice a2.AD a2.nD a2.cD, .int .u16 p2.u.sp, .int .u16 p2.u.dp, .slice a2.AU a2.nU a2.cU, .int .u8 p2.m.ty, .int .u8 p2.m.cd, .int .u32 p2.m.rs, .slice a2.AM a2.nM a2.cM] 35 (0, 0)))) [4, 5] (by kernel_rfl) (HS.out _ HBd.out).1 (fun hHeld => ?_)
  obtain ⟨wd, ewd⟩ : ∃ wd, w0.drew = wd := ⟨_, rfl⟩
  rw [ewd] at HBd hHeld ⊢
  clear ewd Ew
  refine anyHT_take (i := 0) (oi := { dst := some 9, op := Go.Op.load 35 (Go.Operand.tmp 2), type := 35, pos := "law.go:40", after := #[], guard := none }) (v := .agg #[.int .u8 p.h.to, .int .u16 p.h.id, .bool p.h.df, .int .u8 p.h.tt, .int .u8 p.h.pr, .int .u32 p.h.sr, .int .u32 p.h.ds, .slice a.AH a.nH a.cH, .int .u16 p.s.sp, .int .u16 p.s.dp, .int .u32 p.s.sq, .int .u32 p.s.ak, .int .u8 p.s.fl, .int .u16 p.s.wn, .int .u16 p.s.ug, .slice a.AO a.nO a.cO, .slice a.AD a.nD a.cD, .int .u16 p.u.sp, .int .u16 p.u.dp, .slice a.AU a.nU a.cU, .int .u8 p.m.ty, .int .u8 p.m.cd, .int .u32 p.m.rs, .slice a.AM a.nM a.cM]) rfl (by kernel_rfl) (by kernel_rfl) (by kernel_rfl) (by kernel_rfl) (by kernel_rfl) (by kernel_rfl) (fun _ _ _ h => h) (Or.inl ⟨by rfl, fun w' hSw => exec_row 35 (.tmp 2) rfl (z) _ _ _ _ hSw.1 rfl Tryz.underlying35 rfl (by kernel_rfl)⟩) (by assumption) ?_
  (try simp only [Act.put, List.setIfInBounds_toArray, List.set_cons_zero, List.set_cons_succ])
  refine anyHT_take (i := 2) (oi := { dst := some 11, op := Go.Op.load 35 (Go.Operand.tmp 3), type := 35, pos := "law.go:40", after := #[], guard := none }) (v := .agg #[.int .u8 p2.h.to, .int .u16 p2.h.id, .bool p2.h.df, .int .u8 p2.h.tt, .int .u8 p2.h.pr, .int .u32 p2.h.sr, .int .u32 p2.h.ds, .slice a2.AH a2.nH a2.cH, .int .u16 p2.s.sp, .int .u16 p2.s.dp, .int .u32 p2.s.sq, .int .u32 p2.s.ak, .int .u8 p2.s.fl, .int .u16 p2.s.wn, .int .u16 p2.s.ug, .slice a2.AO a2.nO a2.cO, .slice a2.AD a2.nD a2.cD, .int .u16 p2.u.sp, .int .u16 p2.u.dp, .slice a2.AU a2.nU a2.cU, .int .u8 p2.m.ty, .int .u8 p2.m.cd, .int .u32 p2.m.rs, .slice a2.AM a2.nM a2.cM]) rfl (by kernel_rfl) (by kernel_rfl) (by kernel_rfl) (by kernel_rfl) (by kernel_rfl) (by kernel_rfl) (fun _ _ _ h => h) (Or.inl ⟨by rfl, fun w' hSw => exec_row 35 (.tmp 3) rfl (z + 1) _ _ _ _ hSw.2 rfl Tryz.underlying35 rfl (by kernel_rfl)⟩) (by assumption) ?_
  (try simp only [Act.put, List.setIfInBounds_toArray, List.set_cons_zero, List.set_cons_succ])
  refine anyHT_one (i := 1) (o := { dst := some 10, op := Go.Op.call { callee := Go.Callee.value (Go.Operand.func 5), args := #[Go.Operand.tmp 9], argTypes := #[35] }, type := 35, pos := "law.go:40", after := #[{ on := 0, ground := Go.Ground.data }], guard := none }) (by kernel_rfl) rfl (fun K hK => ?_)
  go_simp
  (refine (few9_any p a _ (HS.out _ HBd.out).2.1).mono ?_; rintro e w1 ⟨q, b, rfl, hq, hp1, hof1, hb1⟩; have HB1 := Lib.hid (below_trans HBd.out hb1); have HQ := Lib.hid hq; have HP1 := Lib.hid hp1; have HO1 := Lib.hid (hof1 _ Hoff.out.1 (fun g hg => by have := HBd.out.size; have := Hzl.out; omega)); clear hb1 hq hp1 hof1)
  refine hK.out _ _ ?_ (fun hHeld => ?_)
  · exact (HS.out _ HB1.out).1
  clear hK K
  (try simp only [Act.put, List.setIfInBounds_toArray, List.set_cons_zero, List.set_cons_succ])
  refine anyHT_one (i := 3) (o := { dst := some 12, op := Go.Op.call { callee := Go.Callee.value (Go.Operand.func 5), args := #[Go.Operand.tmp 11], argTypes := #[35] }, type := 35, pos := "law.go:40", after := #[{ on := 2, ground := Go.Ground.data }, { on := 1, ground := Go.Ground.chain }], guard := none }) (by kernel_rfl) rfl (fun K hK => ?_)
  go_simp
  (refine (few9_any p2 a2 _ (HS.out _ HB1.out).2.2).mono ?_; rintro e w2 ⟨q2, b2, rfl, hq, hp1, hof1, hb1⟩; have HB2 := Lib.hid (below_trans HB1.out hb1); have HQ2 := Lib.hid hq; have HP2 := Lib.hid hp1; have HP1 := Lib.hid (HP1.out.below hb1); have HO2 := Lib.hid (hof1 _ Hoff.out.2 (fun g hg => by have := HB1.out.size; have := Hzl.out; omega)); clear hb1 hq hp1 hof1)
  refine hK.out _ _ ?_ (fun hHeld => ?_)
  · exact (HS.out _ HB2.out).1
  clear hK K
  (try simp only [Act.put, List.setIfInBounds_toArray, List.set_cons_zero, List.set_cons_succ])
  refine anyHT_late (i := 4) (o := { dst := none, op := Go.Op.store 35 (Go.Operand.tmp 2) (Go.Operand.tmp 10), type := 0, pos := "law.go:40", after := #[{ on := 1, ground := Go.Ground.data }, { on := 3, ground := Go.Ground.chain }, { on := 0, ground := Go.Ground.phase }, { on := 1, ground := Go.Ground.phase }, { on := 2, ground := Go.Ground.textOnly Go.Departure.lateStores }, { on := 3, ground := Go.Ground.textOnly Go.Departure.lateStoresUnsure }], guard := none }) (by kernel_rfl) rfl (by kernel_rfl) (fun K hK => ?_)
  refine step_row rfl 35 (.tmp 2) (.tmp 10) rfl z _ rfl rfl 35 _ (HS.out _ HB2.out).1.1 (by kernel_rfl) rfl (by simp [Value.oneCell']) ?_
  refine hK.out _ _ ?_
  clear hK K
  (try simp only [Act.put, List.setIfInBounds_toArray, List.set_cons_zero, List.set_cons_succ])
  refine anyHT_late (i := 5) (o := { dst := none, op := Go.Op.store 35 (Go.Operand.tmp 3) (Go.Operand.tmp 12), type := 0, pos := "law.go:40", after := #[{ on := 3, ground := Go.Ground.data }, { on := 4, ground := Go.Ground.chain }, { on := 0, ground := Go.Ground.phase }, { on := 1, ground := Go.Ground.phase }, { on := 2, ground := Go.Ground.phase }, { on := 3, ground := Go.Ground.phase }, { on := 4, ground := Go.Ground.phase }], guard := none }) (by kernel_rfl) rfl (by kernel_rfl) (fun K hK => ?_)
  refine step_row rfl 35 (.tmp 3) (.tmp 12) rfl (z + 1) _ rfl rfl 35 _ ((setRow_other _ _ _ _ (by omega)).trans (HS.out _ HB2.out).1.2) (by kernel_rfl) rfl (by simp [Value.oneCell']) ?_
  refine hK.out _ _ ?_
  clear hK K
  (try simp only [Act.put, List.setIfInBounds_toArray, List.set_cons_zero, List.set_cons_succ])
  refine anyHT_done (by kernel_rfl) ?_ _
  have hbt : But (fun k => k = z ∨ k = z + 1) w2 ((w2.setRow z #[.int .u8 q.h.to, .int .u16 q.h.id, .bool q.h.df, .int .u8 q.h.tt, .int .u8 q.h.pr, .int .u32 q.h.sr, .int .u32 q.h.ds, .slice b.AH b.nH b.cH, .int .u16 q.s.sp, .int .u16 q.s.dp, .int .u32 q.s.sq, .int .u32 q.s.ak, .int .u8 q.s.fl, .int .u16 q.s.wn, .int .u16 q.s.ug, .slice b.AO b.nO b.cO, .slice b.AD b.nD b.cD, .int .u16 q.u.sp, .int .u16 q.u.dp, .slice b.AU b.nU b.cU, .int .u8 q.m.ty, .int .u8 q.m.cd, .int .u32 q.m.rs, .slice b.AM b.nM b.cM]).setRow (z + 1) #[.int .u8 q2.h.to, .int .u16 q2.h.id, .bool q2.h.df, .int .u8 q2.h.tt, .int .u8 q2.h.pr, .int .u32 q2.h.sr, .int .u32 q2.h.ds, .slice b2.AH b2.nH b2.cH, .int .u16 q2.s.sp, .int .u16 q2.s.dp, .int .u32 q2.s.sq, .int .u32 q2.s.ak, .int .u8 q2.s.fl, .int .u16 q2.s.wn, .int .u16 q2.s.ug, .slice b2.AO b2.nO b2.cO, .slice b2.AD b2.nD b2.cD, .int .u16 q2.u.sp, .int .u16 q2.u.dp, .slice b2.AU b2.nU b2.cU, .int .u8 q2.m.ty, .int .u8 q2.m.cd, .int .u32 q2.m.rs, .slice b2.AM b2.nM b2.cM]) := ((row_but w2 z #[.int .u8 q.h.to, .int .u16 q.h.id, .bool q.h.df, .int .u8 q.h.tt, .int .u8 q.h.pr, .int .u32 q.h.sr, .int .u32 q.h.ds, .slice b.AH b.nH b.cH, .int .u16 q.s.sp, .int .u16 q.s.dp, .int .u32 q.s.sq, .int .u32 q.s.ak, .int .u8 q.s.fl, .int .u16 q.s.wn, .int .u16 q.s.ug, .slice b.AO b.nO b.cO, .slice b.AD b.nD b.cD, .int .u16 q.u.sp, .int .u16 q.u.dp, .slice b.AU b.nU b.cU, .int .u8 q.m.ty, .int .u8 q.m.cd, .int .u32 q.m.rs, .slice b.AM b.nM b.cM]).mono (fun k _ hk => .inl hk)).trans ((row_but (w2.setRow z #[.int .u8 q.h.to, .int .u16 q.h.id, .bool q.h.df, .int .u8 q.h.tt, .int .u8 q.h.pr, .int .u32 q.h.sr, .int .u32 q.h.ds, .slice b.AH b.nH b.cH, .int .u16 q.s.sp, .int .u16 q.s.dp, .int .u32 q.s.sq, .int .u32 q.s.ak, .int .u8 q.s.fl, .int .u16 q.s.wn, .int .u16 q.s.ug, .slice b.AO b.nO b.cO, .slice b.AD b.nD b.cD, .int .u16 q.u.sp, .int .u16 q.u.dp, .slice b.AU b.nU b.cU, .int .u8 q.m.ty, .int .u8 q.m.cd, .int .u32 q.m.rs, .slice b.AM b.nM b.cM]) (z + 1) #[.int .u8 q2.h.to, .int .u16 q2.h.id, .bool q2.h.df, .int .u8 q2.h.tt, .int .u8 q2.h.pr, .int .u32 q2.h.sr, .int .u32 q2.h.ds, .slice b2.AH b2.nH b2.cH, .int .u16 q2.s.sp, .int .u16 q2.s.dp, .int .u32 q2.s.sq, .int .u32 q2.s.ak, .int .u8 q2.s.fl, .int .u16 q2.s.wn, .int .u16 q2.s.ug, .slice b2.AO b2.nO b2.cO, .slice b2.AD b2.nD b2.cD, .int .u16 q2.u.sp, .int .u16 q2.u.dp, .slice b2.AU b2.nU b2.cU, .int .u8 q2.m.ty, .int .u8 q2.m.cd, .int .u32 q2.m.rs, .slice b2.AM b2.nM b2.cM]).mono (fun k _ hk => .inr hk))
  have hk1 := (setRow_other (w2.setRow z #[.int .u8 q.h.to, .int .u16 q.h.id, .bool q.h.df, .int .u8 q.h.tt, .int .u8 q.h.pr, .int .u32 q.h.sr, .int .u32 q.h.ds, .slice b.AH b.nH b.cH, .int .u16 q.s.sp, .int .u16 q.s.dp, .int .u32 q.s.sq, .int .u32 q.s.ak, .int .u8 q.s.fl, .int .u16 q.s.wn, .int .u16 q.s.ug, .slice b.AO b.nO b.cO, .slice b.AD b.nD b.cD, .int .u16 q.u.sp, .int .u16 q.u.dp, .slice b.AU b.nU b.cU, .int .u8 q.m.ty, .int .u8 q.m.cd, .int .u32 q.m.rs, .slice b.AM b.nM b.cM]) (z + 1) z #[.int .u8 q2.h.to, .int .u16 q2.h.id, .bool q2.h.df, .int .u8 q2.h.tt, .int .u8 q2.h.pr, .int .u32 q2.h.sr, .int .u32 q2.h.ds, .slice b2.AH b2.nH b2.cH, .int .u16 q2.s.sp, .int .u16 q2.s.dp, .int .u32 q2.s.sq, .int .u32 q2.s.ak, .int .u8 q2.s.fl, .int .u16 q2.s.wn, .int .u16 q2.s.ug, .slice b2.AO b2.nO b2.cO, .slice b2.AD b2.nD b2.cD, .int .u16 q2.u.sp, .int .u16 q2.u.dp, .slice b2.AU b2.nU b2.cU, .int .u8 q2.m.ty, .int .u8 q2.m.cd, .int .u32 q2.m.rs, .slice b2.AM b2.nM b2.cM] (by omega)).trans (setRow_heap w2 z _ #[.int .u8 q.h.to, .int .u16 q.h.id, .bool q.h.df, .int .u8 q.h.tt, .int .u8 q.h.pr, .int .u32 q.h.sr, .int .u32 q.h.ds, .slice b.AH b.nH b.cH, .int .u16 q.s.sp, .int .u16 q.s.dp, .int .u32 q.s.sq, .int .u32 q.s.ak, .int .u8 q.s.fl, .int .u16 q.s.wn, .int .u16 q.s.ug, .slice b.AO b.nO b.cO, .slice b.AD b.nD b.cD, .int .u16 q.u.sp, .int .u16 q.u.dp, .slice b.AU b.nU b.cU, .int .u8 q.m.ty, .int .u8 q.m.cd, .int .u32 q.m.rs, .slice b.AM b.nM b.cM] _ _ (HS.out _ HB2.out).1.1)
  have hk2 := setRow_heap (w2.setRow z #[.int .u8 q.h.to, .int .u16 q.h.id, .bool q.h.df, .int .u8 q.h.tt, .int .u8 q.h.pr, .int .u32 q.h.sr, .int .u32 q.h.ds, .slice b.AH b.nH b.cH, .int .u16 q.s.sp, .int .u16 q.s.dp, .int .u32 q.s.sq, .int .u32 q.s.ak, .int .u8 q.s.fl, .int .u16 q.s.wn, .int .u16 q.s.ug, .slice b.AO b.nO b.cO, .slice b.AD b.nD b.cD, .int .u16 q.u.sp, .int .u16 q.u.dp, .slice b.AU b.nU b.cU, .int .u8 q.m.ty, .int .u8 q.m.cd, .int .u32 q.m.rs, .slice b.AM b.nM b.cM]) (z + 1) _ #[.int .u8 q2.h.to, .int .u16 q2.h.id, .bool q2.h.df, .int .u8 q2.h.tt, .int .u8 q2.h.pr, .int .u32 q2.h.sr, .int .u32 q2.h.ds, .slice b2.AH b2.nH b2.cH, .int .u16 q2.s.sp, .int .u16 q2.s.dp, .int .u32 q2.s.sq, .int .u32 q2.s.ak, .int .u8 q2.s.fl, .int .u16 q2.s.wn, .int .u16 q2.s.ug, .slice b2.AO b2.nO b2.cO, .slice b2.AD b2.nD b2.cD, .int .u16 q2.u.sp, .int .u16 q2.u.dp, .slice b2.AU b2.nU b2.cU, .int .u8 q2.m.ty, .int .u8 q2.m.cd, .int .u32 q2.m.rs, .slice b2.AM b2.nM b2.cM] _ _ ((setRow_other w2 z (z + 1) #[.int .u8 q.h.to, .int .u16 q.h.id, .bool q.h.df, .int .u8 q.h.tt, .int .u8 q.h.pr, .int .u32 q.h.sr, .int .u32 q.h.ds, .slice b.AH b.nH b.cH, .int .u16 q.s.sp, .int .u16 q.s.dp, .int .u32 q.s.sq, .int .u32 q.s.ak, .int .u8 q.s.fl, .int .u16 q.s.wn, .int .u16 q.s.ug, .slice b.AO b.nO b.cO, .slice b.AD b.nD b.cD, .int .u16 q.u.sp, .int .u16 q.u.dp, .slice b.AU b.nU b.cU, .int .u8 q.m.ty, .int .u8 q.m.cd, .int .u32 q.m.rs, .slice b.AM b.nM b.cM] (by omega)).trans (HS.out _ HB2.out).1.2)
  obtain ⟨w3, e3⟩ : ∃ v, (w2.setRow z #[.int .u8 q.h.to, .int .u16 q.h.id, .bool q.h.df, .int .u8 q.h.tt, .int .u8 q.h.pr, .int .u32 q.h.sr, .int .u32 q.h.ds, .slice b.AH b.nH b.cH, .int .u16 q.s.sp, .int .u16 q.s.dp, .int .u32 q.s.sq, .int .u32 q.s.ak, .int .u8 q.s.fl, .int .u16 q.s.wn, .int .u16 q.s.ug, .slice b.AO b.nO b.cO, .slice b.AD b.nD b.cD, .int .u16 q.u.sp, .int .u16 q.u.dp, .slice b.AU b.nU b.cU, .int .u8 q.m.ty, .int .u8 q.m.cd, .int .u32 q.m.rs, .slice b.AM b.nM b.cM]).setRow (z + 1) #[.int .u8 q2.h.to, .int .u16 q2.h.id, .bool q2.h.df, .int .u8 q2.h.tt, .int .u8 q2.h.pr, .int .u32 q2.h.sr, .int .u32 q2.h.ds, .slice b2.AH b2.nH b2.cH, .int .u16 q2.s.sp, .int .u16 q2.s.dp, .int .u32 q2.s.sq, .int .u32 q2.s.ak, .int .u8 q2.s.fl, .int .u16 q2.s.wn, .int .u16 q2.s.ug, .slice b2.AO b2.nO b2.cO, .slice b2.AD b2.nD b2.cD, .int .u16 q2.u.sp, .int .u16 q2.u.dp, .slice b2.AU b2.nU b2.cU, .int .u8 q2.m.ty, .int .u8 q2.m.cd, .int .u32 q2.m.rs, .slice b2.AM b2.nM b2.cM] = v := ⟨_, rfl⟩
  rw [e3] at hbt hk1 hk2 ⊢
  clear e3
  have hQ3 := HP1.out.but hbt HO1.out
  have hR3 := HP2.out.but hbt HO2.out
  have hB3 : Below W.heap.size W w3 := ((Hb0.out.trans (HB2.out.mono Hb0.out.size))).trans (hbt.below (B := W.heap.size) (fun k hk => by have := Hz.out; omega) (Hb0.out.trans (HB2.out.mono Hb0.out.size)).size)
  have Hsm := Lib.hid (small_of HQ.out hQ3)
  have HR := Lib.hid (show ∀ w', Below w3.heap.size w3 w' → (w'.heap[z]? = some (.cells #[.int .u8 q.h.to, .int .u16 q.h.id, .bool q.h.df, .int .u8 q.h.tt, .int .u8 q.h.pr, .int .u32 q.h.sr, .int .u32 q.h.ds, .slice b.AH b.nH b.cH, .int .u16 q.s.sp, .int .u16 q.s.dp, .int .u32 q.s.sq, .int .u32 q.s.ak, .int .u8 q.s.fl, .int .u16 q.s.wn, .int .u16 q.s.ug, .slice b.AO b.nO b.cO, .slice b.AD b.nD b.cD, .int .u16 q.u.sp, .int .u16 q.u.dp, .slice b.AU b.nU b.cU, .int .u8 q.m.ty, .int .u8 q.m.cd, .int .u32 q.m.rs, .slice b.AM b.nM b.cM] 35 (0, 0)) ∧ w'.heap[z + 1]? = some (.cells #[.int .u8 q2.h.to, .int .u16 q2.h.id, .bool q2.h.df, .int .u8 q2.h.tt, .int .u8 q2.h.pr, .int .u32 q2.h.sr, .int .u32 q2.h.ds, .slice b2.AH b2.nH b2.cH, .int .u16 q2.s.sp, .int .u16 q2.s.dp, .int .u32 q2.s.sq, .int .u32 q2.s.ak, .int .u8 q2.s.fl, .int .u16 q2.s.wn, .int .u16 q2.s.ug, .slice b2.AO b2.nO b2.cO, .slice b2.AD b2.nD b2.cD, .int .u16 q2.u.sp, .int .u16 q2.u.dp, .slice b2.AU b2.nU b2.cU, .int .u8 q2.m.ty, .int .u8 q2.m.cd, .int .u32 q2.m.rs, .slice b2.AM b2.nM b2.cM] 35 (0, 0))) ∧ PkRd w' q b ∧ PkRd w' q2 b2 from fun w' hb => ⟨⟨blk_on hk1 hb, blk_on hk2 hb⟩, hQ3.below hb, hR3.below hb⟩)
  have HB3 := Lib.hid hB3
  clear hbt hk1 hk2 hQ3 hR3 hB3 HP1 HP2 HO1 HO2 HB1 HB2 HBd HS Hoff Hb0 hHeld
  obtain ⟨x, ex⟩ : ∃ x, errPk q = x := ⟨_, rfl⟩
  obtain ⟨L, eL⟩ : ∃ x, pkB q = x := ⟨_, rfl⟩
  obtain ⟨m, em⟩ : ∃ m, L.length = m := ⟨_, rfl⟩
  obtain ⟨y, ey⟩ : ∃ x, mayP q = x := ⟨_, rfl⟩
  obtain ⟨s, es⟩ : ∃ x, pkSame q q2 = x := ⟨_, rfl⟩
  have Ex := Lib.hid ex
  have EL := Lib.hid eL
  have Em := Lib.hid em
  have Ey := Lib.hid ey
  have Es := Lib.hid es
  clear ex eL em ey es
  have HK := Lib.hid (HR.out _ (Below.refl _ _)).1.1
  try simp only []
  repeat (first | (refine wp_load_row 35 (.tmp 2) rfl z _ _ _ _ HK.out rfl Tryz.underlying35 rfl (by kernel_rfl) ?_; simp only [Act.put, List.setIfInBounds_toArray, List.set_cons_zero, List.set_cons_succ]) | go_values | go_skip | go_guarded | go_step | go_upon | go_back)
  refine (put9_any q b _ L m x (HR.out _ (Below.refl _ _)).2.1 (by have := Hsm.out.o; omega) (by have := Hsm.out.d; omega) Ex.out EL.out Em.out).mono ?_
  rintro e w4 ⟨A1, c1, rfl, hc1, hr1, hb4⟩
  have Hc1 := Lib.hid hc1
  have Hr1 := Lib.hid hr1
  have HB4 := Lib.hid hb4
  have HK4 := Lib.hid (HR.out _ hb4).1.1
  clear hc1 hr1 hb4 HK
  try simp only []
  repeat (first | (refine wp_load_row 35 (.tmp 2) rfl z _ _ _ _ HK4.out rfl Tryz.underlying35 rfl (by kernel_rfl) ?_; simp only [Act.put, List.setIfInBounds_toArray, List.set_cons_zero, List.set_cons_succ]) | go_values | go_skip | go_guarded | go_step | go_upon | go_back)
  refine (rput9_any q b _ L m x (HR.out _ HB4.out).2.1 (by have := Hsm.out.o; omega) (by have := Hsm.out.d; omega) (by have := Hsm.out.u; omega) Ex.out EL.out Em.out).mono ?_
  rintro e w5 ⟨A2, c2, rfl, hc2, hr2, hb5⟩
  have Hc2 := Lib.hid hc2
  have Hr2 := Lib.hid hr2
  have Hr1 := Lib.hid (Hr1.out.below hb5)
  have HB5 := Lib.hid (below_trans HB4.out hb5)
  clear hc2 hr2 hb5 HK4
  try simp only []
  repeat (first | go_values | go_skip | go_guarded | go_step | go_upon | go_back)
  have HBe := Lib.hid (Below.drew (Below.refl w5.heap.size w5))
  have HRd := Lib.hid (show ∀ w', Below w5.heap.size w5 w' → (w'.heap[z]? = some (.cells #[.int .u8 q.h.to, .int .u16 q.h.id, .bool q.h.df, .int .u8 q.h.tt, .int .u8 q.h.pr, .int .u32 q.h.sr, .int .u32 q.h.ds, .slice b.AH b.nH b.cH, .int .u16 q.s.sp, .int .u16 q.s.dp, .int .u32 q.s.sq, .int .u32 q.s.ak, .int .u8 q.s.fl, .int .u16 q.s.wn, .int .u16 q.s.ug, .slice b.AO b.nO b.cO, .slice b.AD b.nD b.cD, .int .u16 q.u.sp, .int .u16 q.u.dp, .slice b.AU b.nU b.cU, .int .u8 q.m.ty, .int .u8 q.m.cd, .int .u32 q.m.rs, .slice b.AM b.nM b.cM] 35 (0, 0)) ∧ w'.heap[z + 1]? = some (.cells #[.int .u8 q2.h.to, .int .u16 q2.h.id, .bool q2.h.df, .int .u8 q2.h.tt, .int .u8 q2.h.pr, .int .u32 q2.h.sr, .int .u32 q2.h.ds, .slice b2.AH b2.nH b2.cH, .int .u16 q2.s.sp, .int .u16 q2.s.dp, .int .u32 q2.s.sq, .int .u32 q2.s.ak, .int .u8 q2.s.fl, .int .u16 q2.s.wn, .int .u16 q2.s.ug, .slice b2.AO b2.nO b2.cO, .slice b2.AD b2.nD b2.cD, .int .u16 q2.u.sp, .int .u16 q2.u.dp, .slice b2.AU b2.nU b2.cU, .int .u8 q2.m.ty, .int .u8 q2.m.cd, .int .u32 q2.m.rs, .slice b2.AM b2.nM b2.cM] 35 (0, 0))) ∧ PkRd w' q b ∧ PkRd w' q2 b2 ∧ Rd w' A1 m L ∧ Rd w' A2 m L from fun w' hb => ⟨(HR.out _ (below_trans HB5.out hb)).1, (HR.out _ (below_trans HB5.out hb)).2.1, (HR.out _ (below_trans HB5.out hb)).2.2, Hr1.out.below hb, Hr2.out.below hb⟩)
  refine wp_region_held_drew (S := fun w' => (w'.heap[z]? = some (.cells #[.int .u8 q.h.to, .int .u16 q.h.id, .bool q.h.df, .int .u8 q.h.tt, .int .u8 q.h.pr, .int .u32 q.h.sr, .int .u32 q.h.ds, .slice b.AH b.nH b.cH, .int .u16 q.s.sp, .int .u16 q.s.dp, .int .u32 q.s.sq, .int .u32 q.s.ak, .int .u8 q.s.fl, .int .u16 q.s.wn, .int .u16 q.s.ug, .slice b.AO b.nO b.cO, .slice b.AD b.nD b.cD, .int .u16 q.u.sp, .int .u16 q.u.dp, .slice b.AU b.nU b.cU, .int .u8 q.m.ty, .int .u8 q.m.cd, .int .u32 q.m.rs, .slice b.AM b.nM b.cM] 35 (0, 0)) ∧ w'.heap[z + 1]? = some (.cells #[.int .u8 q2.h.to, .int .u16 q2.h.id, .bool q2.h.df, .int .u8 q2.h.tt, .int .u8 q2.h.pr, .int .u32 q2.h.sr, .int .u32 q2.h.ds, .slice b2.AH b2.nH b2.cH, .int .u16 q2.s.sp, .int .u16 q2.s.dp, .int .u32 q2.s.sq, .int .u32 q2.s.ak, .int .u8 q2.s.fl, .int .u16 q2.s.wn, .int .u16 q2.s.ug, .slice b2.AO b2.nO b2.cO, .slice b2.AD b2.nD b2.cD, .int .u16 q2.u.sp, .int .u16 q2.u.dp, .slice b2.AU b2.nU b2.cU, .int .u8 q2.m.ty, .int .u8 q2.m.cd, .int .u32 q2.m.rs, .slice b2.AM b2.nM b2.cM] 35 (0, 0)))) (by kernel_rfl) (HRd.out _ HBe.out).1 (fun hHeld => ?_)
  obtain ⟨we, ewe⟩ : ∃ we, w5.drew = we := ⟨_, rfl⟩
  rw [ewe] at HBe hHeld ⊢
  clear ewe
  refine wpAnyH_ready (rs := [0]) (by kernel_rfl) (by simp) ?_
  refine AllReadyH.cons (o := { dst := some 23, op := Go.Op.call { callee := Go.Callee.value (Go.Operand.func 8), args := #[], argTypes := #[] }, type := 4, pos := "law.go:43", after := #[], guard := none }) rfl (fun K hK => ?_) AllReadyH.nil
  go_simp
  (refine (awake9_any _).mono ?_; rintro e wf ⟨rfl, hb⟩; have Hwf := Lib.hid (below_trans HBe.out hb); clear hb)
  refine hK.out _ _ ?_ (fun hHeld => ?_)
  · exact (HRd.out _ Hwf.out).1
  clear hK K
  (try simp only [Act.put, List.setIfInBounds_toArray, List.set_cons_zero, List.set_cons_succ])
  refine wpAnyH_take (i := 1) (oi := { dst := some 24, op := Go.Op.move (Go.Operand.tmp 23), type := 4, pos := "law.go:43", after := #[{ on := 0, ground := Go.Ground.data }, { on := 0, ground := Go.Ground.chain }], guard := none }) (v := ?_) rfl (by kernel_rfl) (by kernel_rfl) (by kernel_rfl) (fun _ _ _ h => h) (Or.inl ⟨by rfl, ?_⟩) (by assumption) ?_
  rotate_left 1
  · intro w' hSw; (go_simp <;> (with_reducible rfl))
  (try simp only [Act.put, List.setIfInBounds_toArray, List.set_cons_zero, List.set_cons_succ])
  refine wpAnyH_take (i := 2) (oi := { dst := some 25, op := Go.Op.move (Go.Operand.tmp 6), type := 37, pos := "law.go:43", after := #[{ on := 1, ground := Go.Ground.guard }], guard := some (1, true) }) (v := ?_) rfl (by kernel_rfl) (by kernel_rfl) (by kernel_rfl) (fun _ _ _ h => h) (Or.inl ⟨by rfl, ?_⟩) (by assumption) ?_
  rotate_left 1
  · intro w' hSw; (go_simp <;> (with_reducible rfl))
  (try simp only [Act.put, List.setIfInBounds_toArray, List.set_cons_zero, List.set_cons_succ])
  refine wpAnyH_take (i := 3) (oi := { dst := some 26, op := Go.Op.move (Go.Operand.tmp 8), type := 3, pos := "law.go:43", after := #[{ on := 1, ground := Go.Ground.guard }], guard := some (1, true) }) (v := ?_) rfl (by kernel_rfl) (by kernel_rfl) (by kernel_rfl) (fun _ _ _ h => h) (Or.inl ⟨by rfl, ?_⟩) (by assumption) ?_
  rotate_left 1
  · intro w' hSw; (go_simp <;> (with_reducible rfl))
  (try simp only [Act.put, List.setIfInBounds_toArray, List.set_cons_zero, List.set_cons_succ])
  refine wpAnyH_take (i := 4) (oi := { dst := some 27, op := Go.Op.binOp Go.BinOp.eql 3 (Go.Operand.tmp 25) (Go.Operand.tmp 26) 3, type := 4, pos := "law.go:43", after := #[{ on := 2, ground := Go.Ground.data }, { on := 3, ground := Go.Ground.data }, { on := 1, ground := Go.Ground.guard }], guard := some (1, true) }) (v := ?_) rfl (by kernel_rfl) (by kernel_rfl) (by kernel_rfl) (fun _ _ _ h => h) (Or.inl ⟨by rfl, ?_⟩) (by assumption) ?_
  rotate_left 1
  · intro w' hSw; (go_simp <;> (with_reducible rfl))
  (try simp only [Act.put, List.setIfInBounds_toArray, List.set_cons_zero, List.set_cons_succ])
  refine wpAnyH_take (i := 5) (oi := { dst := some 28, op := Go.Op.pick (Go.Operand.tmp 24) (Go.Operand.tmp 27) (Go.Operand.const (Go.Value.bool false)), type := 4, pos := "law.go:43", after := #[{ on := 1, ground := Go.Ground.data }, { on := 4, ground := Go.Ground.data }], guard := none }) (v := ?_) rfl (by kernel_rfl) (by kernel_rfl) (by kernel_rfl) (fun _ _ _ h => h) (Or.inl ⟨by rfl, ?_⟩) (by assumption) ?_
  rotate_left 1
  · intro w' hSw; (go_simp <;> (with_reducible rfl))
  (try simp only [Act.put, List.setIfInBounds_toArray, List.set_cons_zero, List.set_cons_succ])
  refine wpAnyH_take (i := 6) (oi := { dst := some 29, op := Go.Op.move (Go.Operand.tmp 28), type := 4, pos := "law.go:43", after := #[{ on := 5, ground := Go.Ground.data }, { on := 1, ground := Go.Ground.chain }], guard := none }) (v := ?_) rfl (by kernel_rfl) (by kernel_rfl) (by kernel_rfl) (fun _ _ _ h => h) (Or.inl ⟨by rfl, ?_⟩) (by assumption) ?_
  rotate_left 1
  · intro w' hSw; (go_simp <;> (with_reducible rfl))
  (try simp only [Act.put, List.setIfInBounds_toArray, List.set_cons_zero, List.set_cons_succ])
  refine wpAnyH_take (i := 7) (oi := { dst := some 30, op := Go.Op.move (Go.Operand.tmp 5), type := 24, pos := "law.go:43", after := #[{ on := 6, ground := Go.Ground.guard }], guard := some (6, true) }) (v := ?_) rfl (by kernel_rfl) (by kernel_rfl) (by kernel_rfl) (fun _ _ _ h => h) (Or.inl ⟨by rfl, ?_⟩) (by assumption) ?_
  rotate_left 1
  · intro w' hSw; (go_simp <;> (with_reducible rfl))
  (try simp only [Act.put, List.setIfInBounds_toArray, List.set_cons_zero, List.set_cons_succ])
  refine wpAnyH_take (i := 8) (oi := { dst := some 31, op := Go.Op.move (Go.Operand.tmp 7), type := 24, pos := "law.go:43", after := #[{ on := 6, ground := Go.Ground.guard }], guard := some (6, true) }) (v := ?_) rfl (by kernel_rfl) (by kernel_rfl) (by kernel_rfl) (fun _ _ _ h => h) (Or.inl ⟨by rfl, ?_⟩) (by assumption) ?_
  rotate_left 1
  · intro w' hSw; (go_simp <;> (with_reducible rfl))
  (try simp only [Act.put, List.setIfInBounds_toArray, List.set_cons_zero, List.set_cons_succ])
  refine wpAnyH_ready (rs := [9]) (by kernel_rfl) (by simp) ?_
  refine AllReadyH.cons (o := { dst := some 32, op := Go.Op.call { callee := Go.Callee.value (Go.Operand.func 9), args := #[Go.Operand.tmp 30, Go.Operand.tmp 31], argTypes := #[24, 24] }, type := 4, pos := "law.go:43", after := #[{ on := 7, ground := Go.Ground.data }, { on := 8, ground := Go.Ground.data }, { on := 6, ground := Go.Ground.chain }, { on := 6, ground := Go.Ground.guard }], guard := some (6, true) }) rfl (fun K hK => ?_) AllReadyH.nil
  go_simp
  (refine (bequal_any A1 A2 m m c1 c2 L L _ true (HRd.out _ Hwf.out).2.2.2.1 (HRd.out _ Hwf.out).2.2.2.2 (by simp)).mono ?_; rintro e w' ⟨rfl, rfl⟩)
  refine hK.out _ _ ?_ (fun hHeld => ?_)
  · exact (HRd.out _ Hwf.out).1
  clear hK K
  (try simp only [Act.put, List.setIfInBounds_toArray, List.set_cons_zero, List.set_cons_succ])
  refine wpAnyH_take (i := 10) (oi := { dst := some 33, op := Go.Op.pick (Go.Operand.tmp 29) (Go.Operand.tmp 32) (Go.Operand.const (Go.Value.bool false)), type := 4, pos := "law.go:43", after := #[{ on := 6, ground := Go.Ground.data }, { on := 9, ground := Go.Ground.data }], guard := none }) (v := ?_) rfl (by kernel_rfl) (by kernel_rfl) (by kernel_rfl) (fun _ _ _ h => h) (Or.inl ⟨by rfl, ?_⟩) (by assumption) ?_
  rotate_left 1
  · intro w' hSw; (go_simp <;> (with_reducible rfl))
  (try simp only [Act.put, List.setIfInBounds_toArray, List.set_cons_zero, List.set_cons_succ])
  refine wpAnyH_take (i := 11) (oi := { dst := some 34, op := Go.Op.move (Go.Operand.tmp 33), type := 4, pos := "law.go:43", after := #[{ on := 10, ground := Go.Ground.data }, { on := 9, ground := Go.Ground.chain }], guard := none }) (v := ?_) rfl (by kernel_rfl) (by kernel_rfl) (by kernel_rfl) (fun _ _ _ h => h) (Or.inl ⟨by rfl, ?_⟩) (by assumption) ?_
  rotate_left 1
  · intro w' hSw; (go_simp <;> (with_reducible rfl))
  (try simp only [Act.put, List.setIfInBounds_toArray, List.set_cons_zero, List.set_cons_succ])
  refine wpAnyH_take (i := 12) (oi := { dst := some 35, op := Go.Op.load 35 (Go.Operand.tmp 2), type := 35, pos := "law.go:43", after := #[{ on := 11, ground := Go.Ground.guard }], guard := some (11, true) }) (v := .agg #[.int .u8 q.h.to, .int .u16 q.h.id, .bool q.h.df, .int .u8 q.h.tt, .int .u8 q.h.pr, .int .u32 q.h.sr, .int .u32 q.h.ds, .slice b.AH b.nH b.cH, .int .u16 q.s.sp, .int .u16 q.s.dp, .int .u32 q.s.sq, .int .u32 q.s.ak, .int .u8 q.s.fl, .int .u16 q.s.wn, .int .u16 q.s.ug, .slice b.AO b.nO b.cO, .slice b.AD b.nD b.cD, .int .u16 q.u.sp, .int .u16 q.u.dp, .slice b.AU b.nU b.cU, .int .u8 q.m.ty, .int .u8 q.m.cd, .int .u32 q.m.rs, .slice b.AM b.nM b.cM]) rfl (by kernel_rfl) (by kernel_rfl) (by kernel_rfl) (fun _ _ _ h => h) (Or.inl ⟨by rfl, fun w' hSw => exec_row 35 (.tmp 2) rfl (z) _ _ _ _ hSw.1 rfl Tryz.underlying35 rfl (by kernel_rfl)⟩) (by assumption) ?_
  (try simp only [Act.put, List.setIfInBounds_toArray, List.set_cons_zero, List.set_cons_succ])
  refine wpAnyH_take (i := 14) (oi := { dst := some 37, op := Go.Op.load 35 (Go.Operand.tmp 2), type := 35, pos := "law.go:43", after := #[{ on := 11, ground := Go.Ground.guard }], guard := some (11, true) }) (v := .agg #[.int .u8 q.h.to, .int .u16 q.h.id, .bool q.h.df, .int .u8 q.h.tt, .int .u8 q.h.pr, .int .u32 q.h.sr, .int .u32 q.h.ds, .slice b.AH b.nH b.cH, .int .u16 q.s.sp, .int .u16 q.s.dp, .int .u32 q.s.sq, .int .u32 q.s.ak, .int .u8 q.s.fl, .int .u16 q.s.wn, .int .u16 q.s.ug, .slice b.AO b.nO b.cO, .slice b.AD b.nD b.cD, .int .u16 q.u.sp, .int .u16 q.u.dp, .slice b.AU b.nU b.cU, .int .u8 q.m.ty, .int .u8 q.m.cd, .int .u32 q.m.rs, .slice b.AM b.nM b.cM]) rfl (by kernel_rfl) (by kernel_rfl) (by kernel_rfl) (fun _ _ _ h => h) (Or.inl ⟨by rfl, fun w' hSw => exec_row 35 (.tmp 2) rfl (z) _ _ _ _ hSw.1 rfl Tryz.underlying35 rfl (by kernel_rfl)⟩) (by assumption) ?_
  (try simp only [Act.put, List.setIfInBounds_toArray, List.set_cons_zero, List.set_cons_succ])
  refine wpAnyH_ready (rs := [13]) (by kernel_rfl) (by simp) ?_
  refine AllReadyH.cons (o := { dst := some 36, op := Go.Op.call { callee := Go.Callee.value (Go.Operand.func 10), args := #[Go.Operand.tmp 35], argTypes := #[35] }, type := 4, pos := "law.go:43", after := #[{ on := 12, ground := Go.Ground.data }, { on := 11, ground := Go.Ground.chain }, { on := 11, ground := Go.Ground.guard }], guard := some (11, true) }) rfl (fun K hK => ?_) AllReadyH.nil
  go_simp
  (refine (may9_any q b _ y (HRd.out _ Hwf.out).2.1 (by have := Hsm.out.o; omega) Ey.out).mono ?_; rintro e wg ⟨rfl, hb⟩; have Hwg := Lib.hid (below_trans Hwf.out hb); clear hb)
  refine hK.out _ _ ?_ (fun hHeld => ?_)
  · exact (HRd.out _ Hwg.out).1
  clear hK K
  (try simp only [Act.put, List.setIfInBounds_toArray, List.set_cons_zero, List.set_cons_succ])
  refine wpAnyH_ready (rs := [15]) (by kernel_rfl) (by simp) ?_
  refine AllReadyH.cons (o := { dst := some 38, op := Go.Op.call { callee := Go.Callee.value (Go.Operand.func 11), args := #[Go.Operand.tmp 37], argTypes := #[35] }, type := 4, pos := "law.go:43", after := #[{ on := 14, ground := Go.Ground.data }, { on := 13, ground := Go.Ground.chain }, { on := 11, ground := Go.Ground.guard }], guard := some (11, true) }) rfl (fun K hK => ?_) AllReadyH.nil
  go_simp
  (refine (rmay9_any q b _ y (HRd.out _ Hwg.out).2.1 (by have := Hsm.out.o; omega) Ey.out).mono ?_; rintro e wh ⟨rfl, hb⟩; have Hwh := Lib.hid (below_trans Hwg.out hb); clear hb)
  refine hK.out _ _ ?_ (fun hHeld => ?_)
  · exact (HRd.out _ Hwh.out).1
  clear hK K
  (try simp only [Act.put, List.setIfInBounds_toArray, List.set_cons_zero, List.set_cons_succ])
  refine wpAnyH_take (i := 16) (oi := { dst := some 39, op := Go.Op.binOp Go.BinOp.eql 4 (Go.Operand.tmp 36) (Go.Operand.tmp 38) 4, type := 4, pos := "law.go:43", after := #[{ on := 13, ground := Go.Ground.data }, { on := 15, ground := Go.Ground.data }, { on := 11, ground := Go.Ground.guard }], guard := some (11, true) }) (v := ?_) rfl (by kernel_rfl) (by kernel_rfl) (by kernel_rfl) (fun _ _ _ h => h) (Or.inl ⟨by rfl, ?_⟩) (by assumption) ?_
  rotate_left 1
  · intro w' hSw; (go_simp <;> (with_reducible rfl))
  (try simp only [Act.put, List.setIfInBounds_toArray, List.set_cons_zero, List.set_cons_succ])
  refine wpAnyH_take (i := 17) (oi := { dst := some 40, op := Go.Op.pick (Go.Operand.tmp 34) (Go.Operand.tmp 39) (Go.Operand.const (Go.Value.bool false)), type := 4, pos := "law.go:43", after := #[{ on := 11, ground := Go.Ground.data }, { on := 16, ground := Go.Ground.data }], guard := none }) (v := ?_) rfl (by kernel_rfl) (by kernel_rfl) (by kernel_rfl) (fun _ _ _ h => h) (Or.inl ⟨by rfl, ?_⟩) (by assumption) ?_
  rotate_left 1
  · intro w' hSw; (go_simp <;> (with_reducible rfl))
  (try simp only [Act.put, List.setIfInBounds_toArray, List.set_cons_zero, List.set_cons_succ])
  refine wpAnyH_take (i := 18) (oi := { dst := some 41, op := Go.Op.move (Go.Operand.tmp 40), type := 4, pos := "law.go:43", after := #[{ on := 17, ground := Go.Ground.data }, { on := 15, ground := Go.Ground.chain }], guard := none }) (v := ?_) rfl (by kernel_rfl) (by kernel_rfl) (by kernel_rfl) (fun _ _ _ h => h) (Or.inl ⟨by rfl, ?_⟩) (by assumption) ?_
  rotate_left 1
  · intro w' hSw; (go_simp <;> (with_reducible rfl))
  (try simp only [Act.put, List.setIfInBounds_toArray, List.set_cons_zero, List.set_cons_succ])
  refine wpAnyH_take (i := 19) (oi := { dst := some 42, op := Go.Op.load 35 (Go.Operand.tmp 2), type := 35, pos := "law.go:43", after := #[{ on := 18, ground := Go.Ground.guard }], guard := some (18, true) }) (v := .agg #[.int .u8 q.h.to, .int .u16 q.h.id, .bool q.h.df, .int .u8 q.h.tt, .int .u8 q.h.pr, .int .u32 q.h.sr, .int .u32 q.h.ds, .slice b.AH b.nH b.cH, .int .u16 q.s.sp, .int .u16 q.s.dp, .int .u32 q.s.sq, .int .u32 q.s.ak, .int .u8 q.s.fl, .int .u16 q.s.wn, .int .u16 q.s.ug, .slice b.AO b.nO b.cO, .slice b.AD b.nD b.cD, .int .u16 q.u.sp, .int .u16 q.u.dp, .slice b.AU b.nU b.cU, .int .u8 q.m.ty, .int .u8 q.m.cd, .int .u32 q.m.rs, .slice b.AM b.nM b.cM]) rfl (by kernel_rfl) (by kernel_rfl) (by kernel_rfl) (fun _ _ _ h => h) (Or.inl ⟨by rfl, fun w' hSw => exec_row 35 (.tmp 2) rfl (z) _ _ _ _ hSw.1 rfl Tryz.underlying35 rfl (by kernel_rfl)⟩) (by assumption) ?_
  (try simp only [Act.put, List.setIfInBounds_toArray, List.set_cons_zero, List.set_cons_succ])
  refine wpAnyH_take (i := 20) (oi := { dst := some 43, op := Go.Op.load 35 (Go.Operand.tmp 3), type := 35, pos := "law.go:43", after := #[{ on := 18, ground := Go.Ground.guard }], guard := some (18, true) }) (v := .agg #[.int .u8 q2.h.to, .int .u16 q2.h.id, .bool q2.h.df, .int .u8 q2.h.tt, .int .u8 q2.h.pr, .int .u32 q2.h.sr, .int .u32 q2.h.ds, .slice b2.AH b2.nH b2.cH, .int .u16 q2.s.sp, .int .u16 q2.s.dp, .int .u32 q2.s.sq, .int .u32 q2.s.ak, .int .u8 q2.s.fl, .int .u16 q2.s.wn, .int .u16 q2.s.ug, .slice b2.AO b2.nO b2.cO, .slice b2.AD b2.nD b2.cD, .int .u16 q2.u.sp, .int .u16 q2.u.dp, .slice b2.AU b2.nU b2.cU, .int .u8 q2.m.ty, .int .u8 q2.m.cd, .int .u32 q2.m.rs, .slice b2.AM b2.nM b2.cM]) rfl (by kernel_rfl) (by kernel_rfl) (by kernel_rfl) (fun _ _ _ h => h) (Or.inl ⟨by rfl, fun w' hSw => exec_row 35 (.tmp 3) rfl (z + 1) _ _ _ _ hSw.2 rfl Tryz.underlying35 rfl (by kernel_rfl)⟩) (by assumption) ?_
  (try simp only [Act.put, List.setIfInBounds_toArray, List.set_cons_zero, List.set_cons_succ])
  refine wpAnyH_take (i := 22) (oi := { dst := some 45, op := Go.Op.load 35 (Go.Operand.tmp 2), type := 35, pos := "law.go:43", after := #[{ on := 18, ground := Go.Ground.guard }], guard := some (18, true) }) (v := .agg #[.int .u8 q.h.to, .int .u16 q.h.id, .bool q.h.df, .int .u8 q.h.tt, .int .u8 q.h.pr, .int .u32 q.h.sr, .int .u32 q.h.ds, .slice b.AH b.nH b.cH, .int .u16 q.s.sp, .int .u16 q.s.dp, .int .u32 q.s.sq, .int .u32 q.s.ak, .int .u8 q.s.fl, .int .u16 q.s.wn, .int .u16 q.s.ug, .slice b.AO b.nO b.cO, .slice b.AD b.nD b.cD, .int .u16 q.u.sp, .int .u16 q.u.dp, .slice b.AU b.nU b.cU, .int .u8 q.m.ty, .int .u8 q.m.cd, .int .u32 q.m.rs, .slice b.AM b.nM b.cM]) rfl (by kernel_rfl) (by kernel_rfl) (by kernel_rfl) (fun _ _ _ h => h) (Or.inl ⟨by rfl, fun w' hSw => exec_row 35 (.tmp 2) rfl (z) _ _ _ _ hSw.1 rfl Tryz.underlying35 rfl (by kernel_rfl)⟩) (by assumption) ?_
  (try simp only [Act.put, List.setIfInBounds_toArray, List.set_cons_zero, List.set_cons_succ])
  refine wpAnyH_take (i := 23) (oi := { dst := some 46, op := Go.Op.load 35 (Go.Operand.tmp 3), type := 35, pos := "law.go:43", after := #[{ on := 18, ground := Go.Ground.guard }], guard := some (18, true) }) (v := .agg #[.int .u8 q2.h.to, .int .u16 q2.h.id, .bool q2.h.df, .int .u8 q2.h.tt, .int .u8 q2.h.pr, .int .u32 q2.h.sr, .int .u32 q2.h.ds, .slice b2.AH b2.nH b2.cH, .int .u16 q2.s.sp, .int .u16 q2.s.dp, .int .u32 q2.s.sq, .int .u32 q2.s.ak, .int .u8 q2.s.fl, .int .u16 q2.s.wn, .int .u16 q2.s.ug, .slice b2.AO b2.nO b2.cO, .slice b2.AD b2.nD b2.cD, .int .u16 q2.u.sp, .int .u16 q2.u.dp, .slice b2.AU b2.nU b2.cU, .int .u8 q2.m.ty, .int .u8 q2.m.cd, .int .u32 q2.m.rs, .slice b2.AM b2.nM b2.cM]) rfl (by kernel_rfl) (by kernel_rfl) (by kernel_rfl) (fun _ _ _ h => h) (Or.inl ⟨by rfl, fun w' hSw => exec_row 35 (.tmp 3) rfl (z + 1) _ _ _ _ hSw.2 rfl Tryz.underlying35 rfl (by kernel_rfl)⟩) (by assumption) ?_
  (try simp only [Act.put, List.setIfInBounds_toArray, List.set_cons_zero, List.set_cons_succ])
  refine wpAnyH_ready (rs := [21]) (by kernel_rfl) (by simp) ?_
  refine AllReadyH.cons (o := { dst := some 44, op := Go.Op.call { callee := Go.Callee.value (Go.Operand.func 12), args := #[Go.Operand.tmp 42, Go.Operand.tmp 43], argTypes := #[35, 35] }, type := 4, pos := "law.go:43", after := #[{ on := 19, ground := Go.Ground.data }, { on := 20, ground := Go.Ground.data }, { on := 18, ground := Go.Ground.chain }, { on := 18, ground := Go.Ground.guard }], guard := some (18, true) }) rfl (fun K hK => ?_) AllReadyH.nil
  go_simp
  (refine (same9_any q q2 b b2 _ s (HRd.out _ Hwh.out).2.1 (HRd.out _ Hwh.out).2.2.1 (by have := Hsm.out.o; omega) Es.out).mono ?_; rintro e wi ⟨rfl, hb⟩; have Hwi := Lib.hid (below_trans Hwh.out hb); clear hb)
  refine hK.out _ _ ?_ (fun hHeld => ?_)
  · exact (HRd.out _ Hwi.out).1
  clear hK K
  (try simp only [Act.put, List.setIfInBounds_toArray, List.set_cons_zero, List.set_cons_succ])
  refine wpAnyH_ready (rs := [24]) (by kernel_rfl) (by simp) ?_
  refine AllReadyH.cons (o := { dst := some 47, op := Go.Op.call { callee := Go.Callee.value (Go.Operand.func 13), args := #[Go.Operand.tmp 45, Go.Operand.tmp 46], argTypes := #[35, 35] }, type := 4, pos := "law.go:43", after := #[{ on := 22, ground := Go.Ground.data }, { on := 23, ground := Go.Ground.data }, { on := 21, ground := Go.Ground.chain }, { on := 18, ground := Go.Ground.guard }], guard := some (18, true) }) rfl (fun K hK => ?_) AllReadyH.nil
  go_simp
  (refine (rsame9_any q q2 b b2 _ s (HRd.out _ Hwi.out).2.1 (HRd.out _ Hwi.out).2.2.1 (by have := Hsm.out.o; omega) Es.out).mono ?_; rintro e wj ⟨rfl, hb⟩; have Hwj := Lib.hid (below_trans Hwi.out hb); clear hb)
  refine hK.out _ _ ?_ (fun hHeld => ?_)
  · exact (HRd.out _ Hwj.out).1
  clear hK K
  (try simp only [Act.put, List.setIfInBounds_toArray, List.set_cons_zero, List.set_cons_succ])
  refine wpAnyH_take (i := 25) (oi := { dst := some 48, op := Go.Op.binOp Go.BinOp.eql 4 (Go.Operand.tmp 44) (Go.Operand.tmp 47) 4, type := 4, pos := "law.go:43", after := #[{ on := 21, ground := Go.Ground.data }, { on := 24, ground := Go.Ground.data }, { on := 18, ground := Go.Ground.guard }], guard := some (18, true) }) (v := ?_) rfl (by kernel_rfl) (by kernel_rfl) (by kernel_rfl) (fun _ _ _ h => h) (Or.inl ⟨by rfl, ?_⟩) (by assumption) ?_
  rotate_left 1
  · intro w' hSw; (go_simp <;> (with_reducible rfl))
  (try simp only [Act.put, List.setIfInBounds_toArray, List.set_cons_zero, List.set_cons_succ])
  refine wpAnyH_take (i := 26) (oi := { dst := some 49, op := Go.Op.pick (Go.Operand.tmp 41) (Go.Operand.tmp 48) (Go.Operand.const (Go.Value.bool false)), type := 4, pos := "law.go:43", after := #[{ on := 18, ground := Go.Ground.data }, { on := 25, ground := Go.Ground.data }], guard := none }) (v := ?_) rfl (by kernel_rfl) (by kernel_rfl) (by kernel_rfl) (fun _ _ _ h => h) (Or.inl ⟨by rfl, ?_⟩) (by assumption) ?_
  rotate_left 1
  · intro w' hSw; (go_simp <;> (with_reducible rfl))
  (try simp only [Act.put, List.setIfInBounds_toArray, List.set_cons_zero, List.set_cons_succ])
  refine wpAnyH_take (i := 27) (oi := { dst := some 50, op := Go.Op.move (Go.Operand.tmp 49), type := 4, pos := "law.go:43", after := #[{ on := 26, ground := Go.Ground.data }, { on := 24, ground := Go.Ground.chain }], guard := none }) (v := ?_) rfl (by kernel_rfl) (by kernel_rfl) (by kernel_rfl) (fun _ _ _ h => h) (Or.inl ⟨by rfl, ?_⟩) (by assumption) ?_
  rotate_left 1
  · intro w' hSw; (go_simp <;> (with_reducible rfl))
  (try simp only [Act.put, List.setIfInBounds_toArray, List.set_cons_zero, List.set_cons_succ])
  refine wpAnyH_take (i := 28) (oi := { dst := some 51, op := Go.Op.load 35 (Go.Operand.tmp 2), type := 35, pos := "law.go:43", after := #[{ on := 27, ground := Go.Ground.guard }], guard := some (27, true) }) (v := .agg #[.int .u8 q.h.to, .int .u16 q.h.id, .bool q.h.df, .int .u8 q.h.tt, .int .u8 q.h.pr, .int .u32 q.h.sr, .int .u32 q.h.ds, .slice b.AH b.nH b.cH, .int .u16 q.s.sp, .int .u16 q.s.dp, .int .u32 q.s.sq, .int .u32 q.s.ak, .int .u8 q.s.fl, .int .u16 q.s.wn, .int .u16 q.s.ug, .slice b.AO b.nO b.cO, .slice b.AD b.nD b.cD, .int .u16 q.u.sp, .int .u16 q.u.dp, .slice b.AU b.nU b.cU, .int .u8 q.m.ty, .int .u8 q.m.cd, .int .u32 q.m.rs, .slice b.AM b.nM b.cM]) rfl (by kernel_rfl) (by kernel_rfl) (by kernel_rfl) (fun _ _ _ h => h) (Or.inl ⟨by rfl, fun w' hSw => exec_row 35 (.tmp 2) rfl (z) _ _ _ _ hSw.1 rfl Tryz.underlying35 rfl (by kernel_rfl)⟩) (by assumption) ?_
  (try simp only [Act.put, List.setIfInBounds_toArray, List.set_cons_zero, List.set_cons_succ])
  refine wpAnyH_take (i := 29) (oi := { dst := some 52, op := Go.Op.load 35 (Go.Operand.tmp 2), type := 35, pos := "law.go:43", after := #[{ on := 27, ground := Go.Ground.guard }], guard := some (27, true) }) (v := .agg #[.int .u8 q.h.to, .int .u16 q.h.id, .bool q.h.df, .int .u8 q.h.tt, .int .u8 q.h.pr, .int .u32 q.h.sr, .int .u32 q.h.ds, .slice b.AH b.nH b.cH, .int .u16 q.s.sp, .int .u16 q.s.dp, .int .u32 q.s.sq, .int .u32 q.s.ak, .int .u8 q.s.fl, .int .u16 q.s.wn, .int .u16 q.s.ug, .slice b.AO b.nO b.cO, .slice b.AD b.nD b.cD, .int .u16 q.u.sp, .int .u16 q.u.dp, .slice b.AU b.nU b.cU, .int .u8 q.m.ty, .int .u8 q.m.cd, .int .u32 q.m.rs, .slice b.AM b.nM b.cM]) rfl (by kernel_rfl) (by kernel_rfl) (by kernel_rfl) (fun _ _ _ h => h) (Or.inl ⟨by rfl, fun w' hSw => exec_row 35 (.tmp 2) rfl (z) _ _ _ _ hSw.1 rfl Tryz.underlying35 rfl (by kernel_rfl)⟩) (by assumption) ?_
  (try simp only [Act.put, List.setIfInBounds_toArray, List.set_cons_zero, List.set_cons_succ])
  refine wpAnyH_ready (rs := [30]) (by kernel_rfl) (by simp) ?_
  refine AllReadyH.cons (o := { dst := some 53, op := Go.Op.call { callee := Go.Callee.value (Go.Operand.func 5), args := #[Go.Operand.tmp 52], argTypes := #[35] }, type := 35, pos := "law.go:43", after := #[{ on := 29, ground := Go.Ground.data }, { on := 27, ground := Go.Ground.chain }, { on := 27, ground := Go.Ground.guard }], guard := some (27, true) }) rfl (fun K hK => ?_) AllReadyH.nil
  go_simp
  (refine (few9_any q b _ (HRd.out _ Hwj.out).2.1).mono ?_; rintro e wk ⟨q3, b3, rfl, hq3, hp3, -, hb⟩; have Hwk := Lib.hid (below_trans Hwj.out hb); have HQ3 := Lib.hid hq3; have HP3 := Lib.hid hp3; clear hb hq3 hp3)
  refine hK.out _ _ ?_ (fun hHeld => ?_)
  · exact (HRd.out _ Hwk.out).1
  clear hK K
  (try simp only [Act.put, List.setIfInBounds_toArray, List.set_cons_zero, List.set_cons_succ])
  refine wpAnyH_ready (rs := [31]) (by kernel_rfl) (by simp) ?_
  refine AllReadyH.cons (o := { dst := some 54, op := Go.Op.call { callee := Go.Callee.value (Go.Operand.func 12), args := #[Go.Operand.tmp 51, Go.Operand.tmp 53], argTypes := #[35, 35] }, type := 4, pos := "law.go:43", after := #[{ on := 28, ground := Go.Ground.data }, { on := 30, ground := Go.Ground.data }, { on := 30, ground := Go.Ground.chain }, { on := 27, ground := Go.Ground.guard }], guard := some (27, true) }) rfl (fun K hK => ?_) AllReadyH.nil
  go_simp
  (refine (same9_any q q3 b b3 _ true (HRd.out _ Hwk.out).2.1 HP3.out (by have := Hsm.out.o; omega) (by rw [HQ3.out, HQ.out, few_twice]; exact pkSame_self _)).mono ?_; rintro e wl ⟨rfl, hb⟩; have HBl := Lib.hid (below_trans Hwk.out hb); clear hb)
  refine hK.out _ _ ?_ (fun hHeld => ?_)
  · exact (HRd.out _ HBl.out).1
  clear hK K
  (try simp only [Act.put, List.setIfInBounds_toArray, List.set_cons_zero, List.set_cons_succ])
  refine wpAnyH_take (i := 32) (oi := { dst := some 55, op := Go.Op.pick (Go.Operand.tmp 50) (Go.Operand.tmp 54) (Go.Operand.const (Go.Value.bool false)), type := 4, pos := "law.go:43", after := #[{ on := 27, ground := Go.Ground.data }, { on := 31, ground := Go.Ground.data }], guard := none }) (v := ?_) rfl (by kernel_rfl) (by kernel_rfl) (by kernel_rfl) (fun _ _ _ h => h) (Or.inl ⟨by rfl, ?_⟩) (by assumption) ?_
  rotate_left 1
  · intro w' hSw; (go_simp <;> (with_reducible rfl))
  (try simp only [Act.put, List.setIfInBounds_toArray, List.set_cons_zero, List.set_cons_succ])
  refine wpAnyH_take (i := 33) (oi := { dst := some 4, op := Go.Op.assign (Go.Operand.tmp 55), type := 4, pos := "law.go:43", after := #[{ on := 32, ground := Go.Ground.data }, { on := 31, ground := Go.Ground.chain }, { on := 0, ground := Go.Ground.phase }, { on := 1, ground := Go.Ground.phase }, { on := 2, ground := Go.Ground.phase }, { on := 3, ground := Go.Ground.phase }, { on := 4, ground := Go.Ground.phase }, { on := 5, ground := Go.Ground.phase }, { on := 6, ground := Go.Ground.phase }, { on := 7, ground := Go.Ground.phase }, { on := 8, ground := Go.Ground.phase }, { on := 9, ground := Go.Ground.phase }, { on := 10, ground := Go.Ground.phase }, { on := 11, ground := Go.Ground.phase }, { on := 12, ground := Go.Ground.phase }, { on := 13, ground := Go.Ground.phase }, { on := 14, ground := Go.Ground.phase }, { on := 15, ground := Go.Ground.phase }, { on := 16, ground := Go.Ground.phase }, { on := 17, ground := Go.Ground.phase }, { on := 18, ground := Go.Ground.phase }, { on := 19, ground := Go.Ground.phase }, { on := 20, ground := Go.Ground.phase }, { on := 21, ground := Go.Ground.phase }, { on := 22, ground := Go.Ground.phase }, { on := 23, ground := Go.Ground.phase }, { on := 24, ground := Go.Ground.phase }, { on := 25, ground := Go.Ground.phase }, { on := 26, ground := Go.Ground.phase }, { on := 27, ground := Go.Ground.phase }, { on := 28, ground := Go.Ground.phase }, { on := 29, ground := Go.Ground.phase }, { on := 30, ground := Go.Ground.phase }, { on := 31, ground := Go.Ground.phase }, { on := 32, ground := Go.Ground.phase }], guard := none }) (v := ?_) rfl (by kernel_rfl) (by kernel_rfl) (by kernel_rfl) (fun _ _ _ h => h) (Or.inl ⟨by rfl, ?_⟩) (by assumption) ?_
  rotate_left 1
  · intro w' hSw; (go_simp <;> (with_reducible rfl))
  (try simp only [Act.put, List.setIfInBounds_toArray, List.set_cons_zero, List.set_cons_succ])
  refine wpAnyH_done (by kernel_rfl) ?_ _
  clear hHeld
  try simp only []
  repeat (first | go_values | go_skip | go_guarded | go_step | go_upon | go_back)
  go_ret
  exact ⟨rfl, HB3.out.trans ((below_trans HB5.out HBl.out).mono HB3.out.size)⟩
theorem own : ownKnob Tryz.prog.godebug = none := by kernel_rfl
theorem laidOut : laidOutB Tryz.prog = true := by kernel_rfl

set_option maxRecDepth 100000 in
theorem lifted (os : Os) (started : os.Started) (H : Type) (enc : TypeId × Value → H) :
    ReturnsInHanded {} Tryz.checked os 3 .any (Rows.packetPutsSpec.pre6 enc Tryz.prog Tryz.f3 Rows.packetPutsRow.domain false) (Rows.packetPutsSpec.post enc Tryz.prog Tryz.f3 false true false false) := by
  refine returnsInHanded_of_change (C := Tryz.checked) own started (by kernel_rfl) Tryz.func3
    (ChangeSpec.witness6 (enc := enc) (C := Tryz.checked) false ⟨#[], #[(.agg #[.int .u8 0, .int .u16 0, .bool false, .int .u8 0, .int .u8 0, .int .u32 0, .int .u32 0, .slice none 0 0, .int .u16 0, .int .u16 0, .int .u32 0, .int .u32 0, .int .u8 0, .int .u16 0, .int .u16 0, .slice none 0 0, .slice none 0 0, .int .u16 0, .int .u16 0, .slice none 0 0, .int .u8 0, .int .u8 0, .int .u32 0, .slice none 0 0]), (.agg #[.int .u8 0, .int .u16 0, .bool false, .int .u8 0, .int .u8 0, .int .u32 0, .int .u32 0, .slice none 0 0, .int .u16 0, .int .u16 0, .int .u32 0, .int .u32 0, .int .u8 0, .int .u16 0, .int .u16 0, .slice none 0 0, .slice none 0 0, .int .u16 0, .int .u16 0, .slice none 0 0, .int .u8 0, .int .u8 0, .int .u32 0, .slice none 0 0])], []⟩ 8 (by kernel_rfl) (by kernel_rfl) (by kernel_rfl) (by kernel_rfl)) ?_
  intro W base args ds gs before hval0 hW hcnd _
  have hval : ∀ (j : Nat) t v, Tryz.f3.params[j]? = some t → args[j]? = some v → Value.okWide Tryz.prog W .any base t v := hval0
  have hW' := hW
  obtain ⟨p, q, hA0, hV, rfl, hfz, hnd⟩ := hW
  have hA : DataW.TrodAll enc Tryz.prog W 0 (fun _ => true) true Tryz.f3.params.toList args.toList ds p := hA0
  rw [Tryz.params3] at hA hval
  obtain ⟨v0, vs0, d0, ds0, p0, q0, hargs, rfl, rfl, h0, r0⟩ := trodAll_cons hA
  obtain ⟨v1, vs1, d1, ds1, p1, q1, rfl, rfl, rfl, h1, r1⟩ := trodAll_cons r0
  obtain ⟨rfl, rfl, rfl⟩ := trodAll_nil r1
  obtain rfl : args = #[v0, v1] := by cases args; simp_all
  obtain ⟨rfl, rfl⟩ := trodVars_none hV
  have k0 := pk_open (hval 0 35 v0 rfl rfl) h0
  have lt0 : ∀ x ∈ p0, x.block < W.heap.size := by obtain ⟨m, hm⟩ := h0; exact DataW.trod_lt m _ _ _ hm
  have k1 := pk_open (hval 1 35 v1 rfl rfl) h1
  have lt1 : ∀ x ∈ p1, x.block < W.heap.size := by obtain ⟨m, hm⟩ := h1; exact DataW.trod_lt m _ _ _ hm
  clear hA0 hval0
  refine (walk W v0 k0 v1 k1).mono fun e W' ⟨he, bel⟩ => ?_
  subst he
  exact ⟨_, rfl, _, _, _, [], _, [], hW', trodAll_mk1 (shut_bool Tryz.underlying4 _), (trodAll_cons_mk (Below.trod laidOut (by kernel_rfl) (of_decide_eq_true (by kernel_rfl)) h0 bel lt0) (trodAll_cons_mk (Below.trod laidOut (by kernel_rfl) (of_decide_eq_true (by kernel_rfl)) h1 bel lt1) trodAll_mk0)), rfl, bel.frame _, fun h => by cases h⟩

theorem over : Rows.packetPutsRow.holds Tryz.pinned (OpenSpec.ofChange Rows.packetPutsSpec) :=
  OpenClaim.holds_of_wide 3 Tryz.f3 rfl rfl rfl rfl rfl rfl rfl ⟨rfl, rfl, rfl, rfl, rfl⟩ rfl rfl rfl rfl rfl (by kernel_rfl) Tryz.func3 (by kernel_rfl)
    (of_decide_eq_true (by kernel_rfl)) (by unfold Func.isWrapper; first | (rw [if_pos (by decide +kernel)]; kernel_rfl) | (rw [if_neg (by decide +kernel)]; exact ⟨rfl, rfl⟩))
    (fun os started H enc _ => lifted os started H enc)

/-- The statement. -/
theorem proved : Rows.PacketPutsSaid := over
#print axioms proved
end Go.Proofs.YtkooehejdfaekaaGreat.packetPuts
