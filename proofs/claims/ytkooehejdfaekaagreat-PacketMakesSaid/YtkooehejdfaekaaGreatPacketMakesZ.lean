/-
  PacketMakes holds: packets of our own, of any segment and any message (their bytes cut to 1600, their options to 20 of 60 bytes), between any addresses, are the document's own.
-/
import Derived.Test.YtkooehejdfaekaaGreatZM28
import Derived.Test.YtkooehejdfaekaaGreatZM30
import Derived.Test.YtkooehejdfaekaaGreatZM31
import Derived.Test.YtkooehejdfaekaaGreatZM26
import Derived.RegionTactic
import Derived.BigRegion
namespace Go.Proofs.YtkooehejdfaekaaGreat.packetMakes
set_option maxRecDepth 10000
open Go.ChangeShapes Go.WideShapes Go.ChangeAt Go.RowKit
set_option linter.unusedVariables false
set_option linter.unusedSimpArgs false

theorem few_bounds (p : Pk) : (fewP p).s.os.length ≤ 20 ∧ (fewP p).s.d.length ≤ 1600 ∧ (fewP p).u.d.length ≤ 1600 ∧ (fewP p).m.d.length ≤ 1600 ∧ (∀ l ∈ (fewP p).s.os, l.2.length ≤ 60) := by
  refine ⟨by simp [fewP]; omega, by simp [fewP]; omega, by simp [fewP]; omega, by simp [fewP]; omega, ?_⟩
  intro l hl
  simp only [fewP, List.mem_map] at hl
  obtain ⟨u, _, rfl⟩ := hl
  simp
  omega
/-- What few tells is small. -/
structure Small (b : PkA) (q : Pk) : Prop where
  o : b.nO ≤ 20
  d : b.nD ≤ 1600
  u : b.nU ≤ 1600
  m : b.nM ≤ 1600
  l : ∀ l ∈ q.s.os, l.2.length ≤ 60
theorem small_of {p q : Pk} {b : PkA} {w : World} (hq : q = fewP p) (h : PkRd w q b) : Small b q := by
  subst hq
  obtain ⟨h1, h2, h3, h4, h5⟩ := few_bounds p
  have e1 := h.sr.o.len
  have e2 := h.sr.os.len
  have e3 := h.sr.d.len
  have e4 := h.ur.len
  have e5 := h.mr.len
  exact ⟨by omega, by omega, by omega, by omega, h5⟩
theorem u32_bd {x : Int} (h : (Lit.int .u32 x).wf = true) : 0 ≤ x ∧ x < 4294967296 := by
  obtain ⟨a, b⟩ := bounds_u32 h
  omega
theorem own_rd6 {w : World} {q : Pk} {b : PkA} {src dst : Int} (hs : 0 ≤ src ∧ src < 4294967296) (hd : 0 ≤ dst ∧ dst < 4294967296) (h : PkRd w q b) : PkRd w ⟨ownH src dst 6, q.s, zeroDg, zeroM⟩ ⟨none, 0, 0, b.AO, b.nO, b.cO, b.os, b.AD, b.nD, b.cD, none, 0, 0, none, 0, 0⟩ :=
  ⟨own_num hs hd (by decide), ⟨Nat.le_refl _, by simp [maxLen]⟩, Rd.nil _ _, h.sr, zeroDg_num, ⟨Nat.le_refl _, by simp [maxLen]⟩, Rd.nil _ _, zeroM_num, ⟨Nat.le_refl _, by simp [maxLen]⟩, Rd.nil _ _⟩
theorem own_rd1 {w : World} {q : Pk} {b : PkA} {src dst : Int} (hs : 0 ≤ src ∧ src < 4294967296) (hd : 0 ≤ dst ∧ dst < 4294967296) (h : PkRd w q b) : PkRd w ⟨ownH src dst 1, zeroSeg, zeroDg, q.m⟩ ⟨none, 0, 0, none, 0, 0, [], none, 0, 0, none, 0, 0, b.AM, b.nM, b.cM⟩ :=
  ⟨own_num hs hd (by decide), ⟨Nat.le_refl _, by simp [maxLen]⟩, Rd.nil _ _, zero_rd _, zeroDg_num, ⟨Nat.le_refl _, by simp [maxLen]⟩, Rd.nil _ _, h.mn, h.mc, h.mr⟩
set_option maxHeartbeats 4000000 in
theorem walk (W : World) (src : Int) (w0 : (Lit.int .u32 src).wf = true) (dst : Int) (w1 : (Lit.int .u32 dst).wf = true) (v : Value) (hv : PkAt W v) :
    Calls Tryz.prog 4 #[.int .u32 src, .int .u32 dst, v] W fun e w' => e = .returned (.bool true) ∧ Below W.heap.size W w' := by
  have Hs := Lib.hid (u32_bd w0)
  have Hd := Lib.hid (u32_bd w1)
  clear w0 w1
  obtain ⟨p, a, rfl, hp⟩ := hv
  obtain ⟨z, hz⟩ : ∃ z, W.heap.size = z := ⟨_, rfl⟩
  obtain ⟨w0, ew⟩ : ∃ w0, W.alloc (.cells #[.int .u8 p.h.to, .int .u16 p.h.id, .bool p.h.df, .int .u8 p.h.tt, .int .u8 p.h.pr, .int .u32 p.h.sr, .int .u32 p.h.ds, .slice a.AH a.nH a.cH, .int .u16 p.s.sp, .int .u16 p.s.dp, .int .u32 p.s.sq, .int .u32 p.s.ak, .int .u8 p.s.fl, .int .u16 p.s.wn, .int .u16 p.s.ug, .slice a.AO a.nO a.cO, .slice a.AD a.nD a.cD, .int .u16 p.u.sp, .int .u16 p.u.dp, .slice a.AU a.nU a.cU, .int .u8 p.m.ty, .int .u8 p.m.cd, .int .u32 p.m.rs, .slice a.AM a.nM a.cM] 35) = w0 := ⟨_, rfl⟩
  have hb0 : Below W.heap.size W w0 := by rw [← ew]; exact (Below.refl _ _).alloc (Nat.le_refl _) _
  have hk0 : w0.heap[z]? = some (.cells #[.int .u8 p.h.to, .int .u16 p.h.id, .bool p.h.df, .int .u8 p.h.tt, .int .u8 p.h.pr, .int .u32 p.h.sr, .int .u32 p.h.ds, .slice a.AH a.nH a.cH, .int .u16 p.s.sp, .int .u16 p.s.dp, .int .u32 p.s.sq, .int .u32 p.s.ak, .int .u8 p.s.fl, .int .u16 p.s.wn, .int .u16 p.s.ug, .slice a.AO a.nO a.cO, .slice a.AD a.nD a.cD, .int .u16 p.u.sp, .int .u16 p.u.dp, .slice a.AU a.nU a.cU, .int .u8 p.m.ty, .int .u8 p.m.cd, .int .u32 p.m.rs, .slice a.AM a.nM a.cM] 35 (0, 0)) := by rw [← ew, ← hz]; exact heap_alloc_new W _
  have HP := Lib.hid (hp.below hb0)
  have Hoff := Lib.hid (show a.Off (fun k => k = z) from hp.off.sub (fun g hg => by omega))
  have HK0 := Lib.hid hk0
  have Hb0 := Lib.hid hb0
  have Ew := Lib.hid ew
  have Hz := Lib.hid hz
  have Hzl := Lib.hid (show z < w0.heap.size from lt_of_block hk0)
  clear hz ew hb0 hk0 hp
  go_enter Tryz.func4, Tryz.ntmps4
  go_upto_region 1 with (fail)
  rw [Ew.out]
  try rw [Hz.out]
  repeat (first | (refine wp_load_row 35 (.tmp 5) rfl z _ _ _ _ HK0.out rfl Tryz.underlying35 rfl (by kernel_rfl) ?_; simp only [Act.put, List.setIfInBounds_toArray, List.set_cons_zero, List.set_cons_succ]) | go_values | go_skip | go_guarded | go_step | go_upon | go_back)
  refine (few9_any p a _ HP.out).mono ?_
  rintro e w1 ⟨q, b, rfl, hq, hp1, hof1, hb1⟩
  have HKE := Lib.hid (blk_on HK0.out hb1)
  have HB1 := Lib.hid (below_trans Hb0.out hb1)
  have Hsm := Lib.hid (small_of hq hp1)
  have HP2 := Lib.hid (hp1.but (row_but w1 z #[.int .u8 q.h.to, .int .u16 q.h.id, .bool q.h.df, .int .u8 q.h.tt, .int .u8 q.h.pr, .int .u32 q.h.sr, .int .u32 q.h.ds, .slice b.AH b.nH b.cH, .int .u16 q.s.sp, .int .u16 q.s.dp, .int .u32 q.s.sq, .int .u32 q.s.ak, .int .u8 q.s.fl, .int .u16 q.s.wn, .int .u16 q.s.ug, .slice b.AO b.nO b.cO, .slice b.AD b.nD b.cD, .int .u16 q.u.sp, .int .u16 q.u.dp, .slice b.AU b.nU b.cU, .int .u8 q.m.ty, .int .u8 q.m.cd, .int .u32 q.m.rs, .slice b.AM b.nM b.cM]) (hof1 _ Hoff.out (fun g hg => by have := Hzl.out; omega)))
  have HK2 := Lib.hid (setRow_heap w1 z _ #[.int .u8 q.h.to, .int .u16 q.h.id, .bool q.h.df, .int .u8 q.h.tt, .int .u8 q.h.pr, .int .u32 q.h.sr, .int .u32 q.h.ds, .slice b.AH b.nH b.cH, .int .u16 q.s.sp, .int .u16 q.s.dp, .int .u32 q.s.sq, .int .u32 q.s.ak, .int .u8 q.s.fl, .int .u16 q.s.wn, .int .u16 q.s.ug, .slice b.AO b.nO b.cO, .slice b.AD b.nD b.cD, .int .u16 q.u.sp, .int .u16 q.u.dp, .slice b.AU b.nU b.cU, .int .u8 q.m.ty, .int .u8 q.m.cd, .int .u32 q.m.rs, .slice b.AM b.nM b.cM] _ _ HKE.out)
  have HB2 := Lib.hid (below_setRow HB1.out (by rw [Hz.out]; exact Nat.le_refl _) #[.int .u8 q.h.to, .int .u16 q.h.id, .bool q.h.df, .int .u8 q.h.tt, .int .u8 q.h.pr, .int .u32 q.h.sr, .int .u32 q.h.ds, .slice b.AH b.nH b.cH, .int .u16 q.s.sp, .int .u16 q.s.dp, .int .u32 q.s.sq, .int .u32 q.s.ak, .int .u8 q.s.fl, .int .u16 q.s.wn, .int .u16 q.s.ug, .slice b.AO b.nO b.cO, .slice b.AD b.nD b.cD, .int .u16 q.u.sp, .int .u16 q.u.dp, .slice b.AU b.nU b.cU, .int .u8 q.m.ty, .int .u8 q.m.cd, .int .u32 q.m.rs, .slice b.AM b.nM b.cM])
  clear hp1 hof1 hb1 HB1 hq Hoff HP
  try simp only []
  repeat (first | (refine wp_store_row 35 (.tmp 5) (.tmp 10) rfl z _ rfl rfl 35 _ HKE.out (by kernel_rfl) rfl (by simp [Value.oneCell']) ?_; simp only [Act.put, List.setIfInBounds_toArray, List.set_cons_zero, List.set_cons_succ]) | go_values | go_skip | go_guarded | go_step | go_upon | go_back)
  obtain ⟨w2, e2⟩ : ∃ v, w1.setRow z #[.int .u8 q.h.to, .int .u16 q.h.id, .bool q.h.df, .int .u8 q.h.tt, .int .u8 q.h.pr, .int .u32 q.h.sr, .int .u32 q.h.ds, .slice b.AH b.nH b.cH, .int .u16 q.s.sp, .int .u16 q.s.dp, .int .u32 q.s.sq, .int .u32 q.s.ak, .int .u8 q.s.fl, .int .u16 q.s.wn, .int .u16 q.s.ug, .slice b.AO b.nO b.cO, .slice b.AD b.nD b.cD, .int .u16 q.u.sp, .int .u16 q.u.dp, .slice b.AU b.nU b.cU, .int .u8 q.m.ty, .int .u8 q.m.cd, .int .u32 q.m.rs, .slice b.AM b.nM b.cM] = v := ⟨_, rfl⟩
  rw [e2] at HP2 HK2 HB2 ⊢
  clear e2 HKE
  refine (rown9_any src dst 6 _).mono ?_
  rintro e w3 ⟨rfl, hb3⟩
  have Hb3 := Lib.hid hb3
  clear hb3
  try simp only []
  repeat (first | go_values | go_skip | go_guarded | go_step | go_upon | go_back)
  refine (rown9_any src dst 1 _).mono ?_
  rintro e w4 ⟨rfl, hb4⟩
  have hb24 := below_trans Hb3.out hb4
  have HP4 := Lib.hid (HP2.out.below hb24)
  have HK4 := Lib.hid (blk_on HK2.out hb24)
  have HOF4 := Lib.hid HP4.out.off
  have HB4 := Lib.hid (HB2.out.trans (hb24.mono HB2.out.size))
  have Hz4 := Lib.hid (show z < w4.heap.size from lt_of_block HK4.out)
  clear hb4 hb24 Hb3 HP2 HK2 HB2
  have hb5 : Below w4.heap.size w4 ((w4.alloc (.cells #[.int .u8 0, .int .u16 0, .bool false, .int .u8 0, .int .u8 0, .int .u32 0, .int .u32 0, .slice none 0 0, .int .u16 0, .int .u16 0, .int .u32 0, .int .u32 0, .int .u8 0, .int .u16 0, .int .u16 0, .slice none 0 0, .slice none 0 0, .int .u16 0, .int .u16 0, .slice none 0 0, .int .u8 0, .int .u8 0, .int .u32 0, .slice none 0 0] 35)).alloc (.cells #[.int .u8 0, .int .u16 0, .bool false, .int .u8 0, .int .u8 0, .int .u32 0, .int .u32 0, .slice none 0 0, .int .u16 0, .int .u16 0, .int .u32 0, .int .u32 0, .int .u8 0, .int .u16 0, .int .u16 0, .slice none 0 0, .slice none 0 0, .int .u16 0, .int .u16 0, .slice none 0 0, .int .u8 0, .int .u8 0, .int .u32 0, .slice none 0 0] 35)) := ((Below.refl _ _).alloc (Nat.le_refl _) _).alloc (by simp) _
  have h7 : ((w4.alloc (.cells #[.int .u8 0, .int .u16 0, .bool false, .int .u8 0, .int .u8 0, .int .u32 0, .int .u32 0, .slice none 0 0, .int .u16 0, .int .u16 0, .int .u32 0, .int .u32 0, .int .u8 0, .int .u16 0, .int .u16 0, .slice none 0 0, .slice none 0 0, .int .u16 0, .int .u16 0, .slice none 0 0, .int .u8 0, .int .u8 0, .int .u32 0, .slice none 0 0] 35)).alloc (.cells #[.int .u8 0, .int .u16 0, .bool false, .int .u8 0, .int .u8 0, .int .u32 0, .int .u32 0, .slice none 0 0, .int .u16 0, .int .u16 0, .int .u32 0, .int .u32 0, .int .u8 0, .int .u16 0, .int .u16 0, .slice none 0 0, .slice none 0 0, .int .u16 0, .int .u16 0, .slice none 0 0, .int .u8 0, .int .u8 0, .int .u32 0, .slice none 0 0] 35)).heap[w4.heap.size]? = some (.cells #[.int .u8 0, .int .u16 0, .bool false, .int .u8 0, .int .u8 0, .int .u32 0, .int .u32 0, .slice none 0 0, .int .u16 0, .int .u16 0, .int .u32 0, .int .u32 0, .int .u8 0, .int .u16 0, .int .u16 0, .slice none 0 0, .slice none 0 0, .int .u16 0, .int .u16 0, .slice none 0 0, .int .u8 0, .int .u8 0, .int .u32 0, .slice none 0 0] 35 (0, 0)) := (Below.heap_alloc _ _ _ (by simp)).trans (heap_alloc_new w4 _)
  have h8 : ((w4.alloc (.cells #[.int .u8 0, .int .u16 0, .bool false, .int .u8 0, .int .u8 0, .int .u32 0, .int .u32 0, .slice none 0 0, .int .u16 0, .int .u16 0, .int .u32 0, .int .u32 0, .int .u8 0, .int .u16 0, .int .u16 0, .slice none 0 0, .slice none 0 0, .int .u16 0, .int .u16 0, .slice none 0 0, .int .u8 0, .int .u8 0, .int .u32 0, .slice none 0 0] 35)).alloc (.cells #[.int .u8 0, .int .u16 0, .bool false, .int .u8 0, .int .u8 0, .int .u32 0, .int .u32 0, .slice none 0 0, .int .u16 0, .int .u16 0, .int .u32 0, .int .u32 0, .int .u8 0, .int .u16 0, .int .u16 0, .slice none 0 0, .slice none 0 0, .int .u16 0, .int .u16 0, .slice none 0 0, .int .u8 0, .int .u8 0, .int .u32 0, .slice none 0 0] 35)).heap[w4.heap.size + 1]? = some (.cells #[.int .u8 0, .int .u16 0, .bool false, .int .u8 0, .int .u8 0, .int .u32 0, .int .u32 0, .slice none 0 0, .int .u16 0, .int .u16 0, .int .u32 0, .int .u32 0, .int .u8 0, .int .u16 0, .int .u16 0, .slice none 0 0, .slice none 0 0, .int .u16 0, .int .u16 0, .slice none 0 0, .int .u8 0, .int .u8 0, .int .u32 0, .slice none 0 0] 35 (0, 0)) := by
    have := heap_alloc_new (w4.alloc (.cells #[.int .u8 0, .int .u16 0, .bool false, .int .u8 0, .int .u8 0, .int .u32 0, .int .u32 0, .slice none 0 0, .int .u16 0, .int .u16 0, .int .u32 0, .int .u32 0, .int .u8 0, .int .u16 0, .int .u16 0, .slice none 0 0, .slice none 0 0, .int .u16 0, .int .u16 0, .slice none 0 0, .int .u8 0, .int .u8 0, .int .u32 0, .slice none 0 0] 35)) (.cells #[.int .u8 0, .int .u16 0, .bool false, .int .u8 0, .int .u8 0, .int .u32 0, .int .u32 0, .slice none 0 0, .int .u16 0, .int .u16 0, .int .u32 0, .int .u32 0, .int .u8 0, .int .u16 0, .int .u16 0, .slice none 0 0, .slice none 0 0, .int .u16 0, .int .u16 0, .slice none 0 0, .int .u8 0, .int .u8 0, .int .u32 0, .slice none 0 0] 35)
    rw [show (w4.alloc (.cells #[.int .u8 0, .int .u16 0, .bool false, .int .u8 0, .int .u8 0, .int .u32 0, .int .u32 0, .slice none 0 0, .int .u16 0, .int .u16 0, .int .u32 0, .int .u32 0, .int .u8 0, .int .u16 0, .int .u16 0, .slice none 0 0, .slice none 0 0, .int .u16 0, .int .u16 0, .slice none 0 0, .int .u8 0, .int .u8 0, .int .u32 0, .slice none 0 0] 35)).heap.size = w4.heap.size + 1 by simp] at this
    exact this
  obtain ⟨w5, e5⟩ : ∃ v, (w4.alloc (.cells #[.int .u8 0, .int .u16 0, .bool false, .int .u8 0, .int .u8 0, .int .u32 0, .int .u32 0, .slice none 0 0, .int .u16 0, .int .u16 0, .int .u32 0, .int .u32 0, .int .u8 0, .int .u16 0, .int .u16 0, .slice none 0 0, .slice none 0 0, .int .u16 0, .int .u16 0, .slice none 0 0, .int .u8 0, .int .u8 0, .int .u32 0, .slice none 0 0] 35)).alloc (.cells #[.int .u8 0, .int .u16 0, .bool false, .int .u8 0, .int .u8 0, .int .u32 0, .int .u32 0, .slice none 0 0, .int .u16 0, .int .u16 0, .int .u32 0, .int .u32 0, .int .u8 0, .int .u16 0, .int .u16 0, .slice none 0 0, .slice none 0 0, .int .u16 0, .int .u16 0, .slice none 0 0, .int .u8 0, .int .u8 0, .int .u32 0, .slice none 0 0] 35) = v := ⟨_, rfl⟩
  have E5 := Lib.hid e5
  rw [e5] at hb5 h7 h8
  have H7 := Lib.hid h7
  have H8 := Lib.hid ((setRow_other w5 w4.heap.size (w4.heap.size + 1) #[.int .u8 0, .int .u16 0, .bool true, .int .u8 64, .int .u8 6, .int .u32 src, .int .u32 dst, .slice none 0 0, .int .u16 0, .int .u16 0, .int .u32 0, .int .u32 0, .int .u8 0, .int .u16 0, .int .u16 0, .slice none 0 0, .slice none 0 0, .int .u16 0, .int .u16 0, .slice none 0 0, .int .u8 0, .int .u8 0, .int .u32 0, .slice none 0 0] (by omega)).trans h8)
  have HP5 := Lib.hid (HP4.out.below hb5)
  have HK5 := Lib.hid (blk_on HK4.out hb5)
  have HB5 := Lib.hid (HB4.out.trans (hb5.mono HB4.out.size))
  clear e5 hb5 h7 h8 HP4 HK4
  try simp only []
  repeat (first | (rw [E5.out]; refine wp_store_row 35 (.tmp 7) (.tmp 13) rfl w4.heap.size _ rfl rfl 35 _ H7.out (by kernel_rfl) rfl (by simp [Value.oneCell']) ?_; simp only [Act.put, List.setIfInBounds_toArray, List.set_cons_zero, List.set_cons_succ]) | (refine wp_store_row 35 (.tmp 8) (.tmp 16) rfl (w4.heap.size + 1) _ rfl rfl 35 _ H8.out (by kernel_rfl) rfl (by simp [Value.oneCell']) ?_; simp only [Act.put, List.setIfInBounds_toArray, List.set_cons_zero, List.set_cons_succ]) | go_values | go_skip | go_guarded | go_step | go_upon | go_back)
  have hk7 := (setRow_other (w5.setRow w4.heap.size #[.int .u8 0, .int .u16 0, .bool true, .int .u8 64, .int .u8 6, .int .u32 src, .int .u32 dst, .slice none 0 0, .int .u16 0, .int .u16 0, .int .u32 0, .int .u32 0, .int .u8 0, .int .u16 0, .int .u16 0, .slice none 0 0, .slice none 0 0, .int .u16 0, .int .u16 0, .slice none 0 0, .int .u8 0, .int .u8 0, .int .u32 0, .slice none 0 0]) (w4.heap.size + 1) w4.heap.size #[.int .u8 0, .int .u16 0, .bool true, .int .u8 64, .int .u8 1, .int .u32 src, .int .u32 dst, .slice none 0 0, .int .u16 0, .int .u16 0, .int .u32 0, .int .u32 0, .int .u8 0, .int .u16 0, .int .u16 0, .slice none 0 0, .slice none 0 0, .int .u16 0, .int .u16 0, .slice none 0 0, .int .u8 0, .int .u8 0, .int .u32 0, .slice none 0 0] (by omega)).trans (setRow_heap w5 w4.heap.size _ #[.int .u8 0, .int .u16 0, .bool true, .int .u8 64, .int .u8 6, .int .u32 src, .int .u32 dst, .slice none 0 0, .int .u16 0, .int .u16 0, .int .u32 0, .int .u32 0, .int .u8 0, .int .u16 0, .int .u16 0, .slice none 0 0, .slice none 0 0, .int .u16 0, .int .u16 0, .slice none 0 0, .int .u8 0, .int .u8 0, .int .u32 0, .slice none 0 0] _ _ H7.out)
  have hk8 := setRow_heap (w5.setRow w4.heap.size #[.int .u8 0, .int .u16 0, .bool true, .int .u8 64, .int .u8 6, .int .u32 src, .int .u32 dst, .slice none 0 0, .int .u16 0, .int .u16 0, .int .u32 0, .int .u32 0, .int .u8 0, .int .u16 0, .int .u16 0, .slice none 0 0, .slice none 0 0, .int .u16 0, .int .u16 0, .slice none 0 0, .int .u8 0, .int .u8 0, .int .u32 0, .slice none 0 0]) (w4.heap.size + 1) _ #[.int .u8 0, .int .u16 0, .bool true, .int .u8 64, .int .u8 1, .int .u32 src, .int .u32 dst, .slice none 0 0, .int .u16 0, .int .u16 0, .int .u32 0, .int .u32 0, .int .u8 0, .int .u16 0, .int .u16 0, .slice none 0 0, .slice none 0 0, .int .u16 0, .int .u16 0, .slice none 0 0, .int .u8 0, .int .u8 0, .int .u32 0, .slice none 0 0] _ _ H8.out
  have hbt := (row_but w5 w4.heap.size #[.int .u8 0, .int .u16 0, .bool true, .int .u8 64, .int .u8 6, .int .u32 src, .int .u32 dst, .slice none 0 0, .int .u16 0, .int .u16 0, .int .u32 0, .int .u32 0, .int .u8 0, .int .u16 0, .int .u16 0, .slice none 0 0, .slice none 0 0, .int .u16 0, .int .u16 0, .slice none 0 0, .int .u8 0, .int .u8 0, .int .u32 0, .slice none 0 0])
  have hS6 : ∀ k, k = w4.heap.size → w4.heap.size ≤ k := fun k hk => by omega
  have hb6 : But (fun k => w4.heap.size ≤ k) w5 ((w5.setRow w4.heap.size #[.int .u8 0, .int .u16 0, .bool true, .int .u8 64, .int .u8 6, .int .u32 src, .int .u32 dst, .slice none 0 0, .int .u16 0, .int .u16 0, .int .u32 0, .int .u32 0, .int .u8 0, .int .u16 0, .int .u16 0, .slice none 0 0, .slice none 0 0, .int .u16 0, .int .u16 0, .slice none 0 0, .int .u8 0, .int .u8 0, .int .u32 0, .slice none 0 0]).setRow (w4.heap.size + 1) #[.int .u8 0, .int .u16 0, .bool true, .int .u8 64, .int .u8 1, .int .u32 src, .int .u32 dst, .slice none 0 0, .int .u16 0, .int .u16 0, .int .u32 0, .int .u32 0, .int .u8 0, .int .u16 0, .int .u16 0, .slice none 0 0, .slice none 0 0, .int .u16 0, .int .u16 0, .slice none 0 0, .int .u8 0, .int .u8 0, .int .u32 0, .slice none 0 0]) :=
    ((row_but w5 w4.heap.size #[.int .u8 0, .int .u16 0, .bool true, .int .u8 64, .int .u8 6, .int .u32 src, .int .u32 dst, .slice none 0 0, .int .u16 0, .int .u16 0, .int .u32 0, .int .u32 0, .int .u8 0, .int .u16 0, .int .u16 0, .slice none 0 0, .slice none 0 0, .int .u16 0, .int .u16 0, .slice none 0 0, .int .u8 0, .int .u8 0, .int .u32 0, .slice none 0 0]).mono (fun k _ hk => by omega)).trans ((row_but (w5.setRow w4.heap.size #[.int .u8 0, .int .u16 0, .bool true, .int .u8 64, .int .u8 6, .int .u32 src, .int .u32 dst, .slice none 0 0, .int .u16 0, .int .u16 0, .int .u32 0, .int .u32 0, .int .u8 0, .int .u16 0, .int .u16 0, .slice none 0 0, .slice none 0 0, .int .u16 0, .int .u16 0, .slice none 0 0, .int .u8 0, .int .u8 0, .int .u32 0, .slice none 0 0]) (w4.heap.size + 1) #[.int .u8 0, .int .u16 0, .bool true, .int .u8 64, .int .u8 1, .int .u32 src, .int .u32 dst, .slice none 0 0, .int .u16 0, .int .u16 0, .int .u32 0, .int .u32 0, .int .u8 0, .int .u16 0, .int .u16 0, .slice none 0 0, .slice none 0 0, .int .u16 0, .int .u16 0, .slice none 0 0, .int .u8 0, .int .u8 0, .int .u32 0, .slice none 0 0]).mono (fun k _ hk => by omega))
  obtain ⟨w6, e6⟩ : ∃ v, (w5.setRow w4.heap.size #[.int .u8 0, .int .u16 0, .bool true, .int .u8 64, .int .u8 6, .int .u32 src, .int .u32 dst, .slice none 0 0, .int .u16 0, .int .u16 0, .int .u32 0, .int .u32 0, .int .u8 0, .int .u16 0, .int .u16 0, .slice none 0 0, .slice none 0 0, .int .u16 0, .int .u16 0, .slice none 0 0, .int .u8 0, .int .u8 0, .int .u32 0, .slice none 0 0]).setRow (w4.heap.size + 1) #[.int .u8 0, .int .u16 0, .bool true, .int .u8 64, .int .u8 1, .int .u32 src, .int .u32 dst, .slice none 0 0, .int .u16 0, .int .u16 0, .int .u32 0, .int .u32 0, .int .u8 0, .int .u16 0, .int .u16 0, .slice none 0 0, .slice none 0 0, .int .u16 0, .int .u16 0, .slice none 0 0, .int .u8 0, .int .u8 0, .int .u32 0, .slice none 0 0] = v := ⟨_, rfl⟩
  rw [e6] at hk7 hk8 hb6 ⊢
  clear e6 hbt hS6 E5 H7 H8
  have HOF := Lib.hid HOF4.out
  have HP6 := Lib.hid (HP5.out.but hb6 HOF.out)
  have HK6 := Lib.hid (hb6.blk HK5.out (by have := Hz4.out; omega))
  have HB6 := Lib.hid (HB5.out.trans (hb6.below (B := W.heap.size) (fun k hk => by have := Hz4.out; have := Hz.out; omega) HB5.out.size))
  have H7 := Lib.hid hk7
  have H8 := Lib.hid hk8
  clear hk7 hk8 hb6 HP5 HK5 HB5
  have HS := Lib.hid (show ∀ w' : World, w'.heap[z]? = some (.cells #[.int .u8 q.h.to, .int .u16 q.h.id, .bool q.h.df, .int .u8 q.h.tt, .int .u8 q.h.pr, .int .u32 q.h.sr, .int .u32 q.h.ds, .slice b.AH b.nH b.cH, .int .u16 q.s.sp, .int .u16 q.s.dp, .int .u32 q.s.sq, .int .u32 q.s.ak, .int .u8 q.s.fl, .int .u16 q.s.wn, .int .u16 q.s.ug, .slice b.AO b.nO b.cO, .slice b.AD b.nD b.cD, .int .u16 q.u.sp, .int .u16 q.u.dp, .slice b.AU b.nU b.cU, .int .u8 q.m.ty, .int .u8 q.m.cd, .int .u32 q.m.rs, .slice b.AM b.nM b.cM] 35 (0, 0)) → (w'.cell? ⟨z, 8, none⟩ = some (.int .u16 q.s.sp) ∧ w'.cell? ⟨z, 9, none⟩ = some (.int .u16 q.s.dp) ∧ w'.cell? ⟨z, 10, none⟩ = some (.int .u32 q.s.sq) ∧ w'.cell? ⟨z, 11, none⟩ = some (.int .u32 q.s.ak) ∧ w'.cell? ⟨z, 12, none⟩ = some (.int .u8 q.s.fl) ∧ w'.cell? ⟨z, 13, none⟩ = some (.int .u16 q.s.wn) ∧ w'.cell? ⟨z, 14, none⟩ = some (.int .u16 q.s.ug) ∧ w'.cell? ⟨z, 15, none⟩ = some (.slice b.AO b.nO b.cO) ∧ w'.cell? ⟨z, 16, none⟩ = some (.slice b.AD b.nD b.cD) ∧ w'.cell? ⟨z, 20, none⟩ = some (.int .u8 q.m.ty) ∧ w'.cell? ⟨z, 21, none⟩ = some (.int .u8 q.m.cd) ∧ w'.cell? ⟨z, 22, none⟩ = some (.int .u32 q.m.rs) ∧ w'.cell? ⟨z, 23, none⟩ = some (.slice b.AM b.nM b.cM)) from fun w' h => by
    obtain ⟨k0, k1, k2, k3, k4, k5, k6, k7, k8, k9, k10, k11, k12, k13, k14, k15, k16, k17, k18, k19, k20, k21, k22, k23⟩ := cells24 h
    exact ⟨k8, k9, k10, k11, k12, k13, k14, k15, k16, k20, k21, k22, k23⟩)
  have HBd := Lib.hid (Below.drew (Below.refl w6.heap.size w6))
  refine wp_region_held_drew (S := fun w' => (w'.cell? ⟨z, 8, none⟩ = some (.int .u16 q.s.sp) ∧ w'.cell? ⟨z, 9, none⟩ = some (.int .u16 q.s.dp) ∧ w'.cell? ⟨z, 10, none⟩ = some (.int .u32 q.s.sq) ∧ w'.cell? ⟨z, 11, none⟩ = some (.int .u32 q.s.ak) ∧ w'.cell? ⟨z, 12, none⟩ = some (.int .u8 q.s.fl) ∧ w'.cell? ⟨z, 13, none⟩ = some (.int .u16 q.s.wn) ∧ w'.cell? ⟨z, 14, none⟩ = some (.int .u16 q.s.ug) ∧ w'.cell? ⟨z, 15, none⟩ = some (.slice b.AO b.nO b.cO) ∧ w'.cell? ⟨z, 16, none⟩ = some (.slice b.AD b.nD b.cD) ∧ w'.cell? ⟨z, 20, none⟩ = some (.int .u8 q.m.ty) ∧ w'.cell? ⟨z, 21, none⟩ = some (.int .u8 q.m.cd) ∧ w'.cell? ⟨z, 22, none⟩ = some (.int .u32 q.m.rs) ∧ w'.cell? ⟨z, 23, none⟩ = some (.slice b.AM b.nM b.cM))) (by kernel_rfl) (HS.out _ (blk_on HK6.out HBd.out)) (fun hHeld => ?_)
  obtain ⟨wd, ewd⟩ : ∃ wd, w6.drew = wd := ⟨_, rfl⟩
  rw [ewd] at HBd hHeld ⊢
  clear ewd
  have K7 := Lib.hid (blk_on H7.out HBd.out)
  have K8 := Lib.hid (blk_on H8.out HBd.out)
  have KZ := Lib.hid (blk_on HK6.out HBd.out)
  have HPd := Lib.hid (HP6.out.below HBd.out)
  have HBD := Lib.hid (HB6.out.trans (HBd.out.mono HB6.out.size))
  clear H7 H8 HK6 HP6 HB6
  refine wpAnyH_take (i := 0) (oi := { dst := some 17, op := Go.Op.fieldAddr 35 (Go.Operand.tmp 5) 1, type := 0, pos := "law.go:65", after := #[], guard := none }) (v := ?_) rfl (by kernel_rfl) (by kernel_rfl) (by kernel_rfl) (fun _ _ _ h => h) (Or.inl ⟨by rfl, ?_⟩) (by assumption) ?_
  rotate_left 1
  · intro w' hSw; (go_simp <;> (with_reducible rfl))
  (try simp only [Act.put, List.setIfInBounds_toArray, List.set_cons_zero, List.set_cons_succ])
  refine wpAnyH_take (i := 1) (oi := { dst := some 18, op := Go.Op.load 29 (Go.Operand.tmp 17), type := 29, pos := "law.go:65", after := #[{ on := 0, ground := Go.Ground.data }], guard := none }) (v := ?_) rfl (by kernel_rfl) (by kernel_rfl) (by kernel_rfl) (fun _ _ _ h => h) (Or.inl ⟨by rfl, ?_⟩) (by assumption) ?_
  rotate_left 1
  · intro w' hSw; (go_simp <;> (with_reducible rfl))
  (try simp only [Act.put, List.setIfInBounds_toArray, List.set_cons_zero, List.set_cons_succ])
  refine wpAnyH_take (i := 2) (oi := { dst := some 19, op := Go.Op.fieldAddr 35 (Go.Operand.tmp 5) 3, type := 0, pos := "law.go:65", after := #[{ on := 5, ground := Go.Ground.gcOnly Go.Departure.lateStores }], guard := none }) (v := ?_) rfl (by kernel_rfl) (by kernel_rfl) (by kernel_rfl) (fun _ _ _ h => h) (Or.inl ⟨by rfl, ?_⟩) (by assumption) ?_
  rotate_left 1
  · intro w' hSw; (go_simp <;> (with_reducible rfl))
  (try simp only [Act.put, List.setIfInBounds_toArray, List.set_cons_zero, List.set_cons_succ])
  refine wpAnyH_take (i := 3) (oi := { dst := some 20, op := Go.Op.load 33 (Go.Operand.tmp 19), type := 33, pos := "law.go:65", after := #[{ on := 2, ground := Go.Ground.data }, { on := 5, ground := Go.Ground.gcOnly Go.Departure.lateStores }], guard := none }) (v := ?_) rfl (by kernel_rfl) (by kernel_rfl) (by kernel_rfl) (fun _ _ _ h => h) (Or.inl ⟨by rfl, ?_⟩) (by assumption) ?_
  rotate_left 1
  · intro w' hSw; (go_simp <;> (with_reducible rfl))
  (try simp only [Act.put, List.setIfInBounds_toArray, List.set_cons_zero, List.set_cons_succ])
  refine wpAnyH_take (i := 4) (oi := { dst := some 21, op := Go.Op.fieldAddr 35 (Go.Operand.tmp 7) 1, type := 0, pos := "law.go:65", after := #[{ on := 0, ground := Go.Ground.phase }, { on := 1, ground := Go.Ground.phase }, { on := 2, ground := Go.Ground.textOnly Go.Departure.lateStores }, { on := 3, ground := Go.Ground.textOnly Go.Departure.lateStores }], guard := none }) (v := ?_) rfl (by kernel_rfl) (by kernel_rfl) (by kernel_rfl) (fun _ _ _ h => h) (Or.inl ⟨by rfl, ?_⟩) (by assumption) ?_
  rotate_left 1
  · intro w' hSw; (go_simp <;> (with_reducible rfl))
  (try simp only [Act.put, List.setIfInBounds_toArray, List.set_cons_zero, List.set_cons_succ])
  have b9 := set9_24u wd w4.heap.size (.int .u16 q.s.sp) (.int .u16 q.s.dp) (.int .u32 q.s.sq) (.int .u32 q.s.ak) (.int .u8 q.s.fl) (.int .u16 q.s.wn) (.int .u16 q.s.ug) (.slice b.AO b.nO b.cO) (.slice b.AD b.nD b.cD)
  have hk9 := set9_24 K7.out (.int .u16 q.s.sp) (.int .u16 q.s.dp) (.int .u32 q.s.sq) (.int .u32 q.s.ak) (.int .u8 q.s.fl) (.int .u16 q.s.wn) (.int .u16 q.s.ug) (.slice b.AO b.nO b.cO) (.slice b.AD b.nD b.cD)
  obtain ⟨k0, k1, k2, k3, k4, k5, k6, k7, k8, k9, k10, k11, k12, k13, k14, k15, k16, k17, k18, k19, k20, k21, k22, k23⟩ := cells24 K7.out
  have kf := fun i => late_free K7.out i
  refine wpAnyH_ready (rs := [5]) (by kernel_rfl) (by simp) ?_
  refine AllReadyH.cons (o := { dst := none, op := Go.Op.store 29 (Go.Operand.tmp 21) (Go.Operand.tmp 18), type := 0, pos := "law.go:65", after := #[{ on := 4, ground := Go.Ground.data }, { on := 1, ground := Go.Ground.data }, { on := 0, ground := Go.Ground.phase }, { on := 1, ground := Go.Ground.phase }, { on := 2, ground := Go.Ground.textOnly Go.Departure.lateStores }, { on := 3, ground := Go.Ground.textOnly Go.Departure.lateStores }], guard := none }) rfl (fun K hK => ?_) AllReadyH.nil
  go_simp
  skip
  refine hK.out _ _ ?_ (fun hHeld => ?_)
  · exact HS.out _ (b9.blk KZ.out (by have := Hz4.out; omega))
  clear hK K
  (try simp only [Act.put, List.setIfInBounds_toArray, List.set_cons_zero, List.set_cons_succ])
  clear k0 k1 k2 k3 k4 k5 k6 k7 k8 k9 k10 k11 k12 k13 k14 k15 k16 k17 k18 k19 k20 k21 k22 k23
  clear kf
  obtain ⟨w7, e7⟩ : ∃ v, (((((((((wd.setCell ⟨w4.heap.size, 8, none⟩ (.int .u16 q.s.sp)).setCell ⟨w4.heap.size, 9, none⟩ (.int .u16 q.s.dp)).setCell ⟨w4.heap.size, 10, none⟩ (.int .u32 q.s.sq)).setCell ⟨w4.heap.size, 11, none⟩ (.int .u32 q.s.ak)).setCell ⟨w4.heap.size, 12, none⟩ (.int .u8 q.s.fl)).setCell ⟨w4.heap.size, 13, none⟩ (.int .u16 q.s.wn)).setCell ⟨w4.heap.size, 14, none⟩ (.int .u16 q.s.ug)).setCell ⟨w4.heap.size, 15, none⟩ (.slice b.AO b.nO b.cO)).setCell ⟨w4.heap.size, 16, none⟩ (.slice b.AD b.nD b.cD)) = v := ⟨_, rfl⟩
  rw [e7] at b9 hk9 hHeld ⊢
  clear e7
  have L7 := Lib.hid hk9
  have L8 := Lib.hid (b9.blk K8.out (by omega))
  have LZ := Lib.hid (b9.blk KZ.out (by have := Hz4.out; omega))
  have HP7 := Lib.hid (HPd.out.but b9 (HOF.out.sub (fun g hg => by omega)))
  have HB7 := Lib.hid (HBD.out.trans (b9.below (B := W.heap.size) (fun k hk => by have := Hz4.out; have := Hz.out; omega) HBD.out.size))
  clear b9 hk9 K7 K8 KZ HPd HBD
  refine wpAnyH_take (i := 6) (oi := { dst := some 22, op := Go.Op.fieldAddr 35 (Go.Operand.tmp 8) 3, type := 0, pos := "law.go:65", after := #[{ on := 0, ground := Go.Ground.phase }, { on := 1, ground := Go.Ground.phase }, { on := 2, ground := Go.Ground.phase }, { on := 3, ground := Go.Ground.phase }, { on := 4, ground := Go.Ground.phase }, { on := 5, ground := Go.Ground.phase }], guard := none }) (v := ?_) rfl (by kernel_rfl) (by kernel_rfl) (by kernel_rfl) (fun _ _ _ h => h) (Or.inl ⟨by rfl, ?_⟩) (by assumption) ?_
  rotate_left 1
  · intro w' hSw; (go_simp <;> (with_reducible rfl))
  (try simp only [Act.put, List.setIfInBounds_toArray, List.set_cons_zero, List.set_cons_succ])
  have b4 := set4_24u w7 (w4.heap.size + 1) (.int .u8 q.m.ty) (.int .u8 q.m.cd) (.int .u32 q.m.rs) (.slice b.AM b.nM b.cM)
  have hk9 := set4_24 L8.out (.int .u8 q.m.ty) (.int .u8 q.m.cd) (.int .u32 q.m.rs) (.slice b.AM b.nM b.cM)
  obtain ⟨k0, k1, k2, k3, k4, k5, k6, k7, k8, k9, k10, k11, k12, k13, k14, k15, k16, k17, k18, k19, k20, k21, k22, k23⟩ := cells24 L8.out
  have kf := fun i => late_free L8.out i
  refine wpAnyH_ready (rs := [7]) (by kernel_rfl) (by simp) ?_
  refine AllReadyH.cons (o := { dst := none, op := Go.Op.store 33 (Go.Operand.tmp 22) (Go.Operand.tmp 20), type := 0, pos := "law.go:65", after := #[{ on := 6, ground := Go.Ground.data }, { on := 3, ground := Go.Ground.data }, { on := 5, ground := Go.Ground.chain }, { on := 0, ground := Go.Ground.phase }, { on := 1, ground := Go.Ground.phase }, { on := 2, ground := Go.Ground.phase }, { on := 3, ground := Go.Ground.phase }, { on := 4, ground := Go.Ground.phase }, { on := 5, ground := Go.Ground.phase }], guard := none }) rfl (fun K hK => ?_) AllReadyH.nil
  go_simp
  skip
  refine hK.out _ _ ?_ (fun hHeld => ?_)
  · exact HS.out _ (b4.blk LZ.out (by have := Hz4.out; omega))
  clear hK K
  (try simp only [Act.put, List.setIfInBounds_toArray, List.set_cons_zero, List.set_cons_succ])
  clear k0 k1 k2 k3 k4 k5 k6 k7 k8 k9 k10 k11 k12 k13 k14 k15 k16 k17 k18 k19 k20 k21 k22 k23
  clear kf
  obtain ⟨w8, e8⟩ : ∃ v, ((((w7.setCell ⟨w4.heap.size + 1, 20, none⟩ (.int .u8 q.m.ty)).setCell ⟨w4.heap.size + 1, 21, none⟩ (.int .u8 q.m.cd)).setCell ⟨w4.heap.size + 1, 22, none⟩ (.int .u32 q.m.rs)).setCell ⟨w4.heap.size + 1, 23, none⟩ (.slice b.AM b.nM b.cM)) = v := ⟨_, rfl⟩
  rw [e8] at b4 hk9 hHeld ⊢
  clear e8
  have M8 := Lib.hid hk9
  have M7 := Lib.hid (b4.blk L7.out (by omega))
  have MZ := Lib.hid (b4.blk LZ.out (by have := Hz4.out; omega))
  have HP8 := Lib.hid (HP7.out.but b4 (HOF.out.sub (fun g hg => by omega)))
  have HB8 := Lib.hid (HB7.out.trans (b4.below (B := W.heap.size) (fun k hk => by have := Hz4.out; have := Hz.out; omega) HB7.out.size))
  clear b4 hk9 L7 L8 LZ HP7 HB7
  refine wpAnyH_done (by kernel_rfl) ?_ _
  clear hHeld
  have HR := Lib.hid (show ∀ w', Below w8.heap.size w8 w' → (w'.heap[w4.heap.size]? = some (.cells #[.int .u8 0, .int .u16 0, .bool true, .int .u8 64, .int .u8 6, .int .u32 src, .int .u32 dst, .slice none 0 0, .int .u16 q.s.sp, .int .u16 q.s.dp, .int .u32 q.s.sq, .int .u32 q.s.ak, .int .u8 q.s.fl, .int .u16 q.s.wn, .int .u16 q.s.ug, .slice b.AO b.nO b.cO, .slice b.AD b.nD b.cD, .int .u16 0, .int .u16 0, .slice none 0 0, .int .u8 0, .int .u8 0, .int .u32 0, .slice none 0 0] 35 (0, 0)) ∧ w'.heap[w4.heap.size + 1]? = some (.cells #[.int .u8 0, .int .u16 0, .bool true, .int .u8 64, .int .u8 1, .int .u32 src, .int .u32 dst, .slice none 0 0, .int .u16 0, .int .u16 0, .int .u32 0, .int .u32 0, .int .u8 0, .int .u16 0, .int .u16 0, .slice none 0 0, .slice none 0 0, .int .u16 0, .int .u16 0, .slice none 0 0, .int .u8 q.m.ty, .int .u8 q.m.cd, .int .u32 q.m.rs, .slice b.AM b.nM b.cM] 35 (0, 0)) ∧ (w'.cell? ⟨z, 8, none⟩ = some (.int .u16 q.s.sp) ∧ w'.cell? ⟨z, 9, none⟩ = some (.int .u16 q.s.dp) ∧ w'.cell? ⟨z, 10, none⟩ = some (.int .u32 q.s.sq) ∧ w'.cell? ⟨z, 11, none⟩ = some (.int .u32 q.s.ak) ∧ w'.cell? ⟨z, 12, none⟩ = some (.int .u8 q.s.fl) ∧ w'.cell? ⟨z, 13, none⟩ = some (.int .u16 q.s.wn) ∧ w'.cell? ⟨z, 14, none⟩ = some (.int .u16 q.s.ug) ∧ w'.cell? ⟨z, 15, none⟩ = some (.slice b.AO b.nO b.cO) ∧ w'.cell? ⟨z, 16, none⟩ = some (.slice b.AD b.nD b.cD) ∧ w'.cell? ⟨z, 20, none⟩ = some (.int .u8 q.m.ty) ∧ w'.cell? ⟨z, 21, none⟩ = some (.int .u8 q.m.cd) ∧ w'.cell? ⟨z, 22, none⟩ = some (.int .u32 q.m.rs) ∧ w'.cell? ⟨z, 23, none⟩ = some (.slice b.AM b.nM b.cM))) ∧ PkRd w' q b from
    fun w' hb => ⟨⟨blk_on M7.out hb, blk_on M8.out hb, HS.out _ (blk_on MZ.out hb)⟩, HP8.out.below hb⟩)
  have HBe := Lib.hid (Below.drew (Below.refl w8.heap.size w8))
  try simp only []
  repeat (first | go_values | go_skip | go_guarded | go_step | go_upon | go_back)
  refine wp_region_held_drew (S := fun w' => (w'.heap[w4.heap.size]? = some (.cells #[.int .u8 0, .int .u16 0, .bool true, .int .u8 64, .int .u8 6, .int .u32 src, .int .u32 dst, .slice none 0 0, .int .u16 q.s.sp, .int .u16 q.s.dp, .int .u32 q.s.sq, .int .u32 q.s.ak, .int .u8 q.s.fl, .int .u16 q.s.wn, .int .u16 q.s.ug, .slice b.AO b.nO b.cO, .slice b.AD b.nD b.cD, .int .u16 0, .int .u16 0, .slice none 0 0, .int .u8 0, .int .u8 0, .int .u32 0, .slice none 0 0] 35 (0, 0)) ∧ w'.heap[w4.heap.size + 1]? = some (.cells #[.int .u8 0, .int .u16 0, .bool true, .int .u8 64, .int .u8 1, .int .u32 src, .int .u32 dst, .slice none 0 0, .int .u16 0, .int .u16 0, .int .u32 0, .int .u32 0, .int .u8 0, .int .u16 0, .int .u16 0, .slice none 0 0, .slice none 0 0, .int .u16 0, .int .u16 0, .slice none 0 0, .int .u8 q.m.ty, .int .u8 q.m.cd, .int .u32 q.m.rs, .slice b.AM b.nM b.cM] 35 (0, 0)) ∧ (w'.cell? ⟨z, 8, none⟩ = some (.int .u16 q.s.sp) ∧ w'.cell? ⟨z, 9, none⟩ = some (.int .u16 q.s.dp) ∧ w'.cell? ⟨z, 10, none⟩ = some (.int .u32 q.s.sq) ∧ w'.cell? ⟨z, 11, none⟩ = some (.int .u32 q.s.ak) ∧ w'.cell? ⟨z, 12, none⟩ = some (.int .u8 q.s.fl) ∧ w'.cell? ⟨z, 13, none⟩ = some (.int .u16 q.s.wn) ∧ w'.cell? ⟨z, 14, none⟩ = some (.int .u16 q.s.ug) ∧ w'.cell? ⟨z, 15, none⟩ = some (.slice b.AO b.nO b.cO) ∧ w'.cell? ⟨z, 16, none⟩ = some (.slice b.AD b.nD b.cD) ∧ w'.cell? ⟨z, 20, none⟩ = some (.int .u8 q.m.ty) ∧ w'.cell? ⟨z, 21, none⟩ = some (.int .u8 q.m.cd) ∧ w'.cell? ⟨z, 22, none⟩ = some (.int .u32 q.m.rs) ∧ w'.cell? ⟨z, 23, none⟩ = some (.slice b.AM b.nM b.cM)))) (by kernel_rfl) (HR.out _ HBe.out).1 (fun hHeld => ?_)
  obtain ⟨we, ewe⟩ : ∃ we, w8.drew = we := ⟨_, rfl⟩
  rw [ewe] at HBe hHeld ⊢
  clear ewe
  refine wpAnyH_ready (rs := [0]) (by kernel_rfl) (by simp) ?_
  refine AllReadyH.cons (o := { dst := some 23, op := Go.Op.call { callee := Go.Callee.value (Go.Operand.func 8), args := #[], argTypes := #[] }, type := 4, pos := "law.go:66", after := #[], guard := none }) rfl (fun K hK => ?_) AllReadyH.nil
  go_simp
  (refine (awake9_any _).mono ?_; rintro e w9 ⟨rfl, hb9⟩; have HB9 := Lib.hid (below_trans HBe.out hb9); clear hb9)
  refine hK.out _ _ ?_ (fun hHeld => ?_)
  · exact (HR.out _ HB9.out).1
  clear hK K
  (try simp only [Act.put, List.setIfInBounds_toArray, List.set_cons_zero, List.set_cons_succ])
  refine wpAnyH_take (i := 1) (oi := { dst := some 24, op := Go.Op.move (Go.Operand.tmp 23), type := 4, pos := "law.go:66", after := #[{ on := 0, ground := Go.Ground.data }, { on := 0, ground := Go.Ground.chain }], guard := none }) (v := ?_) rfl (by kernel_rfl) (by kernel_rfl) (by kernel_rfl) (fun _ _ _ h => h) (Or.inl ⟨by rfl, ?_⟩) (by assumption) ?_
  rotate_left 1
  · intro w' hSw; (go_simp <;> (with_reducible rfl))
  (try simp only [Act.put, List.setIfInBounds_toArray, List.set_cons_zero, List.set_cons_succ])
  refine wpAnyH_take (i := 2) (oi := { dst := some 25, op := Go.Op.move (Go.Operand.tmp 0), type := 23, pos := "law.go:66", after := #[{ on := 1, ground := Go.Ground.guard }], guard := some (1, true) }) (v := ?_) rfl (by kernel_rfl) (by kernel_rfl) (by kernel_rfl) (fun _ _ _ h => h) (Or.inl ⟨by rfl, ?_⟩) (by assumption) ?_
  rotate_left 1
  · intro w' hSw; (go_simp <;> (with_reducible rfl))
  (try simp only [Act.put, List.setIfInBounds_toArray, List.set_cons_zero, List.set_cons_succ])
  refine wpAnyH_take (i := 3) (oi := { dst := some 26, op := Go.Op.move (Go.Operand.tmp 1), type := 23, pos := "law.go:66", after := #[{ on := 1, ground := Go.Ground.guard }], guard := some (1, true) }) (v := ?_) rfl (by kernel_rfl) (by kernel_rfl) (by kernel_rfl) (fun _ _ _ h => h) (Or.inl ⟨by rfl, ?_⟩) (by assumption) ?_
  rotate_left 1
  · intro w' hSw; (go_simp <;> (with_reducible rfl))
  (try simp only [Act.put, List.setIfInBounds_toArray, List.set_cons_zero, List.set_cons_succ])
  refine wpAnyH_take (i := 4) (oi := { dst := some 27, op := Go.Op.fieldAddr 35 (Go.Operand.tmp 5) 1, type := 0, pos := "law.go:66", after := #[{ on := 1, ground := Go.Ground.guard }], guard := some (1, true) }) (v := ?_) rfl (by kernel_rfl) (by kernel_rfl) (by kernel_rfl) (fun _ _ _ h => h) (Or.inl ⟨by rfl, ?_⟩) (by assumption) ?_
  rotate_left 1
  · intro w' hSw; (go_simp <;> (with_reducible rfl))
  (try simp only [Act.put, List.setIfInBounds_toArray, List.set_cons_zero, List.set_cons_succ])
  refine wpAnyH_take (i := 5) (oi := { dst := some 28, op := Go.Op.load 29 (Go.Operand.tmp 27), type := 29, pos := "law.go:66", after := #[{ on := 4, ground := Go.Ground.data }, { on := 1, ground := Go.Ground.guard }], guard := some (1, true) }) (v := ?_) rfl (by kernel_rfl) (by kernel_rfl) (by kernel_rfl) (fun _ _ _ h => h) (Or.inl ⟨by rfl, ?_⟩) (by assumption) ?_
  rotate_left 1
  · intro w' hSw; (go_simp <;> (with_reducible rfl))
  (try simp only [Act.put, List.setIfInBounds_toArray, List.set_cons_zero, List.set_cons_succ])
  refine wpAnyH_take (i := 7) (oi := { dst := some 30, op := Go.Op.load 35 (Go.Operand.tmp 7), type := 35, pos := "law.go:66", after := #[{ on := 1, ground := Go.Ground.guard }], guard := some (1, true) }) (v := .agg #[.int .u8 0, .int .u16 0, .bool true, .int .u8 64, .int .u8 6, .int .u32 src, .int .u32 dst, .slice none 0 0, .int .u16 q.s.sp, .int .u16 q.s.dp, .int .u32 q.s.sq, .int .u32 q.s.ak, .int .u8 q.s.fl, .int .u16 q.s.wn, .int .u16 q.s.ug, .slice b.AO b.nO b.cO, .slice b.AD b.nD b.cD, .int .u16 0, .int .u16 0, .slice none 0 0, .int .u8 0, .int .u8 0, .int .u32 0, .slice none 0 0]) rfl (by kernel_rfl) (by kernel_rfl) (by kernel_rfl) (fun _ _ _ h => h) (Or.inl ⟨by rfl, fun w' hSw => exec_row 35 (.tmp 7) rfl w4.heap.size _ _ _ _ hSw.1 rfl Tryz.underlying35 rfl (by kernel_rfl)⟩) (by assumption) ?_
  (try simp only [Act.put, List.setIfInBounds_toArray, List.set_cons_zero, List.set_cons_succ])
  refine wpAnyH_ready (rs := [6]) (by kernel_rfl) (by simp) ?_
  refine AllReadyH.cons (o := { dst := some 29, op := Go.Op.call { callee := Go.Callee.value (Go.Operand.func 15), args := #[Go.Operand.tmp 25, Go.Operand.tmp 26, Go.Operand.tmp 28], argTypes := #[23, 23, 29] }, type := 35, pos := "law.go:66", after := #[{ on := 2, ground := Go.Ground.data }, { on := 3, ground := Go.Ground.data }, { on := 5, ground := Go.Ground.data }, { on := 1, ground := Go.Ground.chain }, { on := 1, ground := Go.Ground.guard }], guard := some (1, true) }) rfl (fun K hK => ?_) AllReadyH.nil
  go_simp
  (refine (tcp9_any src dst q.s b.AO b.nO b.cO b.os b.AD b.nD b.cD _ Hs.out Hd.out (by have := Hsm.out.o; omega) (by have := Hsm.out.d; omega) (fun l hl => by have := Hsm.out.l l hl; omega) (HR.out _ HB9.out).2.sr).mono ?_; rintro e w10 ⟨b10, rfl, hp10, hn10, -, hb10⟩; have HB10 := Lib.hid (below_trans HB9.out hb10); have HP10 := Lib.hid hp10; have Hn10 := Lib.hid hn10; clear hb10 hp10 hn10)
  refine hK.out _ _ ?_ (fun hHeld => ?_)
  · exact (HR.out _ HB10.out).1
  clear hK K
  (try simp only [Act.put, List.setIfInBounds_toArray, List.set_cons_zero, List.set_cons_succ])
  refine wpAnyH_ready (rs := [8]) (by kernel_rfl) (by simp) ?_
  refine AllReadyH.cons (o := { dst := some 31, op := Go.Op.call { callee := Go.Callee.value (Go.Operand.func 13), args := #[Go.Operand.tmp 29, Go.Operand.tmp 30], argTypes := #[35, 35] }, type := 4, pos := "law.go:66", after := #[{ on := 6, ground := Go.Ground.data }, { on := 7, ground := Go.Ground.data }, { on := 6, ground := Go.Ground.chain }, { on := 1, ground := Go.Ground.guard }], guard := some (1, true) }) rfl (fun K hK => ?_) AllReadyH.nil
  go_simp
  (refine (rsame9_any ⟨ownH src dst 6, q.s, zeroDg, zeroM⟩ ⟨ownH src dst 6, q.s, zeroDg, zeroM⟩ b10 ⟨none, 0, 0, b.AO, b.nO, b.cO, b.os, b.AD, b.nD, b.cD, none, 0, 0, none, 0, 0⟩ _ true HP10.out (own_rd6 Hs.out Hd.out (HR.out _ HB10.out).2) (by have := Hsm.out.o; have := Hn10.out; omega) (pkSame_self _)).mono ?_; rintro e w11 ⟨rfl, hb11⟩; have HB11 := Lib.hid (below_trans HB10.out hb11); clear hb11)
  refine hK.out _ _ ?_ (fun hHeld => ?_)
  · exact (HR.out _ HB11.out).1
  clear hK K
  (try simp only [Act.put, List.setIfInBounds_toArray, List.set_cons_zero, List.set_cons_succ])
  refine wpAnyH_take (i := 9) (oi := { dst := some 32, op := Go.Op.pick (Go.Operand.tmp 24) (Go.Operand.tmp 31) (Go.Operand.const (Go.Value.bool false)), type := 4, pos := "law.go:66", after := #[{ on := 1, ground := Go.Ground.data }, { on := 8, ground := Go.Ground.data }], guard := none }) (v := ?_) rfl (by kernel_rfl) (by kernel_rfl) (by kernel_rfl) (fun _ _ _ h => h) (Or.inl ⟨by rfl, ?_⟩) (by assumption) ?_
  rotate_left 1
  · intro w' hSw; (go_simp <;> (with_reducible rfl))
  (try simp only [Act.put, List.setIfInBounds_toArray, List.set_cons_zero, List.set_cons_succ])
  refine wpAnyH_take (i := 10) (oi := { dst := some 33, op := Go.Op.move (Go.Operand.tmp 32), type := 4, pos := "law.go:66", after := #[{ on := 9, ground := Go.Ground.data }, { on := 8, ground := Go.Ground.chain }], guard := none }) (v := ?_) rfl (by kernel_rfl) (by kernel_rfl) (by kernel_rfl) (fun _ _ _ h => h) (Or.inl ⟨by rfl, ?_⟩) (by assumption) ?_
  rotate_left 1
  · intro w' hSw; (go_simp <;> (with_reducible rfl))
  (try simp only [Act.put, List.setIfInBounds_toArray, List.set_cons_zero, List.set_cons_succ])
  refine wpAnyH_take (i := 11) (oi := { dst := some 34, op := Go.Op.move (Go.Operand.tmp 0), type := 23, pos := "law.go:66", after := #[{ on := 10, ground := Go.Ground.guard }], guard := some (10, true) }) (v := ?_) rfl (by kernel_rfl) (by kernel_rfl) (by kernel_rfl) (fun _ _ _ h => h) (Or.inl ⟨by rfl, ?_⟩) (by assumption) ?_
  rotate_left 1
  · intro w' hSw; (go_simp <;> (with_reducible rfl))
  (try simp only [Act.put, List.setIfInBounds_toArray, List.set_cons_zero, List.set_cons_succ])
  refine wpAnyH_take (i := 12) (oi := { dst := some 35, op := Go.Op.move (Go.Operand.tmp 1), type := 23, pos := "law.go:66", after := #[{ on := 10, ground := Go.Ground.guard }], guard := some (10, true) }) (v := ?_) rfl (by kernel_rfl) (by kernel_rfl) (by kernel_rfl) (fun _ _ _ h => h) (Or.inl ⟨by rfl, ?_⟩) (by assumption) ?_
  rotate_left 1
  · intro w' hSw; (go_simp <;> (with_reducible rfl))
  (try simp only [Act.put, List.setIfInBounds_toArray, List.set_cons_zero, List.set_cons_succ])
  refine wpAnyH_take (i := 13) (oi := { dst := some 36, op := Go.Op.fieldAddr 35 (Go.Operand.tmp 5) 3, type := 0, pos := "law.go:66", after := #[{ on := 10, ground := Go.Ground.guard }], guard := some (10, true) }) (v := ?_) rfl (by kernel_rfl) (by kernel_rfl) (by kernel_rfl) (fun _ _ _ h => h) (Or.inl ⟨by rfl, ?_⟩) (by assumption) ?_
  rotate_left 1
  · intro w' hSw; (go_simp <;> (with_reducible rfl))
  (try simp only [Act.put, List.setIfInBounds_toArray, List.set_cons_zero, List.set_cons_succ])
  refine wpAnyH_take (i := 14) (oi := { dst := some 37, op := Go.Op.load 33 (Go.Operand.tmp 36), type := 33, pos := "law.go:66", after := #[{ on := 13, ground := Go.Ground.data }, { on := 10, ground := Go.Ground.guard }], guard := some (10, true) }) (v := ?_) rfl (by kernel_rfl) (by kernel_rfl) (by kernel_rfl) (fun _ _ _ h => h) (Or.inl ⟨by rfl, ?_⟩) (by assumption) ?_
  rotate_left 1
  · intro w' hSw; (go_simp <;> (with_reducible rfl))
  (try simp only [Act.put, List.setIfInBounds_toArray, List.set_cons_zero, List.set_cons_succ])
  refine wpAnyH_take (i := 16) (oi := { dst := some 39, op := Go.Op.load 35 (Go.Operand.tmp 8), type := 35, pos := "law.go:66", after := #[{ on := 10, ground := Go.Ground.guard }], guard := some (10, true) }) (v := .agg #[.int .u8 0, .int .u16 0, .bool true, .int .u8 64, .int .u8 1, .int .u32 src, .int .u32 dst, .slice none 0 0, .int .u16 0, .int .u16 0, .int .u32 0, .int .u32 0, .int .u8 0, .int .u16 0, .int .u16 0, .slice none 0 0, .slice none 0 0, .int .u16 0, .int .u16 0, .slice none 0 0, .int .u8 q.m.ty, .int .u8 q.m.cd, .int .u32 q.m.rs, .slice b.AM b.nM b.cM]) rfl (by kernel_rfl) (by kernel_rfl) (by kernel_rfl) (fun _ _ _ h => h) (Or.inl ⟨by rfl, fun w' hSw => exec_row 35 (.tmp 8) rfl (w4.heap.size + 1) _ _ _ _ hSw.2.1 rfl Tryz.underlying35 rfl (by kernel_rfl)⟩) (by assumption) ?_
  (try simp only [Act.put, List.setIfInBounds_toArray, List.set_cons_zero, List.set_cons_succ])
  refine wpAnyH_ready (rs := [15]) (by kernel_rfl) (by simp) ?_
  refine AllReadyH.cons (o := { dst := some 38, op := Go.Op.call { callee := Go.Callee.value (Go.Operand.func 16), args := #[Go.Operand.tmp 34, Go.Operand.tmp 35, Go.Operand.tmp 37], argTypes := #[23, 23, 33] }, type := 35, pos := "law.go:66", after := #[{ on := 11, ground := Go.Ground.data }, { on := 12, ground := Go.Ground.data }, { on := 14, ground := Go.Ground.data }, { on := 10, ground := Go.Ground.chain }, { on := 10, ground := Go.Ground.guard }], guard := some (10, true) }) rfl (fun K hK => ?_) AllReadyH.nil
  go_simp
  (refine (icmp9_any src dst q.m b.AM b.nM b.cM _ Hs.out Hd.out (HR.out _ HB11.out).2.mn (by have := Hsm.out.m; omega) (HR.out _ HB11.out).2.mr).mono ?_; rintro e w12 ⟨b12, rfl, hp12, hn12, -, hb12⟩; have HB12 := Lib.hid (below_trans HB11.out hb12); have HP12 := Lib.hid hp12; have Hn12 := Lib.hid hn12; clear hb12 hp12 hn12)
  refine hK.out _ _ ?_ (fun hHeld => ?_)
  · exact (HR.out _ HB12.out).1
  clear hK K
  (try simp only [Act.put, List.setIfInBounds_toArray, List.set_cons_zero, List.set_cons_succ])
  refine wpAnyH_ready (rs := [17]) (by kernel_rfl) (by simp) ?_
  refine AllReadyH.cons (o := { dst := some 40, op := Go.Op.call { callee := Go.Callee.value (Go.Operand.func 13), args := #[Go.Operand.tmp 38, Go.Operand.tmp 39], argTypes := #[35, 35] }, type := 4, pos := "law.go:66", after := #[{ on := 15, ground := Go.Ground.data }, { on := 16, ground := Go.Ground.data }, { on := 15, ground := Go.Ground.chain }, { on := 10, ground := Go.Ground.guard }], guard := some (10, true) }) rfl (fun K hK => ?_) AllReadyH.nil
  go_simp
  (refine (rsame9_any ⟨ownH src dst 1, zeroSeg, zeroDg, q.m⟩ ⟨ownH src dst 1, zeroSeg, zeroDg, q.m⟩ b12 ⟨none, 0, 0, none, 0, 0, [], none, 0, 0, none, 0, 0, b.AM, b.nM, b.cM⟩ _ true HP12.out (own_rd1 Hs.out Hd.out (HR.out _ HB12.out).2) (by have := Hn12.out; omega) (pkSame_self _)).mono ?_; rintro e wl ⟨rfl, hbl⟩; have HBl := Lib.hid (below_trans HB12.out hbl); clear hbl)
  refine hK.out _ _ ?_ (fun hHeld => ?_)
  · exact (HR.out _ HBl.out).1
  clear hK K
  (try simp only [Act.put, List.setIfInBounds_toArray, List.set_cons_zero, List.set_cons_succ])
  refine wpAnyH_take (i := 18) (oi := { dst := some 41, op := Go.Op.pick (Go.Operand.tmp 33) (Go.Operand.tmp 40) (Go.Operand.const (Go.Value.bool false)), type := 4, pos := "law.go:66", after := #[{ on := 10, ground := Go.Ground.data }, { on := 17, ground := Go.Ground.data }], guard := none }) (v := ?_) rfl (by kernel_rfl) (by kernel_rfl) (by kernel_rfl) (fun _ _ _ h => h) (Or.inl ⟨by rfl, ?_⟩) (by assumption) ?_
  rotate_left 1
  · intro w' hSw; (go_simp <;> (with_reducible rfl))
  (try simp only [Act.put, List.setIfInBounds_toArray, List.set_cons_zero, List.set_cons_succ])
  refine wpAnyH_take (i := 19) (oi := { dst := some 6, op := Go.Op.assign (Go.Operand.tmp 41), type := 4, pos := "law.go:66", after := #[{ on := 18, ground := Go.Ground.data }, { on := 17, ground := Go.Ground.chain }, { on := 0, ground := Go.Ground.phase }, { on := 1, ground := Go.Ground.phase }, { on := 2, ground := Go.Ground.phase }, { on := 3, ground := Go.Ground.phase }, { on := 4, ground := Go.Ground.phase }, { on := 5, ground := Go.Ground.phase }, { on := 6, ground := Go.Ground.phase }, { on := 7, ground := Go.Ground.phase }, { on := 8, ground := Go.Ground.phase }, { on := 9, ground := Go.Ground.phase }, { on := 10, ground := Go.Ground.phase }, { on := 11, ground := Go.Ground.phase }, { on := 12, ground := Go.Ground.phase }, { on := 13, ground := Go.Ground.phase }, { on := 14, ground := Go.Ground.phase }, { on := 15, ground := Go.Ground.phase }, { on := 16, ground := Go.Ground.phase }, { on := 17, ground := Go.Ground.phase }, { on := 18, ground := Go.Ground.phase }], guard := none }) (v := ?_) rfl (by kernel_rfl) (by kernel_rfl) (by kernel_rfl) (fun _ _ _ h => h) (Or.inl ⟨by rfl, ?_⟩) (by assumption) ?_
  rotate_left 1
  · intro w' hSw; (go_simp <;> (with_reducible rfl))
  (try simp only [Act.put, List.setIfInBounds_toArray, List.set_cons_zero, List.set_cons_succ])
  refine wpAnyH_done (by kernel_rfl) ?_ _
  clear hHeld
  try simp only []
  repeat (first | go_values | go_skip | go_guarded | go_step | go_upon | go_back)
  go_ret
  exact ⟨rfl, HB8.out.trans (HBl.out.mono HB8.out.size)⟩
theorem own : ownKnob Tryz.prog.godebug = none := by kernel_rfl
theorem laidOut : laidOutB Tryz.prog = true := by kernel_rfl

set_option maxRecDepth 100000 in
theorem lifted (os : Os) (started : os.Started) (H : Type) (enc : TypeId × Value → H) :
    ReturnsInHanded {} Tryz.checked os 4 .any (Rows.packetMakesSpec.pre6 enc Tryz.prog Tryz.f4 Rows.packetMakesRow.domain false) (Rows.packetMakesSpec.post enc Tryz.prog Tryz.f4 false true false false) := by
  refine returnsInHanded_of_change (C := Tryz.checked) own started (by kernel_rfl) Tryz.func4
    (ChangeSpec.witness6 (enc := enc) (C := Tryz.checked) false ⟨#[], #[.int .u32 0, .int .u32 0, (.agg #[.int .u8 0, .int .u16 0, .bool false, .int .u8 0, .int .u8 0, .int .u32 0, .int .u32 0, .slice none 0 0, .int .u16 0, .int .u16 0, .int .u32 0, .int .u32 0, .int .u8 0, .int .u16 0, .int .u16 0, .slice none 0 0, .slice none 0 0, .int .u16 0, .int .u16 0, .slice none 0 0, .int .u8 0, .int .u8 0, .int .u32 0, .slice none 0 0])], []⟩ 8 (by kernel_rfl) (by kernel_rfl) (by kernel_rfl) (by kernel_rfl)) ?_
  intro W base args ds gs before hval0 hW hcnd _
  have hval : ∀ (j : Nat) t v, Tryz.f4.params[j]? = some t → args[j]? = some v → Value.okWide Tryz.prog W .any base t v := hval0
  have hW' := hW
  obtain ⟨p, q, hA0, hV, rfl, hfz, hnd⟩ := hW
  have hA : DataW.TrodAll enc Tryz.prog W 0 (fun _ => true) true Tryz.f4.params.toList args.toList ds p := hA0
  rw [Tryz.params4] at hA hval
  obtain ⟨v0, vs0, d0, ds0, p0, q0, hargs, rfl, rfl, h0, r0⟩ := trodAll_cons hA
  obtain ⟨v1, vs1, d1, ds1, p1, q1, rfl, rfl, rfl, h1, r1⟩ := trodAll_cons r0
  obtain ⟨v2, vs2, d2, ds2, p2, q2, rfl, rfl, rfl, h2, r2⟩ := trodAll_cons r1
  obtain ⟨rfl, rfl, rfl⟩ := trodAll_nil r2
  obtain rfl : args = #[v0, v1, v2] := by cases args; simp_all
  obtain ⟨rfl, rfl⟩ := trodVars_none hV
  obtain ⟨a0, rfl, rfl, rfl, w0⟩ := open_int Tryz.underlying23 (hval 0 23 v0 rfl rfl) h0
  obtain ⟨a1, rfl, rfl, rfl, w1⟩ := open_int Tryz.underlying23 (hval 1 23 v1 rfl rfl) h1
  have k2 := pk_open (hval 2 35 v2 rfl rfl) h2
  have lt2 : ∀ x ∈ p2, x.block < W.heap.size := by obtain ⟨m, hm⟩ := h2; exact DataW.trod_lt m _ _ _ hm
  clear hA0 hval0
  refine (walk W a0 w0 a1 w1 v2 k2).mono fun e W' ⟨he, bel⟩ => ?_
  subst he
  exact ⟨_, rfl, _, _, _, [], _, [], hW', trodAll_mk1 (shut_bool Tryz.underlying4 _), (trodAll_cons_mk (shut_int Tryz.underlying23 w0) (trodAll_cons_mk (shut_int Tryz.underlying23 w1) (trodAll_cons_mk (Below.trod laidOut (by kernel_rfl) (of_decide_eq_true (by kernel_rfl)) h2 bel lt2) trodAll_mk0))), rfl, bel.frame _, fun h => by cases h⟩

theorem over : Rows.packetMakesRow.holds Tryz.pinned (OpenSpec.ofChange Rows.packetMakesSpec) :=
  OpenClaim.holds_of_wide 4 Tryz.f4 rfl rfl rfl rfl rfl rfl rfl ⟨rfl, rfl, rfl, rfl, rfl⟩ rfl rfl rfl rfl rfl (by kernel_rfl) Tryz.func4 (by kernel_rfl)
    (of_decide_eq_true (by kernel_rfl)) (by unfold Func.isWrapper; first | (rw [if_pos (by decide +kernel)]; kernel_rfl) | (rw [if_neg (by decide +kernel)]; exact ⟨rfl, rfl⟩))
    (fun os started H enc _ => lifted os started H enc)

/-- The statement. -/
theorem proved : Rows.PacketMakesSaid := over
#print axioms proved
end Go.Proofs.YtkooehejdfaekaaGreat.packetMakes
