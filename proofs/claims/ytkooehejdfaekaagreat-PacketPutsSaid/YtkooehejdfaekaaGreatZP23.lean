/-
  The document's own answers for packets (culvertref09): Same, May, Put, Own.
-/
import Derived.Test.YtkooehejdfaekaaGreatZP21
import Derived.Test.YtkooehejdfaekaaGreatZP22
import Derived.RegionTactic
import Derived.BigRegion
import Derived.Deep.DeepCutAuto
import Derived.Deep.CutRange
namespace Go.Proofs.YtkooehejdfaekaaGreat
set_option maxRecDepth 10000
open Go.RowKit
set_option linter.unusedSimpArgs false
set_option linter.unusedVariables false

theorem cells24 {w : World} {g : Nat} {v0 v1 v2 v3 v4 v5 v6 v7 v8 v9 v10 v11 v12 v13 v14 v15 v16 v17 v18 v19 v20 v21 v22 v23 : Value} {t : TypeId} (h : w.heap[g]? = some (.cells #[v0, v1, v2, v3, v4, v5, v6, v7, v8, v9, v10, v11, v12, v13, v14, v15, v16, v17, v18, v19, v20, v21, v22, v23] t (0, 0))) : w.cell? ⟨g, 0, none⟩ = some v0 ∧ w.cell? ⟨g, 1, none⟩ = some v1 ∧ w.cell? ⟨g, 2, none⟩ = some v2 ∧ w.cell? ⟨g, 3, none⟩ = some v3 ∧ w.cell? ⟨g, 4, none⟩ = some v4 ∧ w.cell? ⟨g, 5, none⟩ = some v5 ∧ w.cell? ⟨g, 6, none⟩ = some v6 ∧ w.cell? ⟨g, 7, none⟩ = some v7 ∧ w.cell? ⟨g, 8, none⟩ = some v8 ∧ w.cell? ⟨g, 9, none⟩ = some v9 ∧ w.cell? ⟨g, 10, none⟩ = some v10 ∧ w.cell? ⟨g, 11, none⟩ = some v11 ∧ w.cell? ⟨g, 12, none⟩ = some v12 ∧ w.cell? ⟨g, 13, none⟩ = some v13 ∧ w.cell? ⟨g, 14, none⟩ = some v14 ∧ w.cell? ⟨g, 15, none⟩ = some v15 ∧ w.cell? ⟨g, 16, none⟩ = some v16 ∧ w.cell? ⟨g, 17, none⟩ = some v17 ∧ w.cell? ⟨g, 18, none⟩ = some v18 ∧ w.cell? ⟨g, 19, none⟩ = some v19 ∧ w.cell? ⟨g, 20, none⟩ = some v20 ∧ w.cell? ⟨g, 21, none⟩ = some v21 ∧ w.cell? ⟨g, 22, none⟩ = some v22 ∧ w.cell? ⟨g, 23, none⟩ = some v23 := by
  refine ⟨?_, ?_, ?_, ?_, ?_, ?_, ?_, ?_, ?_, ?_, ?_, ?_, ?_, ?_, ?_, ?_, ?_, ?_, ?_, ?_, ?_, ?_, ?_, ?_⟩ <;> (rw [blk_cell h]; rfl)
set_option maxHeartbeats 2000000 in
theorem rsame9_any (p q : Pk) (a b : PkA) (w : World) (x : Bool) (hp : PkRd w p a) (hq : PkRd w q b) (hn : a.nO ≤ 2000000) (hx : pkSame p q = x) :
    Calls Tryz.prog 13 #[.agg #[.int .u8 p.h.to, .int .u16 p.h.id, .bool p.h.df, .int .u8 p.h.tt, .int .u8 p.h.pr, .int .u32 p.h.sr, .int .u32 p.h.ds, .slice a.AH a.nH a.cH, .int .u16 p.s.sp, .int .u16 p.s.dp, .int .u32 p.s.sq, .int .u32 p.s.ak, .int .u8 p.s.fl, .int .u16 p.s.wn, .int .u16 p.s.ug, .slice a.AO a.nO a.cO, .slice a.AD a.nD a.cD, .int .u16 p.u.sp, .int .u16 p.u.dp, .slice a.AU a.nU a.cU, .int .u8 p.m.ty, .int .u8 p.m.cd, .int .u32 p.m.rs, .slice a.AM a.nM a.cM], .agg #[.int .u8 q.h.to, .int .u16 q.h.id, .bool q.h.df, .int .u8 q.h.tt, .int .u8 q.h.pr, .int .u32 q.h.sr, .int .u32 q.h.ds, .slice b.AH b.nH b.cH, .int .u16 q.s.sp, .int .u16 q.s.dp, .int .u32 q.s.sq, .int .u32 q.s.ak, .int .u8 q.s.fl, .int .u16 q.s.wn, .int .u16 q.s.ug, .slice b.AO b.nO b.cO, .slice b.AD b.nD b.cD, .int .u16 q.u.sp, .int .u16 q.u.dp, .slice b.AU b.nU b.cU, .int .u8 q.m.ty, .int .u8 q.m.cd, .int .u32 q.m.rs, .slice b.AM b.nM b.cM]] w (BoolIs x w) := by
  obtain ⟨z, hz⟩ : ∃ z, w.heap.size = z := ⟨_, rfl⟩
  obtain ⟨w0, ew⟩ : ∃ w0, (w.alloc (.cells #[.int .u8 p.h.to, .int .u16 p.h.id, .bool p.h.df, .int .u8 p.h.tt, .int .u8 p.h.pr, .int .u32 p.h.sr, .int .u32 p.h.ds, .slice a.AH a.nH a.cH, .int .u16 p.s.sp, .int .u16 p.s.dp, .int .u32 p.s.sq, .int .u32 p.s.ak, .int .u8 p.s.fl, .int .u16 p.s.wn, .int .u16 p.s.ug, .slice a.AO a.nO a.cO, .slice a.AD a.nD a.cD, .int .u16 p.u.sp, .int .u16 p.u.dp, .slice a.AU a.nU a.cU, .int .u8 p.m.ty, .int .u8 p.m.cd, .int .u32 p.m.rs, .slice a.AM a.nM a.cM] 35)).alloc (.cells #[.int .u8 q.h.to, .int .u16 q.h.id, .bool q.h.df, .int .u8 q.h.tt, .int .u8 q.h.pr, .int .u32 q.h.sr, .int .u32 q.h.ds, .slice b.AH b.nH b.cH, .int .u16 q.s.sp, .int .u16 q.s.dp, .int .u32 q.s.sq, .int .u32 q.s.ak, .int .u8 q.s.fl, .int .u16 q.s.wn, .int .u16 q.s.ug, .slice b.AO b.nO b.cO, .slice b.AD b.nD b.cD, .int .u16 q.u.sp, .int .u16 q.u.dp, .slice b.AU b.nU b.cU, .int .u8 q.m.ty, .int .u8 q.m.cd, .int .u32 q.m.rs, .slice b.AM b.nM b.cM] 35) = w0 := ⟨_, rfl⟩
  have hb0 : Below w.heap.size w w0 := by rw [← ew]; exact ((Below.refl _ _).alloc (Nat.le_refl _) _).alloc (by simp) _
  have hk0 : w0.heap[z]? = some (.cells #[.int .u8 p.h.to, .int .u16 p.h.id, .bool p.h.df, .int .u8 p.h.tt, .int .u8 p.h.pr, .int .u32 p.h.sr, .int .u32 p.h.ds, .slice a.AH a.nH a.cH, .int .u16 p.s.sp, .int .u16 p.s.dp, .int .u32 p.s.sq, .int .u32 p.s.ak, .int .u8 p.s.fl, .int .u16 p.s.wn, .int .u16 p.s.ug, .slice a.AO a.nO a.cO, .slice a.AD a.nD a.cD, .int .u16 p.u.sp, .int .u16 p.u.dp, .slice a.AU a.nU a.cU, .int .u8 p.m.ty, .int .u8 p.m.cd, .int .u32 p.m.rs, .slice a.AM a.nM a.cM] 35 (0, 0)) := by rw [← ew, Below.heap_alloc _ _ _ (by simp [hz]), ← hz]; exact heap_alloc_new w _
  have hk1 : w0.heap[z + 1]? = some (.cells #[.int .u8 q.h.to, .int .u16 q.h.id, .bool q.h.df, .int .u8 q.h.tt, .int .u8 q.h.pr, .int .u32 q.h.sr, .int .u32 q.h.ds, .slice b.AH b.nH b.cH, .int .u16 q.s.sp, .int .u16 q.s.dp, .int .u32 q.s.sq, .int .u32 q.s.ak, .int .u8 q.s.fl, .int .u16 q.s.wn, .int .u16 q.s.ug, .slice b.AO b.nO b.cO, .slice b.AD b.nD b.cD, .int .u16 q.u.sp, .int .u16 q.u.dp, .slice b.AU b.nU b.cU, .int .u8 q.m.ty, .int .u8 q.m.cd, .int .u32 q.m.rs, .slice b.AM b.nM b.cM] 35 (0, 0)) := by
    rw [← ew, ← hz]; simpa using heap_alloc_new (w.alloc (.cells #[.int .u8 p.h.to, .int .u16 p.h.id, .bool p.h.df, .int .u8 p.h.tt, .int .u8 p.h.pr, .int .u32 p.h.sr, .int .u32 p.h.ds, .slice a.AH a.nH a.cH, .int .u16 p.s.sp, .int .u16 p.s.dp, .int .u32 p.s.sq, .int .u32 p.s.ak, .int .u8 p.s.fl, .int .u16 p.s.wn, .int .u16 p.s.ug, .slice a.AO a.nO a.cO, .slice a.AD a.nD a.cD, .int .u16 p.u.sp, .int .u16 p.u.dp, .slice a.AU a.nU a.cU, .int .u8 p.m.ty, .int .u8 p.m.cd, .int .u32 p.m.rs, .slice a.AM a.nM a.cM] 35)) (.cells #[.int .u8 q.h.to, .int .u16 q.h.id, .bool q.h.df, .int .u8 q.h.tt, .int .u8 q.h.pr, .int .u32 q.h.sr, .int .u32 q.h.ds, .slice b.AH b.nH b.cH, .int .u16 q.s.sp, .int .u16 q.s.dp, .int .u32 q.s.sq, .int .u32 q.s.ak, .int .u8 q.s.fl, .int .u16 q.s.wn, .int .u16 q.s.ug, .slice b.AO b.nO b.cO, .slice b.AD b.nD b.cD, .int .u16 q.u.sp, .int .u16 q.u.dp, .slice b.AU b.nU b.cU, .int .u8 q.m.ty, .int .u8 q.m.cd, .int .u32 q.m.rs, .slice b.AM b.nM b.cM] 35)
  have HK := Lib.hid (show ∀ w', Below w0.heap.size w0 w' → w'.heap[z]? = some (.cells #[.int .u8 p.h.to, .int .u16 p.h.id, .bool p.h.df, .int .u8 p.h.tt, .int .u8 p.h.pr, .int .u32 p.h.sr, .int .u32 p.h.ds, .slice a.AH a.nH a.cH, .int .u16 p.s.sp, .int .u16 p.s.dp, .int .u32 p.s.sq, .int .u32 p.s.ak, .int .u8 p.s.fl, .int .u16 p.s.wn, .int .u16 p.s.ug, .slice a.AO a.nO a.cO, .slice a.AD a.nD a.cD, .int .u16 p.u.sp, .int .u16 p.u.dp, .slice a.AU a.nU a.cU, .int .u8 p.m.ty, .int .u8 p.m.cd, .int .u32 p.m.rs, .slice a.AM a.nM a.cM] 35 (0, 0)) ∧ w'.heap[z + 1]? = some (.cells #[.int .u8 q.h.to, .int .u16 q.h.id, .bool q.h.df, .int .u8 q.h.tt, .int .u8 q.h.pr, .int .u32 q.h.sr, .int .u32 q.h.ds, .slice b.AH b.nH b.cH, .int .u16 q.s.sp, .int .u16 q.s.dp, .int .u32 q.s.sq, .int .u32 q.s.ak, .int .u8 q.s.fl, .int .u16 q.s.wn, .int .u16 q.s.ug, .slice b.AO b.nO b.cO, .slice b.AD b.nD b.cD, .int .u16 q.u.sp, .int .u16 q.u.dp, .slice b.AU b.nU b.cU, .int .u8 q.m.ty, .int .u8 q.m.cd, .int .u32 q.m.rs, .slice b.AM b.nM b.cM] 35 (0, 0)) ∧ PkRd w' p a ∧ PkRd w' q b from
    fun w' hb => ⟨blk_on hk0 hb, blk_on hk1 hb, (hp.below hb0).below hb, (hq.below hb0).below hb⟩)
  have Hb0 := Lib.hid hb0
  have Hew := Lib.hid ew
  have Hz := Lib.hid hz
  have Hn := Lib.hid hn
  obtain ⟨y1, ey1⟩ : ∃ y, hdSame p.h q.h = y := ⟨_, rfl⟩
  obtain ⟨y2, ey2⟩ : ∃ y, segSame p.s q.s = y := ⟨_, rfl⟩
  obtain ⟨y3, ey3⟩ : ∃ y, dgSame p.u q.u = y := ⟨_, rfl⟩
  obtain ⟨y4, ey4⟩ : ∃ y, msgSame p.m q.m = y := ⟨_, rfl⟩
  unfold pkSame at hx
  rw [ey1, ey2, ey3, ey4] at hx
  have E1 := Lib.hid ey1
  have E2 := Lib.hid ey2
  have E3 := Lib.hid ey3
  have E4 := Lib.hid ey4
  have Hx := Lib.hid hx
  clear hk0 hk1 hb0 ew hp hq hn ey1 ey2 ey3 ey4 hx
  go_enter Tryz.func13, Tryz.ntmps13
  go_upto_region 1 with (fail)
  rw [Hew.out]
  try rw [Hz.out]
  have Hb := Lib.hid (Below.refl w0.heap.size w0)
  obtain ⟨k0, k1, k2, k3, k4, k5, k6, k7, k8, k9, k10, k11, k12, k13, k14, k15, k16, k17, k18, k19, k20, k21, k22, k23⟩ := cells24 (HK.out _ Hb.out).1
  obtain ⟨l0, l1, l2, l3, l4, l5, l6, l7, l8, l9, l10, l11, l12, l13, l14, l15, l16, l17, l18, l19, l20, l21, l22, l23⟩ := cells24 (HK.out _ Hb.out).2.1
  go_wp2_with fail
  refine (rsame4_any p.h q.h a.AH a.nH a.cH b.AH b.nH b.cH _ y1 (HK.out _ Hb.out).2.2.1.hr (HK.out _ Hb.out).2.2.2.hr E1.out).mono ?_
  rintro e w1 ⟨rfl, hb1⟩
  have Hb := Lib.hid (below_trans Hb.out hb1)
  clear hb1
  clear k0 k1 k2 k3 k4 k5 k6 k7 k8 k9 k10 k11 k12 k13 k14 k15 k16 k17 k18 k19 k20 k21 k22 k23
  clear l0 l1 l2 l3 l4 l5 l6 l7 l8 l9 l10 l11 l12 l13 l14 l15 l16 l17 l18 l19 l20 l21 l22 l23
  cases y1 with
  | false =>
    go_wp2_with fail
    go_ret
    exact ⟨ret_bool (by rw [← Hx.out]; simp), below_trans Hb0.out Hb.out⟩
  | true =>
    obtain ⟨k0, k1, k2, k3, k4, k5, k6, k7, k8, k9, k10, k11, k12, k13, k14, k15, k16, k17, k18, k19, k20, k21, k22, k23⟩ := cells24 (HK.out _ Hb.out).1
    obtain ⟨l0, l1, l2, l3, l4, l5, l6, l7, l8, l9, l10, l11, l12, l13, l14, l15, l16, l17, l18, l19, l20, l21, l22, l23⟩ := cells24 (HK.out _ Hb.out).2.1
    go_wp2_with fail
    refine (rsame6_any p.s q.s a.AO b.AO a.nO a.cO b.nO b.cO a.os b.os a.AD b.AD a.nD a.cD b.nD b.cD _ Hn.out (HK.out _ Hb.out).2.2.1.sr (HK.out _ Hb.out).2.2.2.sr).mono ?_
    rw [E2.out]
    rintro e w2 ⟨rfl, hb2⟩
    have Hb := Lib.hid (below_trans Hb.out hb2)
    clear hb2
    clear k0 k1 k2 k3 k4 k5 k6 k7 k8 k9 k10 k11 k12 k13 k14 k15 k16 k17 k18 k19 k20 k21 k22 k23
    clear l0 l1 l2 l3 l4 l5 l6 l7 l8 l9 l10 l11 l12 l13 l14 l15 l16 l17 l18 l19 l20 l21 l22 l23
    cases y2 with
    | false =>
      go_wp2_with fail
      go_ret
      exact ⟨ret_bool (by rw [← Hx.out]; simp), below_trans Hb0.out Hb.out⟩
    | true =>
      obtain ⟨k0, k1, k2, k3, k4, k5, k6, k7, k8, k9, k10, k11, k12, k13, k14, k15, k16, k17, k18, k19, k20, k21, k22, k23⟩ := cells24 (HK.out _ Hb.out).1
      obtain ⟨l0, l1, l2, l3, l4, l5, l6, l7, l8, l9, l10, l11, l12, l13, l14, l15, l16, l17, l18, l19, l20, l21, l22, l23⟩ := cells24 (HK.out _ Hb.out).2.1
      go_wp2_with fail
      refine (rusame_any p.u q.u a.AU a.nU a.cU b.AU b.nU b.cU _ y3 (HK.out _ Hb.out).2.2.1.ur (HK.out _ Hb.out).2.2.2.ur E3.out).mono ?_
      rintro e w3 ⟨rfl, hb3⟩
      have Hb := Lib.hid (below_trans Hb.out hb3)
      clear hb3
      clear k0 k1 k2 k3 k4 k5 k6 k7 k8 k9 k10 k11 k12 k13 k14 k15 k16 k17 k18 k19 k20 k21 k22 k23
      clear l0 l1 l2 l3 l4 l5 l6 l7 l8 l9 l10 l11 l12 l13 l14 l15 l16 l17 l18 l19 l20 l21 l22 l23
      cases y3 with
      | false =>
        go_wp2_with fail
        go_ret
        exact ⟨ret_bool (by rw [← Hx.out]; simp), below_trans Hb0.out Hb.out⟩
      | true =>
        obtain ⟨k0, k1, k2, k3, k4, k5, k6, k7, k8, k9, k10, k11, k12, k13, k14, k15, k16, k17, k18, k19, k20, k21, k22, k23⟩ := cells24 (HK.out _ Hb.out).1
        obtain ⟨l0, l1, l2, l3, l4, l5, l6, l7, l8, l9, l10, l11, l12, l13, l14, l15, l16, l17, l18, l19, l20, l21, l22, l23⟩ := cells24 (HK.out _ Hb.out).2.1
        go_wp2_with fail
        refine (rsame8_any p.m q.m a.AM a.nM a.cM b.AM b.nM b.cM _ y4 (HK.out _ Hb.out).2.2.1.mr (HK.out _ Hb.out).2.2.2.mr E4.out).mono ?_
        rintro e w4 ⟨rfl, hb4⟩
        have Hb := Lib.hid (below_trans Hb.out hb4)
        clear hb4
        clear k0 k1 k2 k3 k4 k5 k6 k7 k8 k9 k10 k11 k12 k13 k14 k15 k16 k17 k18 k19 k20 k21 k22 k23
        clear l0 l1 l2 l3 l4 l5 l6 l7 l8 l9 l10 l11 l12 l13 l14 l15 l16 l17 l18 l19 l20 l21 l22 l23
        go_wp2_with fail
        go_ret
        exact ⟨ret_bool (by rw [← Hx.out]; simp), below_trans Hb0.out Hb.out⟩

theorem set9_24 {w : World} {q : Nat} {v0 v1 v2 v3 v4 v5 v6 v7 v8 v9 v10 v11 v12 v13 v14 v15 v16 v17 v18 v19 v20 v21 v22 v23 : Value} {t : TypeId} (h : w.heap[q]? = some (.cells #[v0, v1, v2, v3, v4, v5, v6, v7, v8, v9, v10, v11, v12, v13, v14, v15, v16, v17, v18, v19, v20, v21, v22, v23] t (0, 0))) (u0 u1 u2 u3 u4 u5 u6 u7 u8 : Value) : (((((((((w.setCell ⟨q, 8, none⟩ u0).setCell ⟨q, 9, none⟩ u1).setCell ⟨q, 10, none⟩ u2).setCell ⟨q, 11, none⟩ u3).setCell ⟨q, 12, none⟩ u4).setCell ⟨q, 13, none⟩ u5).setCell ⟨q, 14, none⟩ u6).setCell ⟨q, 15, none⟩ u7).setCell ⟨q, 16, none⟩ u8).heap[q]? = some (.cells #[v0, v1, v2, v3, v4, v5, v6, v7, u0, u1, u2, u3, u4, u5, u6, u7, u8, v17, v18, v19, v20, v21, v22, v23] t (0, 0)) := by
  have h0 := setCell_block (i := 8) h u0
  simp only [Array.set!, List.setIfInBounds_toArray, List.set_cons_succ, List.set_cons_zero] at h0
  have h1 := setCell_block (i := 9) h0 u1
  simp only [Array.set!, List.setIfInBounds_toArray, List.set_cons_succ, List.set_cons_zero] at h1
  have h2 := setCell_block (i := 10) h1 u2
  simp only [Array.set!, List.setIfInBounds_toArray, List.set_cons_succ, List.set_cons_zero] at h2
  have h3 := setCell_block (i := 11) h2 u3
  simp only [Array.set!, List.setIfInBounds_toArray, List.set_cons_succ, List.set_cons_zero] at h3
  have h4 := setCell_block (i := 12) h3 u4
  simp only [Array.set!, List.setIfInBounds_toArray, List.set_cons_succ, List.set_cons_zero] at h4
  have h5 := setCell_block (i := 13) h4 u5
  simp only [Array.set!, List.setIfInBounds_toArray, List.set_cons_succ, List.set_cons_zero] at h5
  have h6 := setCell_block (i := 14) h5 u6
  simp only [Array.set!, List.setIfInBounds_toArray, List.set_cons_succ, List.set_cons_zero] at h6
  have h7 := setCell_block (i := 15) h6 u7
  simp only [Array.set!, List.setIfInBounds_toArray, List.set_cons_succ, List.set_cons_zero] at h7
  have h8 := setCell_block (i := 16) h7 u8
  simp only [Array.set!, List.setIfInBounds_toArray, List.set_cons_succ, List.set_cons_zero] at h8
  exact h8
theorem set9_24b {W w : World} {B q : Nat} (h : Below B W w) (hq : B ≤ q) (u0 u1 u2 u3 u4 u5 u6 u7 u8 : Value) : Below B W (((((((((w.setCell ⟨q, 8, none⟩ u0).setCell ⟨q, 9, none⟩ u1).setCell ⟨q, 10, none⟩ u2).setCell ⟨q, 11, none⟩ u3).setCell ⟨q, 12, none⟩ u4).setCell ⟨q, 13, none⟩ u5).setCell ⟨q, 14, none⟩ u6).setCell ⟨q, 15, none⟩ u7).setCell ⟨q, 16, none⟩ u8) :=
  ((((((((h.setCell (p := ⟨q, 8, none⟩) hq _).setCell (p := ⟨q, 9, none⟩) hq _).setCell (p := ⟨q, 10, none⟩) hq _).setCell (p := ⟨q, 11, none⟩) hq _).setCell (p := ⟨q, 12, none⟩) hq _).setCell (p := ⟨q, 13, none⟩) hq _).setCell (p := ⟨q, 14, none⟩) hq _).setCell (p := ⟨q, 15, none⟩) hq _).setCell (p := ⟨q, 16, none⟩) hq _
theorem set3_24 {w : World} {q : Nat} {v0 v1 v2 v3 v4 v5 v6 v7 v8 v9 v10 v11 v12 v13 v14 v15 v16 v17 v18 v19 v20 v21 v22 v23 : Value} {t : TypeId} (h : w.heap[q]? = some (.cells #[v0, v1, v2, v3, v4, v5, v6, v7, v8, v9, v10, v11, v12, v13, v14, v15, v16, v17, v18, v19, v20, v21, v22, v23] t (0, 0))) (u0 u1 u2 : Value) : (((w.setCell ⟨q, 17, none⟩ u0).setCell ⟨q, 18, none⟩ u1).setCell ⟨q, 19, none⟩ u2).heap[q]? = some (.cells #[v0, v1, v2, v3, v4, v5, v6, v7, v8, v9, v10, v11, v12, v13, v14, v15, v16, u0, u1, u2, v20, v21, v22, v23] t (0, 0)) := by
  have h0 := setCell_block (i := 17) h u0
  simp only [Array.set!, List.setIfInBounds_toArray, List.set_cons_succ, List.set_cons_zero] at h0
  have h1 := setCell_block (i := 18) h0 u1
  simp only [Array.set!, List.setIfInBounds_toArray, List.set_cons_succ, List.set_cons_zero] at h1
  have h2 := setCell_block (i := 19) h1 u2
  simp only [Array.set!, List.setIfInBounds_toArray, List.set_cons_succ, List.set_cons_zero] at h2
  exact h2
theorem set3_24b {W w : World} {B q : Nat} (h : Below B W w) (hq : B ≤ q) (u0 u1 u2 : Value) : Below B W (((w.setCell ⟨q, 17, none⟩ u0).setCell ⟨q, 18, none⟩ u1).setCell ⟨q, 19, none⟩ u2) :=
  ((h.setCell (p := ⟨q, 17, none⟩) hq _).setCell (p := ⟨q, 18, none⟩) hq _).setCell (p := ⟨q, 19, none⟩) hq _
theorem set4_24 {w : World} {q : Nat} {v0 v1 v2 v3 v4 v5 v6 v7 v8 v9 v10 v11 v12 v13 v14 v15 v16 v17 v18 v19 v20 v21 v22 v23 : Value} {t : TypeId} (h : w.heap[q]? = some (.cells #[v0, v1, v2, v3, v4, v5, v6, v7, v8, v9, v10, v11, v12, v13, v14, v15, v16, v17, v18, v19, v20, v21, v22, v23] t (0, 0))) (u0 u1 u2 u3 : Value) : ((((w.setCell ⟨q, 20, none⟩ u0).setCell ⟨q, 21, none⟩ u1).setCell ⟨q, 22, none⟩ u2).setCell ⟨q, 23, none⟩ u3).heap[q]? = some (.cells #[v0, v1, v2, v3, v4, v5, v6, v7, v8, v9, v10, v11, v12, v13, v14, v15, v16, v17, v18, v19, u0, u1, u2, u3] t (0, 0)) := by
  have h0 := setCell_block (i := 20) h u0
  simp only [Array.set!, List.setIfInBounds_toArray, List.set_cons_succ, List.set_cons_zero] at h0
  have h1 := setCell_block (i := 21) h0 u1
  simp only [Array.set!, List.setIfInBounds_toArray, List.set_cons_succ, List.set_cons_zero] at h1
  have h2 := setCell_block (i := 22) h1 u2
  simp only [Array.set!, List.setIfInBounds_toArray, List.set_cons_succ, List.set_cons_zero] at h2
  have h3 := setCell_block (i := 23) h2 u3
  simp only [Array.set!, List.setIfInBounds_toArray, List.set_cons_succ, List.set_cons_zero] at h3
  exact h3
theorem set4_24b {W w : World} {B q : Nat} (h : Below B W w) (hq : B ≤ q) (u0 u1 u2 u3 : Value) : Below B W ((((w.setCell ⟨q, 20, none⟩ u0).setCell ⟨q, 21, none⟩ u1).setCell ⟨q, 22, none⟩ u2).setCell ⟨q, 23, none⟩ u3) :=
  (((h.setCell (p := ⟨q, 20, none⟩) hq _).setCell (p := ⟨q, 21, none⟩) hq _).setCell (p := ⟨q, 22, none⟩) hq _).setCell (p := ⟨q, 23, none⟩) hq _

theorem set9_24o {w : World} {q g : Nat} {o : Obj} (h : w.heap[g]? = some o) (hq : q ≠ g) (u0 u1 u2 u3 u4 u5 u6 u7 u8 : Value) : (((((((((w.setCell ⟨q, 8, none⟩ u0).setCell ⟨q, 9, none⟩ u1).setCell ⟨q, 10, none⟩ u2).setCell ⟨q, 11, none⟩ u3).setCell ⟨q, 12, none⟩ u4).setCell ⟨q, 13, none⟩ u5).setCell ⟨q, 14, none⟩ u6).setCell ⟨q, 15, none⟩ u7).setCell ⟨q, 16, none⟩ u8).heap[g]? = some o :=
  (other_blk (i := 16) (other_blk (i := 15) (other_blk (i := 14) (other_blk (i := 13) (other_blk (i := 12) (other_blk (i := 11) (other_blk (i := 10) (other_blk (i := 9) (other_blk (i := 8) h hq u0) hq u1) hq u2) hq u3) hq u4) hq u5) hq u6) hq u7) hq u8)
theorem set3_24o {w : World} {q g : Nat} {o : Obj} (h : w.heap[g]? = some o) (hq : q ≠ g) (u0 u1 u2 : Value) : (((w.setCell ⟨q, 17, none⟩ u0).setCell ⟨q, 18, none⟩ u1).setCell ⟨q, 19, none⟩ u2).heap[g]? = some o :=
  (other_blk (i := 19) (other_blk (i := 18) (other_blk (i := 17) h hq u0) hq u1) hq u2)
theorem set4_24o {w : World} {q g : Nat} {o : Obj} (h : w.heap[g]? = some o) (hq : q ≠ g) (u0 u1 u2 u3 : Value) : ((((w.setCell ⟨q, 20, none⟩ u0).setCell ⟨q, 21, none⟩ u1).setCell ⟨q, 22, none⟩ u2).setCell ⟨q, 23, none⟩ u3).heap[g]? = some o :=
  (other_blk (i := 23) (other_blk (i := 22) (other_blk (i := 21) (other_blk (i := 20) h hq u0) hq u1) hq u2) hq u3)
theorem zeroDg_num : DgNum zeroDg := ⟨by decide, by decide⟩
theorem zeroM_num : MsgNum zeroM := ⟨by decide, by decide, by decide⟩
set_option maxHeartbeats 2000000 in
theorem rmay9_6 (p : Pk) (a : PkA) (w : World) (x : Bool) (hp : PkRd w p a) (hn : a.nO ≤ 2000000) (hx : mayP p = x) (h6 : p.h.pr = 6) :
    Calls Tryz.prog 11 #[.agg #[.int .u8 p.h.to, .int .u16 p.h.id, .bool p.h.df, .int .u8 p.h.tt, .int .u8 p.h.pr, .int .u32 p.h.sr, .int .u32 p.h.ds, .slice a.AH a.nH a.cH, .int .u16 p.s.sp, .int .u16 p.s.dp, .int .u32 p.s.sq, .int .u32 p.s.ak, .int .u8 p.s.fl, .int .u16 p.s.wn, .int .u16 p.s.ug, .slice a.AO a.nO a.cO, .slice a.AD a.nD a.cD, .int .u16 p.u.sp, .int .u16 p.u.dp, .slice a.AU a.nU a.cU, .int .u8 p.m.ty, .int .u8 p.m.cd, .int .u32 p.m.rs, .slice a.AM a.nM a.cM]] w (BoolIs x w) := by
  have h6b : (p.h.pr == 6) = true := by rw [h6]; rfl
  have h17b : (p.h.pr == 17) = false := by rw [h6]; rfl
  have h1b : (p.h.pr == 1) = false := by rw [h6]; rfl
  have hpp : partP p = ⟨p.h, p.s, zeroDg, zeroM⟩ := by unfold partP; simp [h6]
  unfold mayP at hx
  rw [hpp] at hx
  obtain ⟨y, ey⟩ : ∃ y, mayB p.h.tt a.nH = y := ⟨_, rfl⟩
  obtain ⟨u, eu⟩ : ∃ u, pkSame ⟨p.h, p.s, zeroDg, zeroM⟩ p = u := ⟨_, rfl⟩
  rw [hp.hr.len, ey, eu] at hx
  have Hx := Lib.hid (show (y && u) = x by rw [← hx]; simp [h6])
  have Ey := Lib.hid ey
  have Eu := Lib.hid eu
  have Hn := Lib.hid hn
  clear h6 hx hn ey eu hpp
  obtain ⟨z, hz⟩ : ∃ z, w.heap.size = z := ⟨_, rfl⟩
  obtain ⟨w0, ew⟩ : ∃ w0, w.alloc (.cells #[.int .u8 p.h.to, .int .u16 p.h.id, .bool p.h.df, .int .u8 p.h.tt, .int .u8 p.h.pr, .int .u32 p.h.sr, .int .u32 p.h.ds, .slice a.AH a.nH a.cH, .int .u16 p.s.sp, .int .u16 p.s.dp, .int .u32 p.s.sq, .int .u32 p.s.ak, .int .u8 p.s.fl, .int .u16 p.s.wn, .int .u16 p.s.ug, .slice a.AO a.nO a.cO, .slice a.AD a.nD a.cD, .int .u16 p.u.sp, .int .u16 p.u.dp, .slice a.AU a.nU a.cU, .int .u8 p.m.ty, .int .u8 p.m.cd, .int .u32 p.m.rs, .slice a.AM a.nM a.cM] 35) = w0 := ⟨_, rfl⟩
  have hb0 : Below w.heap.size w w0 := by rw [← ew]; exact (Below.refl _ _).alloc (Nat.le_refl _) _
  have hk0 : w0.heap[z]? = some (.cells #[.int .u8 p.h.to, .int .u16 p.h.id, .bool p.h.df, .int .u8 p.h.tt, .int .u8 p.h.pr, .int .u32 p.h.sr, .int .u32 p.h.ds, .slice a.AH a.nH a.cH, .int .u16 p.s.sp, .int .u16 p.s.dp, .int .u32 p.s.sq, .int .u32 p.s.ak, .int .u8 p.s.fl, .int .u16 p.s.wn, .int .u16 p.s.ug, .slice a.AO a.nO a.cO, .slice a.AD a.nD a.cD, .int .u16 p.u.sp, .int .u16 p.u.dp, .slice a.AU a.nU a.cU, .int .u8 p.m.ty, .int .u8 p.m.cd, .int .u32 p.m.rs, .slice a.AM a.nM a.cM] 35 (0, 0)) := by rw [← ew, ← hz]; exact heap_alloc_new w _
  have hs0 : w0.heap.size = z + 1 := by rw [← ew, ← hz]; simp
  obtain ⟨w1, ew1⟩ : ∃ w1, w0.alloc (.cells #[.int .u8 p.h.to, .int .u16 p.h.id, .bool p.h.df, .int .u8 p.h.tt, .int .u8 p.h.pr, .int .u32 p.h.sr, .int .u32 p.h.ds, .slice a.AH a.nH a.cH] 26) = w1 := ⟨_, rfl⟩
  have hb1 : Below w0.heap.size w0 w1 := by rw [← ew1]; exact (Below.refl _ _).alloc (Nat.le_refl _) _
  have hk1 : w1.heap[z + 1]? = some (.cells #[.int .u8 p.h.to, .int .u16 p.h.id, .bool p.h.df, .int .u8 p.h.tt, .int .u8 p.h.pr, .int .u32 p.h.sr, .int .u32 p.h.ds, .slice a.AH a.nH a.cH] 26 (0, 0)) := by rw [← ew1, ← hs0]; exact heap_alloc_new w0 _
  have hs1 : w1.heap.size = z + 2 := by rw [← ew1]; simp [hs0]
  obtain ⟨w2, ew2⟩ : ∃ w2, w1.alloc (.cells #[.int .u8 p.h.to, .int .u16 p.h.id, .bool p.h.df, .int .u8 p.h.tt, .int .u8 p.h.pr, .int .u32 p.h.sr, .int .u32 p.h.ds, .slice a.AH a.nH a.cH, .int .u16 0, .int .u16 0, .int .u32 0, .int .u32 0, .int .u8 0, .int .u16 0, .int .u16 0, .slice none 0 0, .slice none 0 0, .int .u16 0, .int .u16 0, .slice none 0 0, .int .u8 0, .int .u8 0, .int .u32 0, .slice none 0 0] 35) = w2 := ⟨_, rfl⟩
  have hb2 : Below w1.heap.size w1 w2 := by rw [← ew2]; exact (Below.refl _ _).alloc (Nat.le_refl _) _
  have hk2 : w2.heap[z + 2]? = some (.cells #[.int .u8 p.h.to, .int .u16 p.h.id, .bool p.h.df, .int .u8 p.h.tt, .int .u8 p.h.pr, .int .u32 p.h.sr, .int .u32 p.h.ds, .slice a.AH a.nH a.cH, .int .u16 0, .int .u16 0, .int .u32 0, .int .u32 0, .int .u8 0, .int .u16 0, .int .u16 0, .slice none 0 0, .slice none 0 0, .int .u16 0, .int .u16 0, .slice none 0 0, .int .u8 0, .int .u8 0, .int .u32 0, .slice none 0 0] 35 (0, 0)) := by rw [← ew2, ← hs1]; exact heap_alloc_new w1 _
  have hs2 : w2.heap.size = z + 3 := by rw [← ew2]; simp [hs1]
  have hbb := below_trans hb0 (below_trans hb1 hb2)
  have HZ := Lib.hid (And.intro hz (And.intro hs0 (And.intro hs1 hs2)))
  have HK2 := Lib.hid (And.intro (blk_on (blk_on hk0 hb1) hb2) (And.intro (blk_on hk1 hb2) (And.intro hk2 (And.intro (hp.below hbb) hbb))))
  have HK0 := Lib.hid hk0
  have HK1 := Lib.hid (And.intro (blk_on hk0 hb1) hk1)
  have Ew := Lib.hid ew
  have Ew1 := Lib.hid ew1
  have Ew2 := Lib.hid ew2
  have Hp := Lib.hid hp
  clear hz ew hb0 hk0 hs0 ew1 hb1 hk1 hs1 ew2 hb2 hk2 hs2 hbb hp
  go_enter Tryz.func11, Tryz.ntmps11
  go_upto_region 1 with (fail)
  rw [Ew.out]
  try simp only [HZ.out.1]
  obtain ⟨k0, k1, k2, k3, k4, k5, k6, k7, k8, k9, k10, k11, k12, k13, k14, k15, k16, k17, k18, k19, k20, k21, k22, k23⟩ := cells24 HK0.out
  go_upto_region 2 with (fail)
  rw [Ew1.out]
  try simp only [HZ.out.2.1]
  clear k0 k1 k2 k3 k4 k5 k6 k7 k8 k9 k10 k11 k12 k13 k14 k15 k16 k17 k18 k19 k20 k21 k22 k23
  obtain ⟨m0, m1, m2, m3, m4, m5, m6, m7⟩ := cells8 HK1.out.2
  iterate 11 (first | go_values | go_skip | go_guarded | go_step | go_upon | go_back)
  refine wp_store_new 35 (.tmp 4) (.tmp 8) rfl rfl w1 _ _ rfl rfl (by kernel_rfl) rfl (by simp [Value.oneCell']) ?_
  go_upto_region 3 with (fail)
  rw [Ew2.out]
  try simp only [HZ.out.2.2.1]
  clear m0 m1 m2 m3 m4 m5 m6 m7
  obtain ⟨m0, m1, m2, m3, m4, m5, m6, m7⟩ := cells8 HK2.out.2.1
  obtain ⟨k0, k1, k2, k3, k4, k5, k6, k7, k8, k9, k10, k11, k12, k13, k14, k15, k16, k17, k18, k19, k20, k21, k22, k23⟩ := cells24 HK2.out.1
  have HK3 := Lib.hid (set9_24 HK2.out.2.2.1 (.int .u16 p.s.sp) (.int .u16 p.s.dp) (.int .u32 p.s.sq) (.int .u32 p.s.ak) (.int .u8 p.s.fl) (.int .u16 p.s.wn) (.int .u16 p.s.ug) (.slice a.AO a.nO a.cO) (.slice a.AD a.nD a.cD))
  have HB3 := Lib.hid (set9_24b HK2.out.2.2.2.2 (show w.heap.size ≤ z + 2 by have := HZ.out.1; omega) (.int .u16 p.s.sp) (.int .u16 p.s.dp) (.int .u32 p.s.sq) (.int .u32 p.s.ak) (.int .u8 p.s.fl) (.int .u16 p.s.wn) (.int .u16 p.s.ug) (.slice a.AO a.nO a.cO) (.slice a.AD a.nD a.cD))
  have HKz := Lib.hid (set9_24o HK2.out.1 (show z + 2 ≠ z by omega) (.int .u16 p.s.sp) (.int .u16 p.s.dp) (.int .u32 p.s.sq) (.int .u32 p.s.ak) (.int .u8 p.s.fl) (.int .u16 p.s.wn) (.int .u16 p.s.ug) (.slice a.AO a.nO a.cO) (.slice a.AD a.nD a.cD))
  have HKh := Lib.hid (set9_24o HK2.out.2.1 (show z + 2 ≠ z + 1 by omega) (.int .u16 p.s.sp) (.int .u16 p.s.dp) (.int .u32 p.s.sq) (.int .u32 p.s.ak) (.int .u8 p.s.fl) (.int .u16 p.s.wn) (.int .u16 p.s.ug) (.slice a.AO a.nO a.cO) (.slice a.AD a.nD a.cD))
  have hf2 := blk_free HK2.out.2.2.1
  obtain ⟨l0, l1, l2, l3, l4, l5, l6, l7, l8, l9, l10, l11, l12, l13, l14, l15, l16, l17, l18, l19, l20, l21, l22, l23⟩ := cells24 HK2.out.2.2.1
  go_upto_region 11 with (fail)
  obtain ⟨v3, ev3⟩ : ∃ v, (((((((((w2.setCell ⟨z + 2, 8, none⟩ (.int .u16 p.s.sp)).setCell ⟨z + 2, 9, none⟩ (.int .u16 p.s.dp)).setCell ⟨z + 2, 10, none⟩ (.int .u32 p.s.sq)).setCell ⟨z + 2, 11, none⟩ (.int .u32 p.s.ak)).setCell ⟨z + 2, 12, none⟩ (.int .u8 p.s.fl)).setCell ⟨z + 2, 13, none⟩ (.int .u16 p.s.wn)).setCell ⟨z + 2, 14, none⟩ (.int .u16 p.s.ug)).setCell ⟨z + 2, 15, none⟩ (.slice a.AO a.nO a.cO)).setCell ⟨z + 2, 16, none⟩ (.slice a.AD a.nD a.cD)) = v := ⟨_, rfl⟩
  rw [ev3] at HK3 HB3 HKz HKh ⊢
  clear ev3 hf2 m0 m1 m2 m3 m4 m5 m6 m7
  clear k0 k1 k2 k3 k4 k5 k6 k7 k8 k9 k10 k11 k12 k13 k14 k15 k16 k17 k18 k19 k20 k21 k22 k23
  clear l0 l1 l2 l3 l4 l5 l6 l7 l8 l9 l10 l11 l12 l13 l14 l15 l16 l17 l18 l19 l20 l21 l22 l23
  have HP3 := Lib.hid (Hp.out.below HB3.out)
  have Hb := Lib.hid (Below.refl v3.heap.size v3)
  obtain ⟨m0, m1, m2, m3, m4, m5, m6, m7⟩ := cells8 HKh.out
  go_wp2_with fail
  refine (rmay4_any p.h a.AH a.nH a.cH y _ HP3.out.hn.tt.1 Ey.out).mono ?_
  rintro e w4 ⟨rfl, hb4⟩
  have Hb4 := Lib.hid hb4
  clear hb4 m0 m1 m2 m3 m4 m5 m6 m7
  cases y with
  | false =>
    go_wp2_with fail
    go_ret
    exact ⟨ret_bool (by rw [← Hx.out]; simp), below_trans HB3.out Hb4.out⟩
  | true =>
    have HA := Lib.hid (blk_on HKz.out Hb4.out)
    have HB := Lib.hid (blk_on HK3.out Hb4.out)
    have HS := Lib.hid (rsame9_any ⟨p.h, p.s, zeroDg, zeroM⟩ p ⟨a.AH, a.nH, a.cH, a.AO, a.nO, a.cO, a.os, a.AD, a.nD, a.cD, none, 0, 0, none, 0, 0⟩ a _ u (⟨(HP3.out.below Hb4.out).hn, (HP3.out.below Hb4.out).hc, (HP3.out.below Hb4.out).hr, (HP3.out.below Hb4.out).sr, zeroDg_num, ⟨Nat.le_refl _, by simp [maxLen]⟩, Rd.nil _ _, zeroM_num, ⟨Nat.le_refl _, by simp [maxLen]⟩, Rd.nil _ _⟩) (HP3.out.below Hb4.out) Hn.out Eu.out)
    simp only [zeroSeg, zeroDg, zeroM] at HS
    try simp only []
    repeat (first | (refine wp_load_row 35 (.tmp 1) rfl z _ _ _ _ HA.out rfl Tryz.underlying35 rfl (by kernel_rfl) ?_; simp only [Act.put, List.setIfInBounds_toArray, List.set_cons_zero, List.set_cons_succ]) | (refine wp_load_row 35 (.tmp 4) rfl (z + 2) _ _ _ _ HB.out rfl Tryz.underlying35 rfl (by kernel_rfl) ?_; simp only [Act.put, List.setIfInBounds_toArray, List.set_cons_zero, List.set_cons_succ]) | go_values | go_skip | go_guarded | go_step | go_upon | go_back)
    refine HS.out.mono ?_
    rintro e w5 ⟨rfl, hb5⟩
    have Hb5 := Lib.hid (below_trans Hb4.out hb5)
    clear hb5 HS HA HB
    go_wp2_with fail
    go_ret
    exact ⟨ret_bool (by rw [← Hx.out]; simp), below_trans HB3.out Hb5.out⟩
set_option maxHeartbeats 2000000 in
theorem rmay9_17 (p : Pk) (a : PkA) (w : World) (x : Bool) (hp : PkRd w p a) (hn : a.nO ≤ 2000000) (hx : mayP p = x) (h6 : p.h.pr = 17) :
    Calls Tryz.prog 11 #[.agg #[.int .u8 p.h.to, .int .u16 p.h.id, .bool p.h.df, .int .u8 p.h.tt, .int .u8 p.h.pr, .int .u32 p.h.sr, .int .u32 p.h.ds, .slice a.AH a.nH a.cH, .int .u16 p.s.sp, .int .u16 p.s.dp, .int .u32 p.s.sq, .int .u32 p.s.ak, .int .u8 p.s.fl, .int .u16 p.s.wn, .int .u16 p.s.ug, .slice a.AO a.nO a.cO, .slice a.AD a.nD a.cD, .int .u16 p.u.sp, .int .u16 p.u.dp, .slice a.AU a.nU a.cU, .int .u8 p.m.ty, .int .u8 p.m.cd, .int .u32 p.m.rs, .slice a.AM a.nM a.cM]] w (BoolIs x w) := by
  have h6b : (p.h.pr == 6) = false := by rw [h6]; rfl
  have h17b : (p.h.pr == 17) = true := by rw [h6]; rfl
  have h1b : (p.h.pr == 1) = false := by rw [h6]; rfl
  have hpp : partP p = ⟨p.h, zeroSeg, p.u, zeroM⟩ := by unfold partP; simp [h6]
  unfold mayP at hx
  rw [hpp] at hx
  obtain ⟨y, ey⟩ : ∃ y, mayB p.h.tt a.nH = y := ⟨_, rfl⟩
  obtain ⟨u, eu⟩ : ∃ u, pkSame ⟨p.h, zeroSeg, p.u, zeroM⟩ p = u := ⟨_, rfl⟩
  rw [hp.hr.len, ey, eu] at hx
  have Hx := Lib.hid (show (y && u) = x by rw [← hx]; simp [h6])
  have Ey := Lib.hid ey
  have Eu := Lib.hid eu
  have Hn := Lib.hid hn
  clear h6 hx hn ey eu hpp
  obtain ⟨z, hz⟩ : ∃ z, w.heap.size = z := ⟨_, rfl⟩
  obtain ⟨w0, ew⟩ : ∃ w0, w.alloc (.cells #[.int .u8 p.h.to, .int .u16 p.h.id, .bool p.h.df, .int .u8 p.h.tt, .int .u8 p.h.pr, .int .u32 p.h.sr, .int .u32 p.h.ds, .slice a.AH a.nH a.cH, .int .u16 p.s.sp, .int .u16 p.s.dp, .int .u32 p.s.sq, .int .u32 p.s.ak, .int .u8 p.s.fl, .int .u16 p.s.wn, .int .u16 p.s.ug, .slice a.AO a.nO a.cO, .slice a.AD a.nD a.cD, .int .u16 p.u.sp, .int .u16 p.u.dp, .slice a.AU a.nU a.cU, .int .u8 p.m.ty, .int .u8 p.m.cd, .int .u32 p.m.rs, .slice a.AM a.nM a.cM] 35) = w0 := ⟨_, rfl⟩
  have hb0 : Below w.heap.size w w0 := by rw [← ew]; exact (Below.refl _ _).alloc (Nat.le_refl _) _
  have hk0 : w0.heap[z]? = some (.cells #[.int .u8 p.h.to, .int .u16 p.h.id, .bool p.h.df, .int .u8 p.h.tt, .int .u8 p.h.pr, .int .u32 p.h.sr, .int .u32 p.h.ds, .slice a.AH a.nH a.cH, .int .u16 p.s.sp, .int .u16 p.s.dp, .int .u32 p.s.sq, .int .u32 p.s.ak, .int .u8 p.s.fl, .int .u16 p.s.wn, .int .u16 p.s.ug, .slice a.AO a.nO a.cO, .slice a.AD a.nD a.cD, .int .u16 p.u.sp, .int .u16 p.u.dp, .slice a.AU a.nU a.cU, .int .u8 p.m.ty, .int .u8 p.m.cd, .int .u32 p.m.rs, .slice a.AM a.nM a.cM] 35 (0, 0)) := by rw [← ew, ← hz]; exact heap_alloc_new w _
  have hs0 : w0.heap.size = z + 1 := by rw [← ew, ← hz]; simp
  obtain ⟨w1, ew1⟩ : ∃ w1, w0.alloc (.cells #[.int .u8 p.h.to, .int .u16 p.h.id, .bool p.h.df, .int .u8 p.h.tt, .int .u8 p.h.pr, .int .u32 p.h.sr, .int .u32 p.h.ds, .slice a.AH a.nH a.cH] 26) = w1 := ⟨_, rfl⟩
  have hb1 : Below w0.heap.size w0 w1 := by rw [← ew1]; exact (Below.refl _ _).alloc (Nat.le_refl _) _
  have hk1 : w1.heap[z + 1]? = some (.cells #[.int .u8 p.h.to, .int .u16 p.h.id, .bool p.h.df, .int .u8 p.h.tt, .int .u8 p.h.pr, .int .u32 p.h.sr, .int .u32 p.h.ds, .slice a.AH a.nH a.cH] 26 (0, 0)) := by rw [← ew1, ← hs0]; exact heap_alloc_new w0 _
  have hs1 : w1.heap.size = z + 2 := by rw [← ew1]; simp [hs0]
  obtain ⟨w2, ew2⟩ : ∃ w2, w1.alloc (.cells #[.int .u8 p.h.to, .int .u16 p.h.id, .bool p.h.df, .int .u8 p.h.tt, .int .u8 p.h.pr, .int .u32 p.h.sr, .int .u32 p.h.ds, .slice a.AH a.nH a.cH, .int .u16 0, .int .u16 0, .int .u32 0, .int .u32 0, .int .u8 0, .int .u16 0, .int .u16 0, .slice none 0 0, .slice none 0 0, .int .u16 0, .int .u16 0, .slice none 0 0, .int .u8 0, .int .u8 0, .int .u32 0, .slice none 0 0] 35) = w2 := ⟨_, rfl⟩
  have hb2 : Below w1.heap.size w1 w2 := by rw [← ew2]; exact (Below.refl _ _).alloc (Nat.le_refl _) _
  have hk2 : w2.heap[z + 2]? = some (.cells #[.int .u8 p.h.to, .int .u16 p.h.id, .bool p.h.df, .int .u8 p.h.tt, .int .u8 p.h.pr, .int .u32 p.h.sr, .int .u32 p.h.ds, .slice a.AH a.nH a.cH, .int .u16 0, .int .u16 0, .int .u32 0, .int .u32 0, .int .u8 0, .int .u16 0, .int .u16 0, .slice none 0 0, .slice none 0 0, .int .u16 0, .int .u16 0, .slice none 0 0, .int .u8 0, .int .u8 0, .int .u32 0, .slice none 0 0] 35 (0, 0)) := by rw [← ew2, ← hs1]; exact heap_alloc_new w1 _
  have hs2 : w2.heap.size = z + 3 := by rw [← ew2]; simp [hs1]
  have hbb := below_trans hb0 (below_trans hb1 hb2)
  have HZ := Lib.hid (And.intro hz (And.intro hs0 (And.intro hs1 hs2)))
  have HK2 := Lib.hid (And.intro (blk_on (blk_on hk0 hb1) hb2) (And.intro (blk_on hk1 hb2) (And.intro hk2 (And.intro (hp.below hbb) hbb))))
  have HK0 := Lib.hid hk0
  have HK1 := Lib.hid (And.intro (blk_on hk0 hb1) hk1)
  have Ew := Lib.hid ew
  have Ew1 := Lib.hid ew1
  have Ew2 := Lib.hid ew2
  have Hp := Lib.hid hp
  clear hz ew hb0 hk0 hs0 ew1 hb1 hk1 hs1 ew2 hb2 hk2 hs2 hbb hp
  go_enter Tryz.func11, Tryz.ntmps11
  go_upto_region 1 with (fail)
  rw [Ew.out]
  try simp only [HZ.out.1]
  obtain ⟨k0, k1, k2, k3, k4, k5, k6, k7, k8, k9, k10, k11, k12, k13, k14, k15, k16, k17, k18, k19, k20, k21, k22, k23⟩ := cells24 HK0.out
  go_upto_region 2 with (fail)
  rw [Ew1.out]
  try simp only [HZ.out.2.1]
  clear k0 k1 k2 k3 k4 k5 k6 k7 k8 k9 k10 k11 k12 k13 k14 k15 k16 k17 k18 k19 k20 k21 k22 k23
  obtain ⟨m0, m1, m2, m3, m4, m5, m6, m7⟩ := cells8 HK1.out.2
  iterate 11 (first | go_values | go_skip | go_guarded | go_step | go_upon | go_back)
  refine wp_store_new 35 (.tmp 4) (.tmp 8) rfl rfl w1 _ _ rfl rfl (by kernel_rfl) rfl (by simp [Value.oneCell']) ?_
  go_upto_region 3 with (fail)
  rw [Ew2.out]
  try simp only [HZ.out.2.2.1]
  clear m0 m1 m2 m3 m4 m5 m6 m7
  obtain ⟨m0, m1, m2, m3, m4, m5, m6, m7⟩ := cells8 HK2.out.2.1
  obtain ⟨k0, k1, k2, k3, k4, k5, k6, k7, k8, k9, k10, k11, k12, k13, k14, k15, k16, k17, k18, k19, k20, k21, k22, k23⟩ := cells24 HK2.out.1
  have HK3 := Lib.hid (set3_24 HK2.out.2.2.1 (.int .u16 p.u.sp) (.int .u16 p.u.dp) (.slice a.AU a.nU a.cU))
  have HB3 := Lib.hid (set3_24b HK2.out.2.2.2.2 (show w.heap.size ≤ z + 2 by have := HZ.out.1; omega) (.int .u16 p.u.sp) (.int .u16 p.u.dp) (.slice a.AU a.nU a.cU))
  have HKz := Lib.hid (set3_24o HK2.out.1 (show z + 2 ≠ z by omega) (.int .u16 p.u.sp) (.int .u16 p.u.dp) (.slice a.AU a.nU a.cU))
  have HKh := Lib.hid (set3_24o HK2.out.2.1 (show z + 2 ≠ z + 1 by omega) (.int .u16 p.u.sp) (.int .u16 p.u.dp) (.slice a.AU a.nU a.cU))
  have hf2 := blk_free HK2.out.2.2.1
  obtain ⟨l0, l1, l2, l3, l4, l5, l6, l7, l8, l9, l10, l11, l12, l13, l14, l15, l16, l17, l18, l19, l20, l21, l22, l23⟩ := cells24 HK2.out.2.2.1
  go_upto_region 11 with (fail)
  obtain ⟨v3, ev3⟩ : ∃ v, (((w2.setCell ⟨z + 2, 17, none⟩ (.int .u16 p.u.sp)).setCell ⟨z + 2, 18, none⟩ (.int .u16 p.u.dp)).setCell ⟨z + 2, 19, none⟩ (.slice a.AU a.nU a.cU)) = v := ⟨_, rfl⟩
  rw [ev3] at HK3 HB3 HKz HKh ⊢
  clear ev3 hf2 m0 m1 m2 m3 m4 m5 m6 m7
  clear k0 k1 k2 k3 k4 k5 k6 k7 k8 k9 k10 k11 k12 k13 k14 k15 k16 k17 k18 k19 k20 k21 k22 k23
  clear l0 l1 l2 l3 l4 l5 l6 l7 l8 l9 l10 l11 l12 l13 l14 l15 l16 l17 l18 l19 l20 l21 l22 l23
  have HP3 := Lib.hid (Hp.out.below HB3.out)
  have Hb := Lib.hid (Below.refl v3.heap.size v3)
  obtain ⟨m0, m1, m2, m3, m4, m5, m6, m7⟩ := cells8 HKh.out
  go_wp2_with fail
  refine (rmay4_any p.h a.AH a.nH a.cH y _ HP3.out.hn.tt.1 Ey.out).mono ?_
  rintro e w4 ⟨rfl, hb4⟩
  have Hb4 := Lib.hid hb4
  clear hb4 m0 m1 m2 m3 m4 m5 m6 m7
  cases y with
  | false =>
    go_wp2_with fail
    go_ret
    exact ⟨ret_bool (by rw [← Hx.out]; simp), below_trans HB3.out Hb4.out⟩
  | true =>
    have HA := Lib.hid (blk_on HKz.out Hb4.out)
    have HB := Lib.hid (blk_on HK3.out Hb4.out)
    have HS := Lib.hid (rsame9_any ⟨p.h, zeroSeg, p.u, zeroM⟩ p ⟨a.AH, a.nH, a.cH, none, 0, 0, [], none, 0, 0, a.AU, a.nU, a.cU, none, 0, 0⟩ a _ u (⟨(HP3.out.below Hb4.out).hn, (HP3.out.below Hb4.out).hc, (HP3.out.below Hb4.out).hr, zero_rd _, (HP3.out.below Hb4.out).un, (HP3.out.below Hb4.out).uc, (HP3.out.below Hb4.out).ur, zeroM_num, ⟨Nat.le_refl _, by simp [maxLen]⟩, Rd.nil _ _⟩) (HP3.out.below Hb4.out) (by simp) Eu.out)
    simp only [zeroSeg, zeroDg, zeroM] at HS
    try simp only []
    repeat (first | (refine wp_load_row 35 (.tmp 1) rfl z _ _ _ _ HA.out rfl Tryz.underlying35 rfl (by kernel_rfl) ?_; simp only [Act.put, List.setIfInBounds_toArray, List.set_cons_zero, List.set_cons_succ]) | (refine wp_load_row 35 (.tmp 4) rfl (z + 2) _ _ _ _ HB.out rfl Tryz.underlying35 rfl (by kernel_rfl) ?_; simp only [Act.put, List.setIfInBounds_toArray, List.set_cons_zero, List.set_cons_succ]) | go_values | go_skip | go_guarded | go_step | go_upon | go_back)
    refine HS.out.mono ?_
    rintro e w5 ⟨rfl, hb5⟩
    have Hb5 := Lib.hid (below_trans Hb4.out hb5)
    clear hb5 HS HA HB
    go_wp2_with fail
    go_ret
    exact ⟨ret_bool (by rw [← Hx.out]; simp), below_trans HB3.out Hb5.out⟩
set_option maxHeartbeats 2000000 in
theorem rmay9_1 (p : Pk) (a : PkA) (w : World) (x : Bool) (hp : PkRd w p a) (hn : a.nO ≤ 2000000) (hx : mayP p = x) (h6 : p.h.pr = 1) :
    Calls Tryz.prog 11 #[.agg #[.int .u8 p.h.to, .int .u16 p.h.id, .bool p.h.df, .int .u8 p.h.tt, .int .u8 p.h.pr, .int .u32 p.h.sr, .int .u32 p.h.ds, .slice a.AH a.nH a.cH, .int .u16 p.s.sp, .int .u16 p.s.dp, .int .u32 p.s.sq, .int .u32 p.s.ak, .int .u8 p.s.fl, .int .u16 p.s.wn, .int .u16 p.s.ug, .slice a.AO a.nO a.cO, .slice a.AD a.nD a.cD, .int .u16 p.u.sp, .int .u16 p.u.dp, .slice a.AU a.nU a.cU, .int .u8 p.m.ty, .int .u8 p.m.cd, .int .u32 p.m.rs, .slice a.AM a.nM a.cM]] w (BoolIs x w) := by
  have h6b : (p.h.pr == 6) = false := by rw [h6]; rfl
  have h17b : (p.h.pr == 17) = false := by rw [h6]; rfl
  have h1b : (p.h.pr == 1) = true := by rw [h6]; rfl
  have hpp : partP p = ⟨p.h, zeroSeg, zeroDg, p.m⟩ := by unfold partP; simp [h6]
  unfold mayP at hx
  rw [hpp] at hx
  obtain ⟨y, ey⟩ : ∃ y, mayB p.h.tt a.nH = y := ⟨_, rfl⟩
  obtain ⟨u, eu⟩ : ∃ u, pkSame ⟨p.h, zeroSeg, zeroDg, p.m⟩ p = u := ⟨_, rfl⟩
  rw [hp.hr.len, ey, eu] at hx
  have Hx := Lib.hid (show (y && u) = x by rw [← hx]; simp [h6])
  have Ey := Lib.hid ey
  have Eu := Lib.hid eu
  have Hn := Lib.hid hn
  clear h6 hx hn ey eu hpp
  obtain ⟨z, hz⟩ : ∃ z, w.heap.size = z := ⟨_, rfl⟩
  obtain ⟨w0, ew⟩ : ∃ w0, w.alloc (.cells #[.int .u8 p.h.to, .int .u16 p.h.id, .bool p.h.df, .int .u8 p.h.tt, .int .u8 p.h.pr, .int .u32 p.h.sr, .int .u32 p.h.ds, .slice a.AH a.nH a.cH, .int .u16 p.s.sp, .int .u16 p.s.dp, .int .u32 p.s.sq, .int .u32 p.s.ak, .int .u8 p.s.fl, .int .u16 p.s.wn, .int .u16 p.s.ug, .slice a.AO a.nO a.cO, .slice a.AD a.nD a.cD, .int .u16 p.u.sp, .int .u16 p.u.dp, .slice a.AU a.nU a.cU, .int .u8 p.m.ty, .int .u8 p.m.cd, .int .u32 p.m.rs, .slice a.AM a.nM a.cM] 35) = w0 := ⟨_, rfl⟩
  have hb0 : Below w.heap.size w w0 := by rw [← ew]; exact (Below.refl _ _).alloc (Nat.le_refl _) _
  have hk0 : w0.heap[z]? = some (.cells #[.int .u8 p.h.to, .int .u16 p.h.id, .bool p.h.df, .int .u8 p.h.tt, .int .u8 p.h.pr, .int .u32 p.h.sr, .int .u32 p.h.ds, .slice a.AH a.nH a.cH, .int .u16 p.s.sp, .int .u16 p.s.dp, .int .u32 p.s.sq, .int .u32 p.s.ak, .int .u8 p.s.fl, .int .u16 p.s.wn, .int .u16 p.s.ug, .slice a.AO a.nO a.cO, .slice a.AD a.nD a.cD, .int .u16 p.u.sp, .int .u16 p.u.dp, .slice a.AU a.nU a.cU, .int .u8 p.m.ty, .int .u8 p.m.cd, .int .u32 p.m.rs, .slice a.AM a.nM a.cM] 35 (0, 0)) := by rw [← ew, ← hz]; exact heap_alloc_new w _
  have hs0 : w0.heap.size = z + 1 := by rw [← ew, ← hz]; simp
  obtain ⟨w1, ew1⟩ : ∃ w1, w0.alloc (.cells #[.int .u8 p.h.to, .int .u16 p.h.id, .bool p.h.df, .int .u8 p.h.tt, .int .u8 p.h.pr, .int .u32 p.h.sr, .int .u32 p.h.ds, .slice a.AH a.nH a.cH] 26) = w1 := ⟨_, rfl⟩
  have hb1 : Below w0.heap.size w0 w1 := by rw [← ew1]; exact (Below.refl _ _).alloc (Nat.le_refl _) _
  have hk1 : w1.heap[z + 1]? = some (.cells #[.int .u8 p.h.to, .int .u16 p.h.id, .bool p.h.df, .int .u8 p.h.tt, .int .u8 p.h.pr, .int .u32 p.h.sr, .int .u32 p.h.ds, .slice a.AH a.nH a.cH] 26 (0, 0)) := by rw [← ew1, ← hs0]; exact heap_alloc_new w0 _
  have hs1 : w1.heap.size = z + 2 := by rw [← ew1]; simp [hs0]
  obtain ⟨w2, ew2⟩ : ∃ w2, w1.alloc (.cells #[.int .u8 p.h.to, .int .u16 p.h.id, .bool p.h.df, .int .u8 p.h.tt, .int .u8 p.h.pr, .int .u32 p.h.sr, .int .u32 p.h.ds, .slice a.AH a.nH a.cH, .int .u16 0, .int .u16 0, .int .u32 0, .int .u32 0, .int .u8 0, .int .u16 0, .int .u16 0, .slice none 0 0, .slice none 0 0, .int .u16 0, .int .u16 0, .slice none 0 0, .int .u8 0, .int .u8 0, .int .u32 0, .slice none 0 0] 35) = w2 := ⟨_, rfl⟩
  have hb2 : Below w1.heap.size w1 w2 := by rw [← ew2]; exact (Below.refl _ _).alloc (Nat.le_refl _) _
  have hk2 : w2.heap[z + 2]? = some (.cells #[.int .u8 p.h.to, .int .u16 p.h.id, .bool p.h.df, .int .u8 p.h.tt, .int .u8 p.h.pr, .int .u32 p.h.sr, .int .u32 p.h.ds, .slice a.AH a.nH a.cH, .int .u16 0, .int .u16 0, .int .u32 0, .int .u32 0, .int .u8 0, .int .u16 0, .int .u16 0, .slice none 0 0, .slice none 0 0, .int .u16 0, .int .u16 0, .slice none 0 0, .int .u8 0, .int .u8 0, .int .u32 0, .slice none 0 0] 35 (0, 0)) := by rw [← ew2, ← hs1]; exact heap_alloc_new w1 _
  have hs2 : w2.heap.size = z + 3 := by rw [← ew2]; simp [hs1]
  have hbb := below_trans hb0 (below_trans hb1 hb2)
  have HZ := Lib.hid (And.intro hz (And.intro hs0 (And.intro hs1 hs2)))
  have HK2 := Lib.hid (And.intro (blk_on (blk_on hk0 hb1) hb2) (And.intro (blk_on hk1 hb2) (And.intro hk2 (And.intro (hp.below hbb) hbb))))
  have HK0 := Lib.hid hk0
  have HK1 := Lib.hid (And.intro (blk_on hk0 hb1) hk1)
  have Ew := Lib.hid ew
  have Ew1 := Lib.hid ew1
  have Ew2 := Lib.hid ew2
  have Hp := Lib.hid hp
  clear hz ew hb0 hk0 hs0 ew1 hb1 hk1 hs1 ew2 hb2 hk2 hs2 hbb hp
  go_enter Tryz.func11, Tryz.ntmps11
  go_upto_region 1 with (fail)
  rw [Ew.out]
  try simp only [HZ.out.1]
  obtain ⟨k0, k1, k2, k3, k4, k5, k6, k7, k8, k9, k10, k11, k12, k13, k14, k15, k16, k17, k18, k19, k20, k21, k22, k23⟩ := cells24 HK0.out
  go_upto_region 2 with (fail)
  rw [Ew1.out]
  try simp only [HZ.out.2.1]
  clear k0 k1 k2 k3 k4 k5 k6 k7 k8 k9 k10 k11 k12 k13 k14 k15 k16 k17 k18 k19 k20 k21 k22 k23
  obtain ⟨m0, m1, m2, m3, m4, m5, m6, m7⟩ := cells8 HK1.out.2
  iterate 11 (first | go_values | go_skip | go_guarded | go_step | go_upon | go_back)
  refine wp_store_new 35 (.tmp 4) (.tmp 8) rfl rfl w1 _ _ rfl rfl (by kernel_rfl) rfl (by simp [Value.oneCell']) ?_
  go_upto_region 3 with (fail)
  rw [Ew2.out]
  try simp only [HZ.out.2.2.1]
  clear m0 m1 m2 m3 m4 m5 m6 m7
  obtain ⟨m0, m1, m2, m3, m4, m5, m6, m7⟩ := cells8 HK2.out.2.1
  obtain ⟨k0, k1, k2, k3, k4, k5, k6, k7, k8, k9, k10, k11, k12, k13, k14, k15, k16, k17, k18, k19, k20, k21, k22, k23⟩ := cells24 HK2.out.1
  have HK3 := Lib.hid (set4_24 HK2.out.2.2.1 (.int .u8 p.m.ty) (.int .u8 p.m.cd) (.int .u32 p.m.rs) (.slice a.AM a.nM a.cM))
  have HB3 := Lib.hid (set4_24b HK2.out.2.2.2.2 (show w.heap.size ≤ z + 2 by have := HZ.out.1; omega) (.int .u8 p.m.ty) (.int .u8 p.m.cd) (.int .u32 p.m.rs) (.slice a.AM a.nM a.cM))
  have HKz := Lib.hid (set4_24o HK2.out.1 (show z + 2 ≠ z by omega) (.int .u8 p.m.ty) (.int .u8 p.m.cd) (.int .u32 p.m.rs) (.slice a.AM a.nM a.cM))
  have HKh := Lib.hid (set4_24o HK2.out.2.1 (show z + 2 ≠ z + 1 by omega) (.int .u8 p.m.ty) (.int .u8 p.m.cd) (.int .u32 p.m.rs) (.slice a.AM a.nM a.cM))
  have hf2 := blk_free HK2.out.2.2.1
  obtain ⟨l0, l1, l2, l3, l4, l5, l6, l7, l8, l9, l10, l11, l12, l13, l14, l15, l16, l17, l18, l19, l20, l21, l22, l23⟩ := cells24 HK2.out.2.2.1
  go_upto_region 11 with (fail)
  obtain ⟨v3, ev3⟩ : ∃ v, ((((w2.setCell ⟨z + 2, 20, none⟩ (.int .u8 p.m.ty)).setCell ⟨z + 2, 21, none⟩ (.int .u8 p.m.cd)).setCell ⟨z + 2, 22, none⟩ (.int .u32 p.m.rs)).setCell ⟨z + 2, 23, none⟩ (.slice a.AM a.nM a.cM)) = v := ⟨_, rfl⟩
  rw [ev3] at HK3 HB3 HKz HKh ⊢
  clear ev3 hf2 m0 m1 m2 m3 m4 m5 m6 m7
  clear k0 k1 k2 k3 k4 k5 k6 k7 k8 k9 k10 k11 k12 k13 k14 k15 k16 k17 k18 k19 k20 k21 k22 k23
  clear l0 l1 l2 l3 l4 l5 l6 l7 l8 l9 l10 l11 l12 l13 l14 l15 l16 l17 l18 l19 l20 l21 l22 l23
  have HP3 := Lib.hid (Hp.out.below HB3.out)
  have Hb := Lib.hid (Below.refl v3.heap.size v3)
  obtain ⟨m0, m1, m2, m3, m4, m5, m6, m7⟩ := cells8 HKh.out
  go_wp2_with fail
  refine (rmay4_any p.h a.AH a.nH a.cH y _ HP3.out.hn.tt.1 Ey.out).mono ?_
  rintro e w4 ⟨rfl, hb4⟩
  have Hb4 := Lib.hid hb4
  clear hb4 m0 m1 m2 m3 m4 m5 m6 m7
  cases y with
  | false =>
    go_wp2_with fail
    go_ret
    exact ⟨ret_bool (by rw [← Hx.out]; simp), below_trans HB3.out Hb4.out⟩
  | true =>
    have HA := Lib.hid (blk_on HKz.out Hb4.out)
    have HB := Lib.hid (blk_on HK3.out Hb4.out)
    have HS := Lib.hid (rsame9_any ⟨p.h, zeroSeg, zeroDg, p.m⟩ p ⟨a.AH, a.nH, a.cH, none, 0, 0, [], none, 0, 0, none, 0, 0, a.AM, a.nM, a.cM⟩ a _ u (⟨(HP3.out.below Hb4.out).hn, (HP3.out.below Hb4.out).hc, (HP3.out.below Hb4.out).hr, zero_rd _, zeroDg_num, ⟨Nat.le_refl _, by simp [maxLen]⟩, Rd.nil _ _, (HP3.out.below Hb4.out).mn, (HP3.out.below Hb4.out).mc, (HP3.out.below Hb4.out).mr⟩) (HP3.out.below Hb4.out) (by simp) Eu.out)
    simp only [zeroSeg, zeroDg, zeroM] at HS
    try simp only []
    repeat (first | (refine wp_load_row 35 (.tmp 1) rfl z _ _ _ _ HA.out rfl Tryz.underlying35 rfl (by kernel_rfl) ?_; simp only [Act.put, List.setIfInBounds_toArray, List.set_cons_zero, List.set_cons_succ]) | (refine wp_load_row 35 (.tmp 4) rfl (z + 2) _ _ _ _ HB.out rfl Tryz.underlying35 rfl (by kernel_rfl) ?_; simp only [Act.put, List.setIfInBounds_toArray, List.set_cons_zero, List.set_cons_succ]) | go_values | go_skip | go_guarded | go_step | go_upon | go_back)
    refine HS.out.mono ?_
    rintro e w5 ⟨rfl, hb5⟩
    have Hb5 := Lib.hid (below_trans Hb4.out hb5)
    clear hb5 HS HA HB
    go_wp2_with fail
    go_ret
    exact ⟨ret_bool (by rw [← Hx.out]; simp), below_trans HB3.out Hb5.out⟩
theorem rmay9_other (p : Pk) (a : PkA) (w : World) (hp : PkRd w p a) (h6 : p.h.pr ≠ 6) (h17 : p.h.pr ≠ 17) (h1 : p.h.pr ≠ 1) :
    Calls Tryz.prog 11 #[.agg #[.int .u8 p.h.to, .int .u16 p.h.id, .bool p.h.df, .int .u8 p.h.tt, .int .u8 p.h.pr, .int .u32 p.h.sr, .int .u32 p.h.ds, .slice a.AH a.nH a.cH, .int .u16 p.s.sp, .int .u16 p.s.dp, .int .u32 p.s.sq, .int .u32 p.s.ak, .int .u8 p.s.fl, .int .u16 p.s.wn, .int .u16 p.s.ug, .slice a.AO a.nO a.cO, .slice a.AD a.nD a.cD, .int .u16 p.u.sp, .int .u16 p.u.dp, .slice a.AU a.nU a.cU, .int .u8 p.m.ty, .int .u8 p.m.cd, .int .u32 p.m.rs, .slice a.AM a.nM a.cM]] w (BoolIs false w) := by
  have h6b : (p.h.pr == 6) = false := by simpa using h6
  have h17b : (p.h.pr == 17) = false := by simpa using h17
  have h1b : (p.h.pr == 1) = false := by simpa using h1
  clear h6 h17 h1
  obtain ⟨z, hz⟩ : ∃ z, w.heap.size = z := ⟨_, rfl⟩
  obtain ⟨w0, ew⟩ : ∃ w0, w.alloc (.cells #[.int .u8 p.h.to, .int .u16 p.h.id, .bool p.h.df, .int .u8 p.h.tt, .int .u8 p.h.pr, .int .u32 p.h.sr, .int .u32 p.h.ds, .slice a.AH a.nH a.cH, .int .u16 p.s.sp, .int .u16 p.s.dp, .int .u32 p.s.sq, .int .u32 p.s.ak, .int .u8 p.s.fl, .int .u16 p.s.wn, .int .u16 p.s.ug, .slice a.AO a.nO a.cO, .slice a.AD a.nD a.cD, .int .u16 p.u.sp, .int .u16 p.u.dp, .slice a.AU a.nU a.cU, .int .u8 p.m.ty, .int .u8 p.m.cd, .int .u32 p.m.rs, .slice a.AM a.nM a.cM] 35) = w0 := ⟨_, rfl⟩
  have hb0 : Below w.heap.size w w0 := by rw [← ew]; exact (Below.refl _ _).alloc (Nat.le_refl _) _
  have hk0 : w0.heap[z]? = some (.cells #[.int .u8 p.h.to, .int .u16 p.h.id, .bool p.h.df, .int .u8 p.h.tt, .int .u8 p.h.pr, .int .u32 p.h.sr, .int .u32 p.h.ds, .slice a.AH a.nH a.cH, .int .u16 p.s.sp, .int .u16 p.s.dp, .int .u32 p.s.sq, .int .u32 p.s.ak, .int .u8 p.s.fl, .int .u16 p.s.wn, .int .u16 p.s.ug, .slice a.AO a.nO a.cO, .slice a.AD a.nD a.cD, .int .u16 p.u.sp, .int .u16 p.u.dp, .slice a.AU a.nU a.cU, .int .u8 p.m.ty, .int .u8 p.m.cd, .int .u32 p.m.rs, .slice a.AM a.nM a.cM] 35 (0, 0)) := by rw [← ew, ← hz]; exact heap_alloc_new w _
  have hs0 : w0.heap.size = z + 1 := by rw [← ew, ← hz]; simp
  obtain ⟨w1, ew1⟩ : ∃ w1, w0.alloc (.cells #[.int .u8 p.h.to, .int .u16 p.h.id, .bool p.h.df, .int .u8 p.h.tt, .int .u8 p.h.pr, .int .u32 p.h.sr, .int .u32 p.h.ds, .slice a.AH a.nH a.cH] 26) = w1 := ⟨_, rfl⟩
  have hb1 : Below w0.heap.size w0 w1 := by rw [← ew1]; exact (Below.refl _ _).alloc (Nat.le_refl _) _
  have hk1 : w1.heap[z + 1]? = some (.cells #[.int .u8 p.h.to, .int .u16 p.h.id, .bool p.h.df, .int .u8 p.h.tt, .int .u8 p.h.pr, .int .u32 p.h.sr, .int .u32 p.h.ds, .slice a.AH a.nH a.cH] 26 (0, 0)) := by rw [← ew1, ← hs0]; exact heap_alloc_new w0 _
  have hs1 : w1.heap.size = z + 2 := by rw [← ew1]; simp [hs0]
  obtain ⟨w2, ew2⟩ : ∃ w2, w1.alloc (.cells #[.int .u8 p.h.to, .int .u16 p.h.id, .bool p.h.df, .int .u8 p.h.tt, .int .u8 p.h.pr, .int .u32 p.h.sr, .int .u32 p.h.ds, .slice a.AH a.nH a.cH, .int .u16 0, .int .u16 0, .int .u32 0, .int .u32 0, .int .u8 0, .int .u16 0, .int .u16 0, .slice none 0 0, .slice none 0 0, .int .u16 0, .int .u16 0, .slice none 0 0, .int .u8 0, .int .u8 0, .int .u32 0, .slice none 0 0] 35) = w2 := ⟨_, rfl⟩
  have hb2 : Below w1.heap.size w1 w2 := by rw [← ew2]; exact (Below.refl _ _).alloc (Nat.le_refl _) _
  have hk2 : w2.heap[z + 2]? = some (.cells #[.int .u8 p.h.to, .int .u16 p.h.id, .bool p.h.df, .int .u8 p.h.tt, .int .u8 p.h.pr, .int .u32 p.h.sr, .int .u32 p.h.ds, .slice a.AH a.nH a.cH, .int .u16 0, .int .u16 0, .int .u32 0, .int .u32 0, .int .u8 0, .int .u16 0, .int .u16 0, .slice none 0 0, .slice none 0 0, .int .u16 0, .int .u16 0, .slice none 0 0, .int .u8 0, .int .u8 0, .int .u32 0, .slice none 0 0] 35 (0, 0)) := by rw [← ew2, ← hs1]; exact heap_alloc_new w1 _
  have hs2 : w2.heap.size = z + 3 := by rw [← ew2]; simp [hs1]
  have hbb := below_trans hb0 (below_trans hb1 hb2)
  have HZ := Lib.hid (And.intro hz (And.intro hs0 (And.intro hs1 hs2)))
  have HK2 := Lib.hid (And.intro (blk_on (blk_on hk0 hb1) hb2) (And.intro (blk_on hk1 hb2) (And.intro hk2 (And.intro (hp.below hbb) hbb))))
  have HK0 := Lib.hid hk0
  have HK1 := Lib.hid (And.intro (blk_on hk0 hb1) hk1)
  have Ew := Lib.hid ew
  have Ew1 := Lib.hid ew1
  have Ew2 := Lib.hid ew2
  have Hp := Lib.hid hp
  clear hz ew hb0 hk0 hs0 ew1 hb1 hk1 hs1 ew2 hb2 hk2 hs2 hbb hp
  go_enter Tryz.func11, Tryz.ntmps11
  go_upto_region 1 with (fail)
  rw [Ew.out]
  try simp only [HZ.out.1]
  obtain ⟨k0, k1, k2, k3, k4, k5, k6, k7, k8, k9, k10, k11, k12, k13, k14, k15, k16, k17, k18, k19, k20, k21, k22, k23⟩ := cells24 HK0.out
  go_upto_region 2 with (fail)
  rw [Ew1.out]
  try simp only [HZ.out.2.1]
  clear k0 k1 k2 k3 k4 k5 k6 k7 k8 k9 k10 k11 k12 k13 k14 k15 k16 k17 k18 k19 k20 k21 k22 k23
  obtain ⟨m0, m1, m2, m3, m4, m5, m6, m7⟩ := cells8 HK1.out.2
  iterate 11 (first | go_values | go_skip | go_guarded | go_step | go_upon | go_back)
  refine wp_store_new 35 (.tmp 4) (.tmp 8) rfl rfl w1 _ _ rfl rfl (by kernel_rfl) rfl (by simp [Value.oneCell']) ?_
  go_upto_region 3 with (fail)
  rw [Ew2.out]
  try simp only [HZ.out.2.2.1]
  clear m0 m1 m2 m3 m4 m5 m6 m7
  obtain ⟨m0, m1, m2, m3, m4, m5, m6, m7⟩ := cells8 HK2.out.2.1
  have HB2 := Lib.hid HK2.out.2.2.2.2
  go_wp2_with fail
  go_ret
  exact ⟨rfl, HB2.out⟩
theorem rmay9_any (p : Pk) (a : PkA) (w : World) (x : Bool) (hp : PkRd w p a) (hn : a.nO ≤ 2000000) (hx : mayP p = x) :
    Calls Tryz.prog 11 #[.agg #[.int .u8 p.h.to, .int .u16 p.h.id, .bool p.h.df, .int .u8 p.h.tt, .int .u8 p.h.pr, .int .u32 p.h.sr, .int .u32 p.h.ds, .slice a.AH a.nH a.cH, .int .u16 p.s.sp, .int .u16 p.s.dp, .int .u32 p.s.sq, .int .u32 p.s.ak, .int .u8 p.s.fl, .int .u16 p.s.wn, .int .u16 p.s.ug, .slice a.AO a.nO a.cO, .slice a.AD a.nD a.cD, .int .u16 p.u.sp, .int .u16 p.u.dp, .slice a.AU a.nU a.cU, .int .u8 p.m.ty, .int .u8 p.m.cd, .int .u32 p.m.rs, .slice a.AM a.nM a.cM]] w (BoolIs x w) := by
  by_cases h6 : p.h.pr = 6
  · exact rmay9_6 p a w x hp hn hx h6
  by_cases h17 : p.h.pr = 17
  · exact rmay9_17 p a w x hp hn hx h17
  by_cases h1 : p.h.pr = 1
  · exact rmay9_1 p a w x hp hn hx h1
  rw [show x = false by rw [← hx]; unfold mayP; simp [h6, h17, h1]]
  exact rmay9_other p a w hp h6 h17 h1
end Go.Proofs.YtkooehejdfaekaaGreat
