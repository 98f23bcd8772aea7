/-
  Texts laid together: PkMay, PkRefPut.
-/
import Derived.Test.YtoegfgbalcholaaGreatZT29
import Derived.Test.YtoegfgbalcholaaGreatZT30
import Derived.Test.YtoegfgbalcholaaGreatZT15
import Derived.Test.YtoegfgbalcholaaGreatZT23
import Derived.Test.YtoegfgbalcholaaGreatZT27

/-
  Package packet's May: whether a packet may be.
-/
namespace Go.Proofs.YtoegfgbalcholaaGreat
set_option maxRecDepth 10000
open Go.RowKit
set_option linter.unusedSimpArgs false
set_option linter.unusedVariables false

theorem dgSame_turn (s t : Dg) : dgSame s t = dgSame t s := by
  rw [Bool.eq_iff_iff, dgSame_iff, dgSame_iff]; exact eq_comm
theorem msgSame_turn (s t : Msg) : msgSame s t = msgSame t s := by
  rw [Bool.eq_iff_iff, msgSame_iff, msgSame_iff]; exact eq_comm
theorem segSame_turn (s t : Seg) : segSame s t = segSame t s := by
  rw [Bool.eq_iff_iff, segSame_iff, segSame_iff]; exact eq_comm
theorem dgSame_refl (h : Dg) : dgSame h h = true := (dgSame_iff h h).2 rfl
theorem msgSame_refl (h : Msg) : msgSame h h = true := (msgSame_iff h h).2 rfl
theorem mayP_6 (p : Pk) (h : p.h.pr = 6) : mayP p = (mayB p.h.tt p.h.o.length && (dgSame p.u zeroDg && msgSame p.m zeroM)) := by
  unfold mayP partP pkSame
  simp only [h, reduceIte, decide_true, Bool.true_or, Bool.true_and]
  rw [hdSame_self, segSame_self, dgSame_turn, msgSame_turn zeroM]
  simp
theorem mayP_17 (p : Pk) (h : p.h.pr = 17) : mayP p = (mayB p.h.tt p.h.o.length && (segSame p.s zeroSeg && msgSame p.m zeroM)) := by
  unfold mayP partP pkSame
  simp only [h, reduceIte, decide_true, Bool.true_or, Bool.or_true, Bool.true_and, show ¬ (17 : Int) = 6 by decide]
  rw [hdSame_self, dgSame_refl, segSame_turn, msgSame_turn zeroM]
  simp
theorem mayP_1 (p : Pk) (h : p.h.pr = 1) : mayP p = (mayB p.h.tt p.h.o.length && (segSame p.s zeroSeg && dgSame p.u zeroDg)) := by
  unfold mayP partP pkSame
  simp only [h, reduceIte, decide_true, Bool.true_or, Bool.or_true, Bool.true_and, show ¬ (1 : Int) = 6 by decide, show ¬ (1 : Int) = 17 by decide]
  rw [hdSame_self, msgSame_refl, segSame_turn, dgSame_turn zeroDg]
  simp
theorem mayP_no (p : Pk) (h6 : p.h.pr ≠ 6) (h17 : p.h.pr ≠ 17) (h1 : p.h.pr ≠ 1) : mayP p = false := by
  unfold mayP
  simp [h6, h17, h1]

set_option maxHeartbeats 2000000 in
theorem may9_6 (p : Pk) (a : PkA) (w : World) (x : Bool) (hp : PkRd w p a) (hn : a.nO ≤ 140737488355328) (hx : mayP p = x) (h6 : p.h.pr = 6) :
    Calls Tryz.prog 20 #[.agg #[.int .u8 p.h.to, .int .u16 p.h.id, .bool p.h.df, .int .u8 p.h.tt, .int .u8 p.h.pr, .int .u32 p.h.sr, .int .u32 p.h.ds, .slice a.AH a.nH a.cH, .int .u16 p.s.sp, .int .u16 p.s.dp, .int .u32 p.s.sq, .int .u32 p.s.ak, .int .u8 p.s.fl, .int .u16 p.s.wn, .int .u16 p.s.ug, .slice a.AO a.nO a.cO, .slice a.AD a.nD a.cD, .int .u16 p.u.sp, .int .u16 p.u.dp, .slice a.AU a.nU a.cU, .int .u8 p.m.ty, .int .u8 p.m.cd, .int .u32 p.m.rs, .slice a.AM a.nM a.cM]] w (BoolIs x w) := by
  have h6b : (p.h.pr == 6) = true := by rw [h6]; rfl
  have h17b : (p.h.pr == 17) = false := by rw [h6]; rfl
  have h1b : (p.h.pr == 1) = false := by rw [h6]; rfl
  have hkn : knownP p.h.pr = true := by rw [h6]; rfl
  rw [mayP_6 p h6] at hx
  obtain ⟨y, ey⟩ : ∃ y, mayB p.h.tt a.nH = y := ⟨_, rfl⟩
  obtain ⟨y1, ey1⟩ : ∃ y, dgSame p.u zeroDg = y := ⟨_, rfl⟩
  obtain ⟨y2, ey2⟩ : ∃ y, msgSame p.m zeroM = y := ⟨_, rfl⟩
  rw [hp.hr.len, ey, ey1, ey2] at hx
  have Hx := Lib.hid hx
  have Hy := Lib.hid ey
  have E1 := Lib.hid ey1
  have E2 := Lib.hid ey2
  have Hn := Lib.hid hn
  clear hx ey ey1 ey2 h6 hn
  obtain ⟨z, hz⟩ : ∃ z, w.heap.size = z := ⟨_, rfl⟩
  obtain ⟨w0, ew⟩ : ∃ w0, w.alloc (.cells #[.int .u8 p.h.to, .int .u16 p.h.id, .bool p.h.df, .int .u8 p.h.tt, .int .u8 p.h.pr, .int .u32 p.h.sr, .int .u32 p.h.ds, .slice a.AH a.nH a.cH, .int .u16 p.s.sp, .int .u16 p.s.dp, .int .u32 p.s.sq, .int .u32 p.s.ak, .int .u8 p.s.fl, .int .u16 p.s.wn, .int .u16 p.s.ug, .slice a.AO a.nO a.cO, .slice a.AD a.nD a.cD, .int .u16 p.u.sp, .int .u16 p.u.dp, .slice a.AU a.nU a.cU, .int .u8 p.m.ty, .int .u8 p.m.cd, .int .u32 p.m.rs, .slice a.AM a.nM a.cM] 35) = w0 := ⟨_, rfl⟩
  have hb0 : Below w.heap.size w w0 := by rw [← ew]; exact (Below.refl _ _).alloc (Nat.le_refl _) _
  have hk0 : w0.heap[z]? = some (.cells #[.int .u8 p.h.to, .int .u16 p.h.id, .bool p.h.df, .int .u8 p.h.tt, .int .u8 p.h.pr, .int .u32 p.h.sr, .int .u32 p.h.ds, .slice a.AH a.nH a.cH, .int .u16 p.s.sp, .int .u16 p.s.dp, .int .u32 p.s.sq, .int .u32 p.s.ak, .int .u8 p.s.fl, .int .u16 p.s.wn, .int .u16 p.s.ug, .slice a.AO a.nO a.cO, .slice a.AD a.nD a.cD, .int .u16 p.u.sp, .int .u16 p.u.dp, .slice a.AU a.nU a.cU, .int .u8 p.m.ty, .int .u8 p.m.cd, .int .u32 p.m.rs, .slice a.AM a.nM a.cM] 35 (0, 0)) := by rw [← ew, ← hz]; exact heap_alloc_new w _
  have HK := Lib.hid (show ∀ w', Below w0.heap.size w0 w' → w'.heap[z]? = some (.cells #[.int .u8 p.h.to, .int .u16 p.h.id, .bool p.h.df, .int .u8 p.h.tt, .int .u8 p.h.pr, .int .u32 p.h.sr, .int .u32 p.h.ds, .slice a.AH a.nH a.cH, .int .u16 p.s.sp, .int .u16 p.s.dp, .int .u32 p.s.sq, .int .u32 p.s.ak, .int .u8 p.s.fl, .int .u16 p.s.wn, .int .u16 p.s.ug, .slice a.AO a.nO a.cO, .slice a.AD a.nD a.cD, .int .u16 p.u.sp, .int .u16 p.u.dp, .slice a.AU a.nU a.cU, .int .u8 p.m.ty, .int .u8 p.m.cd, .int .u32 p.m.rs, .slice a.AM a.nM a.cM] 35 (0, 0)) ∧ PkRd w' p a from fun w' hb => ⟨blk_on hk0 hb, (hp.below hb0).below hb⟩)
  have Hb0 := Lib.hid hb0
  have Ew := Lib.hid ew
  have Hz := Lib.hid hz
  have HA := Lib.hid hk0
  have Hpay := Lib.hid (payloads_any p a w0)
  have Hkn := Lib.hid hkn
  have Hol := Lib.hid hp.hr.len
  clear hz ew hb0 hk0 hp hkn
  go_enter Tryz.func20, Tryz.ntmps20
  go_upto_region 1 with (fail)
  rw [Ew.out]
  try rw [Hz.out]
  obtain ⟨k0, k1, k2, k3, k4, k5, k6, k7, k8, k9, k10, k11, k12, k13, k14, k15, k16, k17, k18, k19, k20, k21, k22, k23⟩ := cells24 HA.out
  go_upto_region 2 with (fail)
  clear k0 k1 k2 k3 k4 k5 k6 k7 k8 k9 k10 k11 k12 k13 k14 k15 k16 k17 k18 k19 k20 k21 k22 k23
  repeat (first | (refine wp_load_row 35 (.tmp 1) rfl z _ _ _ _ HA.out rfl Tryz.underlying35 rfl (by kernel_rfl) ?_; simp only [Act.put, List.setIfInBounds_toArray, List.set_cons_zero, List.set_cons_succ]) | go_values | go_skip | go_guarded | go_step | go_upon | go_back)
  refine Hpay.out.mono ?_
  rintro e w1 ⟨g, q, r, b, rfl, hg, -, hb1⟩
  obtain ⟨f, ef⟩ : ∃ f, atP (payF6 q r b) (payF17 q r b) (payF1 b) p.h.pr = f := ⟨_, rfl⟩
  have hlook := look3_payload w1 g _ _ _ p.h.pr f true hg ef Hkn.out
  have Hb := Lib.hid hb1
  clear hb1 hg ef Hpay HA
  obtain ⟨k0, k1, k2, k3, k4, k5, k6, k7, k8, k9, k10, k11, k12, k13, k14, k15, k16, k17, k18, k19, k20, k21, k22, k23⟩ := cells24 (HK.out _ Hb.out).1
  go_upto_region 3 with (fail)
  clear hlook
  go_wp2_with fail
  refine (may_any p.h.to p.h.id p.h.tt p.h.pr p.h.sr p.h.ds p.h.df a.AH a.nH a.cH _).mono ?_
  rw [Hy.out]
  rintro e w2 ⟨rfl, hb2⟩
  have Hb := Lib.hid (below_trans Hb.out hb2)
  clear hb2
  clear k0 k1 k2 k3 k4 k5 k6 k7 k8 k9 k10 k11 k12 k13 k14 k15 k16 k17 k18 k19 k20 k21 k22 k23
  cases y with
  | false =>
    go_wp2_with fail
    go_ret
    exact ⟨ret_bool (by rw [← Hx.out]; simp), below_trans Hb0.out Hb.out⟩
  | true =>
    obtain ⟨k0, k1, k2, k3, k4, k5, k6, k7, k8, k9, k10, k11, k12, k13, k14, k15, k16, k17, k18, k19, k20, k21, k22, k23⟩ := cells24 (HK.out _ Hb.out).1
    go_wp2_with fail
    refine (usame_any p.u zeroDg a.AU a.nU a.cU none 0 0 _ y1 (HK.out _ Hb.out).2.ur (Rd.nil _ _) E1.out).mono ?_
    skip
    rintro e w3 ⟨rfl, hb3⟩
    have Hb := Lib.hid (below_trans Hb.out hb3)
    clear hb3
    clear k0 k1 k2 k3 k4 k5 k6 k7 k8 k9 k10 k11 k12 k13 k14 k15 k16 k17 k18 k19 k20 k21 k22 k23
    cases y1 with
    | false =>
      go_wp2_with fail
      go_ret
      exact ⟨ret_bool (by rw [← Hx.out]; simp), below_trans Hb0.out Hb.out⟩
    | true =>
      obtain ⟨k0, k1, k2, k3, k4, k5, k6, k7, k8, k9, k10, k11, k12, k13, k14, k15, k16, k17, k18, k19, k20, k21, k22, k23⟩ := cells24 (HK.out _ Hb.out).1
      go_wp2_with fail
      refine (same8_any p.m zeroM a.AM a.nM a.cM none 0 0 _ y2 (HK.out _ Hb.out).2.mr (Rd.nil _ _) E2.out).mono ?_
      skip
      rintro e w4 ⟨rfl, hb4⟩
      have Hb := Lib.hid (below_trans Hb.out hb4)
      clear hb4
      clear k0 k1 k2 k3 k4 k5 k6 k7 k8 k9 k10 k11 k12 k13 k14 k15 k16 k17 k18 k19 k20 k21 k22 k23
      cases y2 with
      | false =>
        go_wp2_with fail
        go_ret
        exact ⟨ret_bool (by rw [← Hx.out]; simp), below_trans Hb0.out Hb.out⟩
      | true =>
        go_wp2_with fail
        go_ret
        exact ⟨ret_bool (by rw [← Hx.out]; simp), below_trans Hb0.out Hb.out⟩
set_option maxHeartbeats 2000000 in
theorem may9_17 (p : Pk) (a : PkA) (w : World) (x : Bool) (hp : PkRd w p a) (hn : a.nO ≤ 140737488355328) (hx : mayP p = x) (h6 : p.h.pr = 17) :
    Calls Tryz.prog 20 #[.agg #[.int .u8 p.h.to, .int .u16 p.h.id, .bool p.h.df, .int .u8 p.h.tt, .int .u8 p.h.pr, .int .u32 p.h.sr, .int .u32 p.h.ds, .slice a.AH a.nH a.cH, .int .u16 p.s.sp, .int .u16 p.s.dp, .int .u32 p.s.sq, .int .u32 p.s.ak, .int .u8 p.s.fl, .int .u16 p.s.wn, .int .u16 p.s.ug, .slice a.AO a.nO a.cO, .slice a.AD a.nD a.cD, .int .u16 p.u.sp, .int .u16 p.u.dp, .slice a.AU a.nU a.cU, .int .u8 p.m.ty, .int .u8 p.m.cd, .int .u32 p.m.rs, .slice a.AM a.nM a.cM]] w (BoolIs x w) := by
  have h6b : (p.h.pr == 6) = false := by rw [h6]; rfl
  have h17b : (p.h.pr == 17) = true := by rw [h6]; rfl
  have h1b : (p.h.pr == 1) = false := by rw [h6]; rfl
  have hkn : knownP p.h.pr = true := by rw [h6]; rfl
  rw [mayP_17 p h6] at hx
  obtain ⟨y, ey⟩ : ∃ y, mayB p.h.tt a.nH = y := ⟨_, rfl⟩
  obtain ⟨y1, ey1⟩ : ∃ y, segSame p.s zeroSeg = y := ⟨_, rfl⟩
  obtain ⟨y2, ey2⟩ : ∃ y, msgSame p.m zeroM = y := ⟨_, rfl⟩
  rw [hp.hr.len, ey, ey1, ey2] at hx
  have Hx := Lib.hid hx
  have Hy := Lib.hid ey
  have E1 := Lib.hid ey1
  have E2 := Lib.hid ey2
  have Hn := Lib.hid hn
  clear hx ey ey1 ey2 h6 hn
  obtain ⟨z, hz⟩ : ∃ z, w.heap.size = z := ⟨_, rfl⟩
  obtain ⟨w0, ew⟩ : ∃ w0, w.alloc (.cells #[.int .u8 p.h.to, .int .u16 p.h.id, .bool p.h.df, .int .u8 p.h.tt, .int .u8 p.h.pr, .int .u32 p.h.sr, .int .u32 p.h.ds, .slice a.AH a.nH a.cH, .int .u16 p.s.sp, .int .u16 p.s.dp, .int .u32 p.s.sq, .int .u32 p.s.ak, .int .u8 p.s.fl, .int .u16 p.s.wn, .int .u16 p.s.ug, .slice a.AO a.nO a.cO, .slice a.AD a.nD a.cD, .int .u16 p.u.sp, .int .u16 p.u.dp, .slice a.AU a.nU a.cU, .int .u8 p.m.ty, .int .u8 p.m.cd, .int .u32 p.m.rs, .slice a.AM a.nM a.cM] 35) = w0 := ⟨_, rfl⟩
  have hb0 : Below w.heap.size w w0 := by rw [← ew]; exact (Below.refl _ _).alloc (Nat.le_refl _) _
  have hk0 : w0.heap[z]? = some (.cells #[.int .u8 p.h.to, .int .u16 p.h.id, .bool p.h.df, .int .u8 p.h.tt, .int .u8 p.h.pr, .int .u32 p.h.sr, .int .u32 p.h.ds, .slice a.AH a.nH a.cH, .int .u16 p.s.sp, .int .u16 p.s.dp, .int .u32 p.s.sq, .int .u32 p.s.ak, .int .u8 p.s.fl, .int .u16 p.s.wn, .int .u16 p.s.ug, .slice a.AO a.nO a.cO, .slice a.AD a.nD a.cD, .int .u16 p.u.sp, .int .u16 p.u.dp, .slice a.AU a.nU a.cU, .int .u8 p.m.ty, .int .u8 p.m.cd, .int .u32 p.m.rs, .slice a.AM a.nM a.cM] 35 (0, 0)) := by rw [← ew, ← hz]; exact heap_alloc_new w _
  have HK := Lib.hid (show ∀ w', Below w0.heap.size w0 w' → w'.heap[z]? = some (.cells #[.int .u8 p.h.to, .int .u16 p.h.id, .bool p.h.df, .int .u8 p.h.tt, .int .u8 p.h.pr, .int .u32 p.h.sr, .int .u32 p.h.ds, .slice a.AH a.nH a.cH, .int .u16 p.s.sp, .int .u16 p.s.dp, .int .u32 p.s.sq, .int .u32 p.s.ak, .int .u8 p.s.fl, .int .u16 p.s.wn, .int .u16 p.s.ug, .slice a.AO a.nO a.cO, .slice a.AD a.nD a.cD, .int .u16 p.u.sp, .int .u16 p.u.dp, .slice a.AU a.nU a.cU, .int .u8 p.m.ty, .int .u8 p.m.cd, .int .u32 p.m.rs, .slice a.AM a.nM a.cM] 35 (0, 0)) ∧ PkRd w' p a from fun w' hb => ⟨blk_on hk0 hb, (hp.below hb0).below hb⟩)
  have Hb0 := Lib.hid hb0
  have Ew := Lib.hid ew
  have Hz := Lib.hid hz
  have HA := Lib.hid hk0
  have Hpay := Lib.hid (payloads_any p a w0)
  have Hkn := Lib.hid hkn
  have Hol := Lib.hid hp.hr.len
  clear hz ew hb0 hk0 hp hkn
  go_enter Tryz.func20, Tryz.ntmps20
  go_upto_region 1 with (fail)
  rw [Ew.out]
  try rw [Hz.out]
  obtain ⟨k0, k1, k2, k3, k4, k5, k6, k7, k8, k9, k10, k11, k12, k13, k14, k15, k16, k17, k18, k19, k20, k21, k22, k23⟩ := cells24 HA.out
  go_upto_region 2 with (fail)
  clear k0 k1 k2 k3 k4 k5 k6 k7 k8 k9 k10 k11 k12 k13 k14 k15 k16 k17 k18 k19 k20 k21 k22 k23
  repeat (first | (refine wp_load_row 35 (.tmp 1) rfl z _ _ _ _ HA.out rfl Tryz.underlying35 rfl (by kernel_rfl) ?_; simp only [Act.put, List.setIfInBounds_toArray, List.set_cons_zero, List.set_cons_succ]) | go_values | go_skip | go_guarded | go_step | go_upon | go_back)
  refine Hpay.out.mono ?_
  rintro e w1 ⟨g, q, r, b, rfl, hg, -, hb1⟩
  obtain ⟨f, ef⟩ : ∃ f, atP (payF6 q r b) (payF17 q r b) (payF1 b) p.h.pr = f := ⟨_, rfl⟩
  have hlook := look3_payload w1 g _ _ _ p.h.pr f true hg ef Hkn.out
  have Hb := Lib.hid hb1
  clear hb1 hg ef Hpay HA
  obtain ⟨k0, k1, k2, k3, k4, k5, k6, k7, k8, k9, k10, k11, k12, k13, k14, k15, k16, k17, k18, k19, k20, k21, k22, k23⟩ := cells24 (HK.out _ Hb.out).1
  go_upto_region 3 with (fail)
  clear hlook
  go_wp2_with fail
  refine (may_any p.h.to p.h.id p.h.tt p.h.pr p.h.sr p.h.ds p.h.df a.AH a.nH a.cH _).mono ?_
  rw [Hy.out]
  rintro e w2 ⟨rfl, hb2⟩
  have Hb := Lib.hid (below_trans Hb.out hb2)
  clear hb2
  clear k0 k1 k2 k3 k4 k5 k6 k7 k8 k9 k10 k11 k12 k13 k14 k15 k16 k17 k18 k19 k20 k21 k22 k23
  cases y with
  | false =>
    go_wp2_with fail
    go_ret
    exact ⟨ret_bool (by rw [← Hx.out]; simp), below_trans Hb0.out Hb.out⟩
  | true =>
    obtain ⟨k0, k1, k2, k3, k4, k5, k6, k7, k8, k9, k10, k11, k12, k13, k14, k15, k16, k17, k18, k19, k20, k21, k22, k23⟩ := cells24 (HK.out _ Hb.out).1
    go_wp2_with fail
    refine (same6_any p.s zeroSeg a.AO none a.nO a.cO 0 0 a.os [] a.AD none a.nD a.cD 0 0 _ Hn.out (HK.out _ Hb.out).2.sr (zero_rd _)).mono ?_
    rw [E1.out]
    rintro e w3 ⟨rfl, hb3⟩
    have Hb := Lib.hid (below_trans Hb.out hb3)
    clear hb3
    clear k0 k1 k2 k3 k4 k5 k6 k7 k8 k9 k10 k11 k12 k13 k14 k15 k16 k17 k18 k19 k20 k21 k22 k23
    cases y1 with
    | false =>
      go_wp2_with fail
      go_ret
      exact ⟨ret_bool (by rw [← Hx.out]; simp), below_trans Hb0.out Hb.out⟩
    | true =>
      obtain ⟨k0, k1, k2, k3, k4, k5, k6, k7, k8, k9, k10, k11, k12, k13, k14, k15, k16, k17, k18, k19, k20, k21, k22, k23⟩ := cells24 (HK.out _ Hb.out).1
      go_wp2_with fail
      refine (same8_any p.m zeroM a.AM a.nM a.cM none 0 0 _ y2 (HK.out _ Hb.out).2.mr (Rd.nil _ _) E2.out).mono ?_
      skip
      rintro e w4 ⟨rfl, hb4⟩
      have Hb := Lib.hid (below_trans Hb.out hb4)
      clear hb4
      clear k0 k1 k2 k3 k4 k5 k6 k7 k8 k9 k10 k11 k12 k13 k14 k15 k16 k17 k18 k19 k20 k21 k22 k23
      cases y2 with
      | false =>
        go_wp2_with fail
        go_ret
        exact ⟨ret_bool (by rw [← Hx.out]; simp), below_trans Hb0.out Hb.out⟩
      | true =>
        go_wp2_with fail
        go_ret
        exact ⟨ret_bool (by rw [← Hx.out]; simp), below_trans Hb0.out Hb.out⟩
set_option maxHeartbeats 2000000 in
theorem may9_1 (p : Pk) (a : PkA) (w : World) (x : Bool) (hp : PkRd w p a) (hn : a.nO ≤ 140737488355328) (hx : mayP p = x) (h6 : p.h.pr = 1) :
    Calls Tryz.prog 20 #[.agg #[.int .u8 p.h.to, .int .u16 p.h.id, .bool p.h.df, .int .u8 p.h.tt, .int .u8 p.h.pr, .int .u32 p.h.sr, .int .u32 p.h.ds, .slice a.AH a.nH a.cH, .int .u16 p.s.sp, .int .u16 p.s.dp, .int .u32 p.s.sq, .int .u32 p.s.ak, .int .u8 p.s.fl, .int .u16 p.s.wn, .int .u16 p.s.ug, .slice a.AO a.nO a.cO, .slice a.AD a.nD a.cD, .int .u16 p.u.sp, .int .u16 p.u.dp, .slice a.AU a.nU a.cU, .int .u8 p.m.ty, .int .u8 p.m.cd, .int .u32 p.m.rs, .slice a.AM a.nM a.cM]] w (BoolIs x w) := by
  have h6b : (p.h.pr == 6) = false := by rw [h6]; rfl
  have h17b : (p.h.pr == 17) = false := by rw [h6]; rfl
  have h1b : (p.h.pr == 1) = true := by rw [h6]; rfl
  have hkn : knownP p.h.pr = true := by rw [h6]; rfl
  rw [mayP_1 p h6] at hx
  obtain ⟨y, ey⟩ : ∃ y, mayB p.h.tt a.nH = y := ⟨_, rfl⟩
  obtain ⟨y1, ey1⟩ : ∃ y, segSame p.s zeroSeg = y := ⟨_, rfl⟩
  obtain ⟨y2, ey2⟩ : ∃ y, dgSame p.u zeroDg = y := ⟨_, rfl⟩
  rw [hp.hr.len, ey, ey1, ey2] at hx
  have Hx := Lib.hid hx
  have Hy := Lib.hid ey
  have E1 := Lib.hid ey1
  have E2 := Lib.hid ey2
  have Hn := Lib.hid hn
  clear hx ey ey1 ey2 h6 hn
  obtain ⟨z, hz⟩ : ∃ z, w.heap.size = z := ⟨_, rfl⟩
  obtain ⟨w0, ew⟩ : ∃ w0, w.alloc (.cells #[.int .u8 p.h.to, .int .u16 p.h.id, .bool p.h.df, .int .u8 p.h.tt, .int .u8 p.h.pr, .int .u32 p.h.sr, .int .u32 p.h.ds, .slice a.AH a.nH a.cH, .int .u16 p.s.sp, .int .u16 p.s.dp, .int .u32 p.s.sq, .int .u32 p.s.ak, .int .u8 p.s.fl, .int .u16 p.s.wn, .int .u16 p.s.ug, .slice a.AO a.nO a.cO, .slice a.AD a.nD a.cD, .int .u16 p.u.sp, .int .u16 p.u.dp, .slice a.AU a.nU a.cU, .int .u8 p.m.ty, .int .u8 p.m.cd, .int .u32 p.m.rs, .slice a.AM a.nM a.cM] 35) = w0 := ⟨_, rfl⟩
  have hb0 : Below w.heap.size w w0 := by rw [← ew]; exact (Below.refl _ _).alloc (Nat.le_refl _) _
  have hk0 : w0.heap[z]? = some (.cells #[.int .u8 p.h.to, .int .u16 p.h.id, .bool p.h.df, .int .u8 p.h.tt, .int .u8 p.h.pr, .int .u32 p.h.sr, .int .u32 p.h.ds, .slice a.AH a.nH a.cH, .int .u16 p.s.sp, .int .u16 p.s.dp, .int .u32 p.s.sq, .int .u32 p.s.ak, .int .u8 p.s.fl, .int .u16 p.s.wn, .int .u16 p.s.ug, .slice a.AO a.nO a.cO, .slice a.AD a.nD a.cD, .int .u16 p.u.sp, .int .u16 p.u.dp, .slice a.AU a.nU a.cU, .int .u8 p.m.ty, .int .u8 p.m.cd, .int .u32 p.m.rs, .slice a.AM a.nM a.cM] 35 (0, 0)) := by rw [← ew, ← hz]; exact heap_alloc_new w _
  have HK := Lib.hid (show ∀ w', Below w0.heap.size w0 w' → w'.heap[z]? = some (.cells #[.int .u8 p.h.to, .int .u16 p.h.id, .bool p.h.df, .int .u8 p.h.tt, .int .u8 p.h.pr, .int .u32 p.h.sr, .int .u32 p.h.ds, .slice a.AH a.nH a.cH, .int .u16 p.s.sp, .int .u16 p.s.dp, .int .u32 p.s.sq, .int .u32 p.s.ak, .int .u8 p.s.fl, .int .u16 p.s.wn, .int .u16 p.s.ug, .slice a.AO a.nO a.cO, .slice a.AD a.nD a.cD, .int .u16 p.u.sp, .int .u16 p.u.dp, .slice a.AU a.nU a.cU, .int .u8 p.m.ty, .int .u8 p.m.cd, .int .u32 p.m.rs, .slice a.AM a.nM a.cM] 35 (0, 0)) ∧ PkRd w' p a from fun w' hb => ⟨blk_on hk0 hb, (hp.below hb0).below hb⟩)
  have Hb0 := Lib.hid hb0
  have Ew := Lib.hid ew
  have Hz := Lib.hid hz
  have HA := Lib.hid hk0
  have Hpay := Lib.hid (payloads_any p a w0)
  have Hkn := Lib.hid hkn
  have Hol := Lib.hid hp.hr.len
  clear hz ew hb0 hk0 hp hkn
  go_enter Tryz.func20, Tryz.ntmps20
  go_upto_region 1 with (fail)
  rw [Ew.out]
  try rw [Hz.out]
  obtain ⟨k0, k1, k2, k3, k4, k5, k6, k7, k8, k9, k10, k11, k12, k13, k14, k15, k16, k17, k18, k19, k20, k21, k22, k23⟩ := cells24 HA.out
  go_upto_region 2 with (fail)
  clear k0 k1 k2 k3 k4 k5 k6 k7 k8 k9 k10 k11 k12 k13 k14 k15 k16 k17 k18 k19 k20 k21 k22 k23
  repeat (first | (refine wp_load_row 35 (.tmp 1) rfl z _ _ _ _ HA.out rfl Tryz.underlying35 rfl (by kernel_rfl) ?_; simp only [Act.put, List.setIfInBounds_toArray, List.set_cons_zero, List.set_cons_succ]) | go_values | go_skip | go_guarded | go_step | go_upon | go_back)
  refine Hpay.out.mono ?_
  rintro e w1 ⟨g, q, r, b, rfl, hg, -, hb1⟩
  obtain ⟨f, ef⟩ : ∃ f, atP (payF6 q r b) (payF17 q r b) (payF1 b) p.h.pr = f := ⟨_, rfl⟩
  have hlook := look3_payload w1 g _ _ _ p.h.pr f true hg ef Hkn.out
  have Hb := Lib.hid hb1
  clear hb1 hg ef Hpay HA
  obtain ⟨k0, k1, k2, k3, k4, k5, k6, k7, k8, k9, k10, k11, k12, k13, k14, k15, k16, k17, k18, k19, k20, k21, k22, k23⟩ := cells24 (HK.out _ Hb.out).1
  go_upto_region 3 with (fail)
  clear hlook
  go_wp2_with fail
  refine (may_any p.h.to p.h.id p.h.tt p.h.pr p.h.sr p.h.ds p.h.df a.AH a.nH a.cH _).mono ?_
  rw [Hy.out]
  rintro e w2 ⟨rfl, hb2⟩
  have Hb := Lib.hid (below_trans Hb.out hb2)
  clear hb2
  clear k0 k1 k2 k3 k4 k5 k6 k7 k8 k9 k10 k11 k12 k13 k14 k15 k16 k17 k18 k19 k20 k21 k22 k23
  cases y with
  | false =>
    go_wp2_with fail
    go_ret
    exact ⟨ret_bool (by rw [← Hx.out]; simp), below_trans Hb0.out Hb.out⟩
  | true =>
    obtain ⟨k0, k1, k2, k3, k4, k5, k6, k7, k8, k9, k10, k11, k12, k13, k14, k15, k16, k17, k18, k19, k20, k21, k22, k23⟩ := cells24 (HK.out _ Hb.out).1
    go_wp2_with fail
    refine (same6_any p.s zeroSeg a.AO none a.nO a.cO 0 0 a.os [] a.AD none a.nD a.cD 0 0 _ Hn.out (HK.out _ Hb.out).2.sr (zero_rd _)).mono ?_
    rw [E1.out]
    rintro e w3 ⟨rfl, hb3⟩
    have Hb := Lib.hid (below_trans Hb.out hb3)
    clear hb3
    clear k0 k1 k2 k3 k4 k5 k6 k7 k8 k9 k10 k11 k12 k13 k14 k15 k16 k17 k18 k19 k20 k21 k22 k23
    cases y1 with
    | false =>
      go_wp2_with fail
      go_ret
      exact ⟨ret_bool (by rw [← Hx.out]; simp), below_trans Hb0.out Hb.out⟩
    | true =>
      obtain ⟨k0, k1, k2, k3, k4, k5, k6, k7, k8, k9, k10, k11, k12, k13, k14, k15, k16, k17, k18, k19, k20, k21, k22, k23⟩ := cells24 (HK.out _ Hb.out).1
      go_wp2_with fail
      refine (usame_any p.u zeroDg a.AU a.nU a.cU none 0 0 _ y2 (HK.out _ Hb.out).2.ur (Rd.nil _ _) E2.out).mono ?_
      skip
      rintro e w4 ⟨rfl, hb4⟩
      have Hb := Lib.hid (below_trans Hb.out hb4)
      clear hb4
      clear k0 k1 k2 k3 k4 k5 k6 k7 k8 k9 k10 k11 k12 k13 k14 k15 k16 k17 k18 k19 k20 k21 k22 k23
      cases y2 with
      | false =>
        go_wp2_with fail
        go_ret
        exact ⟨ret_bool (by rw [← Hx.out]; simp), below_trans Hb0.out Hb.out⟩
      | true =>
        go_wp2_with fail
        go_ret
        exact ⟨ret_bool (by rw [← Hx.out]; simp), below_trans Hb0.out Hb.out⟩
theorem may9_no (p : Pk) (a : PkA) (w : World) (hp : PkRd w p a) (h6 : p.h.pr ≠ 6) (h17 : p.h.pr ≠ 17) (h1 : p.h.pr ≠ 1) :
    Calls Tryz.prog 20 #[.agg #[.int .u8 p.h.to, .int .u16 p.h.id, .bool p.h.df, .int .u8 p.h.tt, .int .u8 p.h.pr, .int .u32 p.h.sr, .int .u32 p.h.ds, .slice a.AH a.nH a.cH, .int .u16 p.s.sp, .int .u16 p.s.dp, .int .u32 p.s.sq, .int .u32 p.s.ak, .int .u8 p.s.fl, .int .u16 p.s.wn, .int .u16 p.s.ug, .slice a.AO a.nO a.cO, .slice a.AD a.nD a.cD, .int .u16 p.u.sp, .int .u16 p.u.dp, .slice a.AU a.nU a.cU, .int .u8 p.m.ty, .int .u8 p.m.cd, .int .u32 p.m.rs, .slice a.AM a.nM a.cM]] w (BoolIs false w) := by
  have h6b : (p.h.pr == 6) = false := by simpa using h6
  have h17b : (p.h.pr == 17) = false := by simpa using h17
  have h1b : (p.h.pr == 1) = false := by simpa using h1
  have hkn : knownP p.h.pr = false := by simp [knownP, h6, h17, h1]
  clear h6 h17 h1
  obtain ⟨z, hz⟩ : ∃ z, w.heap.size = z := ⟨_, rfl⟩
  obtain ⟨w0, ew⟩ : ∃ w0, w.alloc (.cells #[.int .u8 p.h.to, .int .u16 p.h.id, .bool p.h.df, .int .u8 p.h.tt, .int .u8 p.h.pr, .int .u32 p.h.sr, .int .u32 p.h.ds, .slice a.AH a.nH a.cH, .int .u16 p.s.sp, .int .u16 p.s.dp, .int .u32 p.s.sq, .int .u32 p.s.ak, .int .u8 p.s.fl, .int .u16 p.s.wn, .int .u16 p.s.ug, .slice a.AO a.nO a.cO, .slice a.AD a.nD a.cD, .int .u16 p.u.sp, .int .u16 p.u.dp, .slice a.AU a.nU a.cU, .int .u8 p.m.ty, .int .u8 p.m.cd, .int .u32 p.m.rs, .slice a.AM a.nM a.cM] 35) = w0 := ⟨_, rfl⟩
  have hb0 : Below w.heap.size w w0 := by rw [← ew]; exact (Below.refl _ _).alloc (Nat.le_refl _) _
  have hk0 : w0.heap[z]? = some (.cells #[.int .u8 p.h.to, .int .u16 p.h.id, .bool p.h.df, .int .u8 p.h.tt, .int .u8 p.h.pr, .int .u32 p.h.sr, .int .u32 p.h.ds, .slice a.AH a.nH a.cH, .int .u16 p.s.sp, .int .u16 p.s.dp, .int .u32 p.s.sq, .int .u32 p.s.ak, .int .u8 p.s.fl, .int .u16 p.s.wn, .int .u16 p.s.ug, .slice a.AO a.nO a.cO, .slice a.AD a.nD a.cD, .int .u16 p.u.sp, .int .u16 p.u.dp, .slice a.AU a.nU a.cU, .int .u8 p.m.ty, .int .u8 p.m.cd, .int .u32 p.m.rs, .slice a.AM a.nM a.cM] 35 (0, 0)) := by rw [← ew, ← hz]; exact heap_alloc_new w _
  have HK := Lib.hid (show ∀ w', Below w0.heap.size w0 w' → w'.heap[z]? = some (.cells #[.int .u8 p.h.to, .int .u16 p.h.id, .bool p.h.df, .int .u8 p.h.tt, .int .u8 p.h.pr, .int .u32 p.h.sr, .int .u32 p.h.ds, .slice a.AH a.nH a.cH, .int .u16 p.s.sp, .int .u16 p.s.dp, .int .u32 p.s.sq, .int .u32 p.s.ak, .int .u8 p.s.fl, .int .u16 p.s.wn, .int .u16 p.s.ug, .slice a.AO a.nO a.cO, .slice a.AD a.nD a.cD, .int .u16 p.u.sp, .int .u16 p.u.dp, .slice a.AU a.nU a.cU, .int .u8 p.m.ty, .int .u8 p.m.cd, .int .u32 p.m.rs, .slice a.AM a.nM a.cM] 35 (0, 0)) ∧ PkRd w' p a from fun w' hb => ⟨blk_on hk0 hb, (hp.below hb0).below hb⟩)
  have Hb0 := Lib.hid hb0
  have Ew := Lib.hid ew
  have Hz := Lib.hid hz
  have HA := Lib.hid hk0
  have Hpay := Lib.hid (payloads_any p a w0)
  have Hkn := Lib.hid hkn
  have Hol := Lib.hid hp.hr.len
  clear hz ew hb0 hk0 hp hkn
  go_enter Tryz.func20, Tryz.ntmps20
  go_upto_region 1 with (fail)
  rw [Ew.out]
  try rw [Hz.out]
  obtain ⟨k0, k1, k2, k3, k4, k5, k6, k7, k8, k9, k10, k11, k12, k13, k14, k15, k16, k17, k18, k19, k20, k21, k22, k23⟩ := cells24 HA.out
  go_upto_region 2 with (fail)
  clear k0 k1 k2 k3 k4 k5 k6 k7 k8 k9 k10 k11 k12 k13 k14 k15 k16 k17 k18 k19 k20 k21 k22 k23
  repeat (first | (refine wp_load_row 35 (.tmp 1) rfl z _ _ _ _ HA.out rfl Tryz.underlying35 rfl (by kernel_rfl) ?_; simp only [Act.put, List.setIfInBounds_toArray, List.set_cons_zero, List.set_cons_succ]) | go_values | go_skip | go_guarded | go_step | go_upon | go_back)
  refine Hpay.out.mono ?_
  rintro e w1 ⟨g, q, r, b, rfl, hg, -, hb1⟩
  obtain ⟨f, ef⟩ : ∃ f, atP (payF6 q r b) (payF17 q r b) (payF1 b) p.h.pr = f := ⟨_, rfl⟩
  have hlook := look3_payload w1 g _ _ _ p.h.pr f false hg ef Hkn.out
  have Hb := Lib.hid hb1
  clear hb1 hg ef Hpay HA
  go_wp2_with fail
  go_ret
  exact ⟨rfl, below_trans Hb0.out Hb.out⟩
theorem may9_any (p : Pk) (a : PkA) (w : World) (x : Bool) (hp : PkRd w p a) (hn : a.nO ≤ 140737488355328) (hx : mayP p = x) :
    Calls Tryz.prog 20 #[.agg #[.int .u8 p.h.to, .int .u16 p.h.id, .bool p.h.df, .int .u8 p.h.tt, .int .u8 p.h.pr, .int .u32 p.h.sr, .int .u32 p.h.ds, .slice a.AH a.nH a.cH, .int .u16 p.s.sp, .int .u16 p.s.dp, .int .u32 p.s.sq, .int .u32 p.s.ak, .int .u8 p.s.fl, .int .u16 p.s.wn, .int .u16 p.s.ug, .slice a.AO a.nO a.cO, .slice a.AD a.nD a.cD, .int .u16 p.u.sp, .int .u16 p.u.dp, .slice a.AU a.nU a.cU, .int .u8 p.m.ty, .int .u8 p.m.cd, .int .u32 p.m.rs, .slice a.AM a.nM a.cM]] w (BoolIs x w) := by
  by_cases h6 : p.h.pr = 6
  · exact may9_6 p a w x hp hn hx h6
  by_cases h17 : p.h.pr = 17
  · exact may9_17 p a w x hp hn hx h17
  by_cases h1 : p.h.pr = 1
  · exact may9_1 p a w x hp hn hx h1
  rw [show x = false by rw [← hx, mayP_no p h6 h17 h1]]
  exact may9_no p a w hp h6 h17 h1
end Go.Proofs.YtoegfgbalcholaaGreat

/-
  The document's own answers for packets (culvertref09): Put, Own.
-/
namespace Go.Proofs.YtoegfgbalcholaaGreat
set_option maxRecDepth 10000
open Go.RowKit
set_option linter.unusedSimpArgs false
set_option linter.unusedVariables false

theorem hdB_bytes {h : Hd} {A A' : Option Addr} {n n' : Nat} {p : List Int} {w w' : World} (hn : HdNum h) (h40 : n ≤ 40) (hr : Rd w A n h.o) (hr' : Rd w' A' n' p) (hl : 20 + n + n' ≤ 1500) : ∀ x ∈ hdB h p, 0 ≤ x ∧ x < 256 := by
  have e1 := hr.len
  have e2 := hr'.len
  have hf := fieldL_bd h.to h.id h.df h.tt h.pr h.sr h.ds h.o (20 + h.o.length + p.length)
  unfold hdB packetL
  refine ((Bytes.app (Bytes.app (aheadL_bytes hn.to hn.id hn.tt hn.pr (by omega) (by omega)) (b16_bytes hf)) (behindL_bytes hn.sr hn.ds hr.byte)).app hr'.byte)
end Go.Proofs.YtoegfgbalcholaaGreat
