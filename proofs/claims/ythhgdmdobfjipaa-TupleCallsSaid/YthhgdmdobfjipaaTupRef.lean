/-
  The document's own answers for tuples (culvertref10): Reverse, Of, Bytes, Compare.
-/
import Derived.Test.YthhgdmdobfjipaaTupVal
import Derived.Test.YthhgdmdobfjipaaPkVal
import Derived.Test.YthhgdmdobfjipaaIcmpRef
import Derived.Test.YthhgdmdobfjipaaBytesApp
import Derived.Deep.CutRange
import Derived.RegionTactic
namespace Go.Proofs.Ythhgdmdobfjipaa
set_option maxRecDepth 10000
open Go.RowKit
set_option linter.unusedSimpArgs false
set_option linter.unusedVariables false

def TupIs (t : Tu) (w : World) (e : Ending) (w' : World) : Prop := e = .returned (.agg #[.int .u8 t.pr, .int .u32 t.sr, .int .u32 t.ds, .int .u16 t.sp, .int .u16 t.dp]) ∧ Below w.heap.size w w'
theorem rrev_any (t : Tu) (w : World) : Calls Try.prog 10 #[.agg #[.int .u8 t.pr, .int .u32 t.sr, .int .u32 t.ds, .int .u16 t.sp, .int .u16 t.dp]] w (TupIs (revT t) w) := by
  obtain ⟨pr, sr, ds, sp, dp⟩ := t
  simp only
  by_cases h : pr = 1
  · subst h
    go_enter Try.func10, Try.ntmps10
    go_wp2_with fail
    refine bodyPost_ret (v := .agg #[.int .u8 1, .int .u32 ds, .int .u32 sr, .int .u16 sp, .int .u16 dp]) (by simp [results, Try.results10, go_sem]) rfl ?_
    exact ⟨by unfold revT; simp [Nat.add_zero], by repeat (first | exact Below.refl _ _ | refine Below.drew ?_ | (refine Below.alloc ?_ (by simp <;> omega) _) | (refine Below.setCell ?_ (by simp <;> omega) _))⟩
  · have hb : (pr == 1) = false := by simpa using h
    go_enter Try.func10, Try.ntmps10
    go_wp2_with fail
    refine bodyPost_ret (v := .agg #[.int .u8 pr, .int .u32 ds, .int .u32 sr, .int .u16 dp, .int .u16 sp]) (by simp [results, Try.results10, go_sem]) rfl ?_
    exact ⟨by unfold revT; simp [h], by repeat (first | exact Below.refl _ _ | refine Below.drew ?_ | (refine Below.alloc ?_ (by simp <;> omega) _) | (refine Below.setCell ?_ (by simp <;> omega) _))⟩

/-- A packet's tuple, if it has one. -/
def isT (p : Pk) : Bool := decide (p.h.pr = 6) || (decide (p.h.pr = 17) || (decide (p.h.pr = 1) && echoM p.m.ty p.m.cd))
def zeroTu : Tu := ⟨0, 0, 0, 0, 0⟩
def tupT (p : Pk) : Tu := if p.h.pr = 6 then ⟨p.h.pr, p.h.sr, p.h.ds, p.s.sp, p.s.dp⟩ else if p.h.pr = 17 then ⟨p.h.pr, p.h.sr, p.h.ds, p.u.sp, p.u.dp⟩ else if p.h.pr = 1 ∧ echoM p.m.ty p.m.cd = true then ⟨p.h.pr, p.h.sr, p.h.ds, p.m.rs / 65536, 0⟩ else zeroTu
def OfIs (t : Tu) (x : Bool) (w : World) (e : Ending) (w' : World) : Prop := e = .returned (.tuple #[.agg #[.int .u8 t.pr, .int .u32 t.sr, .int .u32 t.ds, .int .u16 t.sp, .int .u16 t.dp], .bool x]) ∧ Below w.heap.size w w'
set_option maxHeartbeats 2000000 in
theorem rof_any (p : Pk) (a : PkA) (w : World) (t : Tu) (x : Bool) (hr : 0 ≤ p.m.rs ∧ p.m.rs < 4294967296) (ht : tupT p = t) (hx : isT p = x) :
    Calls Try.prog 8 #[.agg #[.int .u8 p.h.to, .int .u16 p.h.id, .bool p.h.df, .int .u8 p.h.tt, .int .u8 p.h.pr, .int .u32 p.h.sr, .int .u32 p.h.ds, .slice a.AH a.nH a.cH, .int .u16 p.s.sp, .int .u16 p.s.dp, .int .u32 p.s.sq, .int .u32 p.s.ak, .int .u8 p.s.fl, .int .u16 p.s.wn, .int .u16 p.s.ug, .slice a.AO a.nO a.cO, .slice a.AD a.nD a.cD, .int .u16 p.u.sp, .int .u16 p.u.dp, .slice a.AU a.nU a.cU, .int .u8 p.m.ty, .int .u8 p.m.cd, .int .u32 p.m.rs, .slice a.AM a.nM a.cM]] w (OfIs t x w) := by
  obtain ⟨z, hz⟩ : ∃ z, w.heap.size = z := ⟨_, rfl⟩
  obtain ⟨w0, ew⟩ : ∃ w0, (w.alloc (.cells #[.int .u8 p.h.to, .int .u16 p.h.id, .bool p.h.df, .int .u8 p.h.tt, .int .u8 p.h.pr, .int .u32 p.h.sr, .int .u32 p.h.ds, .slice a.AH a.nH a.cH, .int .u16 p.s.sp, .int .u16 p.s.dp, .int .u32 p.s.sq, .int .u32 p.s.ak, .int .u8 p.s.fl, .int .u16 p.s.wn, .int .u16 p.s.ug, .slice a.AO a.nO a.cO, .slice a.AD a.nD a.cD, .int .u16 p.u.sp, .int .u16 p.u.dp, .slice a.AU a.nU a.cU, .int .u8 p.m.ty, .int .u8 p.m.cd, .int .u32 p.m.rs, .slice a.AM a.nM a.cM] 35)).alloc (.cells #[.int .u8 0, .int .u32 0, .int .u32 0, .int .u16 0, .int .u16 0] 37) = w0 := ⟨_, rfl⟩
  have hb0 : Below w.heap.size w w0 := by rw [← ew]; exact ((Below.refl _ _).alloc (Nat.le_refl _) _).alloc (by simp) _
  have hk0 : w0.heap[z]? = some (.cells #[.int .u8 p.h.to, .int .u16 p.h.id, .bool p.h.df, .int .u8 p.h.tt, .int .u8 p.h.pr, .int .u32 p.h.sr, .int .u32 p.h.ds, .slice a.AH a.nH a.cH, .int .u16 p.s.sp, .int .u16 p.s.dp, .int .u32 p.s.sq, .int .u32 p.s.ak, .int .u8 p.s.fl, .int .u16 p.s.wn, .int .u16 p.s.ug, .slice a.AO a.nO a.cO, .slice a.AD a.nD a.cD, .int .u16 p.u.sp, .int .u16 p.u.dp, .slice a.AU a.nU a.cU, .int .u8 p.m.ty, .int .u8 p.m.cd, .int .u32 p.m.rs, .slice a.AM a.nM a.cM] 35 (0, 0)) := by rw [← ew, Below.heap_alloc _ _ _ (by simp [hz]), ← hz]; exact heap_alloc_new w _
  have hk1 : w0.heap[z + 1]? = some (.cells #[.int .u8 0, .int .u32 0, .int .u32 0, .int .u16 0, .int .u16 0] 37 (0, 0)) := by
    rw [← ew, ← hz]; simpa using heap_alloc_new (w.alloc (.cells #[.int .u8 p.h.to, .int .u16 p.h.id, .bool p.h.df, .int .u8 p.h.tt, .int .u8 p.h.pr, .int .u32 p.h.sr, .int .u32 p.h.ds, .slice a.AH a.nH a.cH, .int .u16 p.s.sp, .int .u16 p.s.dp, .int .u32 p.s.sq, .int .u32 p.s.ak, .int .u8 p.s.fl, .int .u16 p.s.wn, .int .u16 p.s.ug, .slice a.AO a.nO a.cO, .slice a.AD a.nD a.cD, .int .u16 p.u.sp, .int .u16 p.u.dp, .slice a.AU a.nU a.cU, .int .u8 p.m.ty, .int .u8 p.m.cd, .int .u32 p.m.rs, .slice a.AM a.nM a.cM] 35)) (.cells #[.int .u8 0, .int .u32 0, .int .u32 0, .int .u16 0, .int .u16 0] 37)
  have hs0 : w0.heap.size = z + 2 := by rw [← ew, ← hz]; simp
  have Hb0 := Lib.hid hb0
  have HK0 := Lib.hid hk0
  have HK1 := Lib.hid hk1
  have Hs0 := Lib.hid hs0
  have Ew := Lib.hid ew
  have Hz := Lib.hid hz
  have Ht := Lib.hid ht
  have Hx := Lib.hid hx
  have Hr := Lib.hid hr
  clear hb0 hk0 hk1 hs0 ew hz ht hx hr
  go_enter Try.func8, Try.ntmps8
  go_upto_region 1 with (fail)
  rw [Ew.out]
  try rw [Hz.out]
  obtain ⟨k0, k1, k2, k3, k4, k5, k6, k7, k8, k9, k10, k11, k12, k13, k14, k15, k16, k17, k18, k19, k20, k21, k22, k23⟩ := cells24 HK0.out
  go_upto_region 2 with (fail)
  clear k0 k1 k2 k3 k4 k5 k6 k7 k8 k9 k10 k11 k12 k13 k14 k15 k16 k17 k18 k19 k20 k21 k22 k23
  have hs0 := Hs0.out
  rw [hs0]
  obtain ⟨w1, ew1⟩ : ∃ v, w0.alloc (.cells #[.int .u8 p.h.pr, .int .u32 p.h.sr, .int .u32 p.h.ds, .int .u16 0, .int .u16 0] 37) = v := ⟨_, rfl⟩
  have hb1 : Below w0.heap.size w0 w1 := by rw [← ew1]; exact (Below.refl _ _).alloc (Nat.le_refl _) _
  have hk2 : w1.heap[z + 2]? = some (.cells #[.int .u8 p.h.pr, .int .u32 p.h.sr, .int .u32 p.h.ds, .int .u16 0, .int .u16 0] 37 (0, 0)) := by rw [← ew1, ← hs0]; exact heap_alloc_new w0 _
  have HK0 := Lib.hid (blk_on HK0.out hb1)
  have HK1 := Lib.hid (blk_on HK1.out hb1)
  have HK2 := Lib.hid hk2
  have HB1 := Lib.hid (below_trans Hb0.out hb1)
  rw [ew1]
  clear ew1 hb1 hk2 hs0 Hs0 Hb0 Ew
  by_cases h6 : p.h.pr = 6
  · have h6b : (p.h.pr == 6) = true := by simpa using h6
    have Hp := Lib.hid (show t = ⟨p.h.pr, p.h.sr, p.h.ds, p.s.sp, p.s.dp⟩ ∧ x = true by rw [← Ht.out, ← Hx.out]; unfold tupT isT; rw [if_pos h6]; simp [h6])
    clear h6
    obtain ⟨k0, k1, k2, k3, k4, k5, k6, k7, k8, k9, k10, k11, k12, k13, k14, k15, k16, k17, k18, k19, k20, k21, k22, k23⟩ := cells24 HK0.out
    obtain ⟨r0, r1, r2, r3, r4⟩ := cells5 HK1.out
    obtain ⟨t0, t1, t2, t3, t4⟩ := cells5 HK2.out
    have rf := blk_free HK1.out
    have tf := blk_free HK2.out
    have hne : ¬ z + 2 = z + 1 := by omega
    have hne2 : ¬ z + 1 = z + 2 := by omega
    have hne3 : ¬ z = z + 2 := by omega
    have hne4 : ¬ z + 2 = z := by omega
    go_wp2_with fail
    clear r0 r1 r2 r3 r4 t0 t1 t2 t3 t4 rf tf
    try clear k0 k1 k2 k3 k4 k5 k6 k7 k8 k9 k10 k11 k12 k13 k14 k15 k16 k17 k18 k19 k20 k21 k22 k23
    have hw1 : w.heap.size ≤ z + 1 := by have := Hz.out; omega
    have hw2 : w.heap.size ≤ z + 2 := by have := Hz.out; omega
    exact bodyPost_ret (v := .tuple #[.agg #[.int .u8 p.h.pr, .int .u32 p.h.sr, .int .u32 p.h.ds, .int .u16 p.s.sp, .int .u16 p.s.dp], .bool true]) (results_row_tmp rfl _ _ (z + 1) _ _ _ _ _ rfl rfl (set5_blk (keep_blk (keep_blk HK1.out hne _) hne _) _ _ _ _ _) Try.underlying37 rfl (by kernel_rfl)) rfl ⟨by rw [Hp.out.1, Hp.out.2], set5_below (set_below (set_below HB1.out hw2 _) hw2 _) hw1 _ _ _ _ _⟩
  have h6b : (p.h.pr == 6) = false := by simpa using h6
  by_cases h17 : p.h.pr = 17
  · have h17b : (p.h.pr == 17) = true := by simpa using h17
    have Hp := Lib.hid (show t = ⟨p.h.pr, p.h.sr, p.h.ds, p.u.sp, p.u.dp⟩ ∧ x = true by rw [← Ht.out, ← Hx.out]; unfold tupT isT; rw [if_neg h6, if_pos h17]; simp [h17])
    clear h6 h17
    obtain ⟨k0, k1, k2, k3, k4, k5, k6, k7, k8, k9, k10, k11, k12, k13, k14, k15, k16, k17, k18, k19, k20, k21, k22, k23⟩ := cells24 HK0.out
    obtain ⟨r0, r1, r2, r3, r4⟩ := cells5 HK1.out
    obtain ⟨t0, t1, t2, t3, t4⟩ := cells5 HK2.out
    have rf := blk_free HK1.out
    have tf := blk_free HK2.out
    have hne : ¬ z + 2 = z + 1 := by omega
    have hne2 : ¬ z + 1 = z + 2 := by omega
    have hne3 : ¬ z = z + 2 := by omega
    have hne4 : ¬ z + 2 = z := by omega
    go_wp2_with fail
    clear r0 r1 r2 r3 r4 t0 t1 t2 t3 t4 rf tf
    try clear k0 k1 k2 k3 k4 k5 k6 k7 k8 k9 k10 k11 k12 k13 k14 k15 k16 k17 k18 k19 k20 k21 k22 k23
    have hw1 : w.heap.size ≤ z + 1 := by have := Hz.out; omega
    have hw2 : w.heap.size ≤ z + 2 := by have := Hz.out; omega
    exact bodyPost_ret (v := .tuple #[.agg #[.int .u8 p.h.pr, .int .u32 p.h.sr, .int .u32 p.h.ds, .int .u16 p.u.sp, .int .u16 p.u.dp], .bool true]) (results_row_tmp rfl _ _ (z + 1) _ _ _ _ _ rfl rfl (set5_blk (keep_blk (keep_blk HK1.out hne _) hne _) _ _ _ _ _) Try.underlying37 rfl (by kernel_rfl)) rfl ⟨by rw [Hp.out.1, Hp.out.2], set5_below (set_below (set_below HB1.out hw2 _) hw2 _) hw1 _ _ _ _ _⟩
  have h17b : (p.h.pr == 17) = false := by simpa using h17
  have HE := Lib.hid (recho8_any p.m.ty p.m.cd p.m.rs a.AM a.nM a.cM w1 Hr.out)
  by_cases h1 : p.h.pr = 1
  · have h1b : (p.h.pr != 1) = false := by simpa using h1
    by_cases he : echoM p.m.ty p.m.cd = true
    · have Hp := Lib.hid (show t = ⟨p.h.pr, p.h.sr, p.h.ds, p.m.rs / 65536, 0⟩ ∧ x = true by rw [← Ht.out, ← Hx.out]; unfold tupT isT; rw [if_neg h6, if_neg h17, if_pos ⟨h1, he⟩]; simp [h1, he])
      clear h6 h17 h1
      obtain ⟨k0, k1, k2, k3, k4, k5, k6, k7, k8, k9, k10, k11, k12, k13, k14, k15, k16, k17, k18, k19, k20, k21, k22, k23⟩ := cells24 HK0.out
      obtain ⟨r0, r1, r2, r3, r4⟩ := cells5 HK1.out
      obtain ⟨t0, t1, t2, t3, t4⟩ := cells5 HK2.out
      have rf := blk_free HK1.out
      have tf := blk_free HK2.out
      have hne : ¬ z + 2 = z + 1 := by omega
      have hne2 : ¬ z + 1 = z + 2 := by omega
      have hne3 : ¬ z = z + 2 := by omega
      have hne4 : ¬ z + 2 = z := by omega
      go_wp2_with fail
      refine HE.out.mono ?_
      rintro e w2 ⟨h1, hb2⟩
      rw [if_pos he] at h1
      subst h1
      clear he
      have HK0 := Lib.hid (blk_on HK0.out hb2)
      have HK1 := Lib.hid (blk_on HK1.out hb2)
      have HK2 := Lib.hid (blk_on HK2.out hb2)
      have HB2 := Lib.hid (below_trans HB1.out hb2)
      clear hb2 r0 r1 r2 r3 r4 t0 t1 t2 t3 t4 rf tf hne hne2 hne3 hne4 HE
      clear k0 k1 k2 k3 k4 k5 k6 k7 k8 k9 k10 k11 k12 k13 k14 k15 k16 k17 k18 k19 k20 k21 k22 k23
      obtain ⟨r0, r1, r2, r3, r4⟩ := cells5 HK1.out
      obtain ⟨t0, t1, t2, t3, t4⟩ := cells5 HK2.out
      have rf := blk_free HK1.out
      have tf := blk_free HK2.out
      have hne : ¬ z + 2 = z + 1 := by omega
      have hne2 : ¬ z + 1 = z + 2 := by omega
      have hne3 : ¬ z = z + 2 := by omega
      have hne4 : ¬ z + 2 = z := by omega
      go_wp2_with fail
      clear r0 r1 r2 r3 r4 t0 t1 t2 t3 t4 rf tf
      try clear k0 k1 k2 k3 k4 k5 k6 k7 k8 k9 k10 k11 k12 k13 k14 k15 k16 k17 k18 k19 k20 k21 k22 k23
      have hw1 : w.heap.size ≤ z + 1 := by have := Hz.out; omega
      have hw2 : w.heap.size ≤ z + 2 := by have := Hz.out; omega
      exact bodyPost_ret (v := .tuple #[.agg #[.int .u8 p.h.pr, .int .u32 p.h.sr, .int .u32 p.h.ds, .int .u16 (p.m.rs / 65536), .int .u16 0], .bool true]) (results_row_tmp rfl _ _ (z + 1) _ _ _ _ _ rfl rfl (set5_blk (keep_blk HK1.out hne _) _ _ _ _ _) Try.underlying37 rfl (by kernel_rfl)) rfl ⟨by rw [Hp.out.1, Hp.out.2], set5_below (set_below HB2.out hw2 _) hw1 _ _ _ _ _⟩
    · have Hp := Lib.hid (show t = ⟨0, 0, 0, 0, 0⟩ ∧ x = false by rw [← Ht.out, ← Hx.out]; unfold tupT isT; rw [if_neg h6, if_neg h17, if_neg (fun h => he h.2)]; simp [h6, h17, he, zeroTu])
      clear h6 h17 h1
      obtain ⟨k0, k1, k2, k3, k4, k5, k6, k7, k8, k9, k10, k11, k12, k13, k14, k15, k16, k17, k18, k19, k20, k21, k22, k23⟩ := cells24 HK0.out
      obtain ⟨r0, r1, r2, r3, r4⟩ := cells5 HK1.out
      obtain ⟨t0, t1, t2, t3, t4⟩ := cells5 HK2.out
      have rf := blk_free HK1.out
      have tf := blk_free HK2.out
      have hne : ¬ z + 2 = z + 1 := by omega
      have hne2 : ¬ z + 1 = z + 2 := by omega
      have hne3 : ¬ z = z + 2 := by omega
      have hne4 : ¬ z + 2 = z := by omega
      go_wp2_with fail
      refine HE.out.mono ?_
      rintro e w2 ⟨h1, hb2⟩
      rw [if_neg he] at h1
      subst h1
      clear he
      have HK0 := Lib.hid (blk_on HK0.out hb2)
      have HK1 := Lib.hid (blk_on HK1.out hb2)
      have HK2 := Lib.hid (blk_on HK2.out hb2)
      have HB2 := Lib.hid (below_trans HB1.out hb2)
      clear hb2 r0 r1 r2 r3 r4 t0 t1 t2 t3 t4 rf tf hne hne2 hne3 hne4 HE
      clear k0 k1 k2 k3 k4 k5 k6 k7 k8 k9 k10 k11 k12 k13 k14 k15 k16 k17 k18 k19 k20 k21 k22 k23
      obtain ⟨r0, r1, r2, r3, r4⟩ := cells5 HK1.out
      obtain ⟨t0, t1, t2, t3, t4⟩ := cells5 HK2.out
      have rf := blk_free HK1.out
      have tf := blk_free HK2.out
      have hne : ¬ z + 2 = z + 1 := by omega
      have hne2 : ¬ z + 1 = z + 2 := by omega
      have hne3 : ¬ z = z + 2 := by omega
      have hne4 : ¬ z + 2 = z := by omega
      go_wp2_with fail
      clear r0 r1 r2 r3 r4 t0 t1 t2 t3 t4 rf tf
      try clear k0 k1 k2 k3 k4 k5 k6 k7 k8 k9 k10 k11 k12 k13 k14 k15 k16 k17 k18 k19 k20 k21 k22 k23
      have hw1 : w.heap.size ≤ z + 1 := by have := Hz.out; omega
      have hw2 : w.heap.size ≤ z + 2 := by have := Hz.out; omega
      exact bodyPost_ret (v := .tuple #[.agg #[.int .u8 0, .int .u32 0, .int .u32 0, .int .u16 0, .int .u16 0], .bool false]) (results_row_tmp rfl _ _ (z + 1) _ _ _ _ _ rfl rfl (set5_blk (HK1.out) _ _ _ _ _) Try.underlying37 rfl (by kernel_rfl)) rfl ⟨by rw [Hp.out.1, Hp.out.2], set5_below (HB2.out) hw1 _ _ _ _ _⟩
  · have h1b : (p.h.pr != 1) = true := by simpa using h1
    have Hp := Lib.hid (show t = ⟨0, 0, 0, 0, 0⟩ ∧ x = false by rw [← Ht.out, ← Hx.out]; unfold tupT isT; rw [if_neg h6, if_neg h17, if_neg (fun h => h1 h.1)]; simp [h6, h17, h1, zeroTu])
    clear h6 h17 h1
    by_cases he : echoM p.m.ty p.m.cd = true
    · skip
      obtain ⟨k0, k1, k2, k3, k4, k5, k6, k7, k8, k9, k10, k11, k12, k13, k14, k15, k16, k17, k18, k19, k20, k21, k22, k23⟩ := cells24 HK0.out
      obtain ⟨r0, r1, r2, r3, r4⟩ := cells5 HK1.out
      obtain ⟨t0, t1, t2, t3, t4⟩ := cells5 HK2.out
      have rf := blk_free HK1.out
      have tf := blk_free HK2.out
      have hne : ¬ z + 2 = z + 1 := by omega
      have hne2 : ¬ z + 1 = z + 2 := by omega
      have hne3 : ¬ z = z + 2 := by omega
      have hne4 : ¬ z + 2 = z := by omega
      go_wp2_with fail
      refine HE.out.mono ?_
      rintro e w2 ⟨h1, hb2⟩
      rw [if_pos he] at h1
      subst h1
      clear he
      have HK0 := Lib.hid (blk_on HK0.out hb2)
      have HK1 := Lib.hid (blk_on HK1.out hb2)
      have HK2 := Lib.hid (blk_on HK2.out hb2)
      have HB2 := Lib.hid (below_trans HB1.out hb2)
      clear hb2 r0 r1 r2 r3 r4 t0 t1 t2 t3 t4 rf tf hne hne2 hne3 hne4 HE
      clear k0 k1 k2 k3 k4 k5 k6 k7 k8 k9 k10 k11 k12 k13 k14 k15 k16 k17 k18 k19 k20 k21 k22 k23
      obtain ⟨r0, r1, r2, r3, r4⟩ := cells5 HK1.out
      obtain ⟨t0, t1, t2, t3, t4⟩ := cells5 HK2.out
      have rf := blk_free HK1.out
      have tf := blk_free HK2.out
      have hne : ¬ z + 2 = z + 1 := by omega
      have hne2 : ¬ z + 1 = z + 2 := by omega
      have hne3 : ¬ z = z + 2 := by omega
      have hne4 : ¬ z + 2 = z := by omega
      go_wp2_with fail
      clear r0 r1 r2 r3 r4 t0 t1 t2 t3 t4 rf tf
      try clear k0 k1 k2 k3 k4 k5 k6 k7 k8 k9 k10 k11 k12 k13 k14 k15 k16 k17 k18 k19 k20 k21 k22 k23
      have hw1 : w.heap.size ≤ z + 1 := by have := Hz.out; omega
      have hw2 : w.heap.size ≤ z + 2 := by have := Hz.out; omega
      exact bodyPost_ret (v := .tuple #[.agg #[.int .u8 0, .int .u32 0, .int .u32 0, .int .u16 0, .int .u16 0], .bool false]) (results_row_tmp rfl _ _ (z + 1) _ _ _ _ _ rfl rfl (set5_blk (HK1.out) _ _ _ _ _) Try.underlying37 rfl (by kernel_rfl)) rfl ⟨by rw [Hp.out.1, Hp.out.2], set5_below (HB2.out) hw1 _ _ _ _ _⟩
    · skip
      obtain ⟨k0, k1, k2, k3, k4, k5, k6, k7, k8, k9, k10, k11, k12, k13, k14, k15, k16, k17, k18, k19, k20, k21, k22, k23⟩ := cells24 HK0.out
      obtain ⟨r0, r1, r2, r3, r4⟩ := cells5 HK1.out
      obtain ⟨t0, t1, t2, t3, t4⟩ := cells5 HK2.out
      have rf := blk_free HK1.out
      have tf := blk_free HK2.out
      have hne : ¬ z + 2 = z + 1 := by omega
      have hne2 : ¬ z + 1 = z + 2 := by omega
      have hne3 : ¬ z = z + 2 := by omega
      have hne4 : ¬ z + 2 = z := by omega
      go_wp2_with fail
      refine HE.out.mono ?_
      rintro e w2 ⟨h1, hb2⟩
      rw [if_neg he] at h1
      subst h1
      clear he
      have HK0 := Lib.hid (blk_on HK0.out hb2)
      have HK1 := Lib.hid (blk_on HK1.out hb2)
      have HK2 := Lib.hid (blk_on HK2.out hb2)
      have HB2 := Lib.hid (below_trans HB1.out hb2)
      clear hb2 r0 r1 r2 r3 r4 t0 t1 t2 t3 t4 rf tf hne hne2 hne3 hne4 HE
      clear k0 k1 k2 k3 k4 k5 k6 k7 k8 k9 k10 k11 k12 k13 k14 k15 k16 k17 k18 k19 k20 k21 k22 k23
      obtain ⟨r0, r1, r2, r3, r4⟩ := cells5 HK1.out
      obtain ⟨t0, t1, t2, t3, t4⟩ := cells5 HK2.out
      have rf := blk_free HK1.out
      have tf := blk_free HK2.out
      have hne : ¬ z + 2 = z + 1 := by omega
      have hne2 : ¬ z + 1 = z + 2 := by omega
      have hne3 : ¬ z = z + 2 := by omega
      have hne4 : ¬ z + 2 = z := by omega
      go_wp2_with fail
      clear r0 r1 r2 r3 r4 t0 t1 t2 t3 t4 rf tf
      try clear k0 k1 k2 k3 k4 k5 k6 k7 k8 k9 k10 k11 k12 k13 k14 k15 k16 k17 k18 k19 k20 k21 k22 k23
      have hw1 : w.heap.size ≤ z + 1 := by have := Hz.out; omega
      have hw2 : w.heap.size ≤ z + 2 := by have := Hz.out; omega
      exact bodyPost_ret (v := .tuple #[.agg #[.int .u8 0, .int .u32 0, .int .u32 0, .int .u16 0, .int .u16 0], .bool false]) (results_row_tmp rfl _ _ (z + 1) _ _ _ _ _ rfl rfl (set5_blk (HK1.out) _ _ _ _ _) Try.underlying37 rfl (by kernel_rfl)) rfl ⟨by rw [Hp.out.1, Hp.out.2], set5_below (HB2.out) hw1 _ _ _ _ _⟩
end Go.Proofs.Ythhgdmdobfjipaa
