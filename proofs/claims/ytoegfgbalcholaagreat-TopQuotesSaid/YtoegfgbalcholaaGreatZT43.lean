/-
  TopQuotes' walk.
-/
import Derived.Test.YtoegfgbalcholaaGreatZT01
import Derived.Test.YtoegfgbalcholaaGreatZT36
import Derived.Test.YtoegfgbalcholaaGreatZT37
import Derived.Test.YtoegfgbalcholaaGreatZT39
import Derived.Test.YtoegfgbalcholaaGreatZT32
import Derived.Test.YtoegfgbalcholaaGreatZT30
import Derived.Test.YtoegfgbalcholaaGreatZT42
import Derived.Test.YtoegfgbalcholaaGreatZT25
import Derived.Laws.StructEq
import Derived.Deep.CutRange
namespace Go.Proofs.YtoegfgbalcholaaGreat.topQuotesW
set_option maxRecDepth 10000
open Go.ChangeShapes Go.WideShapes Go.ChangeAt Go.RowKit
set_option linter.unusedVariables false
set_option linter.unusedSimpArgs false

theorem row5 {w : World} {g : Nat} {T : TypeId} {a b c d e : Value} (h : w.heap[g]? = some (.cells #[a, b, c, d, e] T (0, 0))) : w.cell? ⟨g, 0, none⟩ = some a ∧ w.cell? ⟨g, 1, none⟩ = some b ∧ w.cell? ⟨g, 2, none⟩ = some c ∧ w.cell? ⟨g, 3, none⟩ = some d ∧ w.cell? ⟨g, 4, none⟩ = some e := by
  refine ⟨?_, ?_, ?_, ?_, ?_⟩ <;> (rw [blk_cell h]; rfl)
theorem tu_neq (t : Tu) (W : World) : (binOp .neq 37 (.agg #[.int .u8 t.pr, .int .u32 t.sr, .int .u32 t.ds, .int .u16 t.sp, .int .u16 t.dp]) (.agg #[.int .u8 t.pr, .int .u32 t.sr, .int .u32 t.ds, .int .u16 t.sp, .int .u16 t.dp])).run Tryz.prog W = .ok (.bool false) W := by
  rw [run_neq_struct, run_equalIn_struct W 9999 37 _ _ (by kernel_rfl) (by kernel_rfl)]
  go_simp
theorem tu_eqq (t : Tu) (W : World) : (binOp .eql 37 (.agg #[.int .u8 t.pr, .int .u32 t.sr, .int .u32 t.ds, .int .u16 t.sp, .int .u16 t.dp]) (.agg #[.int .u8 t.pr, .int .u32 t.sr, .int .u32 t.ds, .int .u16 t.sp, .int .u16 t.dp])).run Tryz.prog W = .ok (.bool true) W := by
  have h := tu_eql t t W
  rw [tuSame_self] at h
  exact h
theorem errRw_zero {b : List Int} {t : Tu} (h : errRw b t false = 0) : errAll b = 0 ∧ isT (pkOfB b) = true ∧ ¬ (t.pr ≠ b.getD 9 0 ∨ (t.pr = 1 ∧ t.dp ≠ 0)) := by
  unfold errRw at h
  by_cases h1 : errAll b ≠ 0
  · rw [if_pos h1] at h; exact absurd h h1
  rw [if_neg h1] at h
  cases hI : isT (pkOfB b) with
  | false => rw [hI] at h; simp at h
  | true =>
    rw [hI, if_neg (by simp)] at h
    refine ⟨by omega, rfl, fun hc => ?_⟩
    rw [if_pos hc] at h
    cases h
theorem set9_24d (w : World) (q : Nat) (u0 u1 u2 u3 u4 u5 u6 u7 u8 : Value) : But (fun k => k = q) w (((((((((w.setCell ⟨q, 8, none⟩ u0).setCell ⟨q, 9, none⟩ u1).setCell ⟨q, 10, none⟩ u2).setCell ⟨q, 11, none⟩ u3).setCell ⟨q, 12, none⟩ u4).setCell ⟨q, 13, none⟩ u5).setCell ⟨q, 14, none⟩ u6).setCell ⟨q, 15, none⟩ u7).setCell ⟨q, 16, none⟩ u8) := (((((((((But.refl (fun k => k = q) w).setCell (p := ⟨q, 8, none⟩) rfl u0).setCell (p := ⟨q, 9, none⟩) rfl u1).setCell (p := ⟨q, 10, none⟩) rfl u2).setCell (p := ⟨q, 11, none⟩) rfl u3).setCell (p := ⟨q, 12, none⟩) rfl u4).setCell (p := ⟨q, 13, none⟩) rfl u5).setCell (p := ⟨q, 14, none⟩) rfl u6).setCell (p := ⟨q, 15, none⟩) rfl u7).setCell (p := ⟨q, 16, none⟩) rfl u8
theorem set3_24d (w : World) (q : Nat) (u0 u1 u2 : Value) : But (fun k => k = q) w (((w.setCell ⟨q, 17, none⟩ u0).setCell ⟨q, 18, none⟩ u1).setCell ⟨q, 19, none⟩ u2) := (((But.refl (fun k => k = q) w).setCell (p := ⟨q, 17, none⟩) rfl u0).setCell (p := ⟨q, 18, none⟩) rfl u1).setCell (p := ⟨q, 19, none⟩) rfl u2
theorem set4_24d (w : World) (q : Nat) (u0 u1 u2 u3 : Value) : But (fun k => k = q) w ((((w.setCell ⟨q, 20, none⟩ u0).setCell ⟨q, 21, none⟩ u1).setCell ⟨q, 22, none⟩ u2).setCell ⟨q, 23, none⟩ u3) := ((((But.refl (fun k => k = q) w).setCell (p := ⟨q, 20, none⟩) rfl u0).setCell (p := ⟨q, 21, none⟩) rfl u1).setCell (p := ⟨q, 22, none⟩) rfl u2).setCell (p := ⟨q, 23, none⟩) rfl u3
set_option maxHeartbeats 16000000 in
theorem walk (w : World) (p : Pk) (a : PkA) (hp : PkRd w p a) (hnO : a.nO ≤ 140737488355328) (hnD : a.nD ≤ 140737488355328) (hnM : a.nM ≤ 140737488355328) (u : Tu) (hu : TuNum u) (M : Nat) (hmany : M < 65536) :
    Calls Tryz.prog 3 #[.agg #[.int .u8 p.h.to, .int .u16 p.h.id, .bool p.h.df, .int .u8 p.h.tt, .int .u8 p.h.pr, .int .u32 p.h.sr, .int .u32 p.h.ds, .slice a.AH a.nH a.cH, .int .u16 p.s.sp, .int .u16 p.s.dp, .int .u32 p.s.sq, .int .u32 p.s.ak, .int .u8 p.s.fl, .int .u16 p.s.wn, .int .u16 p.s.ug, .slice a.AO a.nO a.cO, .slice a.AD a.nD a.cD, .int .u16 p.u.sp, .int .u16 p.u.dp, .slice a.AU a.nU a.cU, .int .u8 p.m.ty, .int .u8 p.m.cd, .int .u32 p.m.rs, .slice a.AM a.nM a.cM], .agg #[.int .u8 u.pr, .int .u32 u.sr, .int .u32 u.ds, .int .u16 u.sp, .int .u16 u.dp], .int .u16 (M : Int)] w fun e w' => e = .returned (.bool true) ∧ Below w.heap.size w w' := by
  have HU := Lib.hid hu
  have Hmany := Lib.hid hmany
  have HnO := Lib.hid hnO
  have HnD := Lib.hid hnD
  have HnM := Lib.hid hnM
  obtain ⟨zb, hzb⟩ : ∃ z, w.heap.size = z := ⟨_, rfl⟩
  obtain ⟨w0, ew0⟩ : ∃ w0, (w.alloc (.cells #[.int .u8 p.h.to, .int .u16 p.h.id, .bool p.h.df, .int .u8 p.h.tt, .int .u8 p.h.pr, .int .u32 p.h.sr, .int .u32 p.h.ds, .slice a.AH a.nH a.cH, .int .u16 p.s.sp, .int .u16 p.s.dp, .int .u32 p.s.sq, .int .u32 p.s.ak, .int .u8 p.s.fl, .int .u16 p.s.wn, .int .u16 p.s.ug, .slice a.AO a.nO a.cO, .slice a.AD a.nD a.cD, .int .u16 p.u.sp, .int .u16 p.u.dp, .slice a.AU a.nU a.cU, .int .u8 p.m.ty, .int .u8 p.m.cd, .int .u32 p.m.rs, .slice a.AM a.nM a.cM] 35)).alloc (.cells #[.int .u8 u.pr, .int .u32 u.sr, .int .u32 u.ds, .int .u16 u.sp, .int .u16 u.dp] 37) = w0 := ⟨_, rfl⟩
  have hb0 : Below w.heap.size w w0 := by rw [← ew0]; exact ((Below.refl _ _).alloc (Nat.le_refl _) _).alloc (by simp) _
  have HA0 := Lib.hid (show w0.heap[zb]? = some (.cells #[.int .u8 p.h.to, .int .u16 p.h.id, .bool p.h.df, .int .u8 p.h.tt, .int .u8 p.h.pr, .int .u32 p.h.sr, .int .u32 p.h.ds, .slice a.AH a.nH a.cH, .int .u16 p.s.sp, .int .u16 p.s.dp, .int .u32 p.s.sq, .int .u32 p.s.ak, .int .u8 p.s.fl, .int .u16 p.s.wn, .int .u16 p.s.ug, .slice a.AO a.nO a.cO, .slice a.AD a.nD a.cD, .int .u16 p.u.sp, .int .u16 p.u.dp, .slice a.AU a.nU a.cU, .int .u8 p.m.ty, .int .u8 p.m.cd, .int .u32 p.m.rs, .slice a.AM a.nM a.cM] 35 (0, 0)) by rw [← ew0, Below.heap_alloc _ _ _ (by simp [hzb]), ← hzb]; exact heap_alloc_new w _)
  have HT0 := Lib.hid (show w0.heap[zb + 1]? = some (.cells #[.int .u8 u.pr, .int .u32 u.sr, .int .u32 u.ds, .int .u16 u.sp, .int .u16 u.dp] 37 (0, 0)) by rw [← ew0, ← hzb]; simpa using heap_alloc_new (w.alloc (.cells #[.int .u8 p.h.to, .int .u16 p.h.id, .bool p.h.df, .int .u8 p.h.tt, .int .u8 p.h.pr, .int .u32 p.h.sr, .int .u32 p.h.ds, .slice a.AH a.nH a.cH, .int .u16 p.s.sp, .int .u16 p.s.dp, .int .u32 p.s.sq, .int .u32 p.s.ak, .int .u8 p.s.fl, .int .u16 p.s.wn, .int .u16 p.s.ug, .slice a.AO a.nO a.cO, .slice a.AD a.nD a.cD, .int .u16 p.u.sp, .int .u16 p.u.dp, .slice a.AU a.nU a.cU, .int .u8 p.m.ty, .int .u8 p.m.cd, .int .u32 p.m.rs, .slice a.AM a.nM a.cM] 35)) (.cells #[.int .u8 u.pr, .int .u32 u.sr, .int .u32 u.ds, .int .u16 u.sp, .int .u16 u.dp] 37))
  have HP := Lib.hid hp
  have HBB := Lib.hid hb0
  have Ew0 := Lib.hid ew0
  have Hzb := Lib.hid hzb
  have HRs := Lib.hid hp.mn.rs
  clear hu hmany hnO hnD hnM hzb ew0 hb0 hp
  go_enter Tryz.func3, Tryz.ntmps3
  go_upto_region 1 with (fail)
  rw [Ew0.out]
  try rw [Hzb.out]
  clear Ew0
  go_wp2_with fail
  refine (tof_any ⟨⟨0, 0, false, 0, 1, 1, 2, []⟩, zeroSeg, zeroDg, ⟨8, 0, 589829, []⟩⟩ ⟨none, 0, 0, none, 0, 0, [], none, 0, 0, none, 0, 0, none, 0, 0⟩ _ ⟨1, 1, 2, 9, 0⟩ true (by decide) (by rfl) (by rfl)).mono ?_
  rintro e w1 ⟨rfl, hb1⟩
  obtain ⟨z1, ez⟩ : ∃ z, w1.heap.size = z := ⟨_, rfl⟩
  obtain ⟨w2, ev⟩ : ∃ v, w1.alloc (.cells #[.int .u8 1, .int .u32 1, .int .u32 2, .int .u16 9, .int .u16 0] 37) = v := ⟨_, rfl⟩
  have hba : Below w1.heap.size w1 w2 := by rw [← ev]; exact (Below.refl _ _).alloc (Nat.le_refl _) _
  have HKz1 := Lib.hid (show w2.heap[z1]? = some (.cells #[.int .u8 1, .int .u32 1, .int .u32 2, .int .u16 9, .int .u16 0] 37 (0, 0)) by rw [← ev, ← ez]; exact heap_alloc_new w1 _)
  have Ev := Lib.hid ev
  have Ez := Lib.hid ez
  clear ev ez
  have hb2 := hb1.trans (hba.mono hb1.size)
  have HA2 := Lib.hid (blk_on HA0.out hb2)
  have HT2 := Lib.hid (blk_on HT0.out hb2)
  have HBB := Lib.hid (below_trans HBB.out hb2)
  clear hb1 hba hb2 HA0 HT0
  go_upto_region 2 with (fail)
  rw [Ev.out]
  try rw [Ez.out]
  clear Ev Ez
  have y3 := (row5 HKz1.out).2.2.2.1
  go_upto_region 4 with (fail)
  clear y3 HKz1
  obtain ⟨x, ex⟩ : ∃ x, errPk p = x := ⟨_, rfl⟩
  obtain ⟨Bl, eBl⟩ : ∃ L, pkB p = L := ⟨_, rfl⟩
  obtain ⟨m, em⟩ : ∃ m, Bl.length = m := ⟨_, rfl⟩
  have Hx := Lib.hid ex
  have HBl := Lib.hid eBl
  have Hm := Lib.hid em
  clear ex eBl em
  try simp only []
  repeat (first | go_values | go_skip | ((fail_if_success (with_reducible refine wpList_row 35 (.tmp 3) rfl ?_ ?_ ?_ ?_ ?_ ?_ ?_ ?_ ?_ ?_ ?_ ?_)); (first | go_step | go_upon | go_back)))
  refine wpList_row 35 (.tmp 3) rfl ?hww zb _ _ _ _ HA2.out rfl Tryz.underlying35 rfl (by kernel_rfl) ?_
  case hww => kernel_rfl
  (try simp only [Act.put, List.setIfInBounds_toArray, List.set_cons_zero, List.set_cons_succ])
  go_wp2_with fail
  refine (put9_own p a _ Bl m x (HP.out.below HBB.out) HnO.out HnD.out Hx.out HBl.out Hm.out).mono ?_
  rintro e w3 ⟨A3, c3, rfl, hc3, ho3, hr3, hb3⟩
  have HR3 := Lib.hid hr3
  have Hc3 := Lib.hid hc3
  have HA3 := Lib.hid (blk_on HA2.out hb3)
  have HT3 := Lib.hid (blk_on HT2.out hb3)
  have HO3 := Lib.hid (show offR (fun g => g = zb + 1) A3 m from ho3.off.sub (fun g hg => by have := lt_of_block HT2.out; omega))
  have HBB := Lib.hid (below_trans HBB.out hb3)
  clear hc3 ho3 hr3 hb3 HA2 HT2
  obtain ⟨s, es⟩ : ∃ s, tupT p = s := ⟨_, rfl⟩
  obtain ⟨is, eis⟩ : ∃ s, isT p = s := ⟨_, rfl⟩
  have Hs := Lib.hid es
  have His := Lib.hid eis
  clear es eis
  go_upto_region 5 with (fail)
  try simp only []
  repeat (first | go_values | go_skip | ((fail_if_success (with_reducible refine wpList_row 35 (.tmp 3) rfl ?_ ?_ ?_ ?_ ?_ ?_ ?_ ?_ ?_ ?_ ?_ ?_)); (first | go_step | go_upon | go_back)))
  refine wpList_row 35 (.tmp 3) rfl ?hww zb _ _ _ _ HA3.out rfl Tryz.underlying35 rfl (by kernel_rfl) ?_
  case hww => kernel_rfl
  (try simp only [Act.put, List.setIfInBounds_toArray, List.set_cons_zero, List.set_cons_succ])
  go_wp2_with fail
  refine (tof_any p a _ s is HRs.out Hs.out His.out).mono ?_
  rintro e w4 ⟨rfl, hb4⟩
  obtain ⟨z2, ez⟩ : ∃ z, w4.heap.size = z := ⟨_, rfl⟩
  obtain ⟨w5, ev⟩ : ∃ v, w4.alloc (.cells #[.int .u8 s.pr, .int .u32 s.sr, .int .u32 s.ds, .int .u16 s.sp, .int .u16 s.dp] 37) = v := ⟨_, rfl⟩
  have hba : Below w4.heap.size w4 w5 := by rw [← ev]; exact (Below.refl _ _).alloc (Nat.le_refl _) _
  have HKz2 := Lib.hid (show w5.heap[z2]? = some (.cells #[.int .u8 s.pr, .int .u32 s.sr, .int .u32 s.ds, .int .u16 s.sp, .int .u16 s.dp] 37 (0, 0)) by rw [← ev, ← ez]; exact heap_alloc_new w4 _)
  have Ev := Lib.hid ev
  have Ez := Lib.hid ez
  clear ev ez
  have hb5 := hb4.trans (hba.mono hb4.size)
  have HA5 := Lib.hid (blk_on HA3.out hb5)
  have HT5 := Lib.hid (blk_on HT3.out hb5)
  have HR5 := Lib.hid (HR3.out.below hb5)
  have HBB := Lib.hid (below_trans HBB.out hb5)
  have Hz2 := Lib.hid (show zb + 1 < z2 by have := lt_of_block (blk_on HT3.out hb4); have := Ez.out; omega)
  clear hb4 hba hb5 HA3 HT3 HR3
  go_upto_region 6 with (fail)
  rw [Ev.out]
  try rw [Ez.out]
  clear Ev Ez
  by_cases hx0 : x = 0
  case neg =>
    have q0 : (x != 0) = true := by simpa using hx0
    clear hx0
    go_wp2_with fail
    go_ret
    exact ⟨rfl, HBB.out⟩
  have q0 : (x != 0) = false := by simpa using hx0
  subst hx0
  cases is with
  | false =>
    go_wp2_with fail
    go_ret
    exact ⟨rfl, HBB.out⟩
  | true =>
  obtain ⟨B', Cl, Dl, t, s', H, F, hQ⟩ := tq_of HP.out Hx.out His.out HU.out
  obtain rfl : B' = Bl := hQ.pb.symm.trans HBl.out
  obtain rfl : s' = s := hQ.w.symm.trans Hs.out
  have HQ := Lib.hid hQ
  have hm28 : 28 ≤ m := by rw [← Hm.out]; exact hQ.lb.1
  have Hm15 := Lib.hid (show m ≤ 1500 by rw [← Hm.out]; exact hQ.lb.2)
  have d1 : decide ((m : Int) < 28) = false := by simp; omega
  have d2 : ¬ (m : Int) < 28 := by omega
  have Hm28 := Lib.hid hm28
  clear hQ hm28
  obtain ⟨j0, j1, j2, j3, j4⟩ := row5 HT5.out
  obtain ⟨s0, s1, s2, s3, s4⟩ := row5 HKz2.out
  have fz := fun i => blk_free HT5.out i
  go_upto_region 9 with (fail)
  obtain ⟨w6, ew6⟩ : ∃ v, w5.setCell ⟨zb + 1, 0, none⟩ (.int .u8 s'.pr) = v := ⟨_, rfl⟩
  have hb6 : But (fun g => g = zb + 1) w5 w6 := by rw [← ew6]; exact (But.refl (fun g => g = zb + 1) w5).setCell (p := ⟨zb + 1, 0, none⟩) rfl _
  have HT6 := Lib.hid (show w6.heap[zb + 1]? = some (.cells #[.int .u8 s'.pr, .int .u32 u.sr, .int .u32 u.ds, .int .u16 u.sp, .int .u16 u.dp] 37 (0, 0)) by rw [← ew6]; have := setCell_block (i := 0) HT5.out (.int .u8 s'.pr); simpa using this)
  have Hb6 := Lib.hid hb6
  rw [ew6]
  clear ew6 hb6 j0 j1 j2 j3 j4 s0 s1 s2 s3 s4 fz d1 d2 q0
  have Hte := Lib.hid (show t.pr = s'.pr ∧ t.sr = u.sr ∧ t.ds = u.ds ∧ t.sp = u.sp ∧ (s'.pr = 1 → t.dp = 0) ∧ (s'.pr ≠ 1 → t.dp = u.dp) by
    have e := HQ.out.te
    rw [e]
    exact ⟨rfl, rfl, rfl, rfl, fun h => if_pos h, fun h => if_neg h⟩)
  have kt : w6.cell? ⟨zb + 1, 0, none⟩ = some (.int .u8 s'.pr) := by rw [blk_cell HT6.out]; rfl
  go_upto_if 81 with (fail)
  go_cut [] from 79 to 82 (fun wv => ∃ wx, wx = wv ∧ Hid (wx.heap[zb + 1]? = some (.cells #[.int .u8 t.pr, .int .u32 t.sr, .int .u32 t.ds, .int .u16 t.sp, .int .u16 t.dp] 37 (0, 0))) ∧ Hid (But (fun g => g = zb + 1) w5 wx))
  case first =>
    obtain ⟨e1, e2, e3, e4, e5, e6⟩ := Hte.out
    by_cases h1 : s'.pr = 1
    · have h1b : (s'.pr == 1) = true := by simpa using h1
      have lz : w6.cell? ⟨zb + 1, 4, none⟩ = some (.int .u16 u.dp) := by rw [blk_cell HT6.out]; rfl
      have fz := blk_free HT6.out 4
      have Hk := Lib.hid (show (w6.setCell ⟨zb + 1, 4, none⟩ (.int .u16 0)).heap[zb + 1]? = some (.cells #[.int .u8 t.pr, .int .u32 t.sr, .int .u32 t.ds, .int .u16 t.sp, .int .u16 t.dp] 37 (0, 0)) by rw [e1, e2, e3, e4, e5 h1, set_blk HT6.out]; rfl)
      have Hb := Lib.hid (Hb6.out.setCell (p := ⟨zb + 1, 4, none⟩) rfl (.int .u16 0))
      clear e1 e2 e3 e4 e5 e6 h1
      go_wp2_with fail
      go_meet
      exact ⟨_, rfl, Hk, Hb⟩
    · have h1b : (s'.pr == 1) = false := by simpa using h1
      have Hk := Lib.hid (show w6.heap[zb + 1]? = some (.cells #[.int .u8 t.pr, .int .u32 t.sr, .int .u32 t.ds, .int .u16 t.sp, .int .u16 t.dp] 37 (0, 0)) by rw [e1, e2, e3, e4, e6 h1]; exact HT6.out)
      clear e1 e2 e3 e4 e5 e6 h1
      go_wp2_with fail
      go_meet
      exact ⟨_, rfl, Hk, Hb6⟩
  case rest =>
  obtain ⟨w7, e7, HT7, Hb7⟩ := hcut
  subst e7
  have HA7 := Lib.hid (Hb7.out.blk HA5.out (fun e => by omega))
  have HS7 := Lib.hid (Hb7.out.blk HKz2.out (fun e => by have := Hz2.out; omega))
  have HR7 := Lib.hid (HR5.out.offBut Hb7.out HO3.out)
  have HBB := Lib.hid (HBB.out.trans (Hb7.out.below (B := w.heap.size) (fun g hg => by have := Hzb.out; omega) HBB.out.size))
  clear kt HA5 HKz2 HR5 HT5 HT6 Hb6 Hb7 HO3
  obtain ⟨j0, j1, j2, j3, j4⟩ := row5 HT7.out
  obtain ⟨g1, g2, g3⟩ := errRw_zero HQ.out.e1
  go_wp2_with fail
  refine (rw0 A3 m c3 B' t _ Cl m Hc3.out (by have := Hm15.out; omega) HR7.out HQ.out.tn g1 g2 g3 HQ.out.c1 (HQ.out.lc.trans Hm.out)).mono ?_
  rintro e w8 ⟨A8, c8, rfl, ho8, hb8⟩
  have HR8 := Lib.hid (HR7.out.below hb8)
  have HC8 := Lib.hid (ho8.rd HQ.out.bc)
  have Hc8 := Lib.hid (show m ≤ c8 ∧ c8 ≤ maxLen from ⟨ho8.cap, ho8.capMax⟩)
  have HA8 := Lib.hid (blk_on HA7.out hb8)
  have HS8 := Lib.hid (blk_on HS7.out hb8)
  have HT8 := Lib.hid (blk_on HT7.out hb8)
  have HBB := Lib.hid (below_trans HBB.out hb8)
  clear ho8 hb8 g1 g2 g3 HA7 HS7 HR7 HT7 j0 j1 j2 j3 j4
  obtain ⟨q, eq⟩ : ∃ q, topX p t = q := ⟨_, rfl⟩
  have Hq := Lib.hid eq
  have hpar := parse9_ok A8 m c8 Cl w8 Hc8.out (by have := Hm15.out; omega) HC8.out HQ.out.e2
  rw [HQ.out.q2, eq] at hpar
  have Hpar := Lib.hid hpar
  clear eq hpar
  go_wp2_with fail
  refine Hpar.out.mono ?_
  rintro e w9 ⟨b, rfl, hqr, hqO, hof, hb9⟩
  obtain ⟨z3, ez⟩ : ∃ z, w9.heap.size = z := ⟨_, rfl⟩
  obtain ⟨w10, ev⟩ : ∃ v, w9.alloc (.cells #[.int .u8 q.h.to, .int .u16 q.h.id, .bool q.h.df, .int .u8 q.h.tt, .int .u8 q.h.pr, .int .u32 q.h.sr, .int .u32 q.h.ds, .slice b.AH b.nH b.cH, .int .u16 q.s.sp, .int .u16 q.s.dp, .int .u32 q.s.sq, .int .u32 q.s.ak, .int .u8 q.s.fl, .int .u16 q.s.wn, .int .u16 q.s.ug, .slice b.AO b.nO b.cO, .slice b.AD b.nD b.cD, .int .u16 q.u.sp, .int .u16 q.u.dp, .slice b.AU b.nU b.cU, .int .u8 q.m.ty, .int .u8 q.m.cd, .int .u32 q.m.rs, .slice b.AM b.nM b.cM] 35) = v := ⟨_, rfl⟩
  have hba : Below w9.heap.size w9 w10 := by rw [← ev]; exact (Below.refl _ _).alloc (Nat.le_refl _) _
  have HKz3 := Lib.hid (show w10.heap[z3]? = some (.cells #[.int .u8 q.h.to, .int .u16 q.h.id, .bool q.h.df, .int .u8 q.h.tt, .int .u8 q.h.pr, .int .u32 q.h.sr, .int .u32 q.h.ds, .slice b.AH b.nH b.cH, .int .u16 q.s.sp, .int .u16 q.s.dp, .int .u32 q.s.sq, .int .u32 q.s.ak, .int .u8 q.s.fl, .int .u16 q.s.wn, .int .u16 q.s.ug, .slice b.AO b.nO b.cO, .slice b.AD b.nD b.cD, .int .u16 q.u.sp, .int .u16 q.u.dp, .slice b.AU b.nU b.cU, .int .u8 q.m.ty, .int .u8 q.m.cd, .int .u32 q.m.rs, .slice b.AM b.nM b.cM] 35 (0, 0)) by rw [← ev, ← ez]; exact heap_alloc_new w9 _)
  have Ev := Lib.hid ev
  have Ez := Lib.hid ez
  clear ev ez
  have hb10 := hb9.trans (hba.mono hb9.size)
  have HQR := Lib.hid (hqr.below hba)
  have HqO := Lib.hid hqO
  have HA10 := Lib.hid (blk_on HA8.out hb10)
  have HS10 := Lib.hid (blk_on HS8.out hb10)
  have HT10 := Lib.hid (blk_on HT8.out hb10)
  have HR10 := Lib.hid (HR8.out.below hb10)
  have HC10 := Lib.hid (HC8.out.below hb10)
  have HBB := Lib.hid (below_trans HBB.out hb10)
  clear hb9 hqr hqO hof hba hb10 HA8 HS8 HT8 HR8 HC8 Hpar
  go_upto_region 13 with (refine wp_store_new 35 (.tmp 15) (.tmp 92) rfl rfl w9 _ _ rfl rfl (by kernel_rfl) rfl (by simp [Value.oneCell']) ?_)
  rw [Ev.out]
  try rw [Ez.out]
  clear Ev Ez
  try simp only []
  repeat (first | go_values | go_skip | ((fail_if_success (with_reducible refine wpList_row 35 (.tmp 15) rfl ?_ ?_ ?_ ?_ ?_ ?_ ?_ ?_ ?_ ?_ ?_ ?_)); (first | go_step | go_upon | go_back)))
  refine wpList_row 35 (.tmp 15) rfl ?hww z3 _ _ _ _ HKz3.out rfl Tryz.underlying35 rfl (by kernel_rfl) ?_
  case hww => kernel_rfl
  (try simp only [Act.put, List.setIfInBounds_toArray, List.set_cons_zero, List.set_cons_succ])
  go_wp2_with fail
  refine (tof_any q b _ t true HQR.out.mn.rs (by rw [← Hq.out]; exact HQ.out.t2) (by rw [← Hq.out]; exact HQ.out.i2)).mono ?_
  rintro e w11 ⟨rfl, hb11⟩
  obtain ⟨z4, ez⟩ : ∃ z, w11.heap.size = z := ⟨_, rfl⟩
  obtain ⟨w12, ev⟩ : ∃ v, w11.alloc (.cells #[.int .u8 t.pr, .int .u32 t.sr, .int .u32 t.ds, .int .u16 t.sp, .int .u16 t.dp] 37) = v := ⟨_, rfl⟩
  have hba : Below w11.heap.size w11 w12 := by rw [← ev]; exact (Below.refl _ _).alloc (Nat.le_refl _) _
  have HKz4 := Lib.hid (show w12.heap[z4]? = some (.cells #[.int .u8 t.pr, .int .u32 t.sr, .int .u32 t.ds, .int .u16 t.sp, .int .u16 t.dp] 37 (0, 0)) by rw [← ev, ← ez]; exact heap_alloc_new w11 _)
  have Ev := Lib.hid ev
  have Ez := Lib.hid ez
  clear ev ez
  have hb12 := hb11.trans (hba.mono hb11.size)
  have HQR := Lib.hid (HQR.out.below hb12)
  have HK3 := Lib.hid (blk_on HKz3.out hb12)
  have HA12 := Lib.hid (blk_on HA10.out hb12)
  have HS12 := Lib.hid (blk_on HS10.out hb12)
  have HT12 := Lib.hid (blk_on HT10.out hb12)
  have HR12 := Lib.hid (HR10.out.below hb12)
  have HC12 := Lib.hid (HC10.out.below hb12)
  have HBB := Lib.hid (below_trans HBB.out hb12)
  clear hb11 hba hb12 HA10 HS10 HT10 HR10 HC10 HKz3
  go_upto_region 14 with (fail)
  rw [Ev.out]
  try rw [Ez.out]
  clear Ev Ez
  obtain ⟨j0, j1, j2, j3, j4⟩ := row5 HT12.out
  obtain ⟨n0, n1, n2, n3, n4⟩ := row5 HKz4.out
  have hneq := tu_neq t
  go_upto_region 16 with (fail)
  clear j0 j1 j2 j3 j4 n0 n1 n2 n3 n4 hneq HKz4
  have HF := Lib.hid (show ∀ W, Below w12.heap.size w12 W → W.heap[zb]? = some (.cells #[.int .u8 p.h.to, .int .u16 p.h.id, .bool p.h.df, .int .u8 p.h.tt, .int .u8 p.h.pr, .int .u32 p.h.sr, .int .u32 p.h.ds, .slice a.AH a.nH a.cH, .int .u16 p.s.sp, .int .u16 p.s.dp, .int .u32 p.s.sq, .int .u32 p.s.ak, .int .u8 p.s.fl, .int .u16 p.s.wn, .int .u16 p.s.ug, .slice a.AO a.nO a.cO, .slice a.AD a.nD a.cD, .int .u16 p.u.sp, .int .u16 p.u.dp, .slice a.AU a.nU a.cU, .int .u8 p.m.ty, .int .u8 p.m.cd, .int .u32 p.m.rs, .slice a.AM a.nM a.cM] 35 (0, 0)) ∧ W.heap[z2]? = some (.cells #[.int .u8 s'.pr, .int .u32 s'.sr, .int .u32 s'.ds, .int .u16 s'.sp, .int .u16 s'.dp] 37 (0, 0)) ∧ W.heap[zb + 1]? = some (.cells #[.int .u8 t.pr, .int .u32 t.sr, .int .u32 t.ds, .int .u16 t.sp, .int .u16 t.dp] 37 (0, 0)) ∧ W.heap[z3]? = some (.cells #[.int .u8 q.h.to, .int .u16 q.h.id, .bool q.h.df, .int .u8 q.h.tt, .int .u8 q.h.pr, .int .u32 q.h.sr, .int .u32 q.h.ds, .slice b.AH b.nH b.cH, .int .u16 q.s.sp, .int .u16 q.s.dp, .int .u32 q.s.sq, .int .u32 q.s.ak, .int .u8 q.s.fl, .int .u16 q.s.wn, .int .u16 q.s.ug, .slice b.AO b.nO b.cO, .slice b.AD b.nD b.cD, .int .u16 q.u.sp, .int .u16 q.u.dp, .slice b.AU b.nU b.cU, .int .u8 q.m.ty, .int .u8 q.m.cd, .int .u32 q.m.rs, .slice b.AM b.nM b.cM] 35 (0, 0)) ∧ PkRd W q b ∧ Rd W A3 m B' ∧ Rd W A8 m Cl ∧ PkRd W p a ∧ Below w.heap.size w W from
    fun W hW => ⟨blk_on HA12.out hW, blk_on HS12.out hW, blk_on HT12.out hW, blk_on HK3.out hW, HQR.out.below hW, HR12.out.below hW, HC12.out.below hW, HP.out.below (below_trans HBB.out hW), below_trans HBB.out hW⟩)
  have HA12' := HA12
  clear HA12 HS12 HT12 HK3 HQR HR12 HC12 HBB HP
  obtain ⟨z, ez⟩ : ∃ z, w12.heap.size = z := ⟨_, rfl⟩
  obtain ⟨w13, ev⟩ : ∃ v, w12.alloc (.cells #[.int .u8 p.h.to, .int .u16 p.h.id, .bool p.h.df, .int .u8 p.h.tt, .int .u8 p.h.pr, .int .u32 p.h.sr, .int .u32 p.h.ds, .slice a.AH a.nH a.cH, .int .u16 p.s.sp, .int .u16 p.s.dp, .int .u32 p.s.sq, .int .u32 p.s.ak, .int .u8 p.s.fl, .int .u16 p.s.wn, .int .u16 p.s.ug, .slice a.AO a.nO a.cO, .slice a.AD a.nD a.cD, .int .u16 p.u.sp, .int .u16 p.u.dp, .slice a.AU a.nU a.cU, .int .u8 p.m.ty, .int .u8 p.m.cd, .int .u32 p.m.rs, .slice a.AM a.nM a.cM] 35) = v := ⟨_, rfl⟩
  have hba : Below w12.heap.size w12 w13 := by rw [← ev]; exact (Below.refl _ _).alloc (Nat.le_refl _) _
  have HKz := Lib.hid (show w13.heap[z]? = some (.cells #[.int .u8 p.h.to, .int .u16 p.h.id, .bool p.h.df, .int .u8 p.h.tt, .int .u8 p.h.pr, .int .u32 p.h.sr, .int .u32 p.h.ds, .slice a.AH a.nH a.cH, .int .u16 p.s.sp, .int .u16 p.s.dp, .int .u32 p.s.sq, .int .u32 p.s.ak, .int .u8 p.s.fl, .int .u16 p.s.wn, .int .u16 p.s.ug, .slice a.AO a.nO a.cO, .slice a.AD a.nD a.cD, .int .u16 p.u.sp, .int .u16 p.u.dp, .slice a.AU a.nU a.cU, .int .u8 p.m.ty, .int .u8 p.m.cd, .int .u32 p.m.rs, .slice a.AM a.nM a.cM] 35 (0, 0)) by rw [← ev, ← ez]; exact heap_alloc_new w12 _)
  have Ev := Lib.hid ev
  have Ez := Lib.hid ez
  clear ev ez
  have HLw13 := Lib.hid hba
  have HKw13 := HKz
  have Hzz := Lib.hid (show w12.heap.size ≤ z by have := Ez.out; omega)
  clear hba HKz
  have HSt := Lib.hid (show ∀ W, Below w12.heap.size w12 W → (W.cell? ⟨zb + 1, 1, none⟩ = some (.int .u32 t.sr) ∧ W.cell? ⟨zb + 1, 2, none⟩ = some (.int .u32 t.ds) ∧ W.cell? ⟨zb + 1, 3, none⟩ = some (.int .u16 t.sp) ∧ W.cell? ⟨zb + 1, 4, none⟩ = some (.int .u16 t.dp)) from fun W hW => by
    have h := row5 (HF.out W hW).2.2.1
    exact ⟨h.2.1, h.2.2.1, h.2.2.2.1, h.2.2.2.2⟩)
  go_upto_region 17 with (first | (refine wp_load_row 35 (.tmp 3) rfl zb _ _ _ _ HA12'.out rfl Tryz.underlying35 rfl (by kernel_rfl) ?_; simp only [Act.put, List.setIfInBounds_toArray, List.set_cons_zero, List.set_cons_succ]) | (refine wp_store_new 35 (.tmp 19) (.tmp 121) rfl rfl w12 _ _ rfl rfl (by kernel_rfl) rfl (by simp [Value.oneCell']) ?_))
  rw [Ev.out]
  try rw [Ez.out]
  clear Ev Ez HA12'
  refine wp_region_held_drew (S := fun w' => w'.cell? ⟨zb + 1, 1, none⟩ = some (.int .u32 t.sr) ∧ w'.cell? ⟨zb + 1, 2, none⟩ = some (.int .u32 t.ds) ∧ w'.cell? ⟨zb + 1, 3, none⟩ = some (.int .u16 t.sp) ∧ w'.cell? ⟨zb + 1, 4, none⟩ = some (.int .u16 t.dp)) (by kernel_rfl) (HSt.out _ (HLw13.out.drew)) (fun hHeld => ?_)
  obtain ⟨va, eva⟩ : ∃ v, w13.drew = v := ⟨_, rfl⟩
  have HLva := Lib.hid (HLw13.out.drew)
  have HKva := Lib.hid (blk_on HKw13.out (Below.drew (Below.refl _ _)))
  rw [eva] at HLva HKva hHeld ⊢
  clear eva
  refine tk 0 ?_ rfl ?_ ?_
  rotate_left
  · intro w' hSw; (go_simp <;> (with_reducible rfl))
  try simp only [Act.put, putL]
  refine tk 1 ?_ rfl ?_ ?_
  rotate_left
  · intro w' hSw; (go_simp <;> (with_reducible rfl))
  try simp only [Act.put, putL]
  refine tk 2 ?_ rfl ?_ ?_
  rotate_left
  · intro w' hSw; (go_simp <;> (with_reducible rfl))
  try simp only [Act.put, putL]
  refine tk 3 ?_ rfl ?_ ?_
  rotate_left
  · intro w' hSw; (go_simp <;> (with_reducible rfl))
  try simp only [Act.put, putL]
  refine tk 4 ?_ rfl ?_ ?_
  rotate_left
  · intro w' hSw; (go_simp <;> (with_reducible rfl))
  try simp only [Act.put, putL]
  refine tk 5 ?_ rfl ?_ ?_
  rotate_left
  · intro w' hSw; (go_simp <;> (with_reducible rfl))
  try simp only [Act.put, putL]
  have e1 : va.cell? ⟨z, 5, none⟩ = some (.int .u32 p.h.sr) := by rw [blk_cell HKva.out]; rfl
  have f1 := blk_free HKva.out 5
  refine tkC 6 rfl (fun K hK => ?_)
  go_simp
  skip
  refine hK.out _ _ ?_ (fun hHeld => ?_)
  · exact HSt.out _ (HLva.out.setCell (p := ⟨z, 5, none⟩) Hzz.out _)
  clear hK K
  try simp only [Act.put, putL]
  clear e1 f1
  obtain ⟨vb, evb⟩ : ∃ v, va.setCell ⟨z, 5, none⟩ (.int .u32 t.sr) = v := ⟨_, rfl⟩
  have HLvb := Lib.hid (HLva.out.setCell (p := ⟨z, 5, none⟩) Hzz.out (.int .u32 t.sr))
  have HKvb := Lib.hid (set_blk HKva.out (i := 5) (.int .u32 t.sr))
  rw [evb] at HLvb HKvb hHeld ⊢
  clear evb
  refine tk 7 ?_ rfl ?_ ?_
  rotate_left
  · intro w' hSw; (go_simp <;> (with_reducible rfl))
  try simp only [Act.put, putL]
  refine tk 8 ?_ rfl ?_ ?_
  rotate_left
  · intro w' hSw; (go_simp <;> (with_reducible rfl))
  try simp only [Act.put, putL]
  have e1 : vb.cell? ⟨z, 6, none⟩ = some (.int .u32 p.h.ds) := by rw [blk_cell HKvb.out]; rfl
  have f1 := blk_free HKvb.out 6
  refine tkC 9 rfl (fun K hK => ?_)
  go_simp
  skip
  refine hK.out _ _ ?_ (fun hHeld => ?_)
  · exact HSt.out _ (HLvb.out.setCell (p := ⟨z, 6, none⟩) Hzz.out _)
  clear hK K
  try simp only [Act.put, putL]
  clear e1 f1
  obtain ⟨vc, evc⟩ : ∃ v, vb.setCell ⟨z, 6, none⟩ (.int .u32 t.ds) = v := ⟨_, rfl⟩
  have HLvc := Lib.hid (HLvb.out.setCell (p := ⟨z, 6, none⟩) Hzz.out (.int .u32 t.ds))
  have HKvc := Lib.hid (set_blk HKvb.out (i := 6) (.int .u32 t.ds))
  rw [evc] at HLvc HKvc hHeld ⊢
  clear evc
  refine wpAnyH_done (by kernel_rfl) ?_ _
  clear hHeld
  go_upto_region 18 with (fail)
  refine wp_region_held_drew (S := fun w' => w'.cell? ⟨zb + 1, 1, none⟩ = some (.int .u32 t.sr) ∧ w'.cell? ⟨zb + 1, 2, none⟩ = some (.int .u32 t.ds) ∧ w'.cell? ⟨zb + 1, 3, none⟩ = some (.int .u16 t.sp) ∧ w'.cell? ⟨zb + 1, 4, none⟩ = some (.int .u16 t.dp)) (by kernel_rfl) (HSt.out _ (HLvc.out.drew)) (fun hHeld => ?_)
  obtain ⟨vd, evd⟩ : ∃ v, vc.drew = v := ⟨_, rfl⟩
  have HLvd := Lib.hid (HLvc.out.drew)
  have HKvd := Lib.hid (blk_on HKvc.out (Below.drew (Below.refl _ _)))
  rw [evd] at HLvd HKvd hHeld ⊢
  clear evd
  refine tk 0 ?_ rfl ?_ ?_
  rotate_left
  · intro w' hSw; (go_simp <;> (with_reducible rfl))
  try simp only [Act.put, putL]
  refine tk 1 ?_ rfl ?_ ?_
  rotate_left
  · intro w' hSw; (go_simp <;> (with_reducible rfl))
  try simp only [Act.put, putL]
  refine tk 2 ?_ rfl ?_ ?_
  rotate_left
  · intro w' hSw; (go_simp <;> (with_reducible rfl))
  try simp only [Act.put, putL]
  refine tk 3 ?_ rfl ?_ ?_
  rotate_left
  · intro w' hSw; (go_simp <;> (with_reducible rfl))
  try simp only [Act.put, putL]
  refine tk 4 ?_ rfl ?_ ?_
  rotate_left
  · intro w' hSw; (go_simp <;> (with_reducible rfl))
  try simp only [Act.put, putL]
  refine tk 5 ?_ rfl ?_ ?_
  rotate_left
  · intro w' hSw; (go_simp <;> (with_reducible rfl))
  try simp only [Act.put, putL]
  have e1 : vd.cell? ⟨z, 8, none⟩ = some (.int .u16 p.s.sp) := by rw [blk_cell HKvd.out]; rfl
  have f1 := blk_free HKvd.out 8
  refine tkC 6 rfl (fun K hK => ?_)
  go_simp
  skip
  refine hK.out _ _ ?_ (fun hHeld => ?_)
  · exact HSt.out _ (HLvd.out.setCell (p := ⟨z, 8, none⟩) Hzz.out _)
  clear hK K
  try simp only [Act.put, putL]
  clear e1 f1
  obtain ⟨ve, eve⟩ : ∃ v, vd.setCell ⟨z, 8, none⟩ (.int .u16 t.sp) = v := ⟨_, rfl⟩
  have HLve := Lib.hid (HLvd.out.setCell (p := ⟨z, 8, none⟩) Hzz.out (.int .u16 t.sp))
  have HKve := Lib.hid (set_blk HKvd.out (i := 8) (.int .u16 t.sp))
  rw [eve] at HLve HKve hHeld ⊢
  clear eve
  refine tk 7 ?_ rfl ?_ ?_
  rotate_left
  · intro w' hSw; (go_simp <;> (with_reducible rfl))
  try simp only [Act.put, putL]
  refine tk 8 ?_ rfl ?_ ?_
  rotate_left
  · intro w' hSw; (go_simp <;> (with_reducible rfl))
  try simp only [Act.put, putL]
  have e1 : ve.cell? ⟨z, 9, none⟩ = some (.int .u16 p.s.dp) := by rw [blk_cell HKve.out]; rfl
  have f1 := blk_free HKve.out 9
  refine tkC 9 rfl (fun K hK => ?_)
  go_simp
  skip
  refine hK.out _ _ ?_ (fun hHeld => ?_)
  · exact HSt.out _ (HLve.out.setCell (p := ⟨z, 9, none⟩) Hzz.out _)
  clear hK K
  try simp only [Act.put, putL]
  clear e1 f1
  obtain ⟨vf, evf⟩ : ∃ v, ve.setCell ⟨z, 9, none⟩ (.int .u16 t.dp) = v := ⟨_, rfl⟩
  have HLvf := Lib.hid (HLve.out.setCell (p := ⟨z, 9, none⟩) Hzz.out (.int .u16 t.dp))
  have HKvf := Lib.hid (set_blk HKve.out (i := 9) (.int .u16 t.dp))
  rw [evf] at HLvf HKvf hHeld ⊢
  clear evf
  refine wpAnyH_done (by kernel_rfl) ?_ _
  clear hHeld
  go_upto_region 19 with (fail)
  refine wp_region_held_drew (S := fun w' => w'.cell? ⟨zb + 1, 1, none⟩ = some (.int .u32 t.sr) ∧ w'.cell? ⟨zb + 1, 2, none⟩ = some (.int .u32 t.ds) ∧ w'.cell? ⟨zb + 1, 3, none⟩ = some (.int .u16 t.sp) ∧ w'.cell? ⟨zb + 1, 4, none⟩ = some (.int .u16 t.dp)) (by kernel_rfl) (HSt.out _ (HLvf.out.drew)) (fun hHeld => ?_)
  obtain ⟨vg, evg⟩ : ∃ v, vf.drew = v := ⟨_, rfl⟩
  have HLvg := Lib.hid (HLvf.out.drew)
  have HKvg := Lib.hid (blk_on HKvf.out (Below.drew (Below.refl _ _)))
  rw [evg] at HLvg HKvg hHeld ⊢
  clear evg
  refine tk 0 ?_ rfl ?_ ?_
  rotate_left
  · intro w' hSw; (go_simp <;> (with_reducible rfl))
  try simp only [Act.put, putL]
  refine tk 1 ?_ rfl ?_ ?_
  rotate_left
  · intro w' hSw; (go_simp <;> (with_reducible rfl))
  try simp only [Act.put, putL]
  refine tk 2 ?_ rfl ?_ ?_
  rotate_left
  · intro w' hSw; (go_simp <;> (with_reducible rfl))
  try simp only [Act.put, putL]
  refine tk 3 ?_ rfl ?_ ?_
  rotate_left
  · intro w' hSw; (go_simp <;> (with_reducible rfl))
  try simp only [Act.put, putL]
  refine tk 4 ?_ rfl ?_ ?_
  rotate_left
  · intro w' hSw; (go_simp <;> (with_reducible rfl))
  try simp only [Act.put, putL]
  refine tk 5 ?_ rfl ?_ ?_
  rotate_left
  · intro w' hSw; (go_simp <;> (with_reducible rfl))
  try simp only [Act.put, putL]
  have e1 : vg.cell? ⟨z, 17, none⟩ = some (.int .u16 p.u.sp) := by rw [blk_cell HKvg.out]; rfl
  have f1 := blk_free HKvg.out 17
  refine tkC 6 rfl (fun K hK => ?_)
  go_simp
  skip
  refine hK.out _ _ ?_ (fun hHeld => ?_)
  · exact HSt.out _ (HLvg.out.setCell (p := ⟨z, 17, none⟩) Hzz.out _)
  clear hK K
  try simp only [Act.put, putL]
  clear e1 f1
  obtain ⟨vh, evh⟩ : ∃ v, vg.setCell ⟨z, 17, none⟩ (.int .u16 t.sp) = v := ⟨_, rfl⟩
  have HLvh := Lib.hid (HLvg.out.setCell (p := ⟨z, 17, none⟩) Hzz.out (.int .u16 t.sp))
  have HKvh := Lib.hid (set_blk HKvg.out (i := 17) (.int .u16 t.sp))
  rw [evh] at HLvh HKvh hHeld ⊢
  clear evh
  refine tk 7 ?_ rfl ?_ ?_
  rotate_left
  · intro w' hSw; (go_simp <;> (with_reducible rfl))
  try simp only [Act.put, putL]
  refine tk 8 ?_ rfl ?_ ?_
  rotate_left
  · intro w' hSw; (go_simp <;> (with_reducible rfl))
  try simp only [Act.put, putL]
  have e1 : vh.cell? ⟨z, 18, none⟩ = some (.int .u16 p.u.dp) := by rw [blk_cell HKvh.out]; rfl
  have f1 := blk_free HKvh.out 18
  refine tkC 9 rfl (fun K hK => ?_)
  go_simp
  skip
  refine hK.out _ _ ?_ (fun hHeld => ?_)
  · exact HSt.out _ (HLvh.out.setCell (p := ⟨z, 18, none⟩) Hzz.out _)
  clear hK K
  try simp only [Act.put, putL]
  clear e1 f1
  obtain ⟨vi, evi⟩ : ∃ v, vh.setCell ⟨z, 18, none⟩ (.int .u16 t.dp) = v := ⟨_, rfl⟩
  have HLvi := Lib.hid (HLvh.out.setCell (p := ⟨z, 18, none⟩) Hzz.out (.int .u16 t.dp))
  have HKvi := Lib.hid (set_blk HKvh.out (i := 18) (.int .u16 t.dp))
  rw [evi] at HLvi HKvi hHeld ⊢
  clear evi
  refine wpAnyH_done (by kernel_rfl) ?_ _
  clear hHeld
  have HKvi := Lib.hid (show vi.heap[z]? = some (.cells #[.int .u8 p.h.to, .int .u16 p.h.id, .bool p.h.df, .int .u8 p.h.tt, .int .u8 p.h.pr, .int .u32 t.sr, .int .u32 t.ds, .slice a.AH a.nH a.cH, .int .u16 t.sp, .int .u16 t.dp, .int .u32 p.s.sq, .int .u32 p.s.ak, .int .u8 p.s.fl, .int .u16 p.s.wn, .int .u16 p.s.ug, .slice a.AO a.nO a.cO, .slice a.AD a.nD a.cD, .int .u16 t.sp, .int .u16 t.dp, .slice a.AU a.nU a.cU, .int .u8 p.m.ty, .int .u8 p.m.cd, .int .u32 p.m.rs, .slice a.AM a.nM a.cM] 35 (0, 0)) from HKvi.out)
  clear HKw13 HLw13 HKva HLva HKvb HLvb HKvc HLvc HKvd HLvd HKve HLve HKvf HLvf HKvg HLvg HKvh HLvh
  obtain ⟨k0, k1, k2, k3, k4, k5, k6, k7, k8, k9, k10, k11, k12, k13, k14, k15, k16, k17, k18, k19, k20, k21, k22, k23⟩ := cells24 (HF.out _ HLvi.out).1
  obtain ⟨j0, j1, j2, j3, j4⟩ := row5 (HF.out _ HLvi.out).2.2.1
  go_wp2_with fail
  refine (with8_any p.m t.sp a.AM a.nM a.cM _ HRs.out HQ.out.tn.sp HnM.out (HF.out _ HLvi.out).2.2.2.2.2.2.2.1.mr).mono ?_
  rintro e vj ⟨AW, cW, rfl, hcw, hcm, how, hbj⟩
  have hwd : (withM p.m t.sp).d = p.m.d ∧ (withM p.m t.sp).ty = p.m.ty ∧ (withM p.m t.sp).cd = p.m.cd := by unfold withM; split <;> exact ⟨rfl, rfl, rfl⟩
  have HLvj := Lib.hid (below_trans HLvi.out hbj)
  have HKvj := Lib.hid (blk_on HKvi.out hbj)
  have HcW := Lib.hid (show a.nM ≤ cW ∧ cW ≤ maxLen from ⟨hcw, hcm⟩)
  have HoffW := Lib.hid (show offR (fun g => g = z) AW a.nM from how.off.sub (fun g hg => by have := lt_of_block HKvi.out; omega))
  have HMvj := Lib.hid (show Rd vj AW a.nM p.m.d from how.rd (HF.out _ HLvi.out).2.2.2.2.2.2.2.1.mr.byte)
  clear k0 k1 k2 k3 k4 k5 k6 k7 k8 k9 k10 k11 k12 k13 k14 k15 k16 k17 k18 k19 k20 k21 k22 k23
  clear hcw hcm how hbj j0 j1 j2 j3 j4 HKvi HLvi
  obtain ⟨r2, er2⟩ : ∃ y, (withM p.m t.sp).rs = y := ⟨_, rfl⟩
  have Hr2 := Lib.hid er2
  rw [hwd.2.1, hwd.2.2, er2]
  clear er2 hwd
  have fz := fun i => blk_free HKvj.out i
  obtain ⟨l0, l1, l2, l3, l4, l5, l6, l7, l8, l9, l10, l11, l12, l13, l14, l15, l16, l17, l18, l19, l20, l21, l22, l23⟩ := cells24 HKvj.out
  have HKk := Lib.hid (set4_24 HKvj.out (.int .u8 p.m.ty) (.int .u8 p.m.cd) (.int .u32 r2) (.slice AW a.nM cW))
  have HLk := Lib.hid (set4_24b HLvj.out Hzz.out (.int .u8 p.m.ty) (.int .u8 p.m.cd) (.int .u32 r2) (.slice AW a.nM cW))
  have HbW := Lib.hid (HMvj.out.offBut (set4_24d vj z (.int .u8 p.m.ty) (.int .u8 p.m.cd) (.int .u32 r2) (.slice AW a.nM cW)) HoffW.out)
  go_upto_region 21 with (fail)
  clear fz l0 l1 l2 l3 l4 l5 l6 l7 l8 l9 l10 l11 l12 l13 l14 l15 l16 l17 l18 l19 l20 l21 l22 l23
  obtain ⟨vk, evk⟩ : ∃ v, (((vj.setCell ⟨z, 20, none⟩ (.int .u8 p.m.ty)).setCell ⟨z, 21, none⟩ (.int .u8 p.m.cd)).setCell ⟨z, 22, none⟩ (.int .u32 r2)).setCell ⟨z, 23, none⟩ (.slice AW a.nM cW) = v := ⟨_, rfl⟩
  rw [evk] at HKk HLk HbW ⊢
  clear evk
  have HKvk := Lib.hid (show vk.heap[z]? = some (.cells #[.int .u8 p.h.to, .int .u16 p.h.id, .bool p.h.df, .int .u8 p.h.tt, .int .u8 p.h.pr, .int .u32 t.sr, .int .u32 t.ds, .slice a.AH a.nH a.cH, .int .u16 t.sp, .int .u16 t.dp, .int .u32 p.s.sq, .int .u32 p.s.ak, .int .u8 p.s.fl, .int .u16 p.s.wn, .int .u16 p.s.ug, .slice a.AO a.nO a.cO, .slice a.AD a.nD a.cD, .int .u16 t.sp, .int .u16 t.dp, .slice a.AU a.nU a.cU, .int .u8 p.m.ty, .int .u8 p.m.cd, .int .u32 r2, .slice AW a.nM cW] 35 (0, 0)) from HKk.out)
  have HLvk := HLk
  have HMvk := HbW
  clear HKk HLk HbW HKvj HLvj HMvj
  obtain ⟨sp2, dp2, hsd⟩ : ∃ x y, (p.h.pr = 6 → x = t.sp ∧ y = t.dp) ∧ (p.h.pr ≠ 6 → x = p.s.sp ∧ y = p.s.dp) := by
    by_cases h : p.h.pr = 6
    · exact ⟨_, _, fun _ => ⟨rfl, rfl⟩, fun h2 => absurd h h2⟩
    · exact ⟨_, _, fun h2 => absurd h2 h, fun _ => ⟨rfl, rfl⟩⟩
  have Hsd := Lib.hid hsd
  clear hsd
  obtain ⟨k0, k1, k2, k3, k4, k5, k6, k7, k8, k9, k10, k11, k12, k13, k14, k15, k16, k17, k18, k19, k20, k21, k22, k23⟩ := cells24 (HF.out _ HLvk.out).1
  go_upto_if 155 with (fail)
  go_cut [] from 155 to 158 (fun wv => ∃ wx, wx = wv ∧ Hid (wx.heap[z]? = some (.cells #[.int .u8 p.h.to, .int .u16 p.h.id, .bool p.h.df, .int .u8 p.h.tt, .int .u8 p.h.pr, .int .u32 t.sr, .int .u32 t.ds, .slice a.AH a.nH a.cH, .int .u16 sp2, .int .u16 dp2, .int .u32 p.s.sq, .int .u32 p.s.ak, .int .u8 p.s.fl, .int .u16 p.s.wn, .int .u16 p.s.ug, .slice a.AO a.nO a.cO, .slice a.AD a.nD a.cD, .int .u16 t.sp, .int .u16 t.dp, .slice a.AU a.nU a.cU, .int .u8 p.m.ty, .int .u8 p.m.cd, .int .u32 r2, .slice AW a.nM cW] 35 (0, 0))) ∧ Hid (Below w12.heap.size w12 wx) ∧ Hid (Rd wx AW a.nM p.m.d))
  case first =>
    by_cases h : p.h.pr = 6
    · have hb : (p.h.pr != 6) = false := by simpa using h
      have Hk := Lib.hid (show vk.heap[z]? = some (.cells #[.int .u8 p.h.to, .int .u16 p.h.id, .bool p.h.df, .int .u8 p.h.tt, .int .u8 p.h.pr, .int .u32 t.sr, .int .u32 t.ds, .slice a.AH a.nH a.cH, .int .u16 sp2, .int .u16 dp2, .int .u32 p.s.sq, .int .u32 p.s.ak, .int .u8 p.s.fl, .int .u16 p.s.wn, .int .u16 p.s.ug, .slice a.AO a.nO a.cO, .slice a.AD a.nD a.cD, .int .u16 t.sp, .int .u16 t.dp, .slice a.AU a.nU a.cU, .int .u8 p.m.ty, .int .u8 p.m.cd, .int .u32 r2, .slice AW a.nM cW] 35 (0, 0)) by rw [(Hsd.out.1 h).1, (Hsd.out.1 h).2]; exact HKvk.out)
      clear h
      go_wp2_with fail
      go_meet
      exact ⟨_, rfl, Hk, HLvk, HMvk⟩
    · have hb : (p.h.pr != 6) = true := by simpa using h
      have fz := fun i => blk_free HKvk.out i
      obtain ⟨l0, l1, l2, l3, l4, l5, l6, l7, l8, l9, l10, l11, l12, l13, l14, l15, l16, l17, l18, l19, l20, l21, l22, l23⟩ := cells24 HKvk.out
      have Hk := Lib.hid (set9_24 HKvk.out (.int .u16 p.s.sp) (.int .u16 p.s.dp) (.int .u32 p.s.sq) (.int .u32 p.s.ak) (.int .u8 p.s.fl) (.int .u16 p.s.wn) (.int .u16 p.s.ug) (.slice a.AO a.nO a.cO) (.slice a.AD a.nD a.cD))
      have Hl := Lib.hid (set9_24b HLvk.out Hzz.out (.int .u16 p.s.sp) (.int .u16 p.s.dp) (.int .u32 p.s.sq) (.int .u32 p.s.ak) (.int .u8 p.s.fl) (.int .u16 p.s.wn) (.int .u16 p.s.ug) (.slice a.AO a.nO a.cO) (.slice a.AD a.nD a.cD))
      have Hr := Lib.hid (HMvk.out.offBut (set9_24d vk z (.int .u16 p.s.sp) (.int .u16 p.s.dp) (.int .u32 p.s.sq) (.int .u32 p.s.ak) (.int .u8 p.s.fl) (.int .u16 p.s.wn) (.int .u16 p.s.ug) (.slice a.AO a.nO a.cO) (.slice a.AD a.nD a.cD)) HoffW.out)
      obtain ⟨vx, evx⟩ : ∃ v, (((((((((vk.setCell ⟨z, 8, none⟩ (.int .u16 p.s.sp)).setCell ⟨z, 9, none⟩ (.int .u16 p.s.dp)).setCell ⟨z, 10, none⟩ (.int .u32 p.s.sq)).setCell ⟨z, 11, none⟩ (.int .u32 p.s.ak)).setCell ⟨z, 12, none⟩ (.int .u8 p.s.fl)).setCell ⟨z, 13, none⟩ (.int .u16 p.s.wn)).setCell ⟨z, 14, none⟩ (.int .u16 p.s.ug)).setCell ⟨z, 15, none⟩ (.slice a.AO a.nO a.cO)).setCell ⟨z, 16, none⟩ (.slice a.AD a.nD a.cD)) = v := ⟨_, rfl⟩
      rw [evx] at Hk Hl Hr
      have Hk := Lib.hid (show vx.heap[z]? = some (.cells #[.int .u8 p.h.to, .int .u16 p.h.id, .bool p.h.df, .int .u8 p.h.tt, .int .u8 p.h.pr, .int .u32 t.sr, .int .u32 t.ds, .slice a.AH a.nH a.cH, .int .u16 sp2, .int .u16 dp2, .int .u32 p.s.sq, .int .u32 p.s.ak, .int .u8 p.s.fl, .int .u16 p.s.wn, .int .u16 p.s.ug, .slice a.AO a.nO a.cO, .slice a.AD a.nD a.cD, .int .u16 t.sp, .int .u16 t.dp, .slice a.AU a.nU a.cU, .int .u8 p.m.ty, .int .u8 p.m.cd, .int .u32 r2, .slice AW a.nM cW] 35 (0, 0)) by rw [(Hsd.out.2 h).1, (Hsd.out.2 h).2]; exact Hk.out)
      have Evx := Lib.hid evx
      clear h evx
      go_wp2_with fail
      go_meet
      rw [Evx.out]
      exact ⟨_, rfl, Hk, Hl, Hr⟩
  case rest =>
  obtain ⟨vl, evl, HKvl, HLvl, HMvl⟩ := hcut
  subst evl
  clear k0 k1 k2 k3 k4 k5 k6 k7 k8 k9 k10 k11 k12 k13 k14 k15 k16 k17 k18 k19 k20 k21 k22 k23
  obtain ⟨us2, ud2, hud⟩ : ∃ x y, (p.h.pr = 17 → x = t.sp ∧ y = t.dp) ∧ (p.h.pr ≠ 17 → x = p.u.sp ∧ y = p.u.dp) := by
    by_cases h : p.h.pr = 17
    · exact ⟨_, _, fun _ => ⟨rfl, rfl⟩, fun h2 => absurd h h2⟩
    · exact ⟨_, _, fun h2 => absurd h2 h, fun _ => ⟨rfl, rfl⟩⟩
  have Hud := Lib.hid hud
  clear hud
  obtain ⟨k0, k1, k2, k3, k4, k5, k6, k7, k8, k9, k10, k11, k12, k13, k14, k15, k16, k17, k18, k19, k20, k21, k22, k23⟩ := cells24 (HF.out _ HLvl.out).1
  go_upto_if 162 with (fail)
  go_cut [] from 162 to 165 (fun wv => ∃ wx, wx = wv ∧ Hid (wx.heap[z]? = some (.cells #[.int .u8 p.h.to, .int .u16 p.h.id, .bool p.h.df, .int .u8 p.h.tt, .int .u8 p.h.pr, .int .u32 t.sr, .int .u32 t.ds, .slice a.AH a.nH a.cH, .int .u16 sp2, .int .u16 dp2, .int .u32 p.s.sq, .int .u32 p.s.ak, .int .u8 p.s.fl, .int .u16 p.s.wn, .int .u16 p.s.ug, .slice a.AO a.nO a.cO, .slice a.AD a.nD a.cD, .int .u16 us2, .int .u16 ud2, .slice a.AU a.nU a.cU, .int .u8 p.m.ty, .int .u8 p.m.cd, .int .u32 r2, .slice AW a.nM cW] 35 (0, 0))) ∧ Hid (Below w12.heap.size w12 wx) ∧ Hid (Rd wx AW a.nM p.m.d))
  case first =>
    by_cases h : p.h.pr = 17
    · have hb : (p.h.pr != 17) = false := by simpa using h
      have Hk := Lib.hid (show vl.heap[z]? = some (.cells #[.int .u8 p.h.to, .int .u16 p.h.id, .bool p.h.df, .int .u8 p.h.tt, .int .u8 p.h.pr, .int .u32 t.sr, .int .u32 t.ds, .slice a.AH a.nH a.cH, .int .u16 sp2, .int .u16 dp2, .int .u32 p.s.sq, .int .u32 p.s.ak, .int .u8 p.s.fl, .int .u16 p.s.wn, .int .u16 p.s.ug, .slice a.AO a.nO a.cO, .slice a.AD a.nD a.cD, .int .u16 us2, .int .u16 ud2, .slice a.AU a.nU a.cU, .int .u8 p.m.ty, .int .u8 p.m.cd, .int .u32 r2, .slice AW a.nM cW] 35 (0, 0)) by rw [(Hud.out.1 h).1, (Hud.out.1 h).2]; exact HKvl.out)
      clear h
      go_wp2_with fail
      go_meet
      exact ⟨_, rfl, Hk, HLvl, HMvl⟩
    · have hb : (p.h.pr != 17) = true := by simpa using h
      have fz := fun i => blk_free HKvl.out i
      obtain ⟨l0, l1, l2, l3, l4, l5, l6, l7, l8, l9, l10, l11, l12, l13, l14, l15, l16, l17, l18, l19, l20, l21, l22, l23⟩ := cells24 HKvl.out
      have Hk := Lib.hid (set3_24 HKvl.out (.int .u16 p.u.sp) (.int .u16 p.u.dp) (.slice a.AU a.nU a.cU))
      have Hl := Lib.hid (set3_24b HLvl.out Hzz.out (.int .u16 p.u.sp) (.int .u16 p.u.dp) (.slice a.AU a.nU a.cU))
      have Hr := Lib.hid (HMvl.out.offBut (set3_24d vl z (.int .u16 p.u.sp) (.int .u16 p.u.dp) (.slice a.AU a.nU a.cU)) HoffW.out)
      obtain ⟨vx, evx⟩ : ∃ v, (((vl.setCell ⟨z, 17, none⟩ (.int .u16 p.u.sp)).setCell ⟨z, 18, none⟩ (.int .u16 p.u.dp)).setCell ⟨z, 19, none⟩ (.slice a.AU a.nU a.cU)) = v := ⟨_, rfl⟩
      rw [evx] at Hk Hl Hr
      have Hk := Lib.hid (show vx.heap[z]? = some (.cells #[.int .u8 p.h.to, .int .u16 p.h.id, .bool p.h.df, .int .u8 p.h.tt, .int .u8 p.h.pr, .int .u32 t.sr, .int .u32 t.ds, .slice a.AH a.nH a.cH, .int .u16 sp2, .int .u16 dp2, .int .u32 p.s.sq, .int .u32 p.s.ak, .int .u8 p.s.fl, .int .u16 p.s.wn, .int .u16 p.s.ug, .slice a.AO a.nO a.cO, .slice a.AD a.nD a.cD, .int .u16 us2, .int .u16 ud2, .slice a.AU a.nU a.cU, .int .u8 p.m.ty, .int .u8 p.m.cd, .int .u32 r2, .slice AW a.nM cW] 35 (0, 0)) by rw [(Hud.out.2 h).1, (Hud.out.2 h).2]; exact Hk.out)
      have Evx := Lib.hid evx
      clear h evx
      go_wp2_with fail
      go_meet
      rw [Evx.out]
      exact ⟨_, rfl, Hk, Hl, Hr⟩
  case rest =>
  obtain ⟨vm, evm, HKvm, HLvm, HMvm⟩ := hcut
  subst evm
  clear k0 k1 k2 k3 k4 k5 k6 k7 k8 k9 k10 k11 k12 k13 k14 k15 k16 k17 k18 k19 k20 k21 k22 k23
  obtain ⟨r3, AX, cX, hr3⟩ : ∃ (x : Int) (y : Option Addr) (c : Nat), (p.h.pr = 1 → x = r2 ∧ y = AW ∧ c = cW) ∧ (p.h.pr ≠ 1 → x = p.m.rs ∧ y = a.AM ∧ c = a.cM) := by
    by_cases h : p.h.pr = 1
    · exact ⟨_, _, _, fun _ => ⟨rfl, rfl, rfl⟩, fun h2 => absurd h h2⟩
    · exact ⟨_, _, _, fun h2 => absurd h2 h, fun _ => ⟨rfl, rfl, rfl⟩⟩
  have Hr3 := Lib.hid hr3
  clear hr3
  obtain ⟨k0, k1, k2, k3, k4, k5, k6, k7, k8, k9, k10, k11, k12, k13, k14, k15, k16, k17, k18, k19, k20, k21, k22, k23⟩ := cells24 (HF.out _ HLvm.out).1
  go_upto_if 169 with (fail)
  go_cut [] from 169 to 172 (fun wv => ∃ wx, wx = wv ∧ Hid (wx.heap[z]? = some (.cells #[.int .u8 p.h.to, .int .u16 p.h.id, .bool p.h.df, .int .u8 p.h.tt, .int .u8 p.h.pr, .int .u32 t.sr, .int .u32 t.ds, .slice a.AH a.nH a.cH, .int .u16 sp2, .int .u16 dp2, .int .u32 p.s.sq, .int .u32 p.s.ak, .int .u8 p.s.fl, .int .u16 p.s.wn, .int .u16 p.s.ug, .slice a.AO a.nO a.cO, .slice a.AD a.nD a.cD, .int .u16 us2, .int .u16 ud2, .slice a.AU a.nU a.cU, .int .u8 p.m.ty, .int .u8 p.m.cd, .int .u32 r3, .slice AX a.nM cX] 35 (0, 0))) ∧ Hid (Below w12.heap.size w12 wx) ∧ Hid (Rd wx AW a.nM p.m.d))
  case first =>
    by_cases h : p.h.pr = 1
    · have hb : (p.h.pr != 1) = false := by simpa using h
      have Hk := Lib.hid (show vm.heap[z]? = some (.cells #[.int .u8 p.h.to, .int .u16 p.h.id, .bool p.h.df, .int .u8 p.h.tt, .int .u8 p.h.pr, .int .u32 t.sr, .int .u32 t.ds, .slice a.AH a.nH a.cH, .int .u16 sp2, .int .u16 dp2, .int .u32 p.s.sq, .int .u32 p.s.ak, .int .u8 p.s.fl, .int .u16 p.s.wn, .int .u16 p.s.ug, .slice a.AO a.nO a.cO, .slice a.AD a.nD a.cD, .int .u16 us2, .int .u16 ud2, .slice a.AU a.nU a.cU, .int .u8 p.m.ty, .int .u8 p.m.cd, .int .u32 r3, .slice AX a.nM cX] 35 (0, 0)) by rw [(Hr3.out.1 h).1, (Hr3.out.1 h).2.1, (Hr3.out.1 h).2.2]; exact HKvm.out)
      clear h
      go_wp2_with fail
      go_meet
      exact ⟨_, rfl, Hk, HLvm, HMvm⟩
    · have hb : (p.h.pr != 1) = true := by simpa using h
      have fz := fun i => blk_free HKvm.out i
      obtain ⟨l0, l1, l2, l3, l4, l5, l6, l7, l8, l9, l10, l11, l12, l13, l14, l15, l16, l17, l18, l19, l20, l21, l22, l23⟩ := cells24 HKvm.out
      have Hk := Lib.hid (set4_24 HKvm.out (.int .u8 p.m.ty) (.int .u8 p.m.cd) (.int .u32 p.m.rs) (.slice a.AM a.nM a.cM))
      have Hl := Lib.hid (set4_24b HLvm.out Hzz.out (.int .u8 p.m.ty) (.int .u8 p.m.cd) (.int .u32 p.m.rs) (.slice a.AM a.nM a.cM))
      have Hr := Lib.hid (HMvm.out.offBut (set4_24d vm z (.int .u8 p.m.ty) (.int .u8 p.m.cd) (.int .u32 p.m.rs) (.slice a.AM a.nM a.cM)) HoffW.out)
      obtain ⟨vx, evx⟩ : ∃ v, ((((vm.setCell ⟨z, 20, none⟩ (.int .u8 p.m.ty)).setCell ⟨z, 21, none⟩ (.int .u8 p.m.cd)).setCell ⟨z, 22, none⟩ (.int .u32 p.m.rs)).setCell ⟨z, 23, none⟩ (.slice a.AM a.nM a.cM)) = v := ⟨_, rfl⟩
      rw [evx] at Hk Hl Hr
      have Hk := Lib.hid (show vx.heap[z]? = some (.cells #[.int .u8 p.h.to, .int .u16 p.h.id, .bool p.h.df, .int .u8 p.h.tt, .int .u8 p.h.pr, .int .u32 t.sr, .int .u32 t.ds, .slice a.AH a.nH a.cH, .int .u16 sp2, .int .u16 dp2, .int .u32 p.s.sq, .int .u32 p.s.ak, .int .u8 p.s.fl, .int .u16 p.s.wn, .int .u16 p.s.ug, .slice a.AO a.nO a.cO, .slice a.AD a.nD a.cD, .int .u16 us2, .int .u16 ud2, .slice a.AU a.nU a.cU, .int .u8 p.m.ty, .int .u8 p.m.cd, .int .u32 r3, .slice AX a.nM cX] 35 (0, 0)) by rw [(Hr3.out.2 h).1, (Hr3.out.2 h).2.1, (Hr3.out.2 h).2.2]; exact Hk.out)
      have Evx := Lib.hid evx
      clear h evx
      go_wp2_with fail
      go_meet
      rw [Evx.out]
      exact ⟨_, rfl, Hk, Hl, Hr⟩
  case rest =>
  obtain ⟨vn, evn, HKvn, HLvn, HMvn⟩ := hcut
  subst evn
  clear k0 k1 k2 k3 k4 k5 k6 k7 k8 k9 k10 k11 k12 k13 k14 k15 k16 k17 k18 k19 k20 k21 k22 k23
  have hqe : q = ⟨{ p.h with sr := t.sr, ds := t.ds }, { p.s with sp := sp2, dp := dp2 }, { p.u with sp := us2, dp := ud2 }, { p.m with rs := r3 }⟩ := by
    rw [← Hq.out]
    unfold topX
    rcases HQ.out.is_ with e | e | e
    · rw [if_pos e, (Hsd.out.1 e).1, (Hsd.out.1 e).2, (Hud.out.2 (by omega)).1, (Hud.out.2 (by omega)).2, (Hr3.out.2 (by omega)).1]
    · rw [if_neg (by omega), if_pos e, (Hsd.out.2 (by omega)).1, (Hsd.out.2 (by omega)).2, (Hud.out.1 e).1, (Hud.out.1 e).2, (Hr3.out.2 (by omega)).1]
    · have ew : withM p.m t.sp = { p.m with rs := r2 } := by rw [← Hr2.out]; unfold withM; split <;> rfl
      rw [if_neg (by omega), if_neg (by omega), ew, (Hsd.out.2 (by omega)).1, (Hsd.out.2 (by omega)).2, (Hud.out.2 (by omega)).1, (Hud.out.2 (by omega)).2, (Hr3.out.1 e).1]
  obtain ⟨b2, eb2⟩ : ∃ b2 : PkA, { a with AM := AX, cM := cX } = b2 := ⟨_, rfl⟩
  have HQX := Lib.hid (show vn.heap[z]? = some (.cells #[.int .u8 q.h.to, .int .u16 q.h.id, .bool q.h.df, .int .u8 q.h.tt, .int .u8 q.h.pr, .int .u32 q.h.sr, .int .u32 q.h.ds, .slice b2.AH b2.nH b2.cH, .int .u16 q.s.sp, .int .u16 q.s.dp, .int .u32 q.s.sq, .int .u32 q.s.ak, .int .u8 q.s.fl, .int .u16 q.s.wn, .int .u16 q.s.ug, .slice b2.AO b2.nO b2.cO, .slice b2.AD b2.nD b2.cD, .int .u16 q.u.sp, .int .u16 q.u.dp, .slice b2.AU b2.nU b2.cU, .int .u8 q.m.ty, .int .u8 q.m.cd, .int .u32 q.m.rs, .slice b2.AM b2.nM b2.cM] 35 (0, 0)) by rw [hqe, ← eb2]; exact HKvn.out)
  have HXR := Lib.hid (show PkRd vn q b2 by
    have h := topX_rd (HF.out _ HLvn.out).2.2.2.2.2.2.2.1 HQ.out.tn
    rw [Hq.out] at h
    rw [← eb2]
    refine ⟨h.hn, h.hc, h.hr, h.sr, h.un, h.uc, h.ur, h.mn, ?_, ?_⟩
    · show a.nM ≤ cX ∧ cX ≤ maxLen
      by_cases h1 : p.h.pr = 1
      · rw [(Hr3.out.1 h1).2.2]; exact HcW.out
      · rw [(Hr3.out.2 h1).2.2]; exact h.mc
    · show Rd vn AX a.nM q.m.d
      by_cases h1 : p.h.pr = 1
      · rw [(Hr3.out.1 h1).2.1, hqe]; exact HMvn.out
      · rw [(Hr3.out.2 h1).2.1]; exact h.mr)
  have Hn2 := Lib.hid (show b2.nO ≤ 140737488355328 ∧ b2.nD ≤ 140737488355328 by rw [← eb2]; exact ⟨HnO.out, HnD.out⟩)
  clear hqe eb2 HKvn HMvn HoffW HcW Hsd Hud Hr3 Hr2 HKvk HLvk HMvk HKvl HLvl HMvl HKvm HLvm HMvm
  try simp only []
  repeat (first | go_values | go_skip | ((fail_if_success (with_reducible refine wpList_row 35 (.tmp 19) rfl ?_ ?_ ?_ ?_ ?_ ?_ ?_ ?_ ?_ ?_ ?_ ?_)); (first | go_step | go_upon | go_back)))
  refine wpList_row 35 (.tmp 19) rfl ?hww z _ _ _ _ HQX.out rfl Tryz.underlying35 rfl (by kernel_rfl) ?_
  case hww => kernel_rfl
  (try simp only [Act.put, List.setIfInBounds_toArray, List.set_cons_zero, List.set_cons_succ])
  go_wp2_with fail
  refine (put9_own q b2 _ Dl m 0 HXR.out Hn2.out.1 Hn2.out.2 (by rw [← Hq.out]; exact HQ.out.ex) (by rw [← Hq.out]; exact HQ.out.xd) (HQ.out.dl.trans Hm.out)).mono ?_
  rintro e x1 ⟨A27, c27, rfl, hc27, ho27, hr27, hb27⟩
  have HLx1 := Lib.hid (below_trans HLvn.out hb27)
  have HQX := Lib.hid (blk_on HQX.out hb27)
  have HXR := Lib.hid (HXR.out.below hb27)
  have HD := Lib.hid hr27
  clear hc27 ho27 hr27 hb27 HLvn
  have hK3 := (HF.out _ HLx1.out).2.2.2.1
  have HK3 := Lib.hid hK3
  clear hK3
  go_upto_region 28 with (fail)
  try simp only []
  repeat (first | go_values | go_skip | ((fail_if_success (with_reducible refine wpList_row 35 (.tmp 15) rfl ?_ ?_ ?_ ?_ ?_ ?_ ?_ ?_ ?_ ?_ ?_ ?_)); (first | go_step | go_upon | go_back)))
  refine wpList_row 35 (.tmp 15) rfl ?hww z3 _ _ _ _ HK3.out rfl Tryz.underlying35 rfl (by kernel_rfl) ?_
  case hww => kernel_rfl
  (try simp only [Act.put, List.setIfInBounds_toArray, List.set_cons_zero, List.set_cons_succ])
  try simp only []
  repeat (first | go_values | go_skip | ((fail_if_success (with_reducible refine wpList_row 35 (.tmp 19) rfl ?_ ?_ ?_ ?_ ?_ ?_ ?_ ?_ ?_ ?_ ?_ ?_)); (first | go_step | go_upon | go_back)))
  refine wpList_row 35 (.tmp 19) rfl ?hww z _ _ _ _ HQX.out rfl Tryz.underlying35 rfl (by kernel_rfl) ?_
  case hww => kernel_rfl
  (try simp only [Act.put, List.setIfInBounds_toArray, List.set_cons_zero, List.set_cons_succ])
  go_wp2_with fail
  refine (same9_any q q b b2 _ true (HF.out _ HLx1.out).2.2.2.2.1 HXR.out (by have := HqO.out; omega) (pkSame_self q)).mono ?_
  rintro e x2 ⟨rfl, hb⟩
  have HLx2 := Lib.hid (below_trans HLx1.out hb)
  have HD := Lib.hid (HD.out.below hb)
  clear hb HXR HQX HK3 HLx1
  obtain ⟨f2, ef2⟩ : ∃ f2 : Int, f2 = 2 * (F : Int) := ⟨_, rfl⟩
  obtain ⟨h2, eh2⟩ : ∃ h2 : Int, h2 = 2 * (H : Int) := ⟨_, rfl⟩
  have Hf2 := Lib.hid ef2
  have HH := Lib.hid HQ.out.h30
  have Hh2 := Lib.hid (show B'.getD 0 0 % 16 * 4 = h2 by rw [eh2]; exact HQ.out.h0)
  have Hf2b := Lib.hid (show h2 + behQ p.h.pr = f2 by rw [eh2, ef2, HQ.out.fF]; exact behQ_is p.h.pr H HQ.out.is_)
  have HFb := Lib.hid (show 6 ≤ F ∧ F ≤ 1000 by rw [HQ.out.fF]; have := qF_five (pr := p.h.pr) HQ.out.h30.1; have := HQ.out.h30; exact ⟨by omega, by omega⟩)
  have Eh2 := Lib.hid eh2
  clear ef2 eh2
  obtain ⟨g8, o8, rfl, hl8, hcell8⟩ := (HF.out _ HLx2.out).2.2.2.2.2.2.1.at_ (by have := Hm28.out; omega)
  clear hl8 hcell8
  obtain ⟨v0, ev0⟩ : ∃ v, Cl.getD 0 0 = v := ⟨_, rfl⟩
  have hv0 : 0 ≤ v0 ∧ v0 < 256 := by rw [← ev0]; exact getD_byteQ HQ.out.bc 0
  have hh2 : v0 % 16 * 4 = h2 := by rw [← ev0, Eh2.out]; exact HQ.out.hc0
  have hand := and15I v0 hv0
  have hwv : wrap64 (v0 % 16) = v0 % 16 := IntWalk.wrap64_in _ (by omega)
  have hwh : wrap64 (4 * (v0 % 16)) = h2 := by rw [Int.mul_comm, hh2]; exact IntWalk.wrap64_in _ (by have := HH.out; have := Eh2.out; omega)
  have Hc0 := Lib.hid (show ∀ W, Below w12.heap.size w12 W → W.cell? ⟨g8, o8, none⟩ = some (.int .u8 v0) from fun W hW => by
    obtain ⟨g', o', e, _, hc⟩ := (HF.out W hW).2.2.2.2.2.2.1.at_ (by have := Hm28.out; omega)
    injection e with e
    injection e with e1 e2 _
    subst e1 e2
    have := hc 0 (by have := Hm28.out; omega)
    rw [ev0, Nat.add_zero] at this
    exact this)
  have hm0 : (0 : Int) < (m : Int) := by have := Hm28.out; omega
  have Hnat := Lib.hid (show (4 * (v0 % 16)).toNat = 2 * H by have := Eh2.out; omega)
  have Hv4 := Lib.hid (show 4 * (v0 % 16) = ((2 * H : Nat) : Int) by have := Eh2.out; omega)
  clear ev0 hv0 hh2
  go_wp2_with fail
  refine (place16_any A3 m c3 B' p.h.pr h2 f2 _ (HF.out _ HLx2.out).2.2.2.2.2.1 (by have := Hm28.out; omega) Hh2.out HQ.out.b9 HQ.out.is_ Hf2b.out).mono ?_
  rintro e x3 ⟨rfl, hb⟩
  have HLx3 := Lib.hid (below_trans HLx2.out hb)
  have HD := Lib.hid (HD.out.below hb)
  clear hb
  go_wp2_with fail
  refine (alike_any (some ⟨g8, o8, none⟩) A27 m c8 c27 F f2 Cl Dl _ (HF.out _ HLx3.out).2.2.2.2.2.2.1 HD.out Hm15.out HFb.out Hf2.out HQ.out.al).mono ?_
  rintro e x4 ⟨rfl, hb⟩
  have HLx4 := Lib.hid (below_trans HLx3.out hb)
  clear hb HD HLx2 HLx3
  obtain ⟨hsl, hrd⟩ := (HF.out _ HLx4.out).2.2.2.2.2.2.1.upto16 (c := c8) (2 * H) h2 (by have := Hm28.out; omega) (by have := HH.out; have := Hm.out; omega) Hc8.out.1 Hc8.out.2 (by rw [Eh2.out]; omega)
  obtain ⟨hsl2, -⟩ := (HF.out _ HLx4.out).2.2.2.2.2.2.1.upto16 (c := c8) (2 * H) (4 * (v0 % 16)) (by have := Hm28.out; omega) (by have := HH.out; have := Hm.out; omega) Hc8.out.1 Hc8.out.2 Hv4.out
  have Hrt := Lib.hid (right_told (some ⟨x4.heap.size, 0, none⟩) 1 1 [Cl.take (2 * H)] _ true (by omega) (RdL.one x4 _ rfl 24 (0, 0) (some ⟨g8, o8, none⟩) (2 * H) c8 (Cl.take (2 * H)) hrd (by have := HH.out; have := Hm.out; have := Hc8.out; omega) Hc8.out.2) (by simp [HQ.out.sr]))
  have kc := Hc0.out _ HLx4.out
  clear hrd
  go_wp2_with fail
  try rw [Hnat.out]
  refine Hrt.out.mono ?_
  rintro e x5 ⟨rfl, hb⟩
  have HLx5 := Lib.hid (below_trans HLx4.out (on_alloc hb))
  clear hb Hrt kc hsl hsl2 hand hwv hwh hm0 HLx4 Hv4 Hnat
  clear Hc0
  obtain ⟨j, hj⟩ : ∃ j : Nat, M % 1500 = j := ⟨_, rfl⟩
  have hjb : j < 1500 := by omega
  have hjm : Int.tmod (M : Int) 1500 = (j : Int) := by rw [Int.tmod_eq_emod_of_nonneg (by omega)]; omega
  have hjw : IntKind.u16.wrap (j : Int) = (j : Int) := by rw [wrap_u16]; omega
  have hj8 : IntKind.i64.wrap ((j : Int) + 8) = (j : Int) + 8 := IntWalk.i64_in _ (by omega)
  have hj8' : wrap64 ((j : Int) + 8) = (j : Int) + 8 := IntWalk.wrap64_in _ (by omega)
  have hj64 : wrap64 (j : Int) = (j : Int) := IntWalk.wrap64_in _ (by omega)
  go_upto_region 31 with (fail)
  try simp only [hjm, hjw, hj64, hj8, hj8']
  clear hjm hjw hj8 hj8' hj64 hj
  obtain ⟨N, eN⟩ : ∃ N : Nat, (j : Int) + 8 = (N : Int) := ⟨j + 8, by omega⟩
  rw [eN]
  have HN := Lib.hid (show 8 ≤ N ∧ N ≤ 1507 by omega)
  clear eN hjb
  obtain ⟨k, hT⟩ := HQ.out.quo N HN.out.1
  obtain ⟨la, ela⟩ : ∃ x, ofL B' (N : Int) = x := ⟨_, rfl⟩
  obtain ⟨lc, elc⟩ : ∃ x, ofL Cl (N : Int) = x := ⟨_, rfl⟩
  rw [ela, elc] at hT
  obtain ⟨r, er⟩ : ∃ x, rwR la t 0 = x := ⟨_, rfl⟩
  obtain ⟨y, ey⟩ : ∃ x, rwR lc s' 0 = x := ⟨_, rfl⟩
  obtain ⟨sq, esq⟩ : ∃ x, qS lc = x := ⟨_, rfl⟩
  have HT := Lib.hid hT
  have Hla := Lib.hid ela
  have Hlc := Lib.hid elc
  have Hr := Lib.hid er
  have Hy := Lib.hid ey
  have Hsq := Lib.hid esq
  clear hT ela elc er ey esq
  have HS5 := Lib.hid (fun W (hW : Below w12.heap.size w12 W) => row5 (HF.out W hW).2.2.1)
  refine wp_region_held_drew (S := fun w' => w'.cell? ⟨zb + 1, 0, none⟩ = some (.int .u8 t.pr) ∧ w'.cell? ⟨zb + 1, 1, none⟩ = some (.int .u32 t.sr) ∧ w'.cell? ⟨zb + 1, 2, none⟩ = some (.int .u32 t.ds) ∧ w'.cell? ⟨zb + 1, 3, none⟩ = some (.int .u16 t.sp) ∧ w'.cell? ⟨zb + 1, 4, none⟩ = some (.int .u16 t.dp)) (by kernel_rfl) (HS5.out _ (HLx5.out.drew)) (fun hHeld => ?_)
  obtain ⟨x6, ev⟩ : ∃ v, x5.drew = v := ⟨_, rfl⟩
  have HLy := Lib.hid (show Below w12.heap.size w12 x6 by rw [← ev]; exact HLx5.out.drew)
  rw [ev] at hHeld ⊢
  clear ev
  refine tk 0 ?_ rfl ?_ ?_
  rotate_left
  · intro w' hSw; (go_simp <;> (with_reducible rfl))
  try simp only [Act.put, putL]
  refine tk 1 ?_ rfl ?_ ?_
  rotate_left
  · intro w' hSw; (go_simp <;> (with_reducible rfl))
  try simp only [Act.put, putL]
  refine tk 3 ?_ rfl ?_ ?_
  rotate_left
  · intro w' hSw; (go_simp <;> (with_reducible rfl))
  try simp only [Act.put, putL]
  refine tkC 2 rfl (fun K hK => ?_)
  go_simp
  (refine (off16 A3 m c3 B' (N : Int) la k _ Hc3.out (by have := Hm15.out; omega) (HF.out _ HLy.out).2.2.2.2.2.1 (by have := HN.out; omega) Hla.out HT.out.ll1).mono ?_; rintro e y1 ⟨A31, c31, rfl, hc, hcm, ho, hb⟩; have HR31 := Lib.hid (ho.rd HT.out.ba); have Hc31 := Lib.hid (And.intro hc hcm); have HLy1 := Lib.hid (below_trans HLy.out hb); clear hc hcm ho hb)
  refine hK.out _ _ ?_ (fun hHeld => ?_)
  · exact HS5.out _ HLy1.out
  clear hK K
  try simp only [Act.put, putL]
  refine tkC 4 rfl (fun K hK => ?_)
  go_simp
  (refine (rwf16 A31 k c31 la t 0 _ r k 0 Hc31.out (by have := HT.out.m15; omega) HR31.out HQ.out.tn (by decide) Hr.out (by rw [← Hr.out]; exact HT.out.l1) HT.out.e1).mono ?_; rintro e y2 ⟨Ar, cr, rfl, ho, hb⟩; have HRr := Lib.hid (ho.rd (by rw [← Hr.out]; exact HT.out.b1)); have HLy2 := Lib.hid (below_trans HLy1.out hb); clear ho hb)
  refine hK.out _ _ ?_ (fun hHeld => ?_)
  · exact HS5.out _ HLy2.out
  clear hK K
  try simp only [Act.put, putL]
  refine tk 5 ?_ rfl ?_ ?_
  rotate_left
  · intro w' hSw; (go_simp <;> (with_reducible rfl))
  try simp only [Act.put, putL]
  refine tk 6 ?_ rfl ?_ ?_
  rotate_left
  · intro w' hSw; (go_simp <;> (with_reducible rfl))
  try simp only [Act.put, putL]
  refine tk 7 ?_ rfl ?_ ?_
  rotate_left
  · intro w' hSw; (go_simp <;> (with_reducible rfl))
  try simp only [Act.put, putL]
  refine tk 8 ?_ rfl ?_ ?_
  rotate_left
  · intro w' hSw; (go_simp <;> (with_reducible rfl))
  try simp only [Act.put, putL]
  refine tk 9 ?_ rfl ?_ ?_
  rotate_left
  · intro w' hSw; (go_simp <;> (with_reducible rfl))
  try simp only [Act.put, putL]
  refine wpAnyH_done (by kernel_rfl) ?_ _
  clear hHeld HS5 HR31 Hc31 HLy HLy1 HLx5
  go_wp2_with fail
  refine (off16 (some ⟨g8, o8, none⟩) m c8 Cl (N : Int) lc k _ Hc8.out (by have := Hm15.out; omega) (HF.out _ HLy2.out).2.2.2.2.2.2.1 (by have := HN.out; omega) Hlc.out HT.out.ll2).mono ?_
  rintro e x7 ⟨AC, cC, rfl, hc, hcm, ho, hb⟩
  have HLx7 := Lib.hid (below_trans HLy2.out hb)
  have HRr := Lib.hid (HRr.out.below hb)
  have HRc := Lib.hid (ho.rd HT.out.bc)
  have HcC := Lib.hid (And.intro hc hcm)
  clear hc hcm ho hb
  go_wp2_with fail
  refine (place16_any A3 m c3 B' p.h.pr h2 f2 _ (HF.out _ HLx7.out).2.2.2.2.2.1 (by have := Hm28.out; omega) Hh2.out HQ.out.b9 HQ.out.is_ Hf2b.out).mono ?_
  rintro e x8 ⟨rfl, hb⟩
  have HLx8 := Lib.hid (below_trans HLx7.out hb)
  have HRr := Lib.hid (HRr.out.below hb); have HRc := Lib.hid (HRc.out.below hb)
  clear hb
  go_wp2_with fail
  refine (alike_any Ar AC k cr cC F f2 r lc _ HRr.out HRc.out HT.out.m15 HFb.out Hf2.out (by have h := HT.out.a1; rw [Hr.out] at h; exact h)).mono ?_
  rintro e x9 ⟨rfl, hb⟩
  have HLx9 := Lib.hid (below_trans HLx8.out hb)
  clear hb HRr HRc HcC HLy2 HLx7 HLx8
  go_wp2_with fail
  refine (off16 (some ⟨g8, o8, none⟩) m c8 Cl (N : Int) lc k _ Hc8.out (by have := Hm15.out; omega) (HF.out _ HLx9.out).2.2.2.2.2.2.1 (by have := HN.out; omega) Hlc.out HT.out.ll2).mono ?_
  rintro e x10 ⟨AC, cC, rfl, hc, hcm, ho, hb⟩
  have HLx10 := Lib.hid (below_trans HLx9.out hb)
  skip
  have HRc := Lib.hid (ho.rd HT.out.bc)
  have HcC := Lib.hid (And.intro hc hcm)
  clear hc hcm ho hb
  go_wp2_with fail
  refine (readf AC k cC lc t sq 0 _ HcC.out (by have := HT.out.m15; omega) HRc.out HT.out.t2 Hsq.out HT.out.e2).mono ?_
  rintro e x11 ⟨rfl, hb⟩
  have HLx11 := Lib.hid (below_trans HLx10.out hb)
  clear hb HRc HcC HLx9 HLx10
  obtain ⟨z5, ez⟩ : ∃ z, x11.heap.size = z := ⟨_, rfl⟩
  obtain ⟨x12, ev⟩ : ∃ v, x11.alloc (.cells #[.int .u8 t.pr, .int .u32 t.sr, .int .u32 t.ds, .int .u16 t.sp, .int .u16 t.dp, .int .u32 sq] 54) = v := ⟨_, rfl⟩
  have hba : Below x11.heap.size x11 x12 := by rw [← ev]; exact (Below.refl _ _).alloc (Nat.le_refl _) _
  have HKz5 := Lib.hid (show x12.heap[z5]? = some (.cells #[.int .u8 t.pr, .int .u32 t.sr, .int .u32 t.ds, .int .u16 t.sp, .int .u16 t.dp, .int .u32 sq] 54 (0, 0)) by rw [← ev, ← ez]; exact heap_alloc_new x11 _)
  have Ev := Lib.hid ev
  have Ez := Lib.hid ez
  clear ev ez
  have HLx12 := Lib.hid (below_trans HLx11.out hba)
  clear hba HLx11
  go_upto_region 35 with (fail)
  rw [Ev.out]
  try rw [Ez.out]
  clear Ev Ez
  have HF := Lib.hid (fun W (hW : Below x12.heap.size x12 W) => HF.out W (below_trans HLx12.out hW))
  have HF5 := Lib.hid (fun W (hW : Below x12.heap.size x12 W) => blk_on HKz5.out hW)
  have HLx12 := Lib.hid (Below.refl x12.heap.size x12)
  have HS5 := Lib.hid (fun W (hW : Below x12.heap.size x12 W) => row5 (HF.out W hW).2.1)
  refine wp_region_held_drew (S := fun w' => w'.cell? ⟨z2, 0, none⟩ = some (.int .u8 s'.pr) ∧ w'.cell? ⟨z2, 1, none⟩ = some (.int .u32 s'.sr) ∧ w'.cell? ⟨z2, 2, none⟩ = some (.int .u32 s'.ds) ∧ w'.cell? ⟨z2, 3, none⟩ = some (.int .u16 s'.sp) ∧ w'.cell? ⟨z2, 4, none⟩ = some (.int .u16 s'.dp)) (by kernel_rfl) (HS5.out _ (HLx12.out.drew)) (fun hHeld => ?_)
  obtain ⟨x13, ev⟩ : ∃ v, x12.drew = v := ⟨_, rfl⟩
  have HLy := Lib.hid (show Below x12.heap.size x12 x13 by rw [← ev]; exact HLx12.out.drew)
  rw [ev] at hHeld ⊢
  clear ev
  refine tk 0 ?_ rfl ?_ ?_
  rotate_left
  · intro w' hSw; (go_simp <;> (with_reducible rfl))
  try simp only [Act.put, putL]
  refine tk 1 ?_ rfl ?_ ?_
  rotate_left
  · intro w' hSw; (go_simp <;> (with_reducible rfl))
  try simp only [Act.put, putL]
  refine tk 3 ?_ rfl ?_ ?_
  rotate_left
  · intro w' hSw; (go_simp <;> (with_reducible rfl))
  try simp only [Act.put, putL]
  refine tkC 2 rfl (fun K hK => ?_)
  go_simp
  (refine (off16 _ m c8 Cl (N : Int) lc k _ Hc8.out (by have := Hm15.out; omega) (HF.out _ HLy.out).2.2.2.2.2.2.1 (by have := HN.out; omega) Hlc.out HT.out.ll2).mono ?_; rintro e y1 ⟨A35, c35, rfl, hc, hcm, ho, hb⟩; have HR35 := Lib.hid (ho.rd HT.out.bc); have Hc35 := Lib.hid (And.intro hc hcm); have HLy1 := Lib.hid (below_trans HLy.out hb); clear hc hcm ho hb)
  refine hK.out _ _ ?_ (fun hHeld => ?_)
  · exact HS5.out _ HLy1.out
  clear hK K
  try simp only [Act.put, putL]
  refine tkC 4 rfl (fun K hK => ?_)
  go_simp
  (refine (rwf16 A35 k c35 lc s' 0 _ y k 0 Hc35.out (by have := HT.out.m15; omega) HR35.out HQ.out.wn (by decide) Hy.out (by rw [← Hy.out]; exact HT.out.l3) HT.out.e3).mono ?_; rintro e y2 ⟨Ay, cy, rfl, ho, hb⟩; have HRy := Lib.hid (ho.rd (by rw [← Hy.out]; exact HT.out.b3)); have Hcy := Lib.hid (show k ≤ cy ∧ cy ≤ maxLen from ⟨ho.cap, ho.capMax⟩); have HLy2 := Lib.hid (below_trans HLy1.out hb); clear ho hb)
  refine hK.out _ _ ?_ (fun hHeld => ?_)
  · exact HS5.out _ HLy2.out
  clear hK K
  try simp only [Act.put, putL]
  refine tk 5 ?_ rfl ?_ ?_
  rotate_left
  · intro w' hSw; (go_simp <;> (with_reducible rfl))
  try simp only [Act.put, putL]
  refine tk 6 ?_ rfl ?_ ?_
  rotate_left
  · intro w' hSw; (go_simp <;> (with_reducible rfl))
  try simp only [Act.put, putL]
  refine tk 7 ?_ rfl ?_ ?_
  rotate_left
  · intro w' hSw; (go_simp <;> (with_reducible rfl))
  try simp only [Act.put, putL]
  refine tk 8 ?_ rfl ?_ ?_
  rotate_left
  · intro w' hSw; (go_simp <;> (with_reducible rfl))
  try simp only [Act.put, putL]
  refine tk 9 ?_ rfl ?_ ?_
  rotate_left
  · intro w' hSw; (go_simp <;> (with_reducible rfl))
  try simp only [Act.put, putL]
  refine wpAnyH_done (by kernel_rfl) ?_ _
  clear hHeld HS5 HR35 Hc35 HLy HLy1 HLx12 HKz5
  obtain ⟨k0, k1, k2, k3, k4, k5⟩ := cells6 (HF5.out _ HLy2.out)
  obtain ⟨n0, n1, n2, n3, n4⟩ := row5 (HF.out _ HLy2.out).2.2.1
  have hneq := tu_neq t
  go_wp2_with fail
  refine (off16 A3 m c3 B' (N : Int) la k _ Hc3.out (by have := Hm15.out; omega) (HF.out _ HLy2.out).2.2.2.2.2.1 (by have := HN.out; omega) Hla.out HT.out.ll1).mono ?_
  rintro e x14 ⟨AC, cC, rfl, hc, hcm, ho, hb⟩
  have HLx14 := Lib.hid (below_trans HLy2.out hb)
  have HRy := Lib.hid (HRy.out.below hb)
  have HRc := Lib.hid (ho.rd HT.out.ba)
  clear hc hcm ho hb k0 k1 k2 k3 k4 k5 n0 n1 n2 n3 n4 hneq HF5 HLy2
  go_wp2_with fail
  refine (place16_any A3 m c3 B' p.h.pr h2 f2 _ (HF.out _ HLx14.out).2.2.2.2.2.1 (by have := Hm28.out; omega) Hh2.out HQ.out.b9 HQ.out.is_ Hf2b.out).mono ?_
  rintro e x15 ⟨rfl, hb⟩
  have HLx15 := Lib.hid (below_trans HLx14.out hb)
  have HRy := Lib.hid (HRy.out.below hb); have HRc := Lib.hid (HRc.out.below hb)
  clear hb
  go_wp2_with fail
  refine (alike_any Ay AC k cy cC F f2 y la _ HRy.out HRc.out HT.out.m15 HFb.out Hf2.out (by have h := HT.out.a3; rw [Hy.out] at h; exact h)).mono ?_
  rintro e x16 ⟨rfl, hb⟩
  have HLx16 := Lib.hid (below_trans HLx15.out hb)
  have HRy := Lib.hid (HRy.out.below hb)
  clear hb HRc HLx14 HLx15
  obtain ⟨k68, ek68⟩ : ∃ x, min k 68 = x := ⟨_, rfl⟩
  obtain ⟨d68, ed68⟩ : ∃ x, y.take k68 = x := ⟨_, rfl⟩
  have hyl : y.length = k := by have h := HT.out.l3; rw [Hy.out] at h; exact h
  have hyb : Bytes y := by have h := HT.out.b3; rw [Hy.out] at h; exact h
  have hd : y.take 68 = d68 := by
    rw [← ed68, ← ek68]
    rcases Nat.le_total k 68 with h | h
    · rw [Nat.min_eq_left h, List.take_of_length_le (by omega), List.take_of_length_le (by omega)]
    · rw [Nat.min_eq_right h]
  have hdl : d68.length = k68 := by rw [← ed68, List.length_take]; omega
  have Hdb := Lib.hid (show Bytes d68 from by rw [← ed68]; exact fun x hx => hyb x (List.mem_of_mem_take hx))
  have Hdq := Lib.hid (show errQ d68 = 0 ∧ qT d68 = s' ∧ 2 * H + 8 ≤ k68 by
    have h1 := HT.out.e4
    have h2 := HT.out.t4
    have h3 := HT.out.l4
    rw [Hy.out, hd] at h1 h2 h3
    rw [hdl] at h3
    exact ⟨h1, h2, h3⟩)
  have Hk68 := Lib.hid (show k68 ≤ 68 by omega)
  obtain ⟨sq2, esq2⟩ : ∃ x, qS d68 = x := ⟨_, rfl⟩
  have Hsq2 := Lib.hid esq2
  have Hek := Lib.hid ek68
  have Hed := Lib.hid ed68
  have Hdl := Lib.hid hdl
  clear ek68 ed68 hyl hyb hd hdl esq2
  go_wp2_with fail
  refine (over8_any Ay k cy y k68 _ HRy.out Hcy.out Hek.out).mono ?_
  rintro e x17 ⟨AO, cO, rfl, hc, hcm, ho, hb⟩
  rw [Hed.out] at ho
  have HLx17 := Lib.hid (below_trans HLx16.out hb)
  have HRo := Lib.hid (ho.rd Hdb.out)
  have HcO := Lib.hid (And.intro hc hcm)
  have Hnum := Lib.hid (show MsgNum ⟨11, 0, 0, d68⟩ from ⟨⟨by simp, by simp⟩, ⟨by simp, by simp⟩, ⟨by simp, by simp⟩⟩)
  obtain ⟨L, eL⟩ : ∃ x, msgB ⟨11, 0, 0, d68⟩ = x := ⟨_, rfl⟩
  obtain ⟨M8, eM8⟩ : ∃ x, L.length = x := ⟨_, rfl⟩
  have HEL := Lib.hid eL
  have HM8 := Lib.hid eM8
  clear hc hcm ho hb HRy Hcy Hek Hed HLx16 eL eM8
  go_wp2_with fail
  refine (put8_any ⟨11, 0, 0, d68⟩ AO k68 cO _ L M8 0 Hnum.out HcO.out HRo.out (by unfold errP; rw [if_neg (by have := Hdl.out; have := Hk68.out; simp only; omega)]) (by unfold toldM; rw [if_neg (by have := Hdl.out; have := Hk68.out; simp only; omega)]; exact HEL.out) HM8.out).mono ?_
  rintro e x18 ⟨AP, cP, rfl, hc, hcm, ho, hb⟩
  have HLx18 := Lib.hid (below_trans HLx17.out hb)
  have HRp := Lib.hid (ho.rd (by rw [← HEL.out]; exact msgB_by Hnum.out Hdb.out))
  have HcP := Lib.hid (And.intro hc hcm)
  clear hc hcm ho hb HRo HcO HLx17
  go_wp2_with fail
  refine (parse8_told AP M8 cP k68 L 11 0 0 d68 _ HcP.out HRp.out (by rw [← HEL.out]; exact err_msgB Hnum.out Hdb.out (by have := Hdl.out; have := Hk68.out; simp only; omega)) (by rw [← HEL.out]; exact msgOf_msgB Hnum.out) Hdl.out).mono ?_
  rintro e x19 ⟨AD, cD, rfl, hc, hcm, ho, hb⟩
  have HLx19 := Lib.hid (below_trans HLx18.out hb)
  have HRd := Lib.hid (ho.rd Hdb.out)
  have HcD := Lib.hid (And.intro hc hcm)
  clear hc hcm ho hb HRp HcP HLx18
  obtain ⟨z6, ez⟩ : ∃ z, x19.heap.size = z := ⟨_, rfl⟩
  obtain ⟨x20, ev⟩ : ∃ v, x19.alloc (.cells #[.int .u8 11, .int .u8 0, .int .u32 0, .slice AD k68 cD] 33) = v := ⟨_, rfl⟩
  have hba : Below x19.heap.size x19 x20 := by rw [← ev]; exact (Below.refl _ _).alloc (Nat.le_refl _) _
  have HKz6 := Lib.hid (show x20.heap[z6]? = some (.cells #[.int .u8 11, .int .u8 0, .int .u32 0, .slice AD k68 cD] 33 (0, 0)) by rw [← ev, ← ez]; exact heap_alloc_new x19 _)
  have Ev := Lib.hid ev
  have Ez := Lib.hid ez
  clear ev ez
  have HLx20 := Lib.hid (below_trans HLx19.out hba)
  have HRd := Lib.hid (HRd.out.below hba)
  clear hba HLx19
  go_upto_region 40 with (fail)
  rw [Ev.out]
  try rw [Ez.out]
  clear Ev Ez
  obtain ⟨e0, e1, e2, e3⟩ := cells4 HKz6.out
  go_wp2_with fail
  refine (readf AD k68 cD d68 s' sq2 0 _ HcD.out (by have := Hk68.out; omega) HRd.out Hdq.out.2.1 Hsq2.out Hdq.out.1).mono ?_
  rintro e x21 ⟨rfl, hb⟩
  have HLx21 := Lib.hid (below_trans HLx20.out hb)
  have HKz6 := Lib.hid (blk_on HKz6.out hb)
  clear hb HRd HcD HLx20 e0 e1 e2 e3
  obtain ⟨z7, ez⟩ : ∃ z, x21.heap.size = z := ⟨_, rfl⟩
  obtain ⟨x22, ev⟩ : ∃ v, x21.alloc (.cells #[.int .u8 s'.pr, .int .u32 s'.sr, .int .u32 s'.ds, .int .u16 s'.sp, .int .u16 s'.dp, .int .u32 sq2] 54) = v := ⟨_, rfl⟩
  have hba : Below x21.heap.size x21 x22 := by rw [← ev]; exact (Below.refl _ _).alloc (Nat.le_refl _) _
  have HKz7 := Lib.hid (show x22.heap[z7]? = some (.cells #[.int .u8 s'.pr, .int .u32 s'.sr, .int .u32 s'.ds, .int .u16 s'.sp, .int .u16 s'.dp, .int .u32 sq2] 54 (0, 0)) by rw [← ev, ← ez]; exact heap_alloc_new x21 _)
  have Ev := Lib.hid ev
  have Ez := Lib.hid ez
  clear ev ez
  have HLx22 := Lib.hid (below_trans HLx21.out hba)
  have HKz6 := Lib.hid (blk_on HKz6.out hba)
  clear hba HLx21
  go_upto_region 41 with (fail)
  rw [Ev.out]
  try rw [Ez.out]
  clear Ev Ez
  obtain ⟨e0, e1, e2, e3⟩ := cells4 HKz6.out
  obtain ⟨g3, o3, rfl, hl3, hcell3⟩ := (HF.out _ HLx22.out).2.2.2.2.2.1.at_ (by have := Hm28.out; omega)
  have kc3 := hcell3 0 (by have := Hm28.out; omega)
  obtain ⟨v3, ev3⟩ : ∃ v, B'.getD 0 0 = v := ⟨_, rfl⟩
  have hv3 : 0 ≤ v3 ∧ v3 < 256 := by rw [← ev3]; exact getD_byteQ HQ.out.bb 0
  have hh3 : v3 % 16 * 4 = h2 := by rw [← ev3]; exact Hh2.out
  rw [ev3, Nat.add_zero] at kc3
  have hand := and15I v3 hv3
  have hwv : wrap64 (v3 % 16) = v3 % 16 := IntWalk.wrap64_in _ (by omega)
  have hwh : wrap64 (4 * (v3 % 16)) = h2 := by rw [Int.mul_comm, hh3]; exact IntWalk.wrap64_in _ (by have := HH.out; have := Eh2.out; omega)
  have hw8 : wrap64 (h2 + 8) = h2 + 8 := IntWalk.wrap64_in _ (by have := HH.out; have := Eh2.out; omega)
  have hw8' : IntKind.i64.wrap (h2 + 8) = h2 + 8 := IntWalk.i64_in _ (by have := HH.out; have := Eh2.out; omega)
  have hw9 : wrap64 (4 * (v3 % 16) + 8) = h2 + 8 := by rw [Int.mul_comm, hh3]; exact hw8
  have hw9' : IntKind.i64.wrap (4 * (v3 % 16) + 8) = h2 + 8 := by rw [Int.mul_comm, hh3]; exact hw8'
  have dl3 : ¬ (k68 : Int) < 4 * (v3 % 16) + 8 := by have := Hdq.out.2.2; have := Eh2.out; omega
  have dl4 : decide ((k68 : Int) < 4 * (v3 % 16) + 8) = false := decide_eq_false dl3
  have dl1 : ¬ (k68 : Int) < h2 + 8 := by have := Hdq.out.2.2; have := Eh2.out; omega
  have dl2 : decide ((k68 : Int) < h2 + 8) = false := decide_eq_false dl1
  have hm0 : (0 : Int) < (m : Int) := by have := Hm28.out; omega
  clear hl3 hcell3 ev3 hv3 hh3
  go_quiet (fail)
  have hbq := belowNT (Below.refl x22.heap.size x22) nq
  have HLx23 := Lib.hid (below_trans HLx22.out hbq)
  clear kc3 hand hwv hwh hw8 hw8' hw9 hw9' dl1 dl2 dl3 dl4 hm0 e0 e1 e2 e3
  obtain ⟨s0, s1, s2, s3, s4⟩ := row5 (HF.out _ HLx23.out).2.1
  obtain ⟨k0, k1, k2, k3, k4, k5⟩ := cells6 (blk_on HKz7.out hbq)
  have heq := tu_eqq s'
  go_wp2_with fail
  go_ret
  exact ⟨rfl, (HF.out _ HLx23.out).2.2.2.2.2.2.2.2⟩
end Go.Proofs.YtoegfgbalcholaaGreat.topQuotesW
