/-
  The document's own answers for packets (culvertref09): Put, Own.
-/
import Derived.Test.YtkooehejdfaekaaGreatZP23
namespace Go.Proofs.YtkooehejdfaekaaGreat
set_option maxRecDepth 10000
open Go.RowKit
set_option linter.unusedSimpArgs false
set_option linter.unusedVariables false

theorem rput9_bad (p : Pk) (a : PkA) (w : World) (hp : PkRd w p a) (hn : a.nO ≤ 2000000) (hm : mayP p = false) :
    Calls Tryz.prog 7 #[.agg #[.int .u8 p.h.to, .int .u16 p.h.id, .bool p.h.df, .int .u8 p.h.tt, .int .u8 p.h.pr, .int .u32 p.h.sr, .int .u32 p.h.ds, .slice a.AH a.nH a.cH, .int .u16 p.s.sp, .int .u16 p.s.dp, .int .u32 p.s.sq, .int .u32 p.s.ak, .int .u8 p.s.fl, .int .u16 p.s.wn, .int .u16 p.s.ug, .slice a.AO a.nO a.cO, .slice a.AD a.nD a.cD, .int .u16 p.u.sp, .int .u16 p.u.dp, .slice a.AU a.nU a.cU, .int .u8 p.m.ty, .int .u8 p.m.cd, .int .u32 p.m.rs, .slice a.AM a.nM a.cM]] w (PutGot [] 0 1 w) := by
  obtain ⟨z, hz⟩ : ∃ z, w.heap.size = z := ⟨_, rfl⟩
  obtain ⟨w0, ew⟩ : ∃ w0, w.alloc (.cells #[.int .u8 p.h.to, .int .u16 p.h.id, .bool p.h.df, .int .u8 p.h.tt, .int .u8 p.h.pr, .int .u32 p.h.sr, .int .u32 p.h.ds, .slice a.AH a.nH a.cH, .int .u16 p.s.sp, .int .u16 p.s.dp, .int .u32 p.s.sq, .int .u32 p.s.ak, .int .u8 p.s.fl, .int .u16 p.s.wn, .int .u16 p.s.ug, .slice a.AO a.nO a.cO, .slice a.AD a.nD a.cD, .int .u16 p.u.sp, .int .u16 p.u.dp, .slice a.AU a.nU a.cU, .int .u8 p.m.ty, .int .u8 p.m.cd, .int .u32 p.m.rs, .slice a.AM a.nM a.cM] 35) = w0 := ⟨_, rfl⟩
  have hb0 : Below w.heap.size w w0 := by rw [← ew]; exact (Below.refl _ _).alloc (Nat.le_refl _) _
  have hk0 : w0.heap[z]? = some (.cells #[.int .u8 p.h.to, .int .u16 p.h.id, .bool p.h.df, .int .u8 p.h.tt, .int .u8 p.h.pr, .int .u32 p.h.sr, .int .u32 p.h.ds, .slice a.AH a.nH a.cH, .int .u16 p.s.sp, .int .u16 p.s.dp, .int .u32 p.s.sq, .int .u32 p.s.ak, .int .u8 p.s.fl, .int .u16 p.s.wn, .int .u16 p.s.ug, .slice a.AO a.nO a.cO, .slice a.AD a.nD a.cD, .int .u16 p.u.sp, .int .u16 p.u.dp, .slice a.AU a.nU a.cU, .int .u8 p.m.ty, .int .u8 p.m.cd, .int .u32 p.m.rs, .slice a.AM a.nM a.cM] 35 (0, 0)) := by rw [← ew, ← hz]; exact heap_alloc_new w _
  have HK := Lib.hid (show ∀ w', Below w0.heap.size w0 w' → w'.heap[z]? = some (.cells #[.int .u8 p.h.to, .int .u16 p.h.id, .bool p.h.df, .int .u8 p.h.tt, .int .u8 p.h.pr, .int .u32 p.h.sr, .int .u32 p.h.ds, .slice a.AH a.nH a.cH, .int .u16 p.s.sp, .int .u16 p.s.dp, .int .u32 p.s.sq, .int .u32 p.s.ak, .int .u8 p.s.fl, .int .u16 p.s.wn, .int .u16 p.s.ug, .slice a.AO a.nO a.cO, .slice a.AD a.nD a.cD, .int .u16 p.u.sp, .int .u16 p.u.dp, .slice a.AU a.nU a.cU, .int .u8 p.m.ty, .int .u8 p.m.cd, .int .u32 p.m.rs, .slice a.AM a.nM a.cM] 35 (0, 0)) ∧ PkRd w' p a from fun w' hb => ⟨blk_on hk0 hb, (hp.below hb0).below hb⟩)
  have Hb0 := Lib.hid hb0
  have Ew := Lib.hid ew
  have Hz := Lib.hid hz
  have Hmay := Lib.hid (rmay9_any p a w0 false (hp.below hb0) hn hm)
  have HA := Lib.hid hk0
  clear hz ew hb0 hk0 hp hn hm
  go_enter Tryz.func7, Tryz.ntmps7
  go_upto_region 1 with (fail)
  rw [Ew.out]
  try rw [Hz.out]
  repeat (first | (refine wp_load_row 35 (.tmp 1) rfl z _ _ _ _ HA.out rfl Tryz.underlying35 rfl (by kernel_rfl) ?_; simp only [Act.put, List.setIfInBounds_toArray, List.set_cons_zero, List.set_cons_succ]) | go_values | go_skip | go_guarded | go_step | go_upon | go_back)
  refine Hmay.out.mono ?_
  rintro e w1 ⟨rfl, hb1⟩
  have Hb := Lib.hid hb1
  clear hb1 Hmay HA
  go_wp2_with fail
  go_ret2
  exact PutGot.none_ rfl (below_trans Hb0.out Hb.out)
theorem hdB_bytes {h : Hd} {A A' : Option Addr} {n n' : Nat} {p : List Int} {w w' : World} (hn : HdNum h) (h40 : n ≤ 40) (hr : Rd w A n h.o) (hr' : Rd w' A' n' p) (hl : 20 + n + n' ≤ 1500) : ∀ x ∈ hdB h p, 0 ≤ x ∧ x < 256 := by
  have e1 := hr.len
  have e2 := hr'.len
  have hf := fieldL_bd h.to h.id h.df h.tt h.pr h.sr h.ds h.o (20 + h.o.length + p.length)
  unfold hdB packetL
  refine ((Bytes.app (Bytes.app (aheadL_bytes hn.to hn.id hn.tt hn.pr (by omega) (by omega)) (b16_bytes hf)) (behindL_bytes hn.sr hn.ds hr.byte)).app hr'.byte)
set_option maxHeartbeats 2000000 in
theorem rput9_6 (p : Pk) (a : PkA) (w : World) (L : List Int) (m : Nat) (x : Int) (hp : PkRd w p a) (hn : a.nO ≤ 2000000) (hnD : a.nD ≤ 140737488355328) (hnU : a.nU ≤ 140737488355328) (hm : mayP p = true) (h6 : p.h.pr = 6) (hx : errPk p = x) (hL : pkB p = L) (hlm : L.length = m) :
    Calls Tryz.prog 7 #[.agg #[.int .u8 p.h.to, .int .u16 p.h.id, .bool p.h.df, .int .u8 p.h.tt, .int .u8 p.h.pr, .int .u32 p.h.sr, .int .u32 p.h.ds, .slice a.AH a.nH a.cH, .int .u16 p.s.sp, .int .u16 p.s.dp, .int .u32 p.s.sq, .int .u32 p.s.ak, .int .u8 p.s.fl, .int .u16 p.s.wn, .int .u16 p.s.ug, .slice a.AO a.nO a.cO, .slice a.AD a.nD a.cD, .int .u16 p.u.sp, .int .u16 p.u.dp, .slice a.AU a.nU a.cU, .int .u8 p.m.ty, .int .u8 p.m.cd, .int .u32 p.m.rs, .slice a.AM a.nM a.cM]] w (PutGot L m x w) := by
  have h6b : (p.h.pr == 6) = true := by rw [h6]; rfl
  have h17b : (p.h.pr == 17) = false := by rw [h6]; rfl
  have h1b : (p.h.pr == 1) = false := by rw [h6]; rfl
  have hmayB : mayB p.h.tt a.nH = true := by
    have h := hm
    unfold mayP at h
    simp only [Bool.and_eq_true] at h
    rw [← hp.hr.len]
    exact h.2.1
  have hn40 : a.nH ≤ 40 := by have := hmayB; unfold mayB at this; simp at this; omega
  obtain ⟨P, eP⟩ : ∃ P, loadB p = P := ⟨_, rfl⟩
  obtain ⟨k, ek⟩ : ∃ k, P.length = k := ⟨_, rfl⟩
  obtain ⟨y, ey⟩ : ∃ y, errLoad p = y := ⟨_, rfl⟩
  have hol := hp.hr.len
  unfold pkB at hL
  unfold errPk at hx hL
  rw [if_pos hm, ey, eP, ek, hol] at hx hL
  have hey : errS p.s = y := by rw [← ey]; unfold errLoad; simp [h6]
  have heP : toldB p.h.sr p.h.ds p.s = P := by rw [← eP]; unfold loadB; simp [h6]
  have hkb : k ≤ 140737488355328 := by rw [← ek, ← heP]; (unfold toldB; split; rw [segB_len]; have := (errS_zero p.s).1 (by assumption); unfold mayT at this; simp at this; omega; simp)
  have Hx := Lib.hid hx
  have HL := Lib.hid hL
  have Hlm := Lib.hid hlm
  have HmB := Lib.hid hmayB
  have Hn := Lib.hid hn
  have HD := Lib.hid hnD
  have HU := Lib.hid hnU
  have Ey := Lib.hid hey
  have EP := Lib.hid heP
  have Ek := Lib.hid ek
  clear hx hL hlm hmayB h6 hey heP ek ey eP hnD hnU hol
  obtain ⟨z, hz⟩ : ∃ z, w.heap.size = z := ⟨_, rfl⟩
  obtain ⟨w0, ew⟩ : ∃ w0, w.alloc (.cells #[.int .u8 p.h.to, .int .u16 p.h.id, .bool p.h.df, .int .u8 p.h.tt, .int .u8 p.h.pr, .int .u32 p.h.sr, .int .u32 p.h.ds, .slice a.AH a.nH a.cH, .int .u16 p.s.sp, .int .u16 p.s.dp, .int .u32 p.s.sq, .int .u32 p.s.ak, .int .u8 p.s.fl, .int .u16 p.s.wn, .int .u16 p.s.ug, .slice a.AO a.nO a.cO, .slice a.AD a.nD a.cD, .int .u16 p.u.sp, .int .u16 p.u.dp, .slice a.AU a.nU a.cU, .int .u8 p.m.ty, .int .u8 p.m.cd, .int .u32 p.m.rs, .slice a.AM a.nM a.cM] 35) = w0 := ⟨_, rfl⟩
  have hb0 : Below w.heap.size w w0 := by rw [← ew]; exact (Below.refl _ _).alloc (Nat.le_refl _) _
  have hk0 : w0.heap[z]? = some (.cells #[.int .u8 p.h.to, .int .u16 p.h.id, .bool p.h.df, .int .u8 p.h.tt, .int .u8 p.h.pr, .int .u32 p.h.sr, .int .u32 p.h.ds, .slice a.AH a.nH a.cH, .int .u16 p.s.sp, .int .u16 p.s.dp, .int .u32 p.s.sq, .int .u32 p.s.ak, .int .u8 p.s.fl, .int .u16 p.s.wn, .int .u16 p.s.ug, .slice a.AO a.nO a.cO, .slice a.AD a.nD a.cD, .int .u16 p.u.sp, .int .u16 p.u.dp, .slice a.AU a.nU a.cU, .int .u8 p.m.ty, .int .u8 p.m.cd, .int .u32 p.m.rs, .slice a.AM a.nM a.cM] 35 (0, 0)) := by rw [← ew, ← hz]; exact heap_alloc_new w _
  have HK := Lib.hid (show ∀ w', Below w0.heap.size w0 w' → w'.heap[z]? = some (.cells #[.int .u8 p.h.to, .int .u16 p.h.id, .bool p.h.df, .int .u8 p.h.tt, .int .u8 p.h.pr, .int .u32 p.h.sr, .int .u32 p.h.ds, .slice a.AH a.nH a.cH, .int .u16 p.s.sp, .int .u16 p.s.dp, .int .u32 p.s.sq, .int .u32 p.s.ak, .int .u8 p.s.fl, .int .u16 p.s.wn, .int .u16 p.s.ug, .slice a.AO a.nO a.cO, .slice a.AD a.nD a.cD, .int .u16 p.u.sp, .int .u16 p.u.dp, .slice a.AU a.nU a.cU, .int .u8 p.m.ty, .int .u8 p.m.cd, .int .u32 p.m.rs, .slice a.AM a.nM a.cM] 35 (0, 0)) ∧ PkRd w' p a from fun w' hb => ⟨blk_on hk0 hb, (hp.below hb0).below hb⟩)
  have Hb0 := Lib.hid hb0
  have Ew := Lib.hid ew
  have Hz := Lib.hid hz
  have Hmay := Lib.hid (rmay9_any p a w0 true (hp.below hb0) hn hm)
  have HA := Lib.hid hk0
  clear hz ew hb0 hk0 hp hn hm
  go_enter Tryz.func7, Tryz.ntmps7
  go_upto_region 1 with (fail)
  rw [Ew.out]
  try rw [Hz.out]
  repeat (first | (refine wp_load_row 35 (.tmp 1) rfl z _ _ _ _ HA.out rfl Tryz.underlying35 rfl (by kernel_rfl) ?_; simp only [Act.put, List.setIfInBounds_toArray, List.set_cons_zero, List.set_cons_succ]) | go_values | go_skip | go_guarded | go_step | go_upon | go_back)
  refine Hmay.out.mono ?_
  rintro e w1 ⟨rfl, hb1⟩
  have Hb := Lib.hid hb1
  clear hb1 Hmay HA
  obtain ⟨k0, k1, k2, k3, k4, k5, k6, k7, k8, k9, k10, k11, k12, k13, k14, k15, k16, k17, k18, k19, k20, k21, k22, k23⟩ := cells24 (HK.out _ Hb.out).1
  go_wp2_with fail
  have HP := Lib.hid (HK.out _ Hb.out).2
  refine (rput6_got p.h.sr p.h.ds p.s a.AO a.nO a.cO a.os a.AD a.nD a.cD _ P k y Hn.out HD.out HP.out.sr Ey.out EP.out Ek.out).mono ?_
  rintro e w2 ⟨A2, c2, rfl, hc2, hr2, hb2⟩
  have Hc2 := Lib.hid hc2
  have Hr2 := Lib.hid hr2
  have Hb := Lib.hid (below_trans Hb.out hb2)
  clear hc2 hr2 hb2
  clear k0 k1 k2 k3 k4 k5 k6 k7 k8 k9 k10 k11 k12 k13 k14 k15 k16 k17 k18 k19 k20 k21 k22 k23
  by_cases h0 : y = 0
  case neg =>
    have h0b : (y != 0) = true := by simpa using h0
    have Hx2 := Lib.hid (show y = x by have := Hx.out; rw [if_neg h0] at this; exact this)
    have HL2 := Lib.hid (show [] = L by have := HL.out; rw [if_neg h0, if_neg h0] at this; exact this)
    clear h0
    go_wp2_with fail
    go_ret2
    have hl := HL2.out
    have hx2 := Hx2.out
    have hlm := Hlm.out
    subst hl; subst hx2; subst hlm
    exact PutGot.none_ rfl (below_trans Hb0.out Hb.out)
  subst h0
  obtain ⟨k0, k1, k2, k3, k4, k5, k6, k7, k8, k9, k10, k11, k12, k13, k14, k15, k16, k17, k18, k19, k20, k21, k22, k23⟩ := cells24 (HK.out _ Hb.out).1
  go_wp2_with fail
  clear k0 k1 k2 k3 k4 k5 k6 k7 k8 k9 k10 k11 k12 k13 k14 k15 k16 k17 k18 k19 k20 k21 k22 k23
  have HP := Lib.hid (HK.out _ Hb.out).2
  have hx0 := Hx.out
  have hL0 := HL.out
  have hlm := Hlm.out
  simp only [reduceIte] at hx0 hL0
  by_cases hlg : 1500 < 20 + a.nH + k
  · rw [if_pos hlg] at hx0 hL0
    rw [if_neg (by decide)] at hL0
    subst hx0; subst hL0; subst hlm
    refine (rput4_long p.h a.AH A2 a.nH a.cH k c2 _ HP.out.hn.tt.1 HmB.out hn40 hkb hlg).mono ?_
    rintro e w3 ⟨rfl, hb3⟩
    have Hb := Lib.hid (below_trans Hb.out hb3)
    clear hb3
    go_wp2_with fail
    go_ret2
    exact PutGot.none_ rfl (below_trans Hb0.out Hb.out)
  · rw [if_neg hlg] at hx0 hL0
    rw [if_pos rfl] at hL0
    subst hx0
    have hbb := hdB_bytes HP.out.hn hn40 HP.out.hr Hr2.out (by omega)
    have hlen : (hdB p.h P).length = 20 + a.nH + k := by unfold hdB; rw [packetL_len, HP.out.hr.len, Ek.out]
    rw [hL0] at hbb hlen
    have hmk : 20 + a.nH + k = m := by rw [← hlen]; exact hlm
    have Hbb := Lib.hid hbb
    have Hmk := Lib.hid hmk
    have HL0 := Lib.hid hL0
    clear hlm hbb hlen hmk hL0
    refine (rput4_ok p.h a.AH A2 a.nH a.cH k c2 P _ HP.out.hn HmB.out HP.out.hc Hc2.out HP.out.hr Hr2.out (by omega)).mono ?_
    rintro e w3 ⟨A3, c3, rfl, h31, h32, ho3, hb3⟩
    rw [HL0.out] at ho3
    have Hb := Lib.hid (below_trans Hb.out hb3)
    have Ho3 := Lib.hid (ho3.rd Hbb.out)
    clear hb3 ho3
    go_wp2_with fail
    go_ret2
    have hmk := Hmk.out
    subst hmk
    exact ⟨A3, c3, rfl, ⟨h31, h32⟩, Ho3.out, below_trans Hb0.out Hb.out⟩
set_option maxHeartbeats 2000000 in
theorem rput9_17 (p : Pk) (a : PkA) (w : World) (L : List Int) (m : Nat) (x : Int) (hp : PkRd w p a) (hn : a.nO ≤ 2000000) (hnD : a.nD ≤ 140737488355328) (hnU : a.nU ≤ 140737488355328) (hm : mayP p = true) (h6 : p.h.pr = 17) (hx : errPk p = x) (hL : pkB p = L) (hlm : L.length = m) :
    Calls Tryz.prog 7 #[.agg #[.int .u8 p.h.to, .int .u16 p.h.id, .bool p.h.df, .int .u8 p.h.tt, .int .u8 p.h.pr, .int .u32 p.h.sr, .int .u32 p.h.ds, .slice a.AH a.nH a.cH, .int .u16 p.s.sp, .int .u16 p.s.dp, .int .u32 p.s.sq, .int .u32 p.s.ak, .int .u8 p.s.fl, .int .u16 p.s.wn, .int .u16 p.s.ug, .slice a.AO a.nO a.cO, .slice a.AD a.nD a.cD, .int .u16 p.u.sp, .int .u16 p.u.dp, .slice a.AU a.nU a.cU, .int .u8 p.m.ty, .int .u8 p.m.cd, .int .u32 p.m.rs, .slice a.AM a.nM a.cM]] w (PutGot L m x w) := by
  have h6b : (p.h.pr == 6) = false := by rw [h6]; rfl
  have h17b : (p.h.pr == 17) = true := by rw [h6]; rfl
  have h1b : (p.h.pr == 1) = false := by rw [h6]; rfl
  have hmayB : mayB p.h.tt a.nH = true := by
    have h := hm
    unfold mayP at h
    simp only [Bool.and_eq_true] at h
    rw [← hp.hr.len]
    exact h.2.1
  have hn40 : a.nH ≤ 40 := by have := hmayB; unfold mayB at this; simp at this; omega
  obtain ⟨P, eP⟩ : ∃ P, loadB p = P := ⟨_, rfl⟩
  obtain ⟨k, ek⟩ : ∃ k, P.length = k := ⟨_, rfl⟩
  obtain ⟨y, ey⟩ : ∃ y, errLoad p = y := ⟨_, rfl⟩
  have hol := hp.hr.len
  unfold pkB at hL
  unfold errPk at hx hL
  rw [if_pos hm, ey, eP, ek, hol] at hx hL
  have hey : errUP p.u = y := by rw [← ey]; unfold errLoad; simp [h6]
  have heP : toldU p.h.sr p.h.ds p.u = P := by rw [← eP]; unfold loadB; simp [h6]
  have hkb : k ≤ 140737488355328 := by rw [← ek, ← heP]; (unfold toldU; split; simp; rw [dgB_len]; omega)
  have Hx := Lib.hid hx
  have HL := Lib.hid hL
  have Hlm := Lib.hid hlm
  have HmB := Lib.hid hmayB
  have Hn := Lib.hid hn
  have HD := Lib.hid hnD
  have HU := Lib.hid hnU
  have Ey := Lib.hid hey
  have EP := Lib.hid heP
  have Ek := Lib.hid ek
  clear hx hL hlm hmayB h6 hey heP ek ey eP hnD hnU hol
  obtain ⟨z, hz⟩ : ∃ z, w.heap.size = z := ⟨_, rfl⟩
  obtain ⟨w0, ew⟩ : ∃ w0, w.alloc (.cells #[.int .u8 p.h.to, .int .u16 p.h.id, .bool p.h.df, .int .u8 p.h.tt, .int .u8 p.h.pr, .int .u32 p.h.sr, .int .u32 p.h.ds, .slice a.AH a.nH a.cH, .int .u16 p.s.sp, .int .u16 p.s.dp, .int .u32 p.s.sq, .int .u32 p.s.ak, .int .u8 p.s.fl, .int .u16 p.s.wn, .int .u16 p.s.ug, .slice a.AO a.nO a.cO, .slice a.AD a.nD a.cD, .int .u16 p.u.sp, .int .u16 p.u.dp, .slice a.AU a.nU a.cU, .int .u8 p.m.ty, .int .u8 p.m.cd, .int .u32 p.m.rs, .slice a.AM a.nM a.cM] 35) = w0 := ⟨_, rfl⟩
  have hb0 : Below w.heap.size w w0 := by rw [← ew]; exact (Below.refl _ _).alloc (Nat.le_refl _) _
  have hk0 : w0.heap[z]? = some (.cells #[.int .u8 p.h.to, .int .u16 p.h.id, .bool p.h.df, .int .u8 p.h.tt, .int .u8 p.h.pr, .int .u32 p.h.sr, .int .u32 p.h.ds, .slice a.AH a.nH a.cH, .int .u16 p.s.sp, .int .u16 p.s.dp, .int .u32 p.s.sq, .int .u32 p.s.ak, .int .u8 p.s.fl, .int .u16 p.s.wn, .int .u16 p.s.ug, .slice a.AO a.nO a.cO, .slice a.AD a.nD a.cD, .int .u16 p.u.sp, .int .u16 p.u.dp, .slice a.AU a.nU a.cU, .int .u8 p.m.ty, .int .u8 p.m.cd, .int .u32 p.m.rs, .slice a.AM a.nM a.cM] 35 (0, 0)) := by rw [← ew, ← hz]; exact heap_alloc_new w _
  have HK := Lib.hid (show ∀ w', Below w0.heap.size w0 w' → w'.heap[z]? = some (.cells #[.int .u8 p.h.to, .int .u16 p.h.id, .bool p.h.df, .int .u8 p.h.tt, .int .u8 p.h.pr, .int .u32 p.h.sr, .int .u32 p.h.ds, .slice a.AH a.nH a.cH, .int .u16 p.s.sp, .int .u16 p.s.dp, .int .u32 p.s.sq, .int .u32 p.s.ak, .int .u8 p.s.fl, .int .u16 p.s.wn, .int .u16 p.s.ug, .slice a.AO a.nO a.cO, .slice a.AD a.nD a.cD, .int .u16 p.u.sp, .int .u16 p.u.dp, .slice a.AU a.nU a.cU, .int .u8 p.m.ty, .int .u8 p.m.cd, .int .u32 p.m.rs, .slice a.AM a.nM a.cM] 35 (0, 0)) ∧ PkRd w' p a from fun w' hb => ⟨blk_on hk0 hb, (hp.below hb0).below hb⟩)
  have Hb0 := Lib.hid hb0
  have Ew := Lib.hid ew
  have Hz := Lib.hid hz
  have Hmay := Lib.hid (rmay9_any p a w0 true (hp.below hb0) hn hm)
  have HA := Lib.hid hk0
  clear hz ew hb0 hk0 hp hn hm
  go_enter Tryz.func7, Tryz.ntmps7
  go_upto_region 1 with (fail)
  rw [Ew.out]
  try rw [Hz.out]
  repeat (first | (refine wp_load_row 35 (.tmp 1) rfl z _ _ _ _ HA.out rfl Tryz.underlying35 rfl (by kernel_rfl) ?_; simp only [Act.put, List.setIfInBounds_toArray, List.set_cons_zero, List.set_cons_succ]) | go_values | go_skip | go_guarded | go_step | go_upon | go_back)
  refine Hmay.out.mono ?_
  rintro e w1 ⟨rfl, hb1⟩
  have Hb := Lib.hid hb1
  clear hb1 Hmay HA
  obtain ⟨k0, k1, k2, k3, k4, k5, k6, k7, k8, k9, k10, k11, k12, k13, k14, k15, k16, k17, k18, k19, k20, k21, k22, k23⟩ := cells24 (HK.out _ Hb.out).1
  go_wp2_with fail
  have HP := Lib.hid (HK.out _ Hb.out).2
  refine (rput7_got p.h.sr p.h.ds p.u a.AU a.nU a.cU _ P k y HP.out.un HU.out HP.out.ur Ey.out EP.out Ek.out).mono ?_
  rintro e w2 ⟨A2, c2, rfl, hc2, hr2, hb2⟩
  have Hc2 := Lib.hid hc2
  have Hr2 := Lib.hid hr2
  have Hb := Lib.hid (below_trans Hb.out hb2)
  clear hc2 hr2 hb2
  clear k0 k1 k2 k3 k4 k5 k6 k7 k8 k9 k10 k11 k12 k13 k14 k15 k16 k17 k18 k19 k20 k21 k22 k23
  by_cases h0 : y = 0
  case neg =>
    have h0b : (y != 0) = true := by simpa using h0
    have Hx2 := Lib.hid (show y = x by have := Hx.out; rw [if_neg h0] at this; exact this)
    have HL2 := Lib.hid (show [] = L by have := HL.out; rw [if_neg h0, if_neg h0] at this; exact this)
    clear h0
    go_wp2_with fail
    go_ret2
    have hl := HL2.out
    have hx2 := Hx2.out
    have hlm := Hlm.out
    subst hl; subst hx2; subst hlm
    exact PutGot.none_ rfl (below_trans Hb0.out Hb.out)
  subst h0
  obtain ⟨k0, k1, k2, k3, k4, k5, k6, k7, k8, k9, k10, k11, k12, k13, k14, k15, k16, k17, k18, k19, k20, k21, k22, k23⟩ := cells24 (HK.out _ Hb.out).1
  go_wp2_with fail
  clear k0 k1 k2 k3 k4 k5 k6 k7 k8 k9 k10 k11 k12 k13 k14 k15 k16 k17 k18 k19 k20 k21 k22 k23
  have HP := Lib.hid (HK.out _ Hb.out).2
  have hx0 := Hx.out
  have hL0 := HL.out
  have hlm := Hlm.out
  simp only [reduceIte] at hx0 hL0
  by_cases hlg : 1500 < 20 + a.nH + k
  · rw [if_pos hlg] at hx0 hL0
    rw [if_neg (by decide)] at hL0
    subst hx0; subst hL0; subst hlm
    refine (rput4_long p.h a.AH A2 a.nH a.cH k c2 _ HP.out.hn.tt.1 HmB.out hn40 hkb hlg).mono ?_
    rintro e w3 ⟨rfl, hb3⟩
    have Hb := Lib.hid (below_trans Hb.out hb3)
    clear hb3
    go_wp2_with fail
    go_ret2
    exact PutGot.none_ rfl (below_trans Hb0.out Hb.out)
  · rw [if_neg hlg] at hx0 hL0
    rw [if_pos rfl] at hL0
    subst hx0
    have hbb := hdB_bytes HP.out.hn hn40 HP.out.hr Hr2.out (by omega)
    have hlen : (hdB p.h P).length = 20 + a.nH + k := by unfold hdB; rw [packetL_len, HP.out.hr.len, Ek.out]
    rw [hL0] at hbb hlen
    have hmk : 20 + a.nH + k = m := by rw [← hlen]; exact hlm
    have Hbb := Lib.hid hbb
    have Hmk := Lib.hid hmk
    have HL0 := Lib.hid hL0
    clear hlm hbb hlen hmk hL0
    refine (rput4_ok p.h a.AH A2 a.nH a.cH k c2 P _ HP.out.hn HmB.out HP.out.hc Hc2.out HP.out.hr Hr2.out (by omega)).mono ?_
    rintro e w3 ⟨A3, c3, rfl, h31, h32, ho3, hb3⟩
    rw [HL0.out] at ho3
    have Hb := Lib.hid (below_trans Hb.out hb3)
    have Ho3 := Lib.hid (ho3.rd Hbb.out)
    clear hb3 ho3
    go_wp2_with fail
    go_ret2
    have hmk := Hmk.out
    subst hmk
    exact ⟨A3, c3, rfl, ⟨h31, h32⟩, Ho3.out, below_trans Hb0.out Hb.out⟩
set_option maxHeartbeats 2000000 in
theorem rput9_1 (p : Pk) (a : PkA) (w : World) (L : List Int) (m : Nat) (x : Int) (hp : PkRd w p a) (hn : a.nO ≤ 2000000) (hnD : a.nD ≤ 140737488355328) (hnU : a.nU ≤ 140737488355328) (hm : mayP p = true) (h6 : p.h.pr = 1) (hx : errPk p = x) (hL : pkB p = L) (hlm : L.length = m) :
    Calls Tryz.prog 7 #[.agg #[.int .u8 p.h.to, .int .u16 p.h.id, .bool p.h.df, .int .u8 p.h.tt, .int .u8 p.h.pr, .int .u32 p.h.sr, .int .u32 p.h.ds, .slice a.AH a.nH a.cH, .int .u16 p.s.sp, .int .u16 p.s.dp, .int .u32 p.s.sq, .int .u32 p.s.ak, .int .u8 p.s.fl, .int .u16 p.s.wn, .int .u16 p.s.ug, .slice a.AO a.nO a.cO, .slice a.AD a.nD a.cD, .int .u16 p.u.sp, .int .u16 p.u.dp, .slice a.AU a.nU a.cU, .int .u8 p.m.ty, .int .u8 p.m.cd, .int .u32 p.m.rs, .slice a.AM a.nM a.cM]] w (PutGot L m x w) := by
  have h6b : (p.h.pr == 6) = false := by rw [h6]; rfl
  have h17b : (p.h.pr == 17) = false := by rw [h6]; rfl
  have h1b : (p.h.pr == 1) = true := by rw [h6]; rfl
  have hmayB : mayB p.h.tt a.nH = true := by
    have h := hm
    unfold mayP at h
    simp only [Bool.and_eq_true] at h
    rw [← hp.hr.len]
    exact h.2.1
  have hn40 : a.nH ≤ 40 := by have := hmayB; unfold mayB at this; simp at this; omega
  obtain ⟨P, eP⟩ : ∃ P, loadB p = P := ⟨_, rfl⟩
  obtain ⟨k, ek⟩ : ∃ k, P.length = k := ⟨_, rfl⟩
  obtain ⟨y, ey⟩ : ∃ y, errLoad p = y := ⟨_, rfl⟩
  have hol := hp.hr.len
  unfold pkB at hL
  unfold errPk at hx hL
  rw [if_pos hm, ey, eP, ek, hol] at hx hL
  have hey : errP p.m = y := by rw [← ey]; unfold errLoad; simp [h6]
  have heP : toldM p.m = P := by rw [← eP]; unfold loadB; simp [h6]
  have hkb : k ≤ 140737488355328 := by rw [← ek, ← heP]; (unfold toldM; split; simp; rw [msgB_len]; omega)
  have Hx := Lib.hid hx
  have HL := Lib.hid hL
  have Hlm := Lib.hid hlm
  have HmB := Lib.hid hmayB
  have Hn := Lib.hid hn
  have HD := Lib.hid hnD
  have HU := Lib.hid hnU
  have Ey := Lib.hid hey
  have EP := Lib.hid heP
  have Ek := Lib.hid ek
  clear hx hL hlm hmayB h6 hey heP ek ey eP hnD hnU hol
  obtain ⟨z, hz⟩ : ∃ z, w.heap.size = z := ⟨_, rfl⟩
  obtain ⟨w0, ew⟩ : ∃ w0, w.alloc (.cells #[.int .u8 p.h.to, .int .u16 p.h.id, .bool p.h.df, .int .u8 p.h.tt, .int .u8 p.h.pr, .int .u32 p.h.sr, .int .u32 p.h.ds, .slice a.AH a.nH a.cH, .int .u16 p.s.sp, .int .u16 p.s.dp, .int .u32 p.s.sq, .int .u32 p.s.ak, .int .u8 p.s.fl, .int .u16 p.s.wn, .int .u16 p.s.ug, .slice a.AO a.nO a.cO, .slice a.AD a.nD a.cD, .int .u16 p.u.sp, .int .u16 p.u.dp, .slice a.AU a.nU a.cU, .int .u8 p.m.ty, .int .u8 p.m.cd, .int .u32 p.m.rs, .slice a.AM a.nM a.cM] 35) = w0 := ⟨_, rfl⟩
  have hb0 : Below w.heap.size w w0 := by rw [← ew]; exact (Below.refl _ _).alloc (Nat.le_refl _) _
  have hk0 : w0.heap[z]? = some (.cells #[.int .u8 p.h.to, .int .u16 p.h.id, .bool p.h.df, .int .u8 p.h.tt, .int .u8 p.h.pr, .int .u32 p.h.sr, .int .u32 p.h.ds, .slice a.AH a.nH a.cH, .int .u16 p.s.sp, .int .u16 p.s.dp, .int .u32 p.s.sq, .int .u32 p.s.ak, .int .u8 p.s.fl, .int .u16 p.s.wn, .int .u16 p.s.ug, .slice a.AO a.nO a.cO, .slice a.AD a.nD a.cD, .int .u16 p.u.sp, .int .u16 p.u.dp, .slice a.AU a.nU a.cU, .int .u8 p.m.ty, .int .u8 p.m.cd, .int .u32 p.m.rs, .slice a.AM a.nM a.cM] 35 (0, 0)) := by rw [← ew, ← hz]; exact heap_alloc_new w _
  have HK := Lib.hid (show ∀ w', Below w0.heap.size w0 w' → w'.heap[z]? = some (.cells #[.int .u8 p.h.to, .int .u16 p.h.id, .bool p.h.df, .int .u8 p.h.tt, .int .u8 p.h.pr, .int .u32 p.h.sr, .int .u32 p.h.ds, .slice a.AH a.nH a.cH, .int .u16 p.s.sp, .int .u16 p.s.dp, .int .u32 p.s.sq, .int .u32 p.s.ak, .int .u8 p.s.fl, .int .u16 p.s.wn, .int .u16 p.s.ug, .slice a.AO a.nO a.cO, .slice a.AD a.nD a.cD, .int .u16 p.u.sp, .int .u16 p.u.dp, .slice a.AU a.nU a.cU, .int .u8 p.m.ty, .int .u8 p.m.cd, .int .u32 p.m.rs, .slice a.AM a.nM a.cM] 35 (0, 0)) ∧ PkRd w' p a from fun w' hb => ⟨blk_on hk0 hb, (hp.below hb0).below hb⟩)
  have Hb0 := Lib.hid hb0
  have Ew := Lib.hid ew
  have Hz := Lib.hid hz
  have Hmay := Lib.hid (rmay9_any p a w0 true (hp.below hb0) hn hm)
  have HA := Lib.hid hk0
  clear hz ew hb0 hk0 hp hn hm
  go_enter Tryz.func7, Tryz.ntmps7
  go_upto_region 1 with (fail)
  rw [Ew.out]
  try rw [Hz.out]
  repeat (first | (refine wp_load_row 35 (.tmp 1) rfl z _ _ _ _ HA.out rfl Tryz.underlying35 rfl (by kernel_rfl) ?_; simp only [Act.put, List.setIfInBounds_toArray, List.set_cons_zero, List.set_cons_succ]) | go_values | go_skip | go_guarded | go_step | go_upon | go_back)
  refine Hmay.out.mono ?_
  rintro e w1 ⟨rfl, hb1⟩
  have Hb := Lib.hid hb1
  clear hb1 Hmay HA
  obtain ⟨k0, k1, k2, k3, k4, k5, k6, k7, k8, k9, k10, k11, k12, k13, k14, k15, k16, k17, k18, k19, k20, k21, k22, k23⟩ := cells24 (HK.out _ Hb.out).1
  go_wp2_with fail
  have HP := Lib.hid (HK.out _ Hb.out).2
  refine (rput8_got p.m a.AM a.nM a.cM _ P k y HP.out.mn HP.out.mr Ey.out EP.out Ek.out).mono ?_
  rintro e w2 ⟨A2, c2, rfl, hc2, hr2, hb2⟩
  have Hc2 := Lib.hid hc2
  have Hr2 := Lib.hid hr2
  have Hb := Lib.hid (below_trans Hb.out hb2)
  clear hc2 hr2 hb2
  clear k0 k1 k2 k3 k4 k5 k6 k7 k8 k9 k10 k11 k12 k13 k14 k15 k16 k17 k18 k19 k20 k21 k22 k23
  by_cases h0 : y = 0
  case neg =>
    have h0b : (y != 0) = true := by simpa using h0
    have Hx2 := Lib.hid (show y = x by have := Hx.out; rw [if_neg h0] at this; exact this)
    have HL2 := Lib.hid (show [] = L by have := HL.out; rw [if_neg h0, if_neg h0] at this; exact this)
    clear h0
    go_wp2_with fail
    go_ret2
    have hl := HL2.out
    have hx2 := Hx2.out
    have hlm := Hlm.out
    subst hl; subst hx2; subst hlm
    exact PutGot.none_ rfl (below_trans Hb0.out Hb.out)
  subst h0
  obtain ⟨k0, k1, k2, k3, k4, k5, k6, k7, k8, k9, k10, k11, k12, k13, k14, k15, k16, k17, k18, k19, k20, k21, k22, k23⟩ := cells24 (HK.out _ Hb.out).1
  go_wp2_with fail
  clear k0 k1 k2 k3 k4 k5 k6 k7 k8 k9 k10 k11 k12 k13 k14 k15 k16 k17 k18 k19 k20 k21 k22 k23
  have HP := Lib.hid (HK.out _ Hb.out).2
  have hx0 := Hx.out
  have hL0 := HL.out
  have hlm := Hlm.out
  simp only [reduceIte] at hx0 hL0
  by_cases hlg : 1500 < 20 + a.nH + k
  · rw [if_pos hlg] at hx0 hL0
    rw [if_neg (by decide)] at hL0
    subst hx0; subst hL0; subst hlm
    refine (rput4_long p.h a.AH A2 a.nH a.cH k c2 _ HP.out.hn.tt.1 HmB.out hn40 hkb hlg).mono ?_
    rintro e w3 ⟨rfl, hb3⟩
    have Hb := Lib.hid (below_trans Hb.out hb3)
    clear hb3
    go_wp2_with fail
    go_ret2
    exact PutGot.none_ rfl (below_trans Hb0.out Hb.out)
  · rw [if_neg hlg] at hx0 hL0
    rw [if_pos rfl] at hL0
    subst hx0
    have hbb := hdB_bytes HP.out.hn hn40 HP.out.hr Hr2.out (by omega)
    have hlen : (hdB p.h P).length = 20 + a.nH + k := by unfold hdB; rw [packetL_len, HP.out.hr.len, Ek.out]
    rw [hL0] at hbb hlen
    have hmk : 20 + a.nH + k = m := by rw [← hlen]; exact hlm
    have Hbb := Lib.hid hbb
    have Hmk := Lib.hid hmk
    have HL0 := Lib.hid hL0
    clear hlm hbb hlen hmk hL0
    refine (rput4_ok p.h a.AH A2 a.nH a.cH k c2 P _ HP.out.hn HmB.out HP.out.hc Hc2.out HP.out.hr Hr2.out (by omega)).mono ?_
    rintro e w3 ⟨A3, c3, rfl, h31, h32, ho3, hb3⟩
    rw [HL0.out] at ho3
    have Hb := Lib.hid (below_trans Hb.out hb3)
    have Ho3 := Lib.hid (ho3.rd Hbb.out)
    clear hb3 ho3
    go_wp2_with fail
    go_ret2
    have hmk := Hmk.out
    subst hmk
    exact ⟨A3, c3, rfl, ⟨h31, h32⟩, Ho3.out, below_trans Hb0.out Hb.out⟩
theorem rput9_any (p : Pk) (a : PkA) (w : World) (L : List Int) (m : Nat) (x : Int) (hp : PkRd w p a) (hn : a.nO ≤ 2000000) (hnD : a.nD ≤ 140737488355328) (hnU : a.nU ≤ 140737488355328) (hx : errPk p = x) (hL : pkB p = L) (hlm : L.length = m) :
    Calls Tryz.prog 7 #[.agg #[.int .u8 p.h.to, .int .u16 p.h.id, .bool p.h.df, .int .u8 p.h.tt, .int .u8 p.h.pr, .int .u32 p.h.sr, .int .u32 p.h.ds, .slice a.AH a.nH a.cH, .int .u16 p.s.sp, .int .u16 p.s.dp, .int .u32 p.s.sq, .int .u32 p.s.ak, .int .u8 p.s.fl, .int .u16 p.s.wn, .int .u16 p.s.ug, .slice a.AO a.nO a.cO, .slice a.AD a.nD a.cD, .int .u16 p.u.sp, .int .u16 p.u.dp, .slice a.AU a.nU a.cU, .int .u8 p.m.ty, .int .u8 p.m.cd, .int .u32 p.m.rs, .slice a.AM a.nM a.cM]] w (PutGot L m x w) := by
  by_cases hm : mayP p = true
  · have hpr : p.h.pr = 6 ∨ p.h.pr = 17 ∨ p.h.pr = 1 := by
      have h := hm
      unfold mayP at h
      simp at h
      exact h.1
    rcases hpr with h | h | h
    · exact rput9_6 p a w L m x hp hn hnD hnU hm h hx hL hlm
    · exact rput9_17 p a w L m x hp hn hnD hnU hm h hx hL hlm
    · exact rput9_1 p a w L m x hp hn hnD hnU hm h hx hL hlm
  · have hf : mayP p = false := by simpa using hm
    unfold pkB at hL
    unfold errPk at hx hL
    rw [if_neg hm] at hx hL
    rw [if_neg (by decide)] at hL
    subst hx; subst hL; subst hlm
    exact rput9_bad p a w hp hn hf

end Go.Proofs.YtkooehejdfaekaaGreat
