/-
  InnerAsIf, over the face (stage 16, written ahead).
-/
import Derived.Test.YtoegfgbalcholaaZD01
import Derived.Test.YtoegfgbalcholaaZD08
import Derived.Test.YtoegfgbalcholaaZD09
import Derived.Test.YtoegfgbalcholaaZD28
import Derived.Test.YtoegfgbalcholaaZD23
import Derived.Deep.DeepCutAuto
namespace Go.Proofs.Ytoegfgbalcholaa.innerAsIfW
set_option maxRecDepth 10000
open Go.ChangeShapes Go.WideShapes Go.ChangeAt Go.RowKit
set_option linter.unusedVariables false
set_option linter.unusedSimpArgs false

theorem echo16 (m : Msg) (A : Option Addr) (n c : Nat) (w : World) (x : Bool) (hr : 0 ≤ m.rs ∧ m.rs < 4294967296) (he : echoM m.ty m.cd = x) :
    Calls Try.prog 17 #[.agg #[.int .u8 m.ty, .int .u8 m.cd, .int .u32 m.rs, .slice A n c]] w fun e w' => ∃ i j : Int, e = .returned (.tuple #[.int .u16 i, .int .u16 j, .bool x]) ∧ Below w.heap.size w w' := by
  refine (echo8_any m.ty m.cd m.rs A n c w hr).mono ?_
  rintro e w' ⟨h, hb⟩
  rw [he] at h
  cases x
  · exact ⟨0, 0, by simpa using h, hb⟩
  · exact ⟨m.rs / 65536, m.rs % 65536, by simpa using h, hb⟩
theorem row5 {w : World} {g : Nat} {T : TypeId} {a b c d e : Value} (h : w.heap[g]? = some (.cells #[a, b, c, d, e] T (0, 0))) : w.cell? ⟨g, 0, none⟩ = some a ∧ w.cell? ⟨g, 1, none⟩ = some b ∧ w.cell? ⟨g, 2, none⟩ = some c ∧ w.cell? ⟨g, 3, none⟩ = some d ∧ w.cell? ⟨g, 4, none⟩ = some e := by
  refine ⟨?_, ?_, ?_, ?_, ?_⟩ <;> (rw [blk_cell h]; rfl)
theorem pay_len (p : Pk) : (payP p).length ≤ 1480 := by
  unfold payP
  split
  · unfold toldB; split
    · rw [segB_len]; have := (errS_zero p.s).1 (by assumption); unfold mayT at this; simp at this; omega
    · simp
  · split
    · unfold toldU; split
      · simp
      · rw [dgB_len]; omega
    · split
      · unfold toldM; split
        · simp
        · rw [msgB_len]; omega
      · simp
set_option maxHeartbeats 4000000 in
theorem walk (hRw : RwF16) (hOf : OfF16) (hAw : AwF16) (w : World) (p : Pk) (a : PkA) (hp : PkRd w p a) (hnO : a.nO ≤ 140737488355328) (hnD : a.nD ≤ 140737488355328) (hnM : a.nM ≤ 140737488355328) (u : Tu) (hu : TuNum u) (sh : Int) (hsh : 0 ≤ sh ∧ sh < 4294967296) (M : Nat) (hmany : M < 65536) :
    Calls Try.prog 4 #[.agg #[.int .u8 p.h.to, .int .u16 p.h.id, .bool p.h.df, .int .u8 p.h.tt, .int .u8 p.h.pr, .int .u32 p.h.sr, .int .u32 p.h.ds, .slice a.AH a.nH a.cH, .int .u16 p.s.sp, .int .u16 p.s.dp, .int .u32 p.s.sq, .int .u32 p.s.ak, .int .u8 p.s.fl, .int .u16 p.s.wn, .int .u16 p.s.ug, .slice a.AO a.nO a.cO, .slice a.AD a.nD a.cD, .int .u16 p.u.sp, .int .u16 p.u.dp, .slice a.AU a.nU a.cU, .int .u8 p.m.ty, .int .u8 p.m.cd, .int .u32 p.m.rs, .slice a.AM a.nM a.cM], .agg #[.int .u8 u.pr, .int .u32 u.sr, .int .u32 u.ds, .int .u16 u.sp, .int .u16 u.dp], .int .u32 sh, .int .u16 (M : Int)] w fun e w' => e = .returned (.bool true) ∧ Below w.heap.size w w' := by
  have HRw := Lib.hid hRw
  have HOf := Lib.hid hOf
  have HAw := Lib.hid hAw
  have HU := Lib.hid hu
  have Hsh := Lib.hid hsh
  have Hmany := Lib.hid hmany
  have HnO := Lib.hid hnO
  have HnD := Lib.hid hnD
  have HnM := Lib.hid hnM
  obtain ⟨zb, hzb⟩ : ∃ z, w.heap.size = z := ⟨_, rfl⟩
  obtain ⟨w0, ew0⟩ : ∃ w0, (w.alloc (.cells #[.int .u8 p.h.to, .int .u16 p.h.id, .bool p.h.df, .int .u8 p.h.tt, .int .u8 p.h.pr, .int .u32 p.h.sr, .int .u32 p.h.ds, .slice a.AH a.nH a.cH, .int .u16 p.s.sp, .int .u16 p.s.dp, .int .u32 p.s.sq, .int .u32 p.s.ak, .int .u8 p.s.fl, .int .u16 p.s.wn, .int .u16 p.s.ug, .slice a.AO a.nO a.cO, .slice a.AD a.nD a.cD, .int .u16 p.u.sp, .int .u16 p.u.dp, .slice a.AU a.nU a.cU, .int .u8 p.m.ty, .int .u8 p.m.cd, .int .u32 p.m.rs, .slice a.AM a.nM a.cM] 52)).alloc (.cells #[.int .u8 u.pr, .int .u32 u.sr, .int .u32 u.ds, .int .u16 u.sp, .int .u16 u.dp] 26) = w0 := ⟨_, rfl⟩
  have hb0 : Below w.heap.size w w0 := by rw [← ew0]; exact ((Below.refl _ _).alloc (Nat.le_refl _) _).alloc (by simp) _
  have HA0 := Lib.hid (show w0.heap[zb]? = some (.cells #[.int .u8 p.h.to, .int .u16 p.h.id, .bool p.h.df, .int .u8 p.h.tt, .int .u8 p.h.pr, .int .u32 p.h.sr, .int .u32 p.h.ds, .slice a.AH a.nH a.cH, .int .u16 p.s.sp, .int .u16 p.s.dp, .int .u32 p.s.sq, .int .u32 p.s.ak, .int .u8 p.s.fl, .int .u16 p.s.wn, .int .u16 p.s.ug, .slice a.AO a.nO a.cO, .slice a.AD a.nD a.cD, .int .u16 p.u.sp, .int .u16 p.u.dp, .slice a.AU a.nU a.cU, .int .u8 p.m.ty, .int .u8 p.m.cd, .int .u32 p.m.rs, .slice a.AM a.nM a.cM] 52 (0, 0)) by rw [← ew0, Below.heap_alloc _ _ _ (by simp [hzb]), ← hzb]; exact heap_alloc_new w _)
  have HZ0 := Lib.hid (show w0.heap[zb + 1]? = some (.cells #[.int .u8 u.pr, .int .u32 u.sr, .int .u32 u.ds, .int .u16 u.sp, .int .u16 u.dp] 26 (0, 0)) by rw [← ew0, ← hzb]; simpa using heap_alloc_new (w.alloc (.cells #[.int .u8 p.h.to, .int .u16 p.h.id, .bool p.h.df, .int .u8 p.h.tt, .int .u8 p.h.pr, .int .u32 p.h.sr, .int .u32 p.h.ds, .slice a.AH a.nH a.cH, .int .u16 p.s.sp, .int .u16 p.s.dp, .int .u32 p.s.sq, .int .u32 p.s.ak, .int .u8 p.s.fl, .int .u16 p.s.wn, .int .u16 p.s.ug, .slice a.AO a.nO a.cO, .slice a.AD a.nD a.cD, .int .u16 p.u.sp, .int .u16 p.u.dp, .slice a.AU a.nU a.cU, .int .u8 p.m.ty, .int .u8 p.m.cd, .int .u32 p.m.rs, .slice a.AM a.nM a.cM] 52)) (.cells #[.int .u8 u.pr, .int .u32 u.sr, .int .u32 u.ds, .int .u16 u.sp, .int .u16 u.dp] 26))
  have HP0 := Lib.hid (hp.below hb0)
  have HPw := Lib.hid hp
  have HB0 := Lib.hid hb0
  have Ew0 := Lib.hid ew0
  have Hzb := Lib.hid hzb
  obtain ⟨P, eP⟩ : ∃ P, payP p = P := ⟨_, rfl⟩
  obtain ⟨k, ek⟩ : ∃ k, P.length = k := ⟨_, rfl⟩
  obtain ⟨q0, eq0⟩ : ∃ q, (okP p == 0) = q := ⟨_, rfl⟩
  have HeP := Lib.hid eP
  have Hek := Lib.hid ek
  have Heq0 := Lib.hid eq0
  clear hRw hOf hAw hu hsh hmany hnO hnD hnM hzb ew0 hb0 hp eP ek eq0
  go_enter Try.func4, Try.ntmps4
  go_upto_region 1 with (fail)
  rw [Ew0.out]
  try rw [Hzb.out]
  clear Ew0
  try simp only []
  repeat (first | (refine wp_load_row 52 (.tmp 4) rfl zb _ _ _ _ HA0.out rfl Try.underlying52 rfl (by kernel_rfl) ?_; simp only [Act.put, List.setIfInBounds_toArray, List.set_cons_zero, List.set_cons_succ]) | go_values | go_skip | go_guarded | go_step | go_upon | go_back)
  refine (payload16_any p a _ P k q0 HP0.out HnO.out HnD.out Heq0.out HeP.out Hek.out).mono ?_
  rintro e w1 ⟨A1, c1, rfl, hc1, hr1, hb1⟩
  have HR1 := Lib.hid hr1
  have Hc1 := Lib.hid hc1
  have HB1 := Lib.hid (below_trans HB0.out hb1)
  have HA1 := Lib.hid (blk_on HA0.out hb1)
  have HZ1 := Lib.hid (blk_on HZ0.out hb1)
  have HP1 := Lib.hid (HP0.out.below hb1)
  clear hr1 hc1 hb1 HA0 HZ0 HP0
  obtain ⟨xA, exA⟩ : ∃ x, errI p.h k = x := ⟨_, rfl⟩
  obtain ⟨LA, eLA⟩ : ∃ L, (if xA = 0 then hdB p.h P else []) = L := ⟨_, rfl⟩
  obtain ⟨mA, emA⟩ : ∃ m, LA.length = m := ⟨_, rfl⟩
  have HxA := Lib.hid exA
  have HLA := Lib.hid eLA
  have HmA := Lib.hid emA
  have Hk := Lib.hid (show k ≤ 1480 by rw [← Hek.out, ← HeP.out]; exact pay_len p)
  clear exA eLA emA
  obtain ⟨k0, k1, k2, k3, k4, k5, k6, k7, k8, k9, k10, k11, k12, k13, k14, k15, k16, k17, k18, k19, k20, k21, k22, k23⟩ := cells24 HA1.out
  go_wp2_with fail
  refine (ipput16_any p.h a.AH A1 a.nH a.cH k c1 P LA mA xA _ HP1.out.hn HP1.out.hc Hc1.out HP1.out.hr HR1.out (by have := Hk.out; omega) HxA.out HLA.out HmA.out).mono ?_
  rintro e w2 ⟨A2, c2, rfl, hc2, ho2, hr2, hb2⟩
  have HoffA := Lib.hid (show offR (fun g => g = zb ∨ g = zb + 1) A2 mA from ho2.off.sub (fun g hg => by have := lt_of_block HA1.out; have := lt_of_block HZ1.out; omega))
  have HR2 := Lib.hid hr2
  have Hc2 := Lib.hid hc2
  have HB2 := Lib.hid (below_trans HB1.out hb2)
  have HA2 := Lib.hid (blk_on HA1.out hb2)
  have HZ2 := Lib.hid (blk_on HZ1.out hb2)
  have HP2 := Lib.hid (HP1.out.below hb2)
  clear hr2 hc2 hb2 ho2 HA1 HZ1 HP1 HR1 HB1 Hc1
  clear k0 k1 k2 k3 k4 k5 k6 k7 k8 k9 k10 k11 k12 k13 k14 k15 k16 k17 k18 k19 k20 k21 k22 k23
  by_cases hgo : q0 = true ∧ xA = 0
  case neg =>
    have hsp : q0 = false ∨ (q0 = true ∧ (xA != 0) = true) := by
      by_cases h : q0 = true
      · exact .inr ⟨h, by simpa using fun e => hgo ⟨h, e⟩⟩
      · exact .inl (by simpa using h)
    clear hgo
    rcases hsp with rfl | ⟨rfl, hx⟩
    · go_wp2_with fail
      refine (HAw.out _).mono ?_
      rintro e w3 ⟨rfl, hb3⟩
      have HB3 := Lib.hid (below_trans HB2.out hb3)
      clear hb3
      go_wp2_with fail
      go_ret
      exact ⟨rfl, HB3.out⟩
    · go_wp2_with fail
      refine (HAw.out _).mono ?_
      rintro e w3 ⟨rfl, hb3⟩
      have HB3 := Lib.hid (below_trans HB2.out hb3)
      clear hb3
      go_wp2_with fail
      go_ret
      exact ⟨rfl, HB3.out⟩
  obtain ⟨rfl, rfl⟩ := hgo
  obtain ⟨t, et⟩ : ∃ t : Tu, (⟨p.h.pr, u.sr, u.ds, u.sp, u.dp⟩ : Tu) = t := ⟨_, rfl⟩
  have HT := Lib.hid (show TuNum t by rw [← et]; exact ⟨HPw.out.hn.pr, HU.out.sr, HU.out.ds, HU.out.sp, HU.out.dp⟩)
  have Htp := Lib.hid (show t.pr = p.h.pr by rw [← et])
  have Het := Lib.hid et
  have Hok := Lib.hid (show okP p = 0 by have := Heq0.out; simpa using this)
  have hA := asl_of (sh := sh) HPw.out Hok.out HT.out
  rw [HeP.out] at hA
  obtain ⟨P', eP'⟩ : ∃ P', payP (asPk p t sh) = P' := ⟨_, rfl⟩
  rw [eP'] at hA
  obtain ⟨H, hQ⟩ := asq_of HPw.out (by rw [Hek.out]; exact HxA.out) hA HT.out Htp.out
  have HA := Lib.hid hA
  have HQ := Lib.hid hQ
  have HeP' := Lib.hid eP'
  have HLA2 := Lib.hid (show hdB p.h P = LA by have := HLA.out; rw [if_pos rfl] at this; exact this)
  clear et hA hQ eP' HLA
  obtain ⟨w5, ew5⟩ : ∃ v, w2.setCell ⟨zb + 1, 0, none⟩ (.int .u8 p.h.pr) = v := ⟨_, rfl⟩
  have HZ5 := Lib.hid (show w5.heap[zb + 1]? = some (.cells #[.int .u8 t.pr, .int .u32 t.sr, .int .u32 t.ds, .int .u16 t.sp, .int .u16 t.dp] 26 (0, 0)) by rw [← ew5, ← Het.out]; have := setCell_block (i := 0) HZ2.out (.int .u8 p.h.pr); simpa using this)
  have hbut5 : But (fun g => g = zb + 1) w2 w5 := by rw [← ew5]; exact (But.refl (fun g => g = zb + 1) w2).setCell (p := ⟨zb + 1, 0, none⟩) rfl _
  have HA5 := Lib.hid (hbut5.blk HA2.out (fun e => by omega))
  have HB5 := Lib.hid (HB2.out.trans (hbut5.below (B := w.heap.size) (fun g hg => by have := Hzb.out; omega) HB2.out.size))
  have HP5 := Lib.hid (HPw.out.below HB5.out)
  have HR5 := Lib.hid (HR2.out.offBut hbut5 (HoffA.out.sub (fun g hg => .inr hg)))
  have fz5 := fun i => blk_free HZ2.out i
  have c5 : w2.cell? ⟨zb, 4, none⟩ = some (.int .u8 p.h.pr) := by rw [blk_cell HA2.out]; rfl
  obtain ⟨z0, ez0⟩ := row5 HZ2.out
  have Ew5 := Lib.hid ew5
  clear ew5 hbut5
  go_upto_region 6 with (fail)
  rw [Ew5.out]
  clear Ew5 fz5 c5 z0 ez0 HZ2 HA2 HR2 HP2
  obtain ⟨z, ez⟩ : ∃ z, w5.heap.size = z := ⟨_, rfl⟩
  obtain ⟨w6, ew6⟩ : ∃ v, w5.alloc (.cells #[.int .u8 p.h.to, .int .u16 p.h.id, .bool p.h.df, .int .u8 p.h.tt, .int .u8 p.h.pr, .int .u32 p.h.sr, .int .u32 p.h.ds, .slice a.AH a.nH a.cH, .int .u16 p.s.sp, .int .u16 p.s.dp, .int .u32 p.s.sq, .int .u32 p.s.ak, .int .u8 p.s.fl, .int .u16 p.s.wn, .int .u16 p.s.ug, .slice a.AO a.nO a.cO, .slice a.AD a.nD a.cD, .int .u16 p.u.sp, .int .u16 p.u.dp, .slice a.AU a.nU a.cU, .int .u8 p.m.ty, .int .u8 p.m.cd, .int .u32 p.m.rs, .slice a.AM a.nM a.cM] 52) = v := ⟨_, rfl⟩
  have hba : Below w5.heap.size w5 w6 := by rw [← ew6]; exact (Below.refl _ _).alloc (Nat.le_refl _) _
  have HK6 := Lib.hid (show w6.heap[z]? = some (.cells #[.int .u8 p.h.to, .int .u16 p.h.id, .bool p.h.df, .int .u8 p.h.tt, .int .u8 p.h.pr, .int .u32 p.h.sr, .int .u32 p.h.ds, .slice a.AH a.nH a.cH, .int .u16 p.s.sp, .int .u16 p.s.dp, .int .u32 p.s.sq, .int .u32 p.s.ak, .int .u8 p.s.fl, .int .u16 p.s.wn, .int .u16 p.s.ug, .slice a.AO a.nO a.cO, .slice a.AD a.nD a.cD, .int .u16 p.u.sp, .int .u16 p.u.dp, .slice a.AU a.nU a.cU, .int .u8 p.m.ty, .int .u8 p.m.cd, .int .u32 p.m.rs, .slice a.AM a.nM a.cM] 52 (0, 0)) by rw [← ew6, ← ez]; exact heap_alloc_new w5 _)
  have HB6 := Lib.hid (HB5.out.trans (hba.mono HB5.out.size))
  have HA6 := Lib.hid (blk_on HA5.out hba)
  have HZ6 := Lib.hid (blk_on HZ5.out hba)
  have HP6 := Lib.hid (HP5.out.below hba)
  have HR6 := Lib.hid (HR5.out.below hba)
  have Hzz := Lib.hid (show zb + 1 < z by have := lt_of_block HZ5.out; omega)
  have Hs5 := Lib.hid hba
  have Hz5 := Lib.hid (show w5.heap.size ≤ z by omega)
  have Ew6 := Lib.hid ew6
  have Ez := Lib.hid ez
  clear ew6 ez hba
  go_upto_region 7 with (first | (refine wp_load_row 52 (.tmp 4) rfl zb _ _ _ _ HA5.out rfl Try.underlying52 rfl (by kernel_rfl) ?_; simp only [Act.put, List.setIfInBounds_toArray, List.set_cons_zero, List.set_cons_succ]) | (refine wp_store_new 52 (.tmp 13) (.tmp 46) rfl rfl w5 _ _ rfl rfl (by kernel_rfl) rfl (by simp [Value.oneCell']) ?_))
  rw [Ew6.out]
  try rw [Ez.out]
  clear Ew6
  have HBw6 := Lib.hid (But.refl (fun g => g = z) w6)
  have HKw6 := HK6
  have HSt := Lib.hid (show ∀ w', But (fun g => g = z) w6 w' → (w'.cell? ⟨zb + 1, 1, none⟩ = some (.int .u32 t.sr) ∧ w'.cell? ⟨zb + 1, 2, none⟩ = some (.int .u32 t.ds) ∧ w'.cell? ⟨zb + 1, 3, none⟩ = some (.int .u16 t.sp) ∧ w'.cell? ⟨zb + 1, 4, none⟩ = some (.int .u16 t.dp) ∧ w'.cell? ⟨zb, 10, none⟩ = some (.int .u32 p.s.sq)) from fun w' hb => by
    have h := row5 (hb.blk HZ6.out (fun e => by have := Hzz.out; omega))
    exact ⟨h.2.1, h.2.2.1, h.2.2.2.1, h.2.2.2.2, by rw [blk_cell (hb.blk HA6.out (fun e => by have := Hzz.out; omega))]; rfl⟩)
  obtain ⟨s2, es2⟩ : ∃ y, (p.s.sq + sh) % 4294967296 = y := ⟨_, rfl⟩
  have hw2 : IntKind.u32.wrap (p.s.sq + sh) = s2 := by rw [IntKind.wrap_u32]; exact es2
  have Hs2 := Lib.hid es2
  have Hw2 := Lib.hid hw2
  clear hw2 es2
  have Hdwd7 := Lib.hid (Below.drew (Below.refl w6.heap.size w6))
  refine wp_region_held_drew (S := fun w' => w'.cell? ⟨zb + 1, 1, none⟩ = some (.int .u32 t.sr) ∧ w'.cell? ⟨zb + 1, 2, none⟩ = some (.int .u32 t.ds) ∧ w'.cell? ⟨zb + 1, 3, none⟩ = some (.int .u16 t.sp) ∧ w'.cell? ⟨zb + 1, 4, none⟩ = some (.int .u16 t.dp) ∧ w'.cell? ⟨zb, 10, none⟩ = some (.int .u32 p.s.sq)) (by kernel_rfl) (HSt.out _ (HBw6.out.trans (But.of Hdwd7.out))) (fun hHeld => ?_)
  obtain ⟨wd7, ewd7⟩ : ∃ v, w6.drew = v := ⟨_, rfl⟩
  have HBwd7 := Lib.hid (HBw6.out.trans (But.of Hdwd7.out))
  have HKwd7 := Lib.hid (blk_on HKw6.out Hdwd7.out)
  rw [ewd7] at HBwd7 HKwd7 hHeld ⊢
  clear ewd7
  refine tk 0 ?_ rfl ?_ ?_
  rotate_left
  · intro w' hSw; (go_simp <;> (with_reducible rfl))
  try simp only [Act.put, putL]
  refine tk 1 ?_ rfl ?_ ?_
  rotate_left
  · intro w' hSw; (go_simp <;> (with_reducible rfl))
  try simp only [Act.put, putL]
  refine tk 2 ?_ rfl ?_ ?_
  rotate_left
  · intro w' hSw; (go_simp <;> (with_reducible rfl))
  try simp only [Act.put, putL]
  refine tk 3 ?_ rfl ?_ ?_
  rotate_left
  · intro w' hSw; (go_simp <;> (with_reducible rfl))
  try simp only [Act.put, putL]
  refine tk 4 ?_ rfl ?_ ?_
  rotate_left
  · intro w' hSw; (go_simp <;> (with_reducible rfl))
  try simp only [Act.put, putL]
  refine tk 5 ?_ rfl ?_ ?_
  rotate_left
  · intro w' hSw; (go_simp <;> (with_reducible rfl))
  try simp only [Act.put, putL]
  have e1 : wd7.cell? ⟨z, 5, none⟩ = some (.int .u32 p.h.sr) := by rw [blk_cell HKwd7.out]; rfl
  have f1 := blk_free HKwd7.out 5
  refine tkC 6 rfl (fun K hK => ?_)
  go_simp
  skip
  refine hK.out _ _ ?_ (fun hHeld => ?_)
  · exact HSt.out _ (HBwd7.out.setCell (p := ⟨z, 5, none⟩) rfl _)
  clear hK K
  try simp only [Act.put, putL]
  clear e1 f1
  obtain ⟨w7a, ew7a⟩ : ∃ v, wd7.setCell ⟨z, 5, none⟩ (.int .u32 t.sr) = v := ⟨_, rfl⟩
  have HBw7a := Lib.hid (HBwd7.out.setCell (p := ⟨z, 5, none⟩) rfl (.int .u32 t.sr))
  have HKw7a := Lib.hid (set_blk HKwd7.out (i := 5) (.int .u32 t.sr))
  rw [ew7a] at HBw7a HKw7a hHeld ⊢
  clear ew7a
  refine tk 7 ?_ rfl ?_ ?_
  rotate_left
  · intro w' hSw; (go_simp <;> (with_reducible rfl))
  try simp only [Act.put, putL]
  refine tk 8 ?_ rfl ?_ ?_
  rotate_left
  · intro w' hSw; (go_simp <;> (with_reducible rfl))
  try simp only [Act.put, putL]
  have e1 : w7a.cell? ⟨z, 6, none⟩ = some (.int .u32 p.h.ds) := by rw [blk_cell HKw7a.out]; rfl
  have f1 := blk_free HKw7a.out 6
  refine tkC 9 rfl (fun K hK => ?_)
  go_simp
  skip
  refine hK.out _ _ ?_ (fun hHeld => ?_)
  · exact HSt.out _ (HBw7a.out.setCell (p := ⟨z, 6, none⟩) rfl _)
  clear hK K
  try simp only [Act.put, putL]
  clear e1 f1
  obtain ⟨w7b, ew7b⟩ : ∃ v, w7a.setCell ⟨z, 6, none⟩ (.int .u32 t.ds) = v := ⟨_, rfl⟩
  have HBw7b := Lib.hid (HBw7a.out.setCell (p := ⟨z, 6, none⟩) rfl (.int .u32 t.ds))
  have HKw7b := Lib.hid (set_blk HKw7a.out (i := 6) (.int .u32 t.ds))
  rw [ew7b] at HBw7b HKw7b hHeld ⊢
  clear ew7b
  refine wpAnyH_done (by kernel_rfl) ?_ _
  clear hHeld
  have hw2 := Hw2.out
  go_upto_region 8 with (fail)
  have Hdwd8 := Lib.hid (Below.drew (Below.refl w7b.heap.size w7b))
  refine wp_region_held_drew (S := fun w' => w'.cell? ⟨zb + 1, 1, none⟩ = some (.int .u32 t.sr) ∧ w'.cell? ⟨zb + 1, 2, none⟩ = some (.int .u32 t.ds) ∧ w'.cell? ⟨zb + 1, 3, none⟩ = some (.int .u16 t.sp) ∧ w'.cell? ⟨zb + 1, 4, none⟩ = some (.int .u16 t.dp) ∧ w'.cell? ⟨zb, 10, none⟩ = some (.int .u32 p.s.sq)) (by kernel_rfl) (HSt.out _ (HBw7b.out.trans (But.of Hdwd8.out))) (fun hHeld => ?_)
  obtain ⟨wd8, ewd8⟩ : ∃ v, w7b.drew = v := ⟨_, rfl⟩
  have HBwd8 := Lib.hid (HBw7b.out.trans (But.of Hdwd8.out))
  have HKwd8 := Lib.hid (blk_on HKw7b.out Hdwd8.out)
  rw [ewd8] at HBwd8 HKwd8 hHeld ⊢
  clear ewd8
  refine tk 0 ?_ rfl ?_ ?_
  rotate_left
  · intro w' hSw; (go_simp <;> (with_reducible rfl))
  try simp only [Act.put, putL]
  refine tk 1 ?_ rfl ?_ ?_
  rotate_left
  · intro w' hSw; (go_simp <;> (with_reducible rfl))
  try simp only [Act.put, putL]
  refine tk 2 ?_ rfl ?_ ?_
  rotate_left
  · intro w' hSw; (go_simp <;> (with_reducible rfl))
  try simp only [Act.put, putL]
  refine tk 3 ?_ rfl ?_ ?_
  rotate_left
  · intro w' hSw; (go_simp <;> (with_reducible rfl))
  try simp only [Act.put, putL]
  refine tk 4 ?_ rfl ?_ ?_
  rotate_left
  · intro w' hSw; (go_simp <;> (with_reducible rfl))
  try simp only [Act.put, putL]
  refine tk 5 ?_ rfl ?_ ?_
  rotate_left
  · intro w' hSw; (go_simp <;> (with_reducible rfl))
  try simp only [Act.put, putL]
  refine tk 6 ?_ rfl ?_ ?_
  rotate_left
  · intro w' hSw; (go_simp <;> (with_reducible rfl))
  try simp only [Act.put, putL]
  refine tk 7 ?_ rfl ?_ ?_
  rotate_left
  · intro w' hSw; (go_simp <;> (with_reducible rfl))
  try simp only [Act.put, putL]
  refine tk 8 ?_ rfl ?_ ?_
  rotate_left
  · intro w' hSw; (go_simp <;> (with_reducible rfl))
  try simp only [Act.put, putL]
  refine tk 9 ?_ rfl ?_ ?_
  rotate_left
  · intro w' hSw; (go_simp <;> (with_reducible rfl))
  try simp only [Act.put, putL]
  refine tk 10 ?_ rfl ?_ ?_
  rotate_left
  · intro w' hSw; (go_simp <;> (with_reducible rfl))
  try simp only [Act.put, putL]
  have e1 : wd8.cell? ⟨z, 8, none⟩ = some (.int .u16 p.s.sp) := by rw [blk_cell HKwd8.out]; rfl
  have f1 := blk_free HKwd8.out 8
  refine tkC 11 rfl (fun K hK => ?_)
  go_simp
  skip
  refine hK.out _ _ ?_ (fun hHeld => ?_)
  · exact HSt.out _ (HBwd8.out.setCell (p := ⟨z, 8, none⟩) rfl _)
  clear hK K
  try simp only [Act.put, putL]
  clear e1 f1
  obtain ⟨w8a, ew8a⟩ : ∃ v, wd8.setCell ⟨z, 8, none⟩ (.int .u16 t.sp) = v := ⟨_, rfl⟩
  have HBw8a := Lib.hid (HBwd8.out.setCell (p := ⟨z, 8, none⟩) rfl (.int .u16 t.sp))
  have HKw8a := Lib.hid (set_blk HKwd8.out (i := 8) (.int .u16 t.sp))
  rw [ew8a] at HBw8a HKw8a hHeld ⊢
  clear ew8a
  refine tk 12 ?_ rfl ?_ ?_
  rotate_left
  · intro w' hSw; (go_simp <;> (with_reducible rfl))
  try simp only [Act.put, putL]
  refine tk 13 ?_ rfl ?_ ?_
  rotate_left
  · intro w' hSw; (go_simp <;> (with_reducible rfl))
  try simp only [Act.put, putL]
  have e1 : w8a.cell? ⟨z, 9, none⟩ = some (.int .u16 p.s.dp) := by rw [blk_cell HKw8a.out]; rfl
  have f1 := blk_free HKw8a.out 9
  refine tkC 14 rfl (fun K hK => ?_)
  go_simp
  skip
  refine hK.out _ _ ?_ (fun hHeld => ?_)
  · exact HSt.out _ (HBw8a.out.setCell (p := ⟨z, 9, none⟩) rfl _)
  clear hK K
  try simp only [Act.put, putL]
  clear e1 f1
  obtain ⟨w8b, ew8b⟩ : ∃ v, w8a.setCell ⟨z, 9, none⟩ (.int .u16 t.dp) = v := ⟨_, rfl⟩
  have HBw8b := Lib.hid (HBw8a.out.setCell (p := ⟨z, 9, none⟩) rfl (.int .u16 t.dp))
  have HKw8b := Lib.hid (set_blk HKw8a.out (i := 9) (.int .u16 t.dp))
  rw [ew8b] at HBw8b HKw8b hHeld ⊢
  clear ew8b
  refine tk 15 ?_ rfl ?_ ?_
  rotate_left
  · intro w' hSw; (go_simp <;> (with_reducible rfl))
  try simp only [Act.put, putL]
  refine tk 16 ?_ rfl ?_ ?_
  rotate_left
  · intro w' hSw; (go_simp <;> (with_reducible rfl))
  try simp only [Act.put, putL]
  have e1 : w8b.cell? ⟨z, 10, none⟩ = some (.int .u32 p.s.sq) := by rw [blk_cell HKw8b.out]; rfl
  have f1 := blk_free HKw8b.out 10
  refine tkC 17 rfl (fun K hK => ?_)
  go_simp
  skip
  refine hK.out _ _ ?_ (fun hHeld => ?_)
  · exact HSt.out _ (HBw8b.out.setCell (p := ⟨z, 10, none⟩) rfl _)
  clear hK K
  try simp only [Act.put, putL]
  clear e1 f1
  obtain ⟨w8c, ew8c⟩ : ∃ v, w8b.setCell ⟨z, 10, none⟩ (.int .u32 s2) = v := ⟨_, rfl⟩
  have HBw8c := Lib.hid (HBw8b.out.setCell (p := ⟨z, 10, none⟩) rfl (.int .u32 s2))
  have HKw8c := Lib.hid (set_blk HKw8b.out (i := 10) (.int .u32 s2))
  rw [ew8c] at HBw8c HKw8c hHeld ⊢
  clear ew8c
  refine wpAnyH_done (by kernel_rfl) ?_ _
  clear hHeld hw2
  go_upto_region 9 with (fail)
  have Hdwd9 := Lib.hid (Below.drew (Below.refl w8c.heap.size w8c))
  refine wp_region_held_drew (S := fun w' => w'.cell? ⟨zb + 1, 1, none⟩ = some (.int .u32 t.sr) ∧ w'.cell? ⟨zb + 1, 2, none⟩ = some (.int .u32 t.ds) ∧ w'.cell? ⟨zb + 1, 3, none⟩ = some (.int .u16 t.sp) ∧ w'.cell? ⟨zb + 1, 4, none⟩ = some (.int .u16 t.dp) ∧ w'.cell? ⟨zb, 10, none⟩ = some (.int .u32 p.s.sq)) (by kernel_rfl) (HSt.out _ (HBw8c.out.trans (But.of Hdwd9.out))) (fun hHeld => ?_)
  obtain ⟨wd9, ewd9⟩ : ∃ v, w8c.drew = v := ⟨_, rfl⟩
  have HBwd9 := Lib.hid (HBw8c.out.trans (But.of Hdwd9.out))
  have HKwd9 := Lib.hid (blk_on HKw8c.out Hdwd9.out)
  rw [ewd9] at HBwd9 HKwd9 hHeld ⊢
  clear ewd9
  refine tk 0 ?_ rfl ?_ ?_
  rotate_left
  · intro w' hSw; (go_simp <;> (with_reducible rfl))
  try simp only [Act.put, putL]
  refine tk 1 ?_ rfl ?_ ?_
  rotate_left
  · intro w' hSw; (go_simp <;> (with_reducible rfl))
  try simp only [Act.put, putL]
  refine tk 2 ?_ rfl ?_ ?_
  rotate_left
  · intro w' hSw; (go_simp <;> (with_reducible rfl))
  try simp only [Act.put, putL]
  refine tk 3 ?_ rfl ?_ ?_
  rotate_left
  · intro w' hSw; (go_simp <;> (with_reducible rfl))
  try simp only [Act.put, putL]
  refine tk 4 ?_ rfl ?_ ?_
  rotate_left
  · intro w' hSw; (go_simp <;> (with_reducible rfl))
  try simp only [Act.put, putL]
  refine tk 5 ?_ rfl ?_ ?_
  rotate_left
  · intro w' hSw; (go_simp <;> (with_reducible rfl))
  try simp only [Act.put, putL]
  have e1 : wd9.cell? ⟨z, 17, none⟩ = some (.int .u16 p.u.sp) := by rw [blk_cell HKwd9.out]; rfl
  have f1 := blk_free HKwd9.out 17
  refine tkC 6 rfl (fun K hK => ?_)
  go_simp
  skip
  refine hK.out _ _ ?_ (fun hHeld => ?_)
  · exact HSt.out _ (HBwd9.out.setCell (p := ⟨z, 17, none⟩) rfl _)
  clear hK K
  try simp only [Act.put, putL]
  clear e1 f1
  obtain ⟨w9a, ew9a⟩ : ∃ v, wd9.setCell ⟨z, 17, none⟩ (.int .u16 t.sp) = v := ⟨_, rfl⟩
  have HBw9a := Lib.hid (HBwd9.out.setCell (p := ⟨z, 17, none⟩) rfl (.int .u16 t.sp))
  have HKw9a := Lib.hid (set_blk HKwd9.out (i := 17) (.int .u16 t.sp))
  rw [ew9a] at HBw9a HKw9a hHeld ⊢
  clear ew9a
  refine tk 7 ?_ rfl ?_ ?_
  rotate_left
  · intro w' hSw; (go_simp <;> (with_reducible rfl))
  try simp only [Act.put, putL]
  refine tk 8 ?_ rfl ?_ ?_
  rotate_left
  · intro w' hSw; (go_simp <;> (with_reducible rfl))
  try simp only [Act.put, putL]
  have e1 : w9a.cell? ⟨z, 18, none⟩ = some (.int .u16 p.u.dp) := by rw [blk_cell HKw9a.out]; rfl
  have f1 := blk_free HKw9a.out 18
  refine tkC 9 rfl (fun K hK => ?_)
  go_simp
  skip
  refine hK.out _ _ ?_ (fun hHeld => ?_)
  · exact HSt.out _ (HBw9a.out.setCell (p := ⟨z, 18, none⟩) rfl _)
  clear hK K
  try simp only [Act.put, putL]
  clear e1 f1
  obtain ⟨w9b, ew9b⟩ : ∃ v, w9a.setCell ⟨z, 18, none⟩ (.int .u16 t.dp) = v := ⟨_, rfl⟩
  have HBw9b := Lib.hid (HBw9a.out.setCell (p := ⟨z, 18, none⟩) rfl (.int .u16 t.dp))
  have HKw9b := Lib.hid (set_blk HKw9a.out (i := 18) (.int .u16 t.dp))
  rw [ew9b] at HBw9b HKw9b hHeld ⊢
  clear ew9b
  refine wpAnyH_done (by kernel_rfl) ?_ _
  clear hHeld
  have HK9 := Lib.hid (show w9b.heap[z]? = some (.cells #[.int .u8 p.h.to, .int .u16 p.h.id, .bool p.h.df, .int .u8 p.h.tt, .int .u8 p.h.pr, .int .u32 t.sr, .int .u32 t.ds, .slice a.AH a.nH a.cH, .int .u16 t.sp, .int .u16 t.dp, .int .u32 s2, .int .u32 p.s.ak, .int .u8 p.s.fl, .int .u16 p.s.wn, .int .u16 p.s.ug, .slice a.AO a.nO a.cO, .slice a.AD a.nD a.cD, .int .u16 t.sp, .int .u16 t.dp, .slice a.AU a.nU a.cU, .int .u8 p.m.ty, .int .u8 p.m.cd, .int .u32 p.m.rs, .slice a.AM a.nM a.cM] 52 (0, 0)) from HKw9b.out)
  have Hs9 := Lib.hid (show Below w5.heap.size w5 w9b from Hs5.out.trans (HBw9b.out.below (fun g hg => by have := Hz5.out; omega) Hs5.out.size))
  have HA9 := Lib.hid (blk_on HA5.out Hs9.out)
  have HZ9 := Lib.hid (blk_on HZ5.out Hs9.out)
  have HB9 := Lib.hid (HB5.out.trans (Hs9.out.mono HB5.out.size))
  have HP9 := Lib.hid (HP5.out.below Hs9.out)
  have HR9 := Lib.hid (HR5.out.below Hs9.out)
  clear HBw6 HKw6 HBwd7 HKwd7 HBw7a HKw7a HBw7b HKw7b HBwd8 HKwd8 HBw8a HKw8a HBw8b HKw8b HBw8c HKw8c HBwd9 HKwd9 HBw9a HKw9a HBw9b HKw9b HSt HA5 HZ5 HP5 HA6 HZ6 HR6 HP6 HB6 HK6
  obtain ⟨k0, k1, k2, k3, k4, k5, k6, k7, k8, k9, k10, k11, k12, k13, k14, k15, k16, k17, k18, k19, k20, k21, k22, k23⟩ := cells24 HA9.out
  obtain ⟨j0, j1, j2, j3, j4⟩ := row5 HZ9.out
  go_wp2_with fail
  refine (with8_any p.m t.sp a.AM a.nM a.cM _ HP9.out.mn.rs HT.out.sp HnM.out HP9.out.mr).mono ?_
  rintro e w10 ⟨AW, cW, rfl, hcw, hcm, how, hb10⟩
  have hwd : (withM p.m t.sp).d = p.m.d := (withM_n2 HP9.out.mn HT.out.sp).2
  have HrW := Lib.hid (show Rd w10 AW a.nM (withM p.m t.sp).d by rw [hwd]; exact how.rd HP9.out.mr.byte)
  have HcW := Lib.hid (And.intro hcw hcm)
  have HA10 := Lib.hid (blk_on HA9.out hb10)
  have HZ10 := Lib.hid (blk_on HZ9.out hb10)
  have HK10 := Lib.hid (blk_on HK9.out hb10)
  have HB10 := Lib.hid (below_trans HB9.out hb10)
  have Hs10 := Lib.hid (Hs9.out.trans (hb10.mono Hs9.out.size))
  have HzW := Lib.hid (show offR (fun g => g = z) AW a.nM from how.off.sub (fun g hg => by have := lt_of_block HK9.out; omega))
  clear k0 k1 k2 k3 k4 k5 k6 k7 k8 k9 k10 k11 k12 k13 k14 k15 k16 k17 k18 k19 k20 k21 k22 k23
  clear hcw hcm how hb10 hwd HA9 HZ9 HK9 HP9 HR9 HB9 Hs9 j0 j1 j2 j3 j4
  obtain ⟨m0, em0⟩ : ∃ y, (withM p.m t.sp).ty = y := ⟨_, rfl⟩
  obtain ⟨m1, em1⟩ : ∃ y, (withM p.m t.sp).cd = y := ⟨_, rfl⟩
  obtain ⟨m2, em2⟩ : ∃ y, (withM p.m t.sp).rs = y := ⟨_, rfl⟩
  have Hm0 := Lib.hid em0; have Hm1 := Lib.hid em1; have Hm2 := Lib.hid em2
  rw [em0, em1, em2]
  clear em0 em1 em2
  have f8 := blk_free HK10.out
  have c8 := (cells24 HK10.out).2.2.2.2.2.2.2.2.2.2.2.2.2.2.2.2.2.2.2.2
  have d0 := c8.1
  have d1 := c8.2.1
  have d2 := c8.2.2.1
  have d3 := c8.2.2.2
  clear c8
  go_upto_region 11 with (fail)
  clear f8 d0 d1 d2 d3
  obtain ⟨w11, ew11⟩ : ∃ v, (((w10.setCell ⟨z, 20, none⟩ (.int .u8 m0)).setCell ⟨z, 21, none⟩ (.int .u8 m1)).setCell ⟨z, 22, none⟩ (.int .u32 m2)).setCell ⟨z, 23, none⟩ (.slice AW a.nM cW) = v := ⟨_, rfl⟩
  rw [ew11]
  have hbut : But (fun k => k = z) w10 w11 := by
    rw [← ew11]
    exact ((((But.refl (fun k => k = z) w10).setCell (p := ⟨z, 20, none⟩) rfl _).setCell (p := ⟨z, 21, none⟩) rfl _).setCell (p := ⟨z, 22, none⟩) rfl _).setCell (p := ⟨z, 23, none⟩) rfl _
  have hk11 : w11.heap[z]? = some (.cells #[.int .u8 p.h.to, .int .u16 p.h.id, .bool p.h.df, .int .u8 p.h.tt, .int .u8 p.h.pr, .int .u32 t.sr, .int .u32 t.ds, .slice a.AH a.nH a.cH, .int .u16 t.sp, .int .u16 t.dp, .int .u32 s2, .int .u32 p.s.ak, .int .u8 p.s.fl, .int .u16 p.s.wn, .int .u16 p.s.ug, .slice a.AO a.nO a.cO, .slice a.AD a.nD a.cD, .int .u16 t.sp, .int .u16 t.dp, .slice a.AU a.nU a.cU, .int .u8 m0, .int .u8 m1, .int .u32 m2, .slice AW a.nM cW] 52 (0, 0)) := by
    rw [← ew11, set_blk (set_blk (set_blk (set_blk HK10.out _) _) _) _]; rfl
  have hs1011 : Below w5.heap.size w10 w11 := hbut.below (fun g hg => by have := Hz5.out; omega) Hs10.out.size
  have Hs11 := Lib.hid (Hs10.out.trans hs1011)
  have HA11 := Lib.hid (hbut.blk HA10.out (fun e => by have := Hzz.out; omega))
  have HZ11 := Lib.hid (hbut.blk HZ10.out (fun e => by have := Hzz.out; omega))
  have HB11 := Lib.hid (HB10.out.trans (hs1011.mono HB5.out.size))
  have hrW : Rd w11 AW a.nM (withM p.m t.sp).d := HrW.out.offBut hbut HzW.out
  obtain ⟨q, eq⟩ : ∃ q, asPk p t sh = q := ⟨_, rfl⟩
  obtain ⟨b, eb⟩ : ∃ b : PkA, { a with AM := AW, cM := cW } = b := ⟨_, rfl⟩
  have HP11 := Lib.hid (HPw.out.below HB11.out)
  have HPq := Lib.hid (show PkRd w11 q b by
    have h := HP11.out
    rw [← eq, ← eb]
    exact ⟨⟨h.hn.to, h.hn.id, h.hn.tt, h.hn.pr, HT.out.sr, HT.out.ds⟩, h.hc, h.hr, ⟨HA.out.sn, h.sr.oc, h.sr.dc, h.sr.o, h.sr.os, h.sr.d⟩, HA.out.un, h.uc, h.ur, HA.out.mn, HcW.out, hrW⟩)
  have HKq := Lib.hid (show w11.heap[z]? = some (.cells #[.int .u8 q.h.to, .int .u16 q.h.id, .bool q.h.df, .int .u8 q.h.tt, .int .u8 q.h.pr, .int .u32 q.h.sr, .int .u32 q.h.ds, .slice b.AH b.nH b.cH, .int .u16 q.s.sp, .int .u16 q.s.dp, .int .u32 q.s.sq, .int .u32 q.s.ak, .int .u8 q.s.fl, .int .u16 q.s.wn, .int .u16 q.s.ug, .slice b.AO b.nO b.cO, .slice b.AD b.nD b.cD, .int .u16 q.u.sp, .int .u16 q.u.dp, .slice b.AU b.nU b.cU, .int .u8 q.m.ty, .int .u8 q.m.cd, .int .u32 q.m.rs, .slice b.AM b.nM b.cM] 52 (0, 0)) by
    rw [← eq, ← eb]
    rw [← Hs2.out, ← Hm0.out, ← Hm1.out, ← Hm2.out] at hk11
    exact hk11)
  have HR11 := Lib.hid (show Rd w11 A2 mA LA from HR5.out.below Hs11.out)
  have Hqb := Lib.hid (show b.nO ≤ 140737488355328 ∧ b.nD ≤ 140737488355328 by rw [← eb]; exact ⟨HnO.out, HnD.out⟩)
  have Hqo := Lib.hid (show (okP q == 0) = true by rw [← eq, HA.out.ok]; rfl)
  have HqP := Lib.hid (show payP q = P' by rw [← eq]; exact HeP'.out)
  have HkP := Lib.hid (show P'.length = k by rw [HA.out.len]; exact Hek.out)
  have Hqe := Lib.hid (show errI q.h k = 0 by rw [← eq, ← HkP.out]; exact HQ.out.ei)
  have Hlb := Lib.hid (show Bytes (hdB q.h P') ∧ (hdB q.h P').length = mA ∧ Bytes LA by
    have hl := HQ.out.l2
    rw [← eq]
    exact ⟨HQ.out.bd', by rw [hl, ← HQ.out.l1, HLA2.out]; exact HmA.out, by rw [← HLA2.out]; exact HQ.out.bd⟩)
  have HmA2 := Lib.hid (show mA ≤ 1500 by have := HQ.out.l1; have := HQ.out.l3; rw [HLA2.out, HmA.out] at *; omega)
  obtain ⟨LB, eLB⟩ : ∃ L, hdB q.h P' = L := ⟨_, rfl⟩
  rw [eLB] at Hlb
  have HLB := Lib.hid eLB
  have hans := HQ.out.ans M
  rw [HLA2.out, eq, eLB] at hans
  have Hans := Lib.hid hans
  clear ew11 hbut hk11 hs1011 hrW eq eb eLB hans HA10 HZ10 HK10 HB10 Hs10 HrW HzW HcW Hm0 Hm1 Hm2 Hw2 HR5 HB5 HeP'
  try simp only []
  repeat (first | (refine wp_load_row 52 (.tmp 13) rfl z _ _ _ _ HKq.out rfl Try.underlying52 rfl (by kernel_rfl) ?_; simp only [Act.put, List.setIfInBounds_toArray, List.set_cons_zero, List.set_cons_succ]) | go_values | go_skip | go_guarded | go_step | go_upon | go_back)
  refine (payload16_any q b _ P' k true HPq.out Hqb.out.1 Hqb.out.2 Hqo.out HqP.out HkP.out).mono ?_
  rintro e w12 ⟨A12, c12, rfl, hc12, hr12, hb12⟩
  have Hr12 := Lib.hid hr12
  have Hc12 := Lib.hid hc12
  have Hb12 := Lib.hid hb12
  have HKq12 := Lib.hid (blk_on HKq.out hb12)
  clear hc12 hr12 hb12
  obtain ⟨l0, l1, l2, l3, l4, l5, l6, l7, l8, l9, l10, l11, l12, l13, l14, l15, l16, l17, l18, l19, l20, l21, l22, l23⟩ := cells24 HKq12.out
  go_wp2_with fail
  have HPq12 := Lib.hid (HPq.out.below Hb12.out)
  refine (ipput16_any q.h b.AH A12 b.nH b.cH k c12 P' LB mA 0 _ HPq12.out.hn HPq12.out.hc Hc12.out HPq12.out.hr Hr12.out (by have := Hk.out; omega) Hqe.out (by rw [if_pos rfl]; exact HLB.out) Hlb.out.2.1).mono ?_
  rintro e w13 ⟨A13, c13, rfl, hc13, ho13, hr13, hb13⟩
  have HRB := Lib.hid hr13
  have Hc13 := Lib.hid hc13
  have hbb := below_trans Hb12.out hb13
  have HA13 := Lib.hid (blk_on HA11.out hbb)
  have HZ13 := Lib.hid (blk_on HZ11.out hbb)
  have HB13 := Lib.hid (below_trans HB11.out hbb)
  have HRA := Lib.hid (HR11.out.below hbb)
  have HP13 := Lib.hid (HP11.out.below hbb)
  clear l0 l1 l2 l3 l4 l5 l6 l7 l8 l9 l10 l11 l12 l13 l14 l15 l16 l17 l18 l19 l20 l21 l22 l23
  clear hc13 ho13 hr13 hb13 hbb HKq HKq12 HPq HPq12 Hr12 Hc12 Hb12 HA11 HZ11 HB11 HR11 HP11 Hs11 Hqb Hqo HqP Hqe
  obtain ⟨N, eN⟩ : ∃ N, 2 * H = N := ⟨_, rfl⟩
  have hNn : (20 : Int) + (a.nH : Int) = (N : Int) := by have := HQ.out.hH; have := HP13.out.hr.len; omega
  have hN60 : N ≤ 60 := by have := HQ.out.h30; omega
  have hn20 : IntKind.i64.wrap (20 + (a.nH : Int)) = (N : Int) := by rw [IntWalk.i64_in _ (by omega)]; exact hNn
  have HN := Lib.hid eN
  have HN60 := Lib.hid hN60
  clear eN hNn hN60
  obtain ⟨k0, k1, k2, k3, k4, k5, k6, k7, k8, k9, k10, k11, k12, k13, k14, k15, k16, k17, k18, k19, k20, k21, k22, k23⟩ := cells24 HA13.out
  go_upto_region 16 with (fail)
  clear k0 k1 k2 k3 k4 k5 k6 k7 k8 k9 k10 k11 k12 k13 k14 k15 k16 k17 k18 k19 k20 k21 k22 k23 hn20
  obtain ⟨la, ela⟩ : ∃ l, ofL LA (M : Int) = l := ⟨_, rfl⟩
  obtain ⟨lb, elb⟩ : ∃ l, ofL LB (M : Int) = l := ⟨_, rfl⟩
  obtain ⟨nla, enla⟩ : ∃ n, la.length = n := ⟨_, rfl⟩
  obtain ⟨nlb, enlb⟩ : ∃ n, lb.length = n := ⟨_, rfl⟩
  obtain ⟨r, er⟩ : ∃ l, rwR la t sh = l := ⟨_, rfl⟩
  obtain ⟨mr, emr⟩ : ∃ n, r.length = n := ⟨_, rfl⟩
  obtain ⟨xr, exr⟩ : ∃ x, errR la t = x := ⟨_, rfl⟩
  obtain ⟨f, ef⟩ : ∃ f, qF p.h.pr H = f := ⟨_, rfl⟩
  have hans := Hans.out
  rw [ela, elb] at hans
  have hN := HN.out
  have HAns := Lib.hid hans
  have HnB := Lib.hid (show nla ≤ 1500 ∧ nlb ≤ 1500 by
    have h1 := List.length_take_le (ofN LA (M : Int)) LA
    have h2 := List.length_take_le' (ofN LA (M : Int)) LA
    have h3 := List.length_take_le' (ofN LB (M : Int)) LB
    have := HmA2.out; have := HmA.out; have := Hlb.out.2.1
    rw [← enla, ← enlb, ← ela, ← elb]; unfold ofL; omega)
  have HlaB := Lib.hid (show Bytes la by rw [← ela]; exact fun x hx => Hlb.out.2.2 x (List.mem_of_mem_take hx))
  have HlbB := Lib.hid (show Bytes lb by rw [← elb]; exact fun x hx => Hlb.out.1 x (List.mem_of_mem_take hx))
  have Hla := Lib.hid ela; have HlbE := Lib.hid elb; have Hnla := Lib.hid enla; have Hnlb := Lib.hid enlb; have Hr := Lib.hid er; have Hmr := Lib.hid emr; have Hxr := Lib.hid exr
  have HF2 := Lib.hid (show 2 * f = N + (if p.h.pr = 6 then 16 else if p.h.pr = 17 then 6 else 2) by rw [← ef, ← hN]; unfold qF; split; omega; split <;> omega)
  have Hef := Lib.hid ef
  have HKb := Lib.hid (show ∀ g ∈ [5, f], g ≤ 1000000 by
    intro g hg
    simp only [List.mem_cons, List.not_mem_nil, or_false] at hg
    have h1 := HF2.out; have h2 := HN60.out
    rcases hg with rfl | rfl
    · omega
    · split at h1; omega; split at h1 <;> omega)
  clear ela elb enla enlb er emr exr ef hans hN Hans
  have hMw : IntKind.i64.wrap (M : Int) = (M : Int) := IntWalk.i64_in _ (by have := Hmany.out; omega)
  have HSt := Lib.hid (show ∀ w', Below w13.heap.size w13 w' → (w'.cell? ⟨zb + 1, 0, none⟩ = some (.int .u8 t.pr) ∧ w'.cell? ⟨zb + 1, 1, none⟩ = some (.int .u32 t.sr) ∧ w'.cell? ⟨zb + 1, 2, none⟩ = some (.int .u32 t.ds) ∧ w'.cell? ⟨zb + 1, 3, none⟩ = some (.int .u16 t.sp) ∧ w'.cell? ⟨zb + 1, 4, none⟩ = some (.int .u16 t.dp)) from fun w' hb => row5 (blk_on HZ13.out hb))
  have Hd13 := Lib.hid (Below.drew (Below.refl w13.heap.size w13))
  refine wp_region_held_drew (S := fun w' => w'.cell? ⟨zb + 1, 0, none⟩ = some (.int .u8 t.pr) ∧ w'.cell? ⟨zb + 1, 1, none⟩ = some (.int .u32 t.sr) ∧ w'.cell? ⟨zb + 1, 2, none⟩ = some (.int .u32 t.ds) ∧ w'.cell? ⟨zb + 1, 3, none⟩ = some (.int .u16 t.sp) ∧ w'.cell? ⟨zb + 1, 4, none⟩ = some (.int .u16 t.dp)) (by kernel_rfl) (HSt.out _ Hd13.out) (fun hHeld => ?_)
  obtain ⟨wd, ewd⟩ : ∃ v, w13.drew = v := ⟨_, rfl⟩
  have HBd := Lib.hid Hd13.out
  rw [ewd] at HBd hHeld ⊢
  clear ewd Hd13
  refine tk 0 ?_ rfl ?_ ?_
  rotate_left
  · intro w' hSw; (go_simp <;> (with_reducible rfl))
  try simp only [Act.put, putL]
  refine tk 1 ?_ rfl ?_ ?_
  rotate_left
  · intro w' hSw; (go_simp <;> (with_reducible rfl))
  try simp only [Act.put, putL]
  refine tk 2 ?_ rfl ?_ ?_
  rotate_left
  · intro w' hSw; (go_simp <;> (with_reducible rfl))
  try simp only [Act.put, putL]
  refine tk 4 ?_ rfl ?_ ?_
  rotate_left
  · intro w' hSw; (go_simp <;> (with_reducible rfl))
  try simp only [Act.put, putL]
  refine tk 5 ?_ rfl ?_ ?_
  rotate_left
  · intro w' hSw; (go_simp <;> (with_reducible rfl))
  try simp only [Act.put, putL]
  refine tkC 3 rfl (fun K hK => ?_)
  go_simp
  (refine (HOf.out A2 mA c2 LA (M : Int) la nla _ Hc2.out (by have := HmA2.out; omega) (HRA.out.below HBd.out) (by have := Hmany.out; omega) Hla.out Hnla.out).mono ?_; rintro e w14 ⟨A14, c14, rfl, hc14, hcm14, ho14, hb14⟩; have HR14 := Lib.hid (ho14.rd HlaB.out); have Hc14 := Lib.hid (And.intro hc14 hcm14); have HB14 := Lib.hid (below_trans HBd.out hb14); clear hc14 hcm14 ho14 hb14)
  refine hK.out _ _ ?_ (fun hHeld => ?_)
  · exact HSt.out _ HB14.out
  clear hK K
  try simp only [Act.put, putL]
  refine tkC 6 rfl (fun K hK => ?_)
  go_simp
  (refine (HRw.out A14 nla c14 la t sh _ r mr xr Hc14.out (by have := HnB.out; omega) HR14.out HT.out Hsh.out Hr.out Hmr.out Hxr.out).mono ?_; rintro e w15 ⟨A15, c15, rfl, ho15, hb15⟩; have HO15 := Lib.hid ho15; have HB15 := Lib.hid (below_trans HB14.out hb15); clear ho15 hb15)
  refine hK.out _ _ ?_ (fun hHeld => ?_)
  · exact HSt.out _ HB15.out
  clear hK K
  try simp only [Act.put, putL]
  refine tk 7 ?_ rfl ?_ ?_
  rotate_left
  · intro w' hSw; (go_simp <;> (with_reducible rfl))
  try simp only [Act.put, putL]
  refine tk 8 ?_ rfl ?_ ?_
  rotate_left
  · intro w' hSw; (go_simp <;> (with_reducible rfl))
  try simp only [Act.put, putL]
  refine tk 9 ?_ rfl ?_ ?_
  rotate_left
  · intro w' hSw; (go_simp <;> (with_reducible rfl))
  try simp only [Act.put, putL]
  refine tk 10 ?_ rfl ?_ ?_
  rotate_left
  · intro w' hSw; (go_simp <;> (with_reducible rfl))
  try simp only [Act.put, putL]
  refine tk 11 ?_ rfl ?_ ?_
  rotate_left
  · intro w' hSw; (go_simp <;> (with_reducible rfl))
  try simp only [Act.put, putL]
  refine wpAnyH_done (by kernel_rfl) ?_ _
  clear hHeld HSt HBd HB14 HR14 Hc14
  obtain ⟨eb, eeb⟩ : ∃ x, echoM p.m.ty p.m.cd = x := ⟨_, rfl⟩
  have Heb := Lib.hid eeb
  have HA15 := Lib.hid (blk_on HA13.out HB15.out)
  clear eeb
  obtain ⟨k0, k1, k2, k3, k4, k5, k6, k7, k8, k9, k10, k11, k12, k13, k14, k15, k16, k17, k18, k19, k20, k21, k22, k23⟩ := cells24 HA15.out
  go_wp2_with fail
  refine (echo16 p.m a.AM a.nM a.cM _ eb HPw.out.mn.rs Heb.out).mono ?_
  rintro e w16 ⟨i1, i2, rfl, hb16⟩
  have HB16 := Lib.hid (below_trans HB15.out hb16)
  have HA16 := Lib.hid (blk_on HA15.out hb16)
  have HO16 := Lib.hid (HO15.out.on hb16)
  clear hb16 HA15 HO15 HB15 k0 k1 k2 k3 k4 k5 k6 k7 k8 k9 k10 k11 k12 k13 k14 k15 k16 k17 k18 k19 k20 k21 k22 k23
  obtain ⟨q1, eq1⟩ : ∃ x : Bool, decide (M < 8 ∨ (p.h.pr = 1 ∧ echoM p.m.ty p.m.cd = false)) = x := ⟨_, rfl⟩
  have Hq1 := Lib.hid eq1
  clear eq1
  have k4 := (cells24 HA16.out).2.2.2.2.1
  go_upto_region 18 with (fail)
  go_cut [135] from 124 (fun s135 wx => s135 = .bool q1 ∧ wx = w16)
  case first =>
    by_cases h8 : M < 8
    · have h8i : (M : Int) < 8 := by omega
      have Hqt := Lib.hid (show true = q1 by rw [← Hq1.out, decide_eq_true (.inl h8)])
      clear h8
      go_wp2_with fail
      go_meet
      exact ⟨by rw [← Hqt.out], rfl⟩
    · have h8i : ¬ (M : Int) < 8 := by omega
      by_cases h1 : p.h.pr = 1
      · have p1 : (p.h.pr == 1) = true := by simpa using h1
        rcases Bool.eq_false_or_eq_true eb with rfl | rfl
        · have Hqt := Lib.hid (show false = q1 by rw [← Hq1.out]; exact (decide_eq_false (fun h => h.elim h8 (fun h => by rw [Heb.out] at h; cases h.2))).symm)
          clear h8 h1
          go_wp2_with fail
          go_meet
          exact ⟨by rw [← Hqt.out], rfl⟩
        · have Hqt := Lib.hid (show true = q1 by rw [← Hq1.out]; exact (decide_eq_true (.inr ⟨h1, Heb.out⟩)).symm)
          clear h8 h1
          go_wp2_with fail
          go_meet
          exact ⟨by rw [← Hqt.out], rfl⟩
      · have p1 : (p.h.pr == 1) = false := beq_false_of_ne h1
        have Hqt := Lib.hid (show false = q1 by rw [← Hq1.out]; exact (decide_eq_false (fun h => h.elim h8 (fun h => h1 h.1))).symm)
        clear h8 h1
        go_wp2_with fail
        go_meet
        exact ⟨by rw [← Hqt.out], rfl⟩
  case rest =>
  obtain ⟨rfl, e16⟩ := hcut
  have e16 := e16.symm
  subst e16
  clear k4
  rcases Bool.eq_false_or_eq_true q1 with rfl | rfl
  · obtain ⟨hx, hr0⟩ := HAns.out.no (of_decide_eq_true Hq1.out)
    rw [Hxr.out] at hx
    have hm0 : mr = 0 := by rw [← Hmr.out, ← Hr.out, hr0]; rfl
    clear hr0
    subst hm0
    rcases hx with rfl | rfl
    · go_wp2_with fail
      refine (HAw.out _).mono ?_
      rintro e w17 ⟨rfl, hb17⟩
      have HB17 := Lib.hid (below_trans HB16.out hb17)
      clear hb17
      go_wp2_with fail
      go_ret
      exact ⟨rfl, below_trans HB13.out HB17.out⟩
    · go_wp2_with fail
      refine (HAw.out _).mono ?_
      rintro e w17 ⟨rfl, hb17⟩
      have HB17 := Lib.hid (below_trans HB16.out hb17)
      clear hb17
      go_wp2_with fail
      go_ret
      exact ⟨rfl, below_trans HB13.out HB17.out⟩
  have hnf := of_decide_eq_false Hq1.out
  obtain ⟨hx0, hml⟩ := HAns.out.yes hnf
  have hcutA := HAns.out.cut hnf
  have hwhole := HAns.out.whole hnf
  rw [Hxr.out] at hx0
  rw [Hr.out, Hmr.out, Hnlb.out] at hml
  rw [Hr.out, Hnlb.out, Hef.out] at hcutA
  rw [Hr.out, Hef.out] at hwhole
  subst hx0
  subst hml
  have HcutA := Lib.hid hcutA
  have Hwhole := Lib.hid hwhole
  clear hnf hcutA hwhole
  go_wp2_with fail
  refine (HOf.out A13 mA c13 LB (M : Int) lb mr _ Hc13.out (by have := HmA2.out; omega) (HRB.out.below HB16.out) (by have := Hmany.out; omega) HlbE.out Hnlb.out).mono ?_
  rintro e w17 ⟨A17, c17, rfl, hc17, hcm17, ho17, hb17⟩
  have HB17 := Lib.hid (below_trans HB16.out hb17)
  have HB17a := Lib.hid (below_trans HB13.out HB17.out)
  have HA17 := Lib.hid (blk_on HA16.out hb17)
  have HRr := Lib.hid (HO16.out.on hb17)
  have HRl := Lib.hid (ho17.rd HlbB.out)
  have hc17i : (mr : Int) ≤ (c17 : Int) := by omega
  have hc15i : (mr : Int) ≤ (c15 : Int) := by have := HO16.out.cap; omega
  clear hc17 hcm17 ho17 hb17 HA16 HO16
  have HrB := Lib.hid (show Bytes r by
    have h0 := Hxr.out
    have he : errQ la = 0 := by
      by_cases h : errQ la = 0
      · exact h
      · unfold errR at h0; rw [if_pos h] at h0; exact h0
    have hrr := Hr.out
    unfold rwR at hrr
    rw [if_pos h0] at hrr
    rw [← hrr]
    exact (rwQ_is HlaB.out he HT.out).byte)
  obtain ⟨q2, eq2⟩ : ∃ x : Bool, decide (p.h.pr = 6 ∧ M = 17) = x := ⟨_, rfl⟩
  have Hq2 := Lib.hid eq2
  clear eq2
  have k4 := (cells24 HA17.out).2.2.2.2.1
  have hw17 : IntKind.i64.wrap ((N : Int) + 17) = (N : Int) + 17 := IntWalk.i64_in _ (by have := HN60.out; omega)
  go_upto_region 21 with (fail)
  go_cut [175] from 154 (fun s175 wx => s175 = .bool q2 ∧ wx = w17)
  case first =>
    by_cases h6 : p.h.pr = 6
    · have p6 : (p.h.pr == 6) = true := by simpa using h6
      by_cases h17 : M = 17
      · have m17 : ((M : Int) == 17) = true := by rw [h17]; rfl
        have hl17 : ((mr : Int) == (N : Int) + 17) = true := by
          have h := (HcutA.out ⟨h6, h17⟩).1
          have := HN.out
          simp; omega
        have Hqt := Lib.hid (show true = q2 by rw [← Hq2.out]; exact (decide_eq_true ⟨h6, h17⟩).symm)
        clear h6 h17
        go_wp2_with fail
        go_meet
        exact ⟨by rw [← Hqt.out], rfl⟩
      · have m17 : ((M : Int) == 17) = false := beq_false_of_ne (by omega)
        have Hqt := Lib.hid (show false = q2 by rw [← Hq2.out]; exact (decide_eq_false (fun h => h17 h.2)).symm)
        clear h6 h17
        go_wp2_with fail
        go_meet
        exact ⟨by rw [← Hqt.out], rfl⟩
    · have p6 : (p.h.pr == 6) = false := beq_false_of_ne h6
      have Hqt := Lib.hid (show false = q2 by rw [← Hq2.out]; exact (decide_eq_false (fun h => h6 h.1)).symm)
      clear h6
      go_wp2_with fail
      go_meet
      exact ⟨by rw [← Hqt.out], rfl⟩
  case rest =>
  obtain ⟨rfl, e17⟩ := hcut
  have e17 := e17.symm
  subst e17
  clear k4
  rcases Bool.eq_false_or_eq_true q2 with rfl | rfl
  · obtain ⟨h17, hlk⟩ := HcutA.out (of_decide_eq_true Hq2.out)
    rw [HN.out] at h17 hlk
    have Hlk := Lib.hid hlk
    have hw16 : IntKind.i64.wrap ((N : Int) + 16) = (N : Int) + 16 := IntWalk.i64_in _ (by have := HN60.out; omega)
    have hT16 : ((N : Int) + 16).toNat = N + 16 := by omega
    have h16a : (N : Int) + 16 ≤ (c15 : Int) := by omega
    have h16b : (N : Int) + 16 ≤ (c17 : Int) := by omega
    have h16c : (0 : Int) ≤ (N : Int) + 16 := by omega
    have HRx := Lib.hid (show Rd w17 A15 (N + 16) (r.take (N + 16)) from (HRr.out.rd HrB.out).take (by omega))
    have HRy := Lib.hid (show Rd w17 A17 (N + 16) (lb.take (N + 16)) from HRl.out.take (by omega))
    clear hlk h17
    go_upto_region 22 with (fail)
    have Hd17 := Lib.hid (Below.drew (Below.refl w17.heap.size w17))
    refine wp_region_held_drew (S := fun w' => True) (by kernel_rfl) trivial (fun hHeld => ?_)
    obtain ⟨wd, ewd⟩ : ∃ v, w17.drew = v := ⟨_, rfl⟩
    rw [ewd] at Hd17 ⊢
    clear ewd
    refine tk 0 ?_ rfl ?_ ?_
    rotate_left
    · intro w' hSw; (go_simp <;> (with_reducible rfl))
    try simp only [Act.put, putL]
    refine tk 1 ?_ rfl ?_ ?_
    rotate_left
    · intro w' hSw; (go_simp <;> (with_reducible rfl))
    try simp only [Act.put, putL]
    refine tk 2 ?_ rfl ?_ ?_
    rotate_left
    · intro w' hSw; (go_simp <;> (with_reducible rfl))
    try simp only [Act.put, putL]
    refine tk 3 ?_ rfl ?_ ?_
    rotate_left
    · intro w' hSw; (go_simp <;> (with_reducible rfl))
    try simp only [Act.put, putL]
    refine tk 4 ?_ rfl ?_ ?_
    rotate_left
    · intro w' hSw; (go_simp <;> (with_reducible rfl))
    try simp only [Act.put, putL]
    refine tk 5 ?_ rfl ?_ ?_
    rotate_left
    · intro w' hSw; (go_simp <;> (with_reducible rfl))
    try simp only [Act.put, putL]
    refine tk 6 ?_ rfl ?_ ?_
    rotate_left
    · intro w' hSw; (go_simp <;> (with_reducible rfl))
    try simp only [Act.put, putL]
    refine tk 7 ?_ rfl ?_ ?_
    rotate_left
    · intro w' hSw; (go_simp <;> (with_reducible rfl))
    try simp only [Act.put, putL]
    refine tk 8 ?_ rfl ?_ ?_
    rotate_left
    · intro w' hSw; (go_simp <;> (with_reducible rfl))
    try simp only [Act.put, putL]
    refine tk 9 ?_ rfl ?_ ?_
    rotate_left
    · intro w' hSw; (go_simp <;> (with_reducible rfl))
    try simp only [Act.put, putL]
    refine wpAnyH_done (by kernel_rfl) ?_ _
    clear hHeld hw16 hT16 h16a h16b h16c
    obtain ⟨k0, k1, k2, k3, k4, k5, k6, k7, k8, k9, k10, k11, k12, k13, k14, k15, k16, k17, k18, k19, k20, k21, k22, k23⟩ := cells24 (blk_on HA17.out Hd17.out)
    go_wp2_with fail
    refine (places16_any p.h.pr N f _ (by have := HN60.out; omega) HA.out.kn HF2.out).mono ?_
    rintro e w20 ⟨AP, rfl, hpl, hb20⟩
    have HPL := Lib.hid hpl
    have HB20 := Lib.hid hb20
    clear hpl hb20 k0 k1 k2 k3 k4 k5 k6 k7 k8 k9 k10 k11 k12 k13 k14 k15 k16 k17 k18 k19 k20 k21 k22 k23
    go_wp2_with fail
    refine (rlike16_any A15 A17 (N + 16) c15 (N + 16) c17 (r.take (N + 16)) (lb.take (N + 16)) AP 2 2 [5, f] true _ (by have := HnB.out; have := HN60.out; omega) (by have := HnB.out; have := HN60.out; omega) ((HRx.out.below Hd17.out).below HB20.out) ((HRy.out.below Hd17.out).below HB20.out) HPL.out rfl (by decide) HKb.out Hlk.out).mono ?_
    rintro e w21 ⟨rfl, hb21⟩
    have HB21 := Lib.hid (below_trans HB20.out hb21)
    clear hb21
    go_wp2_with fail
    refine (HAw.out _).mono ?_
    rintro e w22 ⟨rfl, hb22⟩
    have HB22 := Lib.hid (below_trans HB21.out hb22)
    clear hb22
    go_wp2_with fail
    go_ret
    exact ⟨rfl, below_trans (below_trans HB17a.out Hd17.out) HB22.out⟩
  · have Hlk := Lib.hid (Hwhole.out (of_decide_eq_false Hq2.out))
    have HRx := Lib.hid (HRr.out.rd HrB.out)
    obtain ⟨k0, k1, k2, k3, k4, k5, k6, k7, k8, k9, k10, k11, k12, k13, k14, k15, k16, k17, k18, k19, k20, k21, k22, k23⟩ := cells24 HA17.out
    go_wp2_with fail
    refine (places16_any p.h.pr N f _ (by have := HN60.out; omega) HA.out.kn HF2.out).mono ?_
    rintro e w20 ⟨AP, rfl, hpl, hb20⟩
    have HPL := Lib.hid hpl
    have HB20 := Lib.hid hb20
    clear hpl hb20 k0 k1 k2 k3 k4 k5 k6 k7 k8 k9 k10 k11 k12 k13 k14 k15 k16 k17 k18 k19 k20 k21 k22 k23
    go_wp2_with fail
    refine (rlike16_any A15 A17 mr c15 mr c17 r lb AP 2 2 [5, f] true _ (by have := HnB.out; have := HN60.out; omega) (by have := HnB.out; have := HN60.out; omega) (HRx.out.below HB20.out) (HRl.out.below HB20.out) HPL.out rfl (by decide) HKb.out Hlk.out).mono ?_
    rintro e w21 ⟨rfl, hb21⟩
    have HB21 := Lib.hid (below_trans HB20.out hb21)
    clear hb21
    go_wp2_with fail
    refine (HAw.out _).mono ?_
    rintro e w22 ⟨rfl, hb22⟩
    have HB22 := Lib.hid (below_trans HB21.out hb22)
    clear hb22
    go_wp2_with fail
    go_ret
    exact ⟨rfl, below_trans HB17a.out HB22.out⟩
end Go.Proofs.Ytoegfgbalcholaa.innerAsIfW
