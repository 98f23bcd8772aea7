/-
  Package packet's Put: a packet's bytes.
-/
import Derived.Test.YtoegfgbalcholaaGreatZT01
import Derived.Test.YtoegfgbalcholaaGreatZT31
namespace Go.Proofs.YtoegfgbalcholaaGreat
set_option maxRecDepth 10000
open Go.RowKit
set_option linter.unusedSimpArgs false
set_option linter.unusedVariables false
/-- Bytes of the call's own (or none), and an error. -/
def PutOwn9 (L : List Int) (m : Nat) (x : Int) (w : World) (e : Ending) (w' : World) : Prop := ∃ A c, e = .returned (.tuple #[.slice A m c, .int .i64 x]) ∧ (m ≤ c ∧ c ≤ maxLen) ∧ OwnB w' w.heap.size A m c L ∧ Rd w' A m L ∧ Below w.heap.size w w'
theorem PutOwn9.none_ {x : Int} {w : World} {e : Ending} {w' : World} (he : e = .returned (.tuple #[.slice none 0 0, .int .i64 x])) (hb : Below w.heap.size w w') : PutOwn9 [] 0 x w e w' := ⟨none, 0, he, ⟨Nat.le_refl _, by simp [maxLen]⟩, OwnB.nil _ _, Rd.nil _ _, hb⟩

theorem ipput_long (h : Hd) (A A' : Option Addr) (n c n' c' : Nat) (w : World) (hm : mayB h.tt n = true) (hn : n ≤ 40) (hn' : n' ≤ 140737488355328) (hl : 1500 < 20 + n + n') :
    Calls Tryz.prog 22 #[.agg #[.int .u8 h.to, .int .u16 h.id, .bool h.df, .int .u8 h.tt, .int .u8 h.pr, .int .u32 h.sr, .int .u32 h.ds, .slice A n c], .slice A' n' c'] w (NoneIs 3 w) := put_long h.to h.id h.tt h.pr h.sr h.ds h.df A A' n c n' c' w hm hn hn' hl
theorem ipput_ok (h : Hd) (A A' : Option Addr) (n c n' c' : Nat) (l : List Int) (w : World) (hh : HdNum h) (hm : mayB h.tt n = true) (hc : n ≤ c ∧ c ≤ maxLen) (hc' : n' ≤ c' ∧ c' ≤ maxLen) (hr : Rd w A n h.o) (hr' : Rd w A' n' l) (hn : n ≤ 40) (hl : 20 + n + n' ≤ 1500) :
    Calls Tryz.prog 22 #[.agg #[.int .u8 h.to, .int .u16 h.id, .bool h.df, .int .u8 h.tt, .int .u8 h.pr, .int .u32 h.sr, .int .u32 h.ds, .slice A n c], .slice A' n' c'] w (RowOk (20 + n + n') (hdB h l) w) := put_ok h.to h.id h.tt h.pr h.sr h.ds h.df A A' n c n' c' h.o l w hh.to hh.id hh.tt hh.pr hh.sr hh.ds hm hn hc hc' hl hr hr'

theorem put9_bad (p : Pk) (a : PkA) (w : World) (hp : PkRd w p a) (hn : a.nO ≤ 140737488355328) (hm : mayP p = false) :
    Calls Tryz.prog 5 #[.agg #[.int .u8 p.h.to, .int .u16 p.h.id, .bool p.h.df, .int .u8 p.h.tt, .int .u8 p.h.pr, .int .u32 p.h.sr, .int .u32 p.h.ds, .slice a.AH a.nH a.cH, .int .u16 p.s.sp, .int .u16 p.s.dp, .int .u32 p.s.sq, .int .u32 p.s.ak, .int .u8 p.s.fl, .int .u16 p.s.wn, .int .u16 p.s.ug, .slice a.AO a.nO a.cO, .slice a.AD a.nD a.cD, .int .u16 p.u.sp, .int .u16 p.u.dp, .slice a.AU a.nU a.cU, .int .u8 p.m.ty, .int .u8 p.m.cd, .int .u32 p.m.rs, .slice a.AM a.nM a.cM]] w (PutOwn9 [] 0 1 w) := by
  obtain ⟨z, hz⟩ : ∃ z, w.heap.size = z := ⟨_, rfl⟩
  obtain ⟨w0, ew⟩ : ∃ w0, w.alloc (.cells #[.int .u8 p.h.to, .int .u16 p.h.id, .bool p.h.df, .int .u8 p.h.tt, .int .u8 p.h.pr, .int .u32 p.h.sr, .int .u32 p.h.ds, .slice a.AH a.nH a.cH, .int .u16 p.s.sp, .int .u16 p.s.dp, .int .u32 p.s.sq, .int .u32 p.s.ak, .int .u8 p.s.fl, .int .u16 p.s.wn, .int .u16 p.s.ug, .slice a.AO a.nO a.cO, .slice a.AD a.nD a.cD, .int .u16 p.u.sp, .int .u16 p.u.dp, .slice a.AU a.nU a.cU, .int .u8 p.m.ty, .int .u8 p.m.cd, .int .u32 p.m.rs, .slice a.AM a.nM a.cM] 35) = w0 := ⟨_, rfl⟩
  have hb0 : Below w.heap.size w w0 := by rw [← ew]; exact (Below.refl _ _).alloc (Nat.le_refl _) _
  have hk0 : w0.heap[z]? = some (.cells #[.int .u8 p.h.to, .int .u16 p.h.id, .bool p.h.df, .int .u8 p.h.tt, .int .u8 p.h.pr, .int .u32 p.h.sr, .int .u32 p.h.ds, .slice a.AH a.nH a.cH, .int .u16 p.s.sp, .int .u16 p.s.dp, .int .u32 p.s.sq, .int .u32 p.s.ak, .int .u8 p.s.fl, .int .u16 p.s.wn, .int .u16 p.s.ug, .slice a.AO a.nO a.cO, .slice a.AD a.nD a.cD, .int .u16 p.u.sp, .int .u16 p.u.dp, .slice a.AU a.nU a.cU, .int .u8 p.m.ty, .int .u8 p.m.cd, .int .u32 p.m.rs, .slice a.AM a.nM a.cM] 35 (0, 0)) := by rw [← ew, ← hz]; exact heap_alloc_new w _
  have HK := Lib.hid (show ∀ w', Below w0.heap.size w0 w' → w'.heap[z]? = some (.cells #[.int .u8 p.h.to, .int .u16 p.h.id, .bool p.h.df, .int .u8 p.h.tt, .int .u8 p.h.pr, .int .u32 p.h.sr, .int .u32 p.h.ds, .slice a.AH a.nH a.cH, .int .u16 p.s.sp, .int .u16 p.s.dp, .int .u32 p.s.sq, .int .u32 p.s.ak, .int .u8 p.s.fl, .int .u16 p.s.wn, .int .u16 p.s.ug, .slice a.AO a.nO a.cO, .slice a.AD a.nD a.cD, .int .u16 p.u.sp, .int .u16 p.u.dp, .slice a.AU a.nU a.cU, .int .u8 p.m.ty, .int .u8 p.m.cd, .int .u32 p.m.rs, .slice a.AM a.nM a.cM] 35 (0, 0)) ∧ PkRd w' p a from fun w' hb => ⟨blk_on hk0 hb, (hp.below hb0).below hb⟩)
  have Hb0 := Lib.hid hb0
  have Ew := Lib.hid ew
  have Hz := Lib.hid hz
  have Hmay := Lib.hid (may9_any p a w0 false (hp.below hb0) hn hm)
  have HA := Lib.hid hk0
  clear hz ew hb0 hk0 hp hn hm
  go_enter Tryz.func5, Tryz.ntmps5
  go_upto_region 1 with (fail)
  rw [Ew.out]
  try rw [Hz.out]
  repeat (first | (refine wp_load_row 35 (.tmp 1) rfl z _ _ _ _ HA.out rfl Tryz.underlying35 rfl (by kernel_rfl) ?_; simp only [Act.put, List.setIfInBounds_toArray, List.set_cons_zero, List.set_cons_succ]) | go_values | go_skip | go_guarded | go_step | go_upon | go_back)
  refine Hmay.out.mono ?_
  rintro e w1 ⟨rfl, hb1⟩
  have Hb := Lib.hid hb1
  clear hb1 Hmay HA
  go_wp2_with fail
  go_ret2
  exact PutOwn9.none_ rfl (below_trans Hb0.out Hb.out)
set_option maxHeartbeats 2000000 in
theorem put9_6 (p : Pk) (a : PkA) (w : World) (L : List Int) (m : Nat) (x : Int) (hp : PkRd w p a) (hn : a.nO ≤ 140737488355328) (hnD : a.nD ≤ 140737488355328) (hm : mayP p = true) (h6 : p.h.pr = 6) (hx : errPk p = x) (hL : pkB p = L) (hlm : L.length = m) :
    Calls Tryz.prog 5 #[.agg #[.int .u8 p.h.to, .int .u16 p.h.id, .bool p.h.df, .int .u8 p.h.tt, .int .u8 p.h.pr, .int .u32 p.h.sr, .int .u32 p.h.ds, .slice a.AH a.nH a.cH, .int .u16 p.s.sp, .int .u16 p.s.dp, .int .u32 p.s.sq, .int .u32 p.s.ak, .int .u8 p.s.fl, .int .u16 p.s.wn, .int .u16 p.s.ug, .slice a.AO a.nO a.cO, .slice a.AD a.nD a.cD, .int .u16 p.u.sp, .int .u16 p.u.dp, .slice a.AU a.nU a.cU, .int .u8 p.m.ty, .int .u8 p.m.cd, .int .u32 p.m.rs, .slice a.AM a.nM a.cM]] w (PutOwn9 L m x w) := by
  have Hkn := Lib.hid (show knownP p.h.pr = true by rw [h6]; rfl)
  have hmayB : mayB p.h.tt a.nH = true := by
    have h := hm
    unfold mayP at h
    simp only [Bool.and_eq_true] at h
    rw [← hp.hr.len]
    exact h.2.1
  have hn40 : a.nH ≤ 40 := by have := hmayB; unfold mayB at this; simp at this; omega
  obtain ⟨P, eP⟩ : ∃ P, loadB p = P := ⟨_, rfl⟩
  obtain ⟨k, ek⟩ : ∃ k, P.length = k := ⟨_, rfl⟩
  obtain ⟨y, ey⟩ : ∃ y, errLoad p = y := ⟨_, rfl⟩
  have hol := hp.hr.len
  unfold pkB at hL
  unfold errPk at hx hL
  rw [if_pos hm, ey, eP, ek, hol] at hx hL
  have hey : errS p.s = y := by rw [← ey]; unfold errLoad; simp [h6]
  have heP : toldB p.h.sr p.h.ds p.s = P := by rw [← eP]; unfold loadB; simp [h6]
  have hkb : k ≤ 140737488355328 := by rw [← ek, ← heP]; (unfold toldB; split; rw [segB_len]; have := (errS_zero p.s).1 (by assumption); unfold mayT at this; simp at this; omega; simp)
  have Hkb := Lib.hid hkb
  have Hn40 := Lib.hid hn40
  have H6 := Lib.hid h6
  have Hx := Lib.hid hx
  have HL := Lib.hid hL
  have Hlm := Lib.hid hlm
  have HmB := Lib.hid hmayB
  have Hn := Lib.hid hn
  have HD := Lib.hid hnD
  have Ey := Lib.hid hey
  have EP := Lib.hid heP
  have Ek := Lib.hid ek
  clear hx hL hlm hmayB h6 hey heP ek ey eP hnD hol hkb hn40
  obtain ⟨z, hz⟩ : ∃ z, w.heap.size = z := ⟨_, rfl⟩
  obtain ⟨w0, ew⟩ : ∃ w0, w.alloc (.cells #[.int .u8 p.h.to, .int .u16 p.h.id, .bool p.h.df, .int .u8 p.h.tt, .int .u8 p.h.pr, .int .u32 p.h.sr, .int .u32 p.h.ds, .slice a.AH a.nH a.cH, .int .u16 p.s.sp, .int .u16 p.s.dp, .int .u32 p.s.sq, .int .u32 p.s.ak, .int .u8 p.s.fl, .int .u16 p.s.wn, .int .u16 p.s.ug, .slice a.AO a.nO a.cO, .slice a.AD a.nD a.cD, .int .u16 p.u.sp, .int .u16 p.u.dp, .slice a.AU a.nU a.cU, .int .u8 p.m.ty, .int .u8 p.m.cd, .int .u32 p.m.rs, .slice a.AM a.nM a.cM] 35) = w0 := ⟨_, rfl⟩
  have hb0 : Below w.heap.size w w0 := by rw [← ew]; exact (Below.refl _ _).alloc (Nat.le_refl _) _
  have hk0 : w0.heap[z]? = some (.cells #[.int .u8 p.h.to, .int .u16 p.h.id, .bool p.h.df, .int .u8 p.h.tt, .int .u8 p.h.pr, .int .u32 p.h.sr, .int .u32 p.h.ds, .slice a.AH a.nH a.cH, .int .u16 p.s.sp, .int .u16 p.s.dp, .int .u32 p.s.sq, .int .u32 p.s.ak, .int .u8 p.s.fl, .int .u16 p.s.wn, .int .u16 p.s.ug, .slice a.AO a.nO a.cO, .slice a.AD a.nD a.cD, .int .u16 p.u.sp, .int .u16 p.u.dp, .slice a.AU a.nU a.cU, .int .u8 p.m.ty, .int .u8 p.m.cd, .int .u32 p.m.rs, .slice a.AM a.nM a.cM] 35 (0, 0)) := by rw [← ew, ← hz]; exact heap_alloc_new w _
  have HK := Lib.hid (show ∀ w', Below w0.heap.size w0 w' → w'.heap[z]? = some (.cells #[.int .u8 p.h.to, .int .u16 p.h.id, .bool p.h.df, .int .u8 p.h.tt, .int .u8 p.h.pr, .int .u32 p.h.sr, .int .u32 p.h.ds, .slice a.AH a.nH a.cH, .int .u16 p.s.sp, .int .u16 p.s.dp, .int .u32 p.s.sq, .int .u32 p.s.ak, .int .u8 p.s.fl, .int .u16 p.s.wn, .int .u16 p.s.ug, .slice a.AO a.nO a.cO, .slice a.AD a.nD a.cD, .int .u16 p.u.sp, .int .u16 p.u.dp, .slice a.AU a.nU a.cU, .int .u8 p.m.ty, .int .u8 p.m.cd, .int .u32 p.m.rs, .slice a.AM a.nM a.cM] 35 (0, 0)) ∧ PkRd w' p a from fun w' hb => ⟨blk_on hk0 hb, (hp.below hb0).below hb⟩)
  have Hb0 := Lib.hid hb0
  have Ew := Lib.hid ew
  have Hz := Lib.hid hz
  have Hmay := Lib.hid (may9_any p a w0 true (hp.below hb0) hn hm)
  have HA := Lib.hid hk0
  clear hz ew hb0 hk0 hp hn hm
  go_enter Tryz.func5, Tryz.ntmps5
  go_upto_region 1 with (fail)
  rw [Ew.out]
  try rw [Hz.out]
  repeat (first | (refine wp_load_row 35 (.tmp 1) rfl z _ _ _ _ HA.out rfl Tryz.underlying35 rfl (by kernel_rfl) ?_; simp only [Act.put, List.setIfInBounds_toArray, List.set_cons_zero, List.set_cons_succ]) | go_values | go_skip | go_guarded | go_step | go_upon | go_back)
  refine Hmay.out.mono ?_
  rintro e w1 ⟨rfl, hb1⟩
  have Hb := Lib.hid hb1
  clear hb1 Hmay HA
  go_upto_region 3 with (fail)
  have Cell4 := Lib.hid (show ∀ (W : World), W.heap[z]? = some (.cells #[.int .u8 p.h.to, .int .u16 p.h.id, .bool p.h.df, .int .u8 p.h.tt, .int .u8 p.h.pr, .int .u32 p.h.sr, .int .u32 p.h.ds, .slice a.AH a.nH a.cH, .int .u16 p.s.sp, .int .u16 p.s.dp, .int .u32 p.s.sq, .int .u32 p.s.ak, .int .u8 p.s.fl, .int .u16 p.s.wn, .int .u16 p.s.ug, .slice a.AO a.nO a.cO, .slice a.AD a.nD a.cD, .int .u16 p.u.sp, .int .u16 p.u.dp, .slice a.AU a.nU a.cU, .int .u8 p.m.ty, .int .u8 p.m.cd, .int .u32 p.m.rs, .slice a.AM a.nM a.cM] 35 (0, 0)) → W.cell? ⟨z, 4, none⟩ = some (.int .u8 p.h.pr) from fun W h => by rw [blk_cell h]; rfl)
  have Hd := Lib.hid (Below.drew Hb.out)
  refine wp_region_held_drew (S := fun w' => w'.heap[z]? = some (.cells #[.int .u8 p.h.to, .int .u16 p.h.id, .bool p.h.df, .int .u8 p.h.tt, .int .u8 p.h.pr, .int .u32 p.h.sr, .int .u32 p.h.ds, .slice a.AH a.nH a.cH, .int .u16 p.s.sp, .int .u16 p.s.dp, .int .u32 p.s.sq, .int .u32 p.s.ak, .int .u8 p.s.fl, .int .u16 p.s.wn, .int .u16 p.s.ug, .slice a.AO a.nO a.cO, .slice a.AD a.nD a.cD, .int .u16 p.u.sp, .int .u16 p.u.dp, .slice a.AU a.nU a.cU, .int .u8 p.m.ty, .int .u8 p.m.cd, .int .u32 p.m.rs, .slice a.AM a.nM a.cM] 35 (0, 0)) ∧ w'.cell? ⟨z, 4, none⟩ = some (.int .u8 p.h.pr)) (by kernel_rfl) (⟨(HK.out _ Hd.out).1, Cell4.out _ (HK.out _ Hd.out).1⟩) (fun hHeld => ?_)
  obtain ⟨wd, ewd⟩ : ∃ wd, w1.drew = wd := ⟨_, rfl⟩
  rw [ewd] at Hd hHeld ⊢
  clear ewd Hb
  refine wpAnyH_take (i := 0) (oi := { dst := some 10, op := Go.Op.load 35 (Go.Operand.tmp 1), type := 35, pos := "packet.go:57", after := #[], guard := none }) (v := .agg #[.int .u8 p.h.to, .int .u16 p.h.id, .bool p.h.df, .int .u8 p.h.tt, .int .u8 p.h.pr, .int .u32 p.h.sr, .int .u32 p.h.ds, .slice a.AH a.nH a.cH, .int .u16 p.s.sp, .int .u16 p.s.dp, .int .u32 p.s.sq, .int .u32 p.s.ak, .int .u8 p.s.fl, .int .u16 p.s.wn, .int .u16 p.s.ug, .slice a.AO a.nO a.cO, .slice a.AD a.nD a.cD, .int .u16 p.u.sp, .int .u16 p.u.dp, .slice a.AU a.nU a.cU, .int .u8 p.m.ty, .int .u8 p.m.cd, .int .u32 p.m.rs, .slice a.AM a.nM a.cM]) rfl (by kernel_rfl) (by kernel_rfl) (by kernel_rfl) (fun _ _ _ h => h) (Or.inl ⟨by rfl, fun w' hSw => exec_row 35 (.tmp 1) rfl z _ _ _ _ hSw.1 rfl Tryz.underlying35 rfl (by kernel_rfl)⟩) (by assumption) ?_
  (try simp only [Act.put, List.setIfInBounds_toArray, List.set_cons_zero, List.set_cons_succ])
  refine tk 2 ?_ rfl ?_ ?_
  rotate_left
  · intro w' hSw; (go_simp <;> (with_reducible rfl))
  try simp only [Act.put, putL]
  refine tk 3 ?_ rfl ?_ ?_
  rotate_left
  · intro w' hSw; (go_simp <;> (with_reducible rfl))
  try simp only [Act.put, putL]
  refine tk 4 ?_ rfl ?_ ?_
  rotate_left
  · intro w' hSw; (go_simp <;> (with_reducible rfl))
  try simp only [Act.put, putL]
  refine tkC 1 rfl (fun K hK => ?_)
  go_simp
  (refine (payloads_any p a _).mono ?_; rintro e w2 ⟨g, q, r, b, rfl, hg, hP, hb2⟩; have HG := Lib.hid hg; have HPA := Lib.hid hP; have HB2 := Lib.hid (below_trans Hd.out hb2); clear hg hP hb2)
  refine hK.out _ _ ?_ (fun hHeld => ?_)
  · exact ⟨(HK.out _ HB2.out).1, Cell4.out _ (HK.out _ HB2.out).1⟩
  clear hK K
  try simp only [Act.put, putL]
  refine anyH_mono (S' := fun w' => (w'.heap[z]? = some (.cells #[.int .u8 p.h.to, .int .u16 p.h.id, .bool p.h.df, .int .u8 p.h.tt, .int .u8 p.h.pr, .int .u32 p.h.sr, .int .u32 p.h.ds, .slice a.AH a.nH a.cH, .int .u16 p.s.sp, .int .u16 p.s.dp, .int .u32 p.s.sq, .int .u32 p.s.ak, .int .u8 p.s.fl, .int .u16 p.s.wn, .int .u16 p.s.ug, .slice a.AO a.nO a.cO, .slice a.AD a.nD a.cD, .int .u16 p.u.sp, .int .u16 p.u.dp, .slice a.AU a.nU a.cU, .int .u8 p.m.ty, .int .u8 p.m.cd, .int .u32 p.m.rs, .slice a.AM a.nM a.cM] 35 (0, 0)) ∧ w'.cell? ⟨z, 4, none⟩ = some (.int .u8 p.h.pr)) ∧ w'.heap[g]? = some (threeO (payF6 q r b) (payF17 q r b) (payF1 b))) (fun _ h => h.1) _ _ _ _ ?_
  have hHeld := And.intro hHeld HG.out
  have hlook := fun (W : World) (h : W.heap[g]? = some (threeO (payF6 q r b) (payF17 q r b) (payF1 b))) => at_payload W g _ _ _ p.h.pr (.func (.func 56) #[] #[.pointer (some ⟨q, 0, none⟩), .pointer (some ⟨r, 0, none⟩), .pointer (some ⟨b, 0, none⟩)]) h (by rw [H6.out]; rfl) Hkn.out
  refine tk 5 ?_ rfl ?_ ?_
  rotate_left
  · intro w' hSw; (go_simp <;> (with_reducible rfl))
  try simp only [Act.put, putL]
  clear hlook
  have HC := Lib.hid (pay_6 p a q r b _ w2 P k y (HK.out _ HB2.out).2 Hn.out HD.out HPA.out Ey.out EP.out Ek.out)
  refine tkC 6 rfl (fun K hK => ?_)
  go_simp
  (refine HC.out.mono ?_; rintro e w3 ⟨A2, c2, rfl, hc2, hr2, hb3⟩; have Hc2 := Lib.hid hc2; have Hr2 := Lib.hid hr2; have HB3 := Lib.hid (below_trans HB2.out hb3); have HG3 := Lib.hid (blk_on HG.out hb3); clear hc2 hr2 hb3)
  refine hK.out _ _ ?_ (fun hHeld => ?_)
  · exact ⟨⟨(HK.out _ HB3.out).1, Cell4.out _ (HK.out _ HB3.out).1⟩, HG3.out⟩
  clear hK K
  try simp only [Act.put, putL]
  clear HC
  refine tk 7 ?_ rfl ?_ ?_
  rotate_left
  · intro w' hSw; (go_simp <;> (with_reducible rfl))
  try simp only [Act.put, putL]
  refine tk 8 ?_ rfl ?_ ?_
  rotate_left
  · intro w' hSw; (go_simp <;> (with_reducible rfl))
  try simp only [Act.put, putL]
  refine tk 9 ?_ rfl ?_ ?_
  rotate_left
  · intro w' hSw; (go_simp <;> (with_reducible rfl))
  try simp only [Act.put, putL]
  refine tk 10 ?_ rfl ?_ ?_
  rotate_left
  · intro w' hSw; (go_simp <;> (with_reducible rfl))
  try simp only [Act.put, putL]
  refine tk 11 ?_ rfl ?_ ?_
  rotate_left
  · intro w' hSw; (go_simp <;> (with_reducible rfl))
  try simp only [Act.put, putL]
  refine wpAnyH_done (by kernel_rfl) ?_ _
  clear hHeld HG3 HPA HG
  by_cases h0 : y = 0
  case neg =>
    have h0b : (y != 0) = true := by simpa using h0
    have Hx2 := Lib.hid (show y = x by have := Hx.out; rw [if_neg h0] at this; exact this)
    have HL2 := Lib.hid (show [] = L by have := HL.out; rw [if_neg h0, if_neg h0] at this; exact this)
    clear h0
    go_wp2_with fail
    go_ret2
    have hl := HL2.out
    have hx2 := Hx2.out
    have hlm := Hlm.out
    subst hl; subst hx2; subst hlm
    exact PutOwn9.none_ rfl (below_trans Hb0.out HB3.out)
  subst h0
  obtain ⟨k0, k1, k2, k3, k4, k5, k6, k7, k8, k9, k10, k11, k12, k13, k14, k15, k16, k17, k18, k19, k20, k21, k22, k23⟩ := cells24 (HK.out _ HB3.out).1
  go_wp2_with fail
  clear k0 k1 k2 k3 k4 k5 k6 k7 k8 k9 k10 k11 k12 k13 k14 k15 k16 k17 k18 k19 k20 k21 k22 k23
  have HP := Lib.hid (HK.out _ HB3.out).2
  have hx0 := Hx.out
  have hL0 := HL.out
  have hlm := Hlm.out
  have hkb := Hkb.out
  have hn40 := Hn40.out
  simp only [reduceIte] at hx0 hL0
  by_cases hlg : 1500 < 20 + a.nH + k
  · rw [if_pos hlg] at hx0 hL0
    rw [if_neg (by decide)] at hL0
    subst hx0; subst hL0; subst hlm
    refine (ipput_long p.h a.AH A2 a.nH a.cH k c2 _ HmB.out hn40 hkb hlg).mono ?_
    rintro e w4 ⟨rfl, hb4⟩
    have Hb := Lib.hid (below_trans HB3.out hb4)
    clear hb4
    go_wp2_with fail
    go_ret2
    exact PutOwn9.none_ rfl (below_trans Hb0.out Hb.out)
  · rw [if_neg hlg] at hx0 hL0
    rw [if_pos rfl] at hL0
    subst hx0
    have hbb := hdB_bytes HP.out.hn hn40 HP.out.hr Hr2.out (by omega)
    have hlen : (hdB p.h P).length = 20 + a.nH + k := by unfold hdB; rw [packetL_len, HP.out.hr.len, Ek.out]
    rw [hL0] at hbb hlen
    have hmk : 20 + a.nH + k = m := by rw [← hlen]; exact hlm
    have Hbb := Lib.hid hbb
    have Hmk := Lib.hid hmk
    have HL0 := Lib.hid hL0
    clear hlm hbb hlen hmk hL0
    refine (ipput_ok p.h a.AH A2 a.nH a.cH k c2 P _ HP.out.hn HmB.out HP.out.hc Hc2.out HP.out.hr Hr2.out hn40 (by omega)).mono ?_
    rintro e w4 ⟨A3, c3, rfl, h31, h32, ho3, hb4⟩
    rw [HL0.out] at ho3
    have Hb := Lib.hid (below_trans HB3.out hb4)
    have Ho3 := Lib.hid (ho3.rd Hbb.out)
    have Hw3 := Lib.hid (ho3.mono (below_trans Hb0.out HB3.out).size)
    clear hb4 ho3
    go_wp2_with fail
    go_ret2
    have hmk := Hmk.out
    subst hmk
    exact ⟨A3, c3, rfl, ⟨h31, h32⟩, Hw3.out, Ho3.out, below_trans Hb0.out Hb.out⟩
set_option maxHeartbeats 2000000 in
theorem put9_17 (p : Pk) (a : PkA) (w : World) (L : List Int) (m : Nat) (x : Int) (hp : PkRd w p a) (hn : a.nO ≤ 140737488355328) (hnD : a.nD ≤ 140737488355328) (hm : mayP p = true) (h6 : p.h.pr = 17) (hx : errPk p = x) (hL : pkB p = L) (hlm : L.length = m) :
    Calls Tryz.prog 5 #[.agg #[.int .u8 p.h.to, .int .u16 p.h.id, .bool p.h.df, .int .u8 p.h.tt, .int .u8 p.h.pr, .int .u32 p.h.sr, .int .u32 p.h.ds, .slice a.AH a.nH a.cH, .int .u16 p.s.sp, .int .u16 p.s.dp, .int .u32 p.s.sq, .int .u32 p.s.ak, .int .u8 p.s.fl, .int .u16 p.s.wn, .int .u16 p.s.ug, .slice a.AO a.nO a.cO, .slice a.AD a.nD a.cD, .int .u16 p.u.sp, .int .u16 p.u.dp, .slice a.AU a.nU a.cU, .int .u8 p.m.ty, .int .u8 p.m.cd, .int .u32 p.m.rs, .slice a.AM a.nM a.cM]] w (PutOwn9 L m x w) := by
  have Hkn := Lib.hid (show knownP p.h.pr = true by rw [h6]; rfl)
  have hmayB : mayB p.h.tt a.nH = true := by
    have h := hm
    unfold mayP at h
    simp only [Bool.and_eq_true] at h
    rw [← hp.hr.len]
    exact h.2.1
  have hn40 : a.nH ≤ 40 := by have := hmayB; unfold mayB at this; simp at this; omega
  obtain ⟨P, eP⟩ : ∃ P, loadB p = P := ⟨_, rfl⟩
  obtain ⟨k, ek⟩ : ∃ k, P.length = k := ⟨_, rfl⟩
  obtain ⟨y, ey⟩ : ∃ y, errLoad p = y := ⟨_, rfl⟩
  have hol := hp.hr.len
  unfold pkB at hL
  unfold errPk at hx hL
  rw [if_pos hm, ey, eP, ek, hol] at hx hL
  have hey : errUP p.u = y := by rw [← ey]; unfold errLoad; simp [h6]
  have heP : toldU p.h.sr p.h.ds p.u = P := by rw [← eP]; unfold loadB; simp [h6]
  have hkb : k ≤ 140737488355328 := by rw [← ek, ← heP]; (unfold toldU; split; simp; rw [dgB_len]; omega)
  have Hkb := Lib.hid hkb
  have Hn40 := Lib.hid hn40
  have H6 := Lib.hid h6
  have Hx := Lib.hid hx
  have HL := Lib.hid hL
  have Hlm := Lib.hid hlm
  have HmB := Lib.hid hmayB
  have Hn := Lib.hid hn
  have HD := Lib.hid hnD
  have Ey := Lib.hid hey
  have EP := Lib.hid heP
  have Ek := Lib.hid ek
  clear hx hL hlm hmayB h6 hey heP ek ey eP hnD hol hkb hn40
  obtain ⟨z, hz⟩ : ∃ z, w.heap.size = z := ⟨_, rfl⟩
  obtain ⟨w0, ew⟩ : ∃ w0, w.alloc (.cells #[.int .u8 p.h.to, .int .u16 p.h.id, .bool p.h.df, .int .u8 p.h.tt, .int .u8 p.h.pr, .int .u32 p.h.sr, .int .u32 p.h.ds, .slice a.AH a.nH a.cH, .int .u16 p.s.sp, .int .u16 p.s.dp, .int .u32 p.s.sq, .int .u32 p.s.ak, .int .u8 p.s.fl, .int .u16 p.s.wn, .int .u16 p.s.ug, .slice a.AO a.nO a.cO, .slice a.AD a.nD a.cD, .int .u16 p.u.sp, .int .u16 p.u.dp, .slice a.AU a.nU a.cU, .int .u8 p.m.ty, .int .u8 p.m.cd, .int .u32 p.m.rs, .slice a.AM a.nM a.cM] 35) = w0 := ⟨_, rfl⟩
  have hb0 : Below w.heap.size w w0 := by rw [← ew]; exact (Below.refl _ _).alloc (Nat.le_refl _) _
  have hk0 : w0.heap[z]? = some (.cells #[.int .u8 p.h.to, .int .u16 p.h.id, .bool p.h.df, .int .u8 p.h.tt, .int .u8 p.h.pr, .int .u32 p.h.sr, .int .u32 p.h.ds, .slice a.AH a.nH a.cH, .int .u16 p.s.sp, .int .u16 p.s.dp, .int .u32 p.s.sq, .int .u32 p.s.ak, .int .u8 p.s.fl, .int .u16 p.s.wn, .int .u16 p.s.ug, .slice a.AO a.nO a.cO, .slice a.AD a.nD a.cD, .int .u16 p.u.sp, .int .u16 p.u.dp, .slice a.AU a.nU a.cU, .int .u8 p.m.ty, .int .u8 p.m.cd, .int .u32 p.m.rs, .slice a.AM a.nM a.cM] 35 (0, 0)) := by rw [← ew, ← hz]; exact heap_alloc_new w _
  have HK := Lib.hid (show ∀ w', Below w0.heap.size w0 w' → w'.heap[z]? = some (.cells #[.int .u8 p.h.to, .int .u16 p.h.id, .bool p.h.df, .int .u8 p.h.tt, .int .u8 p.h.pr, .int .u32 p.h.sr, .int .u32 p.h.ds, .slice a.AH a.nH a.cH, .int .u16 p.s.sp, .int .u16 p.s.dp, .int .u32 p.s.sq, .int .u32 p.s.ak, .int .u8 p.s.fl, .int .u16 p.s.wn, .int .u16 p.s.ug, .slice a.AO a.nO a.cO, .slice a.AD a.nD a.cD, .int .u16 p.u.sp, .int .u16 p.u.dp, .slice a.AU a.nU a.cU, .int .u8 p.m.ty, .int .u8 p.m.cd, .int .u32 p.m.rs, .slice a.AM a.nM a.cM] 35 (0, 0)) ∧ PkRd w' p a from fun w' hb => ⟨blk_on hk0 hb, (hp.below hb0).below hb⟩)
  have Hb0 := Lib.hid hb0
  have Ew := Lib.hid ew
  have Hz := Lib.hid hz
  have Hmay := Lib.hid (may9_any p a w0 true (hp.below hb0) hn hm)
  have HA := Lib.hid hk0
  clear hz ew hb0 hk0 hp hn hm
  go_enter Tryz.func5, Tryz.ntmps5
  go_upto_region 1 with (fail)
  rw [Ew.out]
  try rw [Hz.out]
  repeat (first | (refine wp_load_row 35 (.tmp 1) rfl z _ _ _ _ HA.out rfl Tryz.underlying35 rfl (by kernel_rfl) ?_; simp only [Act.put, List.setIfInBounds_toArray, List.set_cons_zero, List.set_cons_succ]) | go_values | go_skip | go_guarded | go_step | go_upon | go_back)
  refine Hmay.out.mono ?_
  rintro e w1 ⟨rfl, hb1⟩
  have Hb := Lib.hid hb1
  clear hb1 Hmay HA
  go_upto_region 3 with (fail)
  have Cell4 := Lib.hid (show ∀ (W : World), W.heap[z]? = some (.cells #[.int .u8 p.h.to, .int .u16 p.h.id, .bool p.h.df, .int .u8 p.h.tt, .int .u8 p.h.pr, .int .u32 p.h.sr, .int .u32 p.h.ds, .slice a.AH a.nH a.cH, .int .u16 p.s.sp, .int .u16 p.s.dp, .int .u32 p.s.sq, .int .u32 p.s.ak, .int .u8 p.s.fl, .int .u16 p.s.wn, .int .u16 p.s.ug, .slice a.AO a.nO a.cO, .slice a.AD a.nD a.cD, .int .u16 p.u.sp, .int .u16 p.u.dp, .slice a.AU a.nU a.cU, .int .u8 p.m.ty, .int .u8 p.m.cd, .int .u32 p.m.rs, .slice a.AM a.nM a.cM] 35 (0, 0)) → W.cell? ⟨z, 4, none⟩ = some (.int .u8 p.h.pr) from fun W h => by rw [blk_cell h]; rfl)
  have Hd := Lib.hid (Below.drew Hb.out)
  refine wp_region_held_drew (S := fun w' => w'.heap[z]? = some (.cells #[.int .u8 p.h.to, .int .u16 p.h.id, .bool p.h.df, .int .u8 p.h.tt, .int .u8 p.h.pr, .int .u32 p.h.sr, .int .u32 p.h.ds, .slice a.AH a.nH a.cH, .int .u16 p.s.sp, .int .u16 p.s.dp, .int .u32 p.s.sq, .int .u32 p.s.ak, .int .u8 p.s.fl, .int .u16 p.s.wn, .int .u16 p.s.ug, .slice a.AO a.nO a.cO, .slice a.AD a.nD a.cD, .int .u16 p.u.sp, .int .u16 p.u.dp, .slice a.AU a.nU a.cU, .int .u8 p.m.ty, .int .u8 p.m.cd, .int .u32 p.m.rs, .slice a.AM a.nM a.cM] 35 (0, 0)) ∧ w'.cell? ⟨z, 4, none⟩ = some (.int .u8 p.h.pr)) (by kernel_rfl) (⟨(HK.out _ Hd.out).1, Cell4.out _ (HK.out _ Hd.out).1⟩) (fun hHeld => ?_)
  obtain ⟨wd, ewd⟩ : ∃ wd, w1.drew = wd := ⟨_, rfl⟩
  rw [ewd] at Hd hHeld ⊢
  clear ewd Hb
  refine wpAnyH_take (i := 0) (oi := { dst := some 10, op := Go.Op.load 35 (Go.Operand.tmp 1), type := 35, pos := "packet.go:57", after := #[], guard := none }) (v := .agg #[.int .u8 p.h.to, .int .u16 p.h.id, .bool p.h.df, .int .u8 p.h.tt, .int .u8 p.h.pr, .int .u32 p.h.sr, .int .u32 p.h.ds, .slice a.AH a.nH a.cH, .int .u16 p.s.sp, .int .u16 p.s.dp, .int .u32 p.s.sq, .int .u32 p.s.ak, .int .u8 p.s.fl, .int .u16 p.s.wn, .int .u16 p.s.ug, .slice a.AO a.nO a.cO, .slice a.AD a.nD a.cD, .int .u16 p.u.sp, .int .u16 p.u.dp, .slice a.AU a.nU a.cU, .int .u8 p.m.ty, .int .u8 p.m.cd, .int .u32 p.m.rs, .slice a.AM a.nM a.cM]) rfl (by kernel_rfl) (by kernel_rfl) (by kernel_rfl) (fun _ _ _ h => h) (Or.inl ⟨by rfl, fun w' hSw => exec_row 35 (.tmp 1) rfl z _ _ _ _ hSw.1 rfl Tryz.underlying35 rfl (by kernel_rfl)⟩) (by assumption) ?_
  (try simp only [Act.put, List.setIfInBounds_toArray, List.set_cons_zero, List.set_cons_succ])
  refine tk 2 ?_ rfl ?_ ?_
  rotate_left
  · intro w' hSw; (go_simp <;> (with_reducible rfl))
  try simp only [Act.put, putL]
  refine tk 3 ?_ rfl ?_ ?_
  rotate_left
  · intro w' hSw; (go_simp <;> (with_reducible rfl))
  try simp only [Act.put, putL]
  refine tk 4 ?_ rfl ?_ ?_
  rotate_left
  · intro w' hSw; (go_simp <;> (with_reducible rfl))
  try simp only [Act.put, putL]
  refine tkC 1 rfl (fun K hK => ?_)
  go_simp
  (refine (payloads_any p a _).mono ?_; rintro e w2 ⟨g, q, r, b, rfl, hg, hP, hb2⟩; have HG := Lib.hid hg; have HPA := Lib.hid hP; have HB2 := Lib.hid (below_trans Hd.out hb2); clear hg hP hb2)
  refine hK.out _ _ ?_ (fun hHeld => ?_)
  · exact ⟨(HK.out _ HB2.out).1, Cell4.out _ (HK.out _ HB2.out).1⟩
  clear hK K
  try simp only [Act.put, putL]
  refine anyH_mono (S' := fun w' => (w'.heap[z]? = some (.cells #[.int .u8 p.h.to, .int .u16 p.h.id, .bool p.h.df, .int .u8 p.h.tt, .int .u8 p.h.pr, .int .u32 p.h.sr, .int .u32 p.h.ds, .slice a.AH a.nH a.cH, .int .u16 p.s.sp, .int .u16 p.s.dp, .int .u32 p.s.sq, .int .u32 p.s.ak, .int .u8 p.s.fl, .int .u16 p.s.wn, .int .u16 p.s.ug, .slice a.AO a.nO a.cO, .slice a.AD a.nD a.cD, .int .u16 p.u.sp, .int .u16 p.u.dp, .slice a.AU a.nU a.cU, .int .u8 p.m.ty, .int .u8 p.m.cd, .int .u32 p.m.rs, .slice a.AM a.nM a.cM] 35 (0, 0)) ∧ w'.cell? ⟨z, 4, none⟩ = some (.int .u8 p.h.pr)) ∧ w'.heap[g]? = some (threeO (payF6 q r b) (payF17 q r b) (payF1 b))) (fun _ h => h.1) _ _ _ _ ?_
  have hHeld := And.intro hHeld HG.out
  have hlook := fun (W : World) (h : W.heap[g]? = some (threeO (payF6 q r b) (payF17 q r b) (payF1 b))) => at_payload W g _ _ _ p.h.pr (.func (.func 58) #[] #[.pointer (some ⟨q, 0, none⟩), .pointer (some ⟨r, 0, none⟩), .pointer (some ⟨b, 0, none⟩)]) h (by rw [H6.out]; rfl) Hkn.out
  refine tk 5 ?_ rfl ?_ ?_
  rotate_left
  · intro w' hSw; (go_simp <;> (with_reducible rfl))
  try simp only [Act.put, putL]
  clear hlook
  have HC := Lib.hid (pay_17 p a q r b _ w2 P k y (HK.out _ HB2.out).2 Hn.out HD.out HPA.out Ey.out EP.out Ek.out)
  refine tkC 6 rfl (fun K hK => ?_)
  go_simp
  (refine HC.out.mono ?_; rintro e w3 ⟨A2, c2, rfl, hc2, hr2, hb3⟩; have Hc2 := Lib.hid hc2; have Hr2 := Lib.hid hr2; have HB3 := Lib.hid (below_trans HB2.out hb3); have HG3 := Lib.hid (blk_on HG.out hb3); clear hc2 hr2 hb3)
  refine hK.out _ _ ?_ (fun hHeld => ?_)
  · exact ⟨⟨(HK.out _ HB3.out).1, Cell4.out _ (HK.out _ HB3.out).1⟩, HG3.out⟩
  clear hK K
  try simp only [Act.put, putL]
  clear HC
  refine tk 7 ?_ rfl ?_ ?_
  rotate_left
  · intro w' hSw; (go_simp <;> (with_reducible rfl))
  try simp only [Act.put, putL]
  refine tk 8 ?_ rfl ?_ ?_
  rotate_left
  · intro w' hSw; (go_simp <;> (with_reducible rfl))
  try simp only [Act.put, putL]
  refine tk 9 ?_ rfl ?_ ?_
  rotate_left
  · intro w' hSw; (go_simp <;> (with_reducible rfl))
  try simp only [Act.put, putL]
  refine tk 10 ?_ rfl ?_ ?_
  rotate_left
  · intro w' hSw; (go_simp <;> (with_reducible rfl))
  try simp only [Act.put, putL]
  refine tk 11 ?_ rfl ?_ ?_
  rotate_left
  · intro w' hSw; (go_simp <;> (with_reducible rfl))
  try simp only [Act.put, putL]
  refine wpAnyH_done (by kernel_rfl) ?_ _
  clear hHeld HG3 HPA HG
  by_cases h0 : y = 0
  case neg =>
    have h0b : (y != 0) = true := by simpa using h0
    have Hx2 := Lib.hid (show y = x by have := Hx.out; rw [if_neg h0] at this; exact this)
    have HL2 := Lib.hid (show [] = L by have := HL.out; rw [if_neg h0, if_neg h0] at this; exact this)
    clear h0
    go_wp2_with fail
    go_ret2
    have hl := HL2.out
    have hx2 := Hx2.out
    have hlm := Hlm.out
    subst hl; subst hx2; subst hlm
    exact PutOwn9.none_ rfl (below_trans Hb0.out HB3.out)
  subst h0
  obtain ⟨k0, k1, k2, k3, k4, k5, k6, k7, k8, k9, k10, k11, k12, k13, k14, k15, k16, k17, k18, k19, k20, k21, k22, k23⟩ := cells24 (HK.out _ HB3.out).1
  go_wp2_with fail
  clear k0 k1 k2 k3 k4 k5 k6 k7 k8 k9 k10 k11 k12 k13 k14 k15 k16 k17 k18 k19 k20 k21 k22 k23
  have HP := Lib.hid (HK.out _ HB3.out).2
  have hx0 := Hx.out
  have hL0 := HL.out
  have hlm := Hlm.out
  have hkb := Hkb.out
  have hn40 := Hn40.out
  simp only [reduceIte] at hx0 hL0
  by_cases hlg : 1500 < 20 + a.nH + k
  · rw [if_pos hlg] at hx0 hL0
    rw [if_neg (by decide)] at hL0
    subst hx0; subst hL0; subst hlm
    refine (ipput_long p.h a.AH A2 a.nH a.cH k c2 _ HmB.out hn40 hkb hlg).mono ?_
    rintro e w4 ⟨rfl, hb4⟩
    have Hb := Lib.hid (below_trans HB3.out hb4)
    clear hb4
    go_wp2_with fail
    go_ret2
    exact PutOwn9.none_ rfl (below_trans Hb0.out Hb.out)
  · rw [if_neg hlg] at hx0 hL0
    rw [if_pos rfl] at hL0
    subst hx0
    have hbb := hdB_bytes HP.out.hn hn40 HP.out.hr Hr2.out (by omega)
    have hlen : (hdB p.h P).length = 20 + a.nH + k := by unfold hdB; rw [packetL_len, HP.out.hr.len, Ek.out]
    rw [hL0] at hbb hlen
    have hmk : 20 + a.nH + k = m := by rw [← hlen]; exact hlm
    have Hbb := Lib.hid hbb
    have Hmk := Lib.hid hmk
    have HL0 := Lib.hid hL0
    clear hlm hbb hlen hmk hL0
    refine (ipput_ok p.h a.AH A2 a.nH a.cH k c2 P _ HP.out.hn HmB.out HP.out.hc Hc2.out HP.out.hr Hr2.out hn40 (by omega)).mono ?_
    rintro e w4 ⟨A3, c3, rfl, h31, h32, ho3, hb4⟩
    rw [HL0.out] at ho3
    have Hb := Lib.hid (below_trans HB3.out hb4)
    have Ho3 := Lib.hid (ho3.rd Hbb.out)
    have Hw3 := Lib.hid (ho3.mono (below_trans Hb0.out HB3.out).size)
    clear hb4 ho3
    go_wp2_with fail
    go_ret2
    have hmk := Hmk.out
    subst hmk
    exact ⟨A3, c3, rfl, ⟨h31, h32⟩, Hw3.out, Ho3.out, below_trans Hb0.out Hb.out⟩
set_option maxHeartbeats 2000000 in
theorem put9_1 (p : Pk) (a : PkA) (w : World) (L : List Int) (m : Nat) (x : Int) (hp : PkRd w p a) (hn : a.nO ≤ 140737488355328) (hnD : a.nD ≤ 140737488355328) (hm : mayP p = true) (h6 : p.h.pr = 1) (hx : errPk p = x) (hL : pkB p = L) (hlm : L.length = m) :
    Calls Tryz.prog 5 #[.agg #[.int .u8 p.h.to, .int .u16 p.h.id, .bool p.h.df, .int .u8 p.h.tt, .int .u8 p.h.pr, .int .u32 p.h.sr, .int .u32 p.h.ds, .slice a.AH a.nH a.cH, .int .u16 p.s.sp, .int .u16 p.s.dp, .int .u32 p.s.sq, .int .u32 p.s.ak, .int .u8 p.s.fl, .int .u16 p.s.wn, .int .u16 p.s.ug, .slice a.AO a.nO a.cO, .slice a.AD a.nD a.cD, .int .u16 p.u.sp, .int .u16 p.u.dp, .slice a.AU a.nU a.cU, .int .u8 p.m.ty, .int .u8 p.m.cd, .int .u32 p.m.rs, .slice a.AM a.nM a.cM]] w (PutOwn9 L m x w) := by
  have Hkn := Lib.hid (show knownP p.h.pr = true by rw [h6]; rfl)
  have hmayB : mayB p.h.tt a.nH = true := by
    have h := hm
    unfold mayP at h
    simp only [Bool.and_eq_true] at h
    rw [← hp.hr.len]
    exact h.2.1
  have hn40 : a.nH ≤ 40 := by have := hmayB; unfold mayB at this; simp at this; omega
  obtain ⟨P, eP⟩ : ∃ P, loadB p = P := ⟨_, rfl⟩
  obtain ⟨k, ek⟩ : ∃ k, P.length = k := ⟨_, rfl⟩
  obtain ⟨y, ey⟩ : ∃ y, errLoad p = y := ⟨_, rfl⟩
  have hol := hp.hr.len
  unfold pkB at hL
  unfold errPk at hx hL
  rw [if_pos hm, ey, eP, ek, hol] at hx hL
  have hey : errP p.m = y := by rw [← ey]; unfold errLoad; simp [h6]
  have heP : toldM p.m = P := by rw [← eP]; unfold loadB; simp [h6]
  have hkb : k ≤ 140737488355328 := by rw [← ek, ← heP]; (unfold toldM; split; simp; rw [msgB_len]; omega)
  have Hkb := Lib.hid hkb
  have Hn40 := Lib.hid hn40
  have H6 := Lib.hid h6
  have Hx := Lib.hid hx
  have HL := Lib.hid hL
  have Hlm := Lib.hid hlm
  have HmB := Lib.hid hmayB
  have Hn := Lib.hid hn
  have HD := Lib.hid hnD
  have Ey := Lib.hid hey
  have EP := Lib.hid heP
  have Ek := Lib.hid ek
  clear hx hL hlm hmayB h6 hey heP ek ey eP hnD hol hkb hn40
  obtain ⟨z, hz⟩ : ∃ z, w.heap.size = z := ⟨_, rfl⟩
  obtain ⟨w0, ew⟩ : ∃ w0, w.alloc (.cells #[.int .u8 p.h.to, .int .u16 p.h.id, .bool p.h.df, .int .u8 p.h.tt, .int .u8 p.h.pr, .int .u32 p.h.sr, .int .u32 p.h.ds, .slice a.AH a.nH a.cH, .int .u16 p.s.sp, .int .u16 p.s.dp, .int .u32 p.s.sq, .int .u32 p.s.ak, .int .u8 p.s.fl, .int .u16 p.s.wn, .int .u16 p.s.ug, .slice a.AO a.nO a.cO, .slice a.AD a.nD a.cD, .int .u16 p.u.sp, .int .u16 p.u.dp, .slice a.AU a.nU a.cU, .int .u8 p.m.ty, .int .u8 p.m.cd, .int .u32 p.m.rs, .slice a.AM a.nM a.cM] 35) = w0 := ⟨_, rfl⟩
  have hb0 : Below w.heap.size w w0 := by rw [← ew]; exact (Below.refl _ _).alloc (Nat.le_refl _) _
  have hk0 : w0.heap[z]? = some (.cells #[.int .u8 p.h.to, .int .u16 p.h.id, .bool p.h.df, .int .u8 p.h.tt, .int .u8 p.h.pr, .int .u32 p.h.sr, .int .u32 p.h.ds, .slice a.AH a.nH a.cH, .int .u16 p.s.sp, .int .u16 p.s.dp, .int .u32 p.s.sq, .int .u32 p.s.ak, .int .u8 p.s.fl, .int .u16 p.s.wn, .int .u16 p.s.ug, .slice a.AO a.nO a.cO, .slice a.AD a.nD a.cD, .int .u16 p.u.sp, .int .u16 p.u.dp, .slice a.AU a.nU a.cU, .int .u8 p.m.ty, .int .u8 p.m.cd, .int .u32 p.m.rs, .slice a.AM a.nM a.cM] 35 (0, 0)) := by rw [← ew, ← hz]; exact heap_alloc_new w _
  have HK := Lib.hid (show ∀ w', Below w0.heap.size w0 w' → w'.heap[z]? = some (.cells #[.int .u8 p.h.to, .int .u16 p.h.id, .bool p.h.df, .int .u8 p.h.tt, .int .u8 p.h.pr, .int .u32 p.h.sr, .int .u32 p.h.ds, .slice a.AH a.nH a.cH, .int .u16 p.s.sp, .int .u16 p.s.dp, .int .u32 p.s.sq, .int .u32 p.s.ak, .int .u8 p.s.fl, .int .u16 p.s.wn, .int .u16 p.s.ug, .slice a.AO a.nO a.cO, .slice a.AD a.nD a.cD, .int .u16 p.u.sp, .int .u16 p.u.dp, .slice a.AU a.nU a.cU, .int .u8 p.m.ty, .int .u8 p.m.cd, .int .u32 p.m.rs, .slice a.AM a.nM a.cM] 35 (0, 0)) ∧ PkRd w' p a from fun w' hb => ⟨blk_on hk0 hb, (hp.below hb0).below hb⟩)
  have Hb0 := Lib.hid hb0
  have Ew := Lib.hid ew
  have Hz := Lib.hid hz
  have Hmay := Lib.hid (may9_any p a w0 true (hp.below hb0) hn hm)
  have HA := Lib.hid hk0
  clear hz ew hb0 hk0 hp hn hm
  go_enter Tryz.func5, Tryz.ntmps5
  go_upto_region 1 with (fail)
  rw [Ew.out]
  try rw [Hz.out]
  repeat (first | (refine wp_load_row 35 (.tmp 1) rfl z _ _ _ _ HA.out rfl Tryz.underlying35 rfl (by kernel_rfl) ?_; simp only [Act.put, List.setIfInBounds_toArray, List.set_cons_zero, List.set_cons_succ]) | go_values | go_skip | go_guarded | go_step | go_upon | go_back)
  refine Hmay.out.mono ?_
  rintro e w1 ⟨rfl, hb1⟩
  have Hb := Lib.hid hb1
  clear hb1 Hmay HA
  go_upto_region 3 with (fail)
  have Cell4 := Lib.hid (show ∀ (W : World), W.heap[z]? = some (.cells #[.int .u8 p.h.to, .int .u16 p.h.id, .bool p.h.df, .int .u8 p.h.tt, .int .u8 p.h.pr, .int .u32 p.h.sr, .int .u32 p.h.ds, .slice a.AH a.nH a.cH, .int .u16 p.s.sp, .int .u16 p.s.dp, .int .u32 p.s.sq, .int .u32 p.s.ak, .int .u8 p.s.fl, .int .u16 p.s.wn, .int .u16 p.s.ug, .slice a.AO a.nO a.cO, .slice a.AD a.nD a.cD, .int .u16 p.u.sp, .int .u16 p.u.dp, .slice a.AU a.nU a.cU, .int .u8 p.m.ty, .int .u8 p.m.cd, .int .u32 p.m.rs, .slice a.AM a.nM a.cM] 35 (0, 0)) → W.cell? ⟨z, 4, none⟩ = some (.int .u8 p.h.pr) from fun W h => by rw [blk_cell h]; rfl)
  have Hd := Lib.hid (Below.drew Hb.out)
  refine wp_region_held_drew (S := fun w' => w'.heap[z]? = some (.cells #[.int .u8 p.h.to, .int .u16 p.h.id, .bool p.h.df, .int .u8 p.h.tt, .int .u8 p.h.pr, .int .u32 p.h.sr, .int .u32 p.h.ds, .slice a.AH a.nH a.cH, .int .u16 p.s.sp, .int .u16 p.s.dp, .int .u32 p.s.sq, .int .u32 p.s.ak, .int .u8 p.s.fl, .int .u16 p.s.wn, .int .u16 p.s.ug, .slice a.AO a.nO a.cO, .slice a.AD a.nD a.cD, .int .u16 p.u.sp, .int .u16 p.u.dp, .slice a.AU a.nU a.cU, .int .u8 p.m.ty, .int .u8 p.m.cd, .int .u32 p.m.rs, .slice a.AM a.nM a.cM] 35 (0, 0)) ∧ w'.cell? ⟨z, 4, none⟩ = some (.int .u8 p.h.pr)) (by kernel_rfl) (⟨(HK.out _ Hd.out).1, Cell4.out _ (HK.out _ Hd.out).1⟩) (fun hHeld => ?_)
  obtain ⟨wd, ewd⟩ : ∃ wd, w1.drew = wd := ⟨_, rfl⟩
  rw [ewd] at Hd hHeld ⊢
  clear ewd Hb
  refine wpAnyH_take (i := 0) (oi := { dst := some 10, op := Go.Op.load 35 (Go.Operand.tmp 1), type := 35, pos := "packet.go:57", after := #[], guard := none }) (v := .agg #[.int .u8 p.h.to, .int .u16 p.h.id, .bool p.h.df, .int .u8 p.h.tt, .int .u8 p.h.pr, .int .u32 p.h.sr, .int .u32 p.h.ds, .slice a.AH a.nH a.cH, .int .u16 p.s.sp, .int .u16 p.s.dp, .int .u32 p.s.sq, .int .u32 p.s.ak, .int .u8 p.s.fl, .int .u16 p.s.wn, .int .u16 p.s.ug, .slice a.AO a.nO a.cO, .slice a.AD a.nD a.cD, .int .u16 p.u.sp, .int .u16 p.u.dp, .slice a.AU a.nU a.cU, .int .u8 p.m.ty, .int .u8 p.m.cd, .int .u32 p.m.rs, .slice a.AM a.nM a.cM]) rfl (by kernel_rfl) (by kernel_rfl) (by kernel_rfl) (fun _ _ _ h => h) (Or.inl ⟨by rfl, fun w' hSw => exec_row 35 (.tmp 1) rfl z _ _ _ _ hSw.1 rfl Tryz.underlying35 rfl (by kernel_rfl)⟩) (by assumption) ?_
  (try simp only [Act.put, List.setIfInBounds_toArray, List.set_cons_zero, List.set_cons_succ])
  refine tk 2 ?_ rfl ?_ ?_
  rotate_left
  · intro w' hSw; (go_simp <;> (with_reducible rfl))
  try simp only [Act.put, putL]
  refine tk 3 ?_ rfl ?_ ?_
  rotate_left
  · intro w' hSw; (go_simp <;> (with_reducible rfl))
  try simp only [Act.put, putL]
  refine tk 4 ?_ rfl ?_ ?_
  rotate_left
  · intro w' hSw; (go_simp <;> (with_reducible rfl))
  try simp only [Act.put, putL]
  refine tkC 1 rfl (fun K hK => ?_)
  go_simp
  (refine (payloads_any p a _).mono ?_; rintro e w2 ⟨g, q, r, b, rfl, hg, hP, hb2⟩; have HG := Lib.hid hg; have HPA := Lib.hid hP; have HB2 := Lib.hid (below_trans Hd.out hb2); clear hg hP hb2)
  refine hK.out _ _ ?_ (fun hHeld => ?_)
  · exact ⟨(HK.out _ HB2.out).1, Cell4.out _ (HK.out _ HB2.out).1⟩
  clear hK K
  try simp only [Act.put, putL]
  refine anyH_mono (S' := fun w' => (w'.heap[z]? = some (.cells #[.int .u8 p.h.to, .int .u16 p.h.id, .bool p.h.df, .int .u8 p.h.tt, .int .u8 p.h.pr, .int .u32 p.h.sr, .int .u32 p.h.ds, .slice a.AH a.nH a.cH, .int .u16 p.s.sp, .int .u16 p.s.dp, .int .u32 p.s.sq, .int .u32 p.s.ak, .int .u8 p.s.fl, .int .u16 p.s.wn, .int .u16 p.s.ug, .slice a.AO a.nO a.cO, .slice a.AD a.nD a.cD, .int .u16 p.u.sp, .int .u16 p.u.dp, .slice a.AU a.nU a.cU, .int .u8 p.m.ty, .int .u8 p.m.cd, .int .u32 p.m.rs, .slice a.AM a.nM a.cM] 35 (0, 0)) ∧ w'.cell? ⟨z, 4, none⟩ = some (.int .u8 p.h.pr)) ∧ w'.heap[g]? = some (threeO (payF6 q r b) (payF17 q r b) (payF1 b))) (fun _ h => h.1) _ _ _ _ ?_
  have hHeld := And.intro hHeld HG.out
  have hlook := fun (W : World) (h : W.heap[g]? = some (threeO (payF6 q r b) (payF17 q r b) (payF1 b))) => at_payload W g _ _ _ p.h.pr (.func (.func 60) #[] #[.pointer (some ⟨b, 0, none⟩)]) h (by rw [H6.out]; rfl) Hkn.out
  refine tk 5 ?_ rfl ?_ ?_
  rotate_left
  · intro w' hSw; (go_simp <;> (with_reducible rfl))
  try simp only [Act.put, putL]
  clear hlook
  have HC := Lib.hid (pay_1 p a q r b _ w2 P k y (HK.out _ HB2.out).2 Hn.out HD.out HPA.out Ey.out EP.out Ek.out)
  refine tkC 6 rfl (fun K hK => ?_)
  go_simp
  (refine HC.out.mono ?_; rintro e w3 ⟨A2, c2, rfl, hc2, hr2, hb3⟩; have Hc2 := Lib.hid hc2; have Hr2 := Lib.hid hr2; have HB3 := Lib.hid (below_trans HB2.out hb3); have HG3 := Lib.hid (blk_on HG.out hb3); clear hc2 hr2 hb3)
  refine hK.out _ _ ?_ (fun hHeld => ?_)
  · exact ⟨⟨(HK.out _ HB3.out).1, Cell4.out _ (HK.out _ HB3.out).1⟩, HG3.out⟩
  clear hK K
  try simp only [Act.put, putL]
  clear HC
  refine tk 7 ?_ rfl ?_ ?_
  rotate_left
  · intro w' hSw; (go_simp <;> (with_reducible rfl))
  try simp only [Act.put, putL]
  refine tk 8 ?_ rfl ?_ ?_
  rotate_left
  · intro w' hSw; (go_simp <;> (with_reducible rfl))
  try simp only [Act.put, putL]
  refine tk 9 ?_ rfl ?_ ?_
  rotate_left
  · intro w' hSw; (go_simp <;> (with_reducible rfl))
  try simp only [Act.put, putL]
  refine tk 10 ?_ rfl ?_ ?_
  rotate_left
  · intro w' hSw; (go_simp <;> (with_reducible rfl))
  try simp only [Act.put, putL]
  refine tk 11 ?_ rfl ?_ ?_
  rotate_left
  · intro w' hSw; (go_simp <;> (with_reducible rfl))
  try simp only [Act.put, putL]
  refine wpAnyH_done (by kernel_rfl) ?_ _
  clear hHeld HG3 HPA HG
  by_cases h0 : y = 0
  case neg =>
    have h0b : (y != 0) = true := by simpa using h0
    have Hx2 := Lib.hid (show y = x by have := Hx.out; rw [if_neg h0] at this; exact this)
    have HL2 := Lib.hid (show [] = L by have := HL.out; rw [if_neg h0, if_neg h0] at this; exact this)
    clear h0
    go_wp2_with fail
    go_ret2
    have hl := HL2.out
    have hx2 := Hx2.out
    have hlm := Hlm.out
    subst hl; subst hx2; subst hlm
    exact PutOwn9.none_ rfl (below_trans Hb0.out HB3.out)
  subst h0
  obtain ⟨k0, k1, k2, k3, k4, k5, k6, k7, k8, k9, k10, k11, k12, k13, k14, k15, k16, k17, k18, k19, k20, k21, k22, k23⟩ := cells24 (HK.out _ HB3.out).1
  go_wp2_with fail
  clear k0 k1 k2 k3 k4 k5 k6 k7 k8 k9 k10 k11 k12 k13 k14 k15 k16 k17 k18 k19 k20 k21 k22 k23
  have HP := Lib.hid (HK.out _ HB3.out).2
  have hx0 := Hx.out
  have hL0 := HL.out
  have hlm := Hlm.out
  have hkb := Hkb.out
  have hn40 := Hn40.out
  simp only [reduceIte] at hx0 hL0
  by_cases hlg : 1500 < 20 + a.nH + k
  · rw [if_pos hlg] at hx0 hL0
    rw [if_neg (by decide)] at hL0
    subst hx0; subst hL0; subst hlm
    refine (ipput_long p.h a.AH A2 a.nH a.cH k c2 _ HmB.out hn40 hkb hlg).mono ?_
    rintro e w4 ⟨rfl, hb4⟩
    have Hb := Lib.hid (below_trans HB3.out hb4)
    clear hb4
    go_wp2_with fail
    go_ret2
    exact PutOwn9.none_ rfl (below_trans Hb0.out Hb.out)
  · rw [if_neg hlg] at hx0 hL0
    rw [if_pos rfl] at hL0
    subst hx0
    have hbb := hdB_bytes HP.out.hn hn40 HP.out.hr Hr2.out (by omega)
    have hlen : (hdB p.h P).length = 20 + a.nH + k := by unfold hdB; rw [packetL_len, HP.out.hr.len, Ek.out]
    rw [hL0] at hbb hlen
    have hmk : 20 + a.nH + k = m := by rw [← hlen]; exact hlm
    have Hbb := Lib.hid hbb
    have Hmk := Lib.hid hmk
    have HL0 := Lib.hid hL0
    clear hlm hbb hlen hmk hL0
    refine (ipput_ok p.h a.AH A2 a.nH a.cH k c2 P _ HP.out.hn HmB.out HP.out.hc Hc2.out HP.out.hr Hr2.out hn40 (by omega)).mono ?_
    rintro e w4 ⟨A3, c3, rfl, h31, h32, ho3, hb4⟩
    rw [HL0.out] at ho3
    have Hb := Lib.hid (below_trans HB3.out hb4)
    have Ho3 := Lib.hid (ho3.rd Hbb.out)
    have Hw3 := Lib.hid (ho3.mono (below_trans Hb0.out HB3.out).size)
    clear hb4 ho3
    go_wp2_with fail
    go_ret2
    have hmk := Hmk.out
    subst hmk
    exact ⟨A3, c3, rfl, ⟨h31, h32⟩, Hw3.out, Ho3.out, below_trans Hb0.out Hb.out⟩
theorem put9_own (p : Pk) (a : PkA) (w : World) (L : List Int) (m : Nat) (x : Int) (hp : PkRd w p a) (hn : a.nO ≤ 140737488355328) (hnD : a.nD ≤ 140737488355328) (hx : errPk p = x) (hL : pkB p = L) (hlm : L.length = m) :
    Calls Tryz.prog 5 #[.agg #[.int .u8 p.h.to, .int .u16 p.h.id, .bool p.h.df, .int .u8 p.h.tt, .int .u8 p.h.pr, .int .u32 p.h.sr, .int .u32 p.h.ds, .slice a.AH a.nH a.cH, .int .u16 p.s.sp, .int .u16 p.s.dp, .int .u32 p.s.sq, .int .u32 p.s.ak, .int .u8 p.s.fl, .int .u16 p.s.wn, .int .u16 p.s.ug, .slice a.AO a.nO a.cO, .slice a.AD a.nD a.cD, .int .u16 p.u.sp, .int .u16 p.u.dp, .slice a.AU a.nU a.cU, .int .u8 p.m.ty, .int .u8 p.m.cd, .int .u32 p.m.rs, .slice a.AM a.nM a.cM]] w (PutOwn9 L m x w) := by
  by_cases hm : mayP p = true
  · have hpr : p.h.pr = 6 ∨ p.h.pr = 17 ∨ p.h.pr = 1 := by
      have h := hm
      unfold mayP at h
      simp at h
      exact h.1
    rcases hpr with h | h | h
    · exact put9_6 p a w L m x hp hn hnD hm h hx hL hlm
    · exact put9_17 p a w L m x hp hn hnD hm h hx hL hlm
    · exact put9_1 p a w L m x hp hn hnD hm h hx hL hlm
  · have hf : mayP p = false := by simpa using hm
    unfold pkB at hL
    unfold errPk at hx hL
    rw [if_neg hm] at hx hL
    rw [if_neg (by decide)] at hL
    subst hx; subst hL; subst hlm
    exact put9_bad p a w hp hn hf
end Go.Proofs.YtoegfgbalcholaaGreat
