/-
  Texts laid together: IpRef, IpRefPut, PkRef, InPay.
-/
import Derived.Test.YtoegfgbalcholaaZD09
import Derived.Test.YtoegfgbalcholaaZD06
import Derived.Test.YtoegfgbalcholaaZD05
import Derived.RegionTactic
import Derived.Test.YtoegfgbalcholaaZD17
import Derived.Test.YtoegfgbalcholaaZD14
import Derived.BigRegion
import Derived.Deep.DeepCutAuto
import Derived.Deep.CutRange
import Derived.Deep.RegionHeld3
import Derived.Test.YtoegfgbalcholaaZD24

/-
  The document's own answers for heads (culvertref04): May, Same.
-/
namespace Go.Proofs.Ytoegfgbalcholaa
set_option maxRecDepth 10000
open Go.RowKit
set_option linter.unusedSimpArgs false
set_option linter.unusedVariables false

end Go.Proofs.Ytoegfgbalcholaa

/-
  The document's own answers for heads (culvertref04): Put.
-/
namespace Go.Proofs.Ytoegfgbalcholaa
set_option maxRecDepth 10000
open Go.RowKit
set_option linter.unusedSimpArgs false
set_option linter.unusedVariables false

/-- A row being laid beside a block that stays. -/
structure Lay4 (w : World) (z g : Nat) (hc : Array Value) (L : List Int) (w' : World) : Prop where
  own : OwnB w' g (some ⟨g, 0, none⟩) 20 20 L
  blk : w'.heap[z]? = some (.cells hc 43 (0, 0))
  low : Below g w w'
theorem Lay4.set_ {w : World} {z g : Nat} {hc : Array Value} {L : List Int} {w' : World} (h : Lay4 w z g hc L w') (hz : z ≠ g) (i : Nat) (x : Int) : Lay4 w z g hc (L.set i x) (w'.setCell ⟨g, i, none⟩ (.int .u8 x)) :=
  ⟨h.own.set_ i x, (Below.heap_setCell _ _ _ _ (by simpa using hz)).trans h.blk, h.low.setCell (p := ⟨g, i, none⟩) (Nat.le_refl _) _⟩
theorem Lay4.drew {w : World} {z g : Nat} {hc : Array Value} {L : List Int} {w' : World} (h : Lay4 w z g hc L w') : Lay4 w z g hc L w'.drew := ⟨h.own, h.blk, h.low.drew⟩
end Go.Proofs.Ytoegfgbalcholaa

/-
  The document's own answers for packets (culvertref09): Same, May, Put, Own.
-/
namespace Go.Proofs.Ytoegfgbalcholaa
set_option maxRecDepth 10000
open Go.RowKit
set_option linter.unusedSimpArgs false
set_option linter.unusedVariables false

end Go.Proofs.Ytoegfgbalcholaa

/-
  culvertlaw16's payload (stage 16, written ahead).
-/
namespace Go.Proofs.Ytoegfgbalcholaa
set_option maxRecDepth 10000
open Go.RowKit
set_option linter.unusedSimpArgs false
set_option linter.unusedVariables false

def knowP (p : Pk) : Prop := p.h.pr = 6 ∨ p.h.pr = 17 ∨ p.h.pr = 1
def okP (p : Pk) : Int := if p.h.pr = 6 then errS p.s else if p.h.pr = 17 then errUP p.u else if p.h.pr = 1 then errP p.m else 22
def payP (p : Pk) : List Int := if p.h.pr = 6 then toldB p.h.sr p.h.ds p.s else if p.h.pr = 17 then toldU p.h.sr p.h.ds p.u else if p.h.pr = 1 then toldM p.m else []
def PayIs (L : List Int) (m : Nat) (q : Bool) (w : World) (e : Ending) (w' : World) : Prop := ∃ A c, e = .returned (.tuple #[.slice A m c, .bool q]) ∧ (m ≤ c ∧ c ≤ maxLen) ∧ Rd w' A m L ∧ Below w.heap.size w w'
set_option maxHeartbeats 2000000 in
theorem pay16_6 (p : Pk) (a : PkA) (w : World) (L : List Int) (m : Nat) (x : Int) (q : Bool) (hp : PkRd w p a) (hn : a.nO ≤ 140737488355328) (hnD : a.nD ≤ 140737488355328) (h6 : p.h.pr = 6) (hx : errS p.s = x) (hq : (x == 0) = q) (hL : toldB p.h.sr p.h.ds p.s = L) (hm : L.length = m) :
    Calls Try.prog 14 #[.agg #[.int .u8 p.h.to, .int .u16 p.h.id, .bool p.h.df, .int .u8 p.h.tt, .int .u8 p.h.pr, .int .u32 p.h.sr, .int .u32 p.h.ds, .slice a.AH a.nH a.cH, .int .u16 p.s.sp, .int .u16 p.s.dp, .int .u32 p.s.sq, .int .u32 p.s.ak, .int .u8 p.s.fl, .int .u16 p.s.wn, .int .u16 p.s.ug, .slice a.AO a.nO a.cO, .slice a.AD a.nD a.cD, .int .u16 p.u.sp, .int .u16 p.u.dp, .slice a.AU a.nU a.cU, .int .u8 p.m.ty, .int .u8 p.m.cd, .int .u32 p.m.rs, .slice a.AM a.nM a.cM]] w (PayIs L m q w) := by
  have h6b : (p.h.pr == 6) = true := by rw [h6]; rfl
  have h17b : (p.h.pr == 17) = false := by rw [h6]; rfl
  have h1b : (p.h.pr == 1) = false := by rw [h6]; rfl
  clear h6
  obtain ⟨z, hz⟩ : ∃ z, w.heap.size = z := ⟨_, rfl⟩
  obtain ⟨w0, ew⟩ : ∃ w0, w.alloc (.cells #[.int .u8 p.h.to, .int .u16 p.h.id, .bool p.h.df, .int .u8 p.h.tt, .int .u8 p.h.pr, .int .u32 p.h.sr, .int .u32 p.h.ds, .slice a.AH a.nH a.cH, .int .u16 p.s.sp, .int .u16 p.s.dp, .int .u32 p.s.sq, .int .u32 p.s.ak, .int .u8 p.s.fl, .int .u16 p.s.wn, .int .u16 p.s.ug, .slice a.AO a.nO a.cO, .slice a.AD a.nD a.cD, .int .u16 p.u.sp, .int .u16 p.u.dp, .slice a.AU a.nU a.cU, .int .u8 p.m.ty, .int .u8 p.m.cd, .int .u32 p.m.rs, .slice a.AM a.nM a.cM] 52) = w0 := ⟨_, rfl⟩
  have hb0 : Below w.heap.size w w0 := by rw [← ew]; exact (Below.refl _ _).alloc (Nat.le_refl _) _
  have hk0 : w0.heap[z]? = some (.cells #[.int .u8 p.h.to, .int .u16 p.h.id, .bool p.h.df, .int .u8 p.h.tt, .int .u8 p.h.pr, .int .u32 p.h.sr, .int .u32 p.h.ds, .slice a.AH a.nH a.cH, .int .u16 p.s.sp, .int .u16 p.s.dp, .int .u32 p.s.sq, .int .u32 p.s.ak, .int .u8 p.s.fl, .int .u16 p.s.wn, .int .u16 p.s.ug, .slice a.AO a.nO a.cO, .slice a.AD a.nD a.cD, .int .u16 p.u.sp, .int .u16 p.u.dp, .slice a.AU a.nU a.cU, .int .u8 p.m.ty, .int .u8 p.m.cd, .int .u32 p.m.rs, .slice a.AM a.nM a.cM] 52 (0, 0)) := by rw [← ew, ← hz]; exact heap_alloc_new w _
  have HP := Lib.hid (hp.below hb0)
  have Hb0 := Lib.hid hb0
  have Ew := Lib.hid ew
  have Hz := Lib.hid hz
  have Hq := Lib.hid hq
  have Hx := Lib.hid hx
  have HL := Lib.hid hL
  have Hm := Lib.hid hm
  have Hn := Lib.hid hn
  have HD := Lib.hid hnD
  have HK := Lib.hid hk0
  clear hz ew hb0 hk0 hp hn hnD hx hL hm hq
  go_enter Try.func14, Try.ntmps14
  go_upto_region 1 with (fail)
  rw [Ew.out]
  try rw [Hz.out]
  clear Ew
  obtain ⟨k0, k1, k2, k3, k4, k5, k6, k7, k8, k9, k10, k11, k12, k13, k14, k15, k16, k17, k18, k19, k20, k21, k22, k23⟩ := cells24 HK.out
  go_wp2_with fail
  refine (put6_got p.h.sr p.h.ds p.s a.AO a.nO a.cO a.os a.AD a.nD a.cD _ L m x Hn.out HD.out HP.out.sr Hx.out HL.out Hm.out).mono ?_
  rintro e w2 ⟨A2, c2, rfl, hc2, hr2, hb2⟩
  have Hc2 := Lib.hid hc2
  have Hr2 := Lib.hid hr2
  have Hb := Lib.hid (below_trans Hb0.out hb2)
  clear hc2 hr2 hb2
  have hqq := Hq.out
  go_wp2_with fail
  go_ret2
  exact ⟨A2, c2, rfl, Hc2.out, Hr2.out, Hb.out⟩
set_option maxHeartbeats 2000000 in
theorem pay16_17 (p : Pk) (a : PkA) (w : World) (L : List Int) (m : Nat) (x : Int) (q : Bool) (hp : PkRd w p a) (hn : a.nO ≤ 140737488355328) (hnD : a.nD ≤ 140737488355328) (h6 : p.h.pr = 17) (hx : errUP p.u = x) (hq : (x == 0) = q) (hL : toldU p.h.sr p.h.ds p.u = L) (hm : L.length = m) :
    Calls Try.prog 14 #[.agg #[.int .u8 p.h.to, .int .u16 p.h.id, .bool p.h.df, .int .u8 p.h.tt, .int .u8 p.h.pr, .int .u32 p.h.sr, .int .u32 p.h.ds, .slice a.AH a.nH a.cH, .int .u16 p.s.sp, .int .u16 p.s.dp, .int .u32 p.s.sq, .int .u32 p.s.ak, .int .u8 p.s.fl, .int .u16 p.s.wn, .int .u16 p.s.ug, .slice a.AO a.nO a.cO, .slice a.AD a.nD a.cD, .int .u16 p.u.sp, .int .u16 p.u.dp, .slice a.AU a.nU a.cU, .int .u8 p.m.ty, .int .u8 p.m.cd, .int .u32 p.m.rs, .slice a.AM a.nM a.cM]] w (PayIs L m q w) := by
  have h6b : (p.h.pr == 6) = false := by rw [h6]; rfl
  have h17b : (p.h.pr == 17) = true := by rw [h6]; rfl
  have h1b : (p.h.pr == 1) = false := by rw [h6]; rfl
  clear h6
  obtain ⟨z, hz⟩ : ∃ z, w.heap.size = z := ⟨_, rfl⟩
  obtain ⟨w0, ew⟩ : ∃ w0, w.alloc (.cells #[.int .u8 p.h.to, .int .u16 p.h.id, .bool p.h.df, .int .u8 p.h.tt, .int .u8 p.h.pr, .int .u32 p.h.sr, .int .u32 p.h.ds, .slice a.AH a.nH a.cH, .int .u16 p.s.sp, .int .u16 p.s.dp, .int .u32 p.s.sq, .int .u32 p.s.ak, .int .u8 p.s.fl, .int .u16 p.s.wn, .int .u16 p.s.ug, .slice a.AO a.nO a.cO, .slice a.AD a.nD a.cD, .int .u16 p.u.sp, .int .u16 p.u.dp, .slice a.AU a.nU a.cU, .int .u8 p.m.ty, .int .u8 p.m.cd, .int .u32 p.m.rs, .slice a.AM a.nM a.cM] 52) = w0 := ⟨_, rfl⟩
  have hb0 : Below w.heap.size w w0 := by rw [← ew]; exact (Below.refl _ _).alloc (Nat.le_refl _) _
  have hk0 : w0.heap[z]? = some (.cells #[.int .u8 p.h.to, .int .u16 p.h.id, .bool p.h.df, .int .u8 p.h.tt, .int .u8 p.h.pr, .int .u32 p.h.sr, .int .u32 p.h.ds, .slice a.AH a.nH a.cH, .int .u16 p.s.sp, .int .u16 p.s.dp, .int .u32 p.s.sq, .int .u32 p.s.ak, .int .u8 p.s.fl, .int .u16 p.s.wn, .int .u16 p.s.ug, .slice a.AO a.nO a.cO, .slice a.AD a.nD a.cD, .int .u16 p.u.sp, .int .u16 p.u.dp, .slice a.AU a.nU a.cU, .int .u8 p.m.ty, .int .u8 p.m.cd, .int .u32 p.m.rs, .slice a.AM a.nM a.cM] 52 (0, 0)) := by rw [← ew, ← hz]; exact heap_alloc_new w _
  have HP := Lib.hid (hp.below hb0)
  have Hb0 := Lib.hid hb0
  have Ew := Lib.hid ew
  have Hz := Lib.hid hz
  have Hq := Lib.hid hq
  have Hx := Lib.hid hx
  have HL := Lib.hid hL
  have Hm := Lib.hid hm
  have Hn := Lib.hid hn
  have HD := Lib.hid hnD
  have HK := Lib.hid hk0
  clear hz ew hb0 hk0 hp hn hnD hx hL hm hq
  go_enter Try.func14, Try.ntmps14
  go_upto_region 1 with (fail)
  rw [Ew.out]
  try rw [Hz.out]
  clear Ew
  obtain ⟨k0, k1, k2, k3, k4, k5, k6, k7, k8, k9, k10, k11, k12, k13, k14, k15, k16, k17, k18, k19, k20, k21, k22, k23⟩ := cells24 HK.out
  go_wp2_with fail
  refine (put7_got p.h.sr p.h.ds p.u a.AU a.nU a.cU _ L m x HP.out.un HP.out.uc HP.out.ur Hx.out HL.out Hm.out).mono ?_
  rintro e w2 ⟨A2, c2, rfl, hc2, hr2, hb2⟩
  have Hc2 := Lib.hid hc2
  have Hr2 := Lib.hid hr2
  have Hb := Lib.hid (below_trans Hb0.out hb2)
  clear hc2 hr2 hb2
  have hqq := Hq.out
  go_wp2_with fail
  go_ret2
  exact ⟨A2, c2, rfl, Hc2.out, Hr2.out, Hb.out⟩
set_option maxHeartbeats 2000000 in
theorem pay16_1 (p : Pk) (a : PkA) (w : World) (L : List Int) (m : Nat) (x : Int) (q : Bool) (hp : PkRd w p a) (hn : a.nO ≤ 140737488355328) (hnD : a.nD ≤ 140737488355328) (h6 : p.h.pr = 1) (hx : errP p.m = x) (hq : (x == 0) = q) (hL : toldM p.m = L) (hm : L.length = m) :
    Calls Try.prog 14 #[.agg #[.int .u8 p.h.to, .int .u16 p.h.id, .bool p.h.df, .int .u8 p.h.tt, .int .u8 p.h.pr, .int .u32 p.h.sr, .int .u32 p.h.ds, .slice a.AH a.nH a.cH, .int .u16 p.s.sp, .int .u16 p.s.dp, .int .u32 p.s.sq, .int .u32 p.s.ak, .int .u8 p.s.fl, .int .u16 p.s.wn, .int .u16 p.s.ug, .slice a.AO a.nO a.cO, .slice a.AD a.nD a.cD, .int .u16 p.u.sp, .int .u16 p.u.dp, .slice a.AU a.nU a.cU, .int .u8 p.m.ty, .int .u8 p.m.cd, .int .u32 p.m.rs, .slice a.AM a.nM a.cM]] w (PayIs L m q w) := by
  have h6b : (p.h.pr == 6) = false := by rw [h6]; rfl
  have h17b : (p.h.pr == 17) = false := by rw [h6]; rfl
  have h1b : (p.h.pr == 1) = true := by rw [h6]; rfl
  clear h6
  obtain ⟨z, hz⟩ : ∃ z, w.heap.size = z := ⟨_, rfl⟩
  obtain ⟨w0, ew⟩ : ∃ w0, w.alloc (.cells #[.int .u8 p.h.to, .int .u16 p.h.id, .bool p.h.df, .int .u8 p.h.tt, .int .u8 p.h.pr, .int .u32 p.h.sr, .int .u32 p.h.ds, .slice a.AH a.nH a.cH, .int .u16 p.s.sp, .int .u16 p.s.dp, .int .u32 p.s.sq, .int .u32 p.s.ak, .int .u8 p.s.fl, .int .u16 p.s.wn, .int .u16 p.s.ug, .slice a.AO a.nO a.cO, .slice a.AD a.nD a.cD, .int .u16 p.u.sp, .int .u16 p.u.dp, .slice a.AU a.nU a.cU, .int .u8 p.m.ty, .int .u8 p.m.cd, .int .u32 p.m.rs, .slice a.AM a.nM a.cM] 52) = w0 := ⟨_, rfl⟩
  have hb0 : Below w.heap.size w w0 := by rw [← ew]; exact (Below.refl _ _).alloc (Nat.le_refl _) _
  have hk0 : w0.heap[z]? = some (.cells #[.int .u8 p.h.to, .int .u16 p.h.id, .bool p.h.df, .int .u8 p.h.tt, .int .u8 p.h.pr, .int .u32 p.h.sr, .int .u32 p.h.ds, .slice a.AH a.nH a.cH, .int .u16 p.s.sp, .int .u16 p.s.dp, .int .u32 p.s.sq, .int .u32 p.s.ak, .int .u8 p.s.fl, .int .u16 p.s.wn, .int .u16 p.s.ug, .slice a.AO a.nO a.cO, .slice a.AD a.nD a.cD, .int .u16 p.u.sp, .int .u16 p.u.dp, .slice a.AU a.nU a.cU, .int .u8 p.m.ty, .int .u8 p.m.cd, .int .u32 p.m.rs, .slice a.AM a.nM a.cM] 52 (0, 0)) := by rw [← ew, ← hz]; exact heap_alloc_new w _
  have HP := Lib.hid (hp.below hb0)
  have Hb0 := Lib.hid hb0
  have Ew := Lib.hid ew
  have Hz := Lib.hid hz
  have Hq := Lib.hid hq
  have Hx := Lib.hid hx
  have HL := Lib.hid hL
  have Hm := Lib.hid hm
  have Hn := Lib.hid hn
  have HD := Lib.hid hnD
  have HK := Lib.hid hk0
  clear hz ew hb0 hk0 hp hn hnD hx hL hm hq
  go_enter Try.func14, Try.ntmps14
  go_upto_region 1 with (fail)
  rw [Ew.out]
  try rw [Hz.out]
  clear Ew
  obtain ⟨k0, k1, k2, k3, k4, k5, k6, k7, k8, k9, k10, k11, k12, k13, k14, k15, k16, k17, k18, k19, k20, k21, k22, k23⟩ := cells24 HK.out
  go_wp2_with fail
  refine (put8_got p.m a.AM a.nM a.cM _ L m x HP.out.mn HP.out.mc HP.out.mr Hx.out HL.out Hm.out).mono ?_
  rintro e w2 ⟨A2, c2, rfl, hc2, hr2, hb2⟩
  have Hc2 := Lib.hid hc2
  have Hr2 := Lib.hid hr2
  have Hb := Lib.hid (below_trans Hb0.out hb2)
  clear hc2 hr2 hb2
  have hqq := Hq.out
  go_wp2_with fail
  go_ret2
  exact ⟨A2, c2, rfl, Hc2.out, Hr2.out, Hb.out⟩
set_option maxHeartbeats 2000000 in
theorem pay16_no (p : Pk) (a : PkA) (w : World) (hp : PkRd w p a) (h6 : ¬ p.h.pr = 6) (h17 : ¬ p.h.pr = 17) (h1 : ¬ p.h.pr = 1) :
    Calls Try.prog 14 #[.agg #[.int .u8 p.h.to, .int .u16 p.h.id, .bool p.h.df, .int .u8 p.h.tt, .int .u8 p.h.pr, .int .u32 p.h.sr, .int .u32 p.h.ds, .slice a.AH a.nH a.cH, .int .u16 p.s.sp, .int .u16 p.s.dp, .int .u32 p.s.sq, .int .u32 p.s.ak, .int .u8 p.s.fl, .int .u16 p.s.wn, .int .u16 p.s.ug, .slice a.AO a.nO a.cO, .slice a.AD a.nD a.cD, .int .u16 p.u.sp, .int .u16 p.u.dp, .slice a.AU a.nU a.cU, .int .u8 p.m.ty, .int .u8 p.m.cd, .int .u32 p.m.rs, .slice a.AM a.nM a.cM]] w (PayIs [] 0 false w) := by
  have h6b : (p.h.pr == 6) = false := by simpa using h6
  have h17b : (p.h.pr == 17) = false := by simpa using h17
  have h1b : (p.h.pr == 1) = false := by simpa using h1
  have hq : True := trivial
  have hx : True := trivial
  have hL : True := trivial
  have hm : True := trivial
  have hn : True := trivial
  have hnD : True := trivial
  clear h6 h17 h1
  obtain ⟨z, hz⟩ : ∃ z, w.heap.size = z := ⟨_, rfl⟩
  obtain ⟨w0, ew⟩ : ∃ w0, w.alloc (.cells #[.int .u8 p.h.to, .int .u16 p.h.id, .bool p.h.df, .int .u8 p.h.tt, .int .u8 p.h.pr, .int .u32 p.h.sr, .int .u32 p.h.ds, .slice a.AH a.nH a.cH, .int .u16 p.s.sp, .int .u16 p.s.dp, .int .u32 p.s.sq, .int .u32 p.s.ak, .int .u8 p.s.fl, .int .u16 p.s.wn, .int .u16 p.s.ug, .slice a.AO a.nO a.cO, .slice a.AD a.nD a.cD, .int .u16 p.u.sp, .int .u16 p.u.dp, .slice a.AU a.nU a.cU, .int .u8 p.m.ty, .int .u8 p.m.cd, .int .u32 p.m.rs, .slice a.AM a.nM a.cM] 52) = w0 := ⟨_, rfl⟩
  have hb0 : Below w.heap.size w w0 := by rw [← ew]; exact (Below.refl _ _).alloc (Nat.le_refl _) _
  have hk0 : w0.heap[z]? = some (.cells #[.int .u8 p.h.to, .int .u16 p.h.id, .bool p.h.df, .int .u8 p.h.tt, .int .u8 p.h.pr, .int .u32 p.h.sr, .int .u32 p.h.ds, .slice a.AH a.nH a.cH, .int .u16 p.s.sp, .int .u16 p.s.dp, .int .u32 p.s.sq, .int .u32 p.s.ak, .int .u8 p.s.fl, .int .u16 p.s.wn, .int .u16 p.s.ug, .slice a.AO a.nO a.cO, .slice a.AD a.nD a.cD, .int .u16 p.u.sp, .int .u16 p.u.dp, .slice a.AU a.nU a.cU, .int .u8 p.m.ty, .int .u8 p.m.cd, .int .u32 p.m.rs, .slice a.AM a.nM a.cM] 52 (0, 0)) := by rw [← ew, ← hz]; exact heap_alloc_new w _
  have HP := Lib.hid (hp.below hb0)
  have Hb0 := Lib.hid hb0
  have Ew := Lib.hid ew
  have Hz := Lib.hid hz
  have Hq := Lib.hid hq
  have Hx := Lib.hid hx
  have HL := Lib.hid hL
  have Hm := Lib.hid hm
  have Hn := Lib.hid hn
  have HD := Lib.hid hnD
  have HK := Lib.hid hk0
  clear hz ew hb0 hk0 hp hn hnD hx hL hm hq
  go_enter Try.func14, Try.ntmps14
  go_upto_region 1 with (fail)
  rw [Ew.out]
  try rw [Hz.out]
  clear Ew
  obtain ⟨k0, k1, k2, k3, k4, k5, k6, k7, k8, k9, k10, k11, k12, k13, k14, k15, k16, k17, k18, k19, k20, k21, k22, k23⟩ := cells24 HK.out
  go_wp2_with fail
  go_ret2
  exact ⟨none, 0, rfl, ⟨Nat.le_refl _, by simp [maxLen]⟩, Rd.nil _ _, Hb0.out⟩
theorem payload16_any (p : Pk) (a : PkA) (w : World) (L : List Int) (m : Nat) (q : Bool) (hp : PkRd w p a) (hn : a.nO ≤ 140737488355328) (hnD : a.nD ≤ 140737488355328) (hx : (okP p == 0) = q) (hL : payP p = L) (hm : L.length = m) :
    Calls Try.prog 14 #[.agg #[.int .u8 p.h.to, .int .u16 p.h.id, .bool p.h.df, .int .u8 p.h.tt, .int .u8 p.h.pr, .int .u32 p.h.sr, .int .u32 p.h.ds, .slice a.AH a.nH a.cH, .int .u16 p.s.sp, .int .u16 p.s.dp, .int .u32 p.s.sq, .int .u32 p.s.ak, .int .u8 p.s.fl, .int .u16 p.s.wn, .int .u16 p.s.ug, .slice a.AO a.nO a.cO, .slice a.AD a.nD a.cD, .int .u16 p.u.sp, .int .u16 p.u.dp, .slice a.AU a.nU a.cU, .int .u8 p.m.ty, .int .u8 p.m.cd, .int .u32 p.m.rs, .slice a.AM a.nM a.cM]] w (PayIs L m q w) := by
  unfold okP at hx
  unfold payP at hL
  by_cases h6 : p.h.pr = 6
  · rw [if_pos h6] at hx hL
    exact pay16_6 p a w L m _ q hp hn hnD h6 rfl hx hL hm
  · rw [if_neg h6] at hx hL
    by_cases h17 : p.h.pr = 17
    · rw [if_pos h17] at hx hL
      exact pay16_17 p a w L m _ q hp hn hnD h17 rfl hx hL hm
    · rw [if_neg h17] at hx hL
      by_cases h1 : p.h.pr = 1
      · rw [if_pos h1] at hx hL
        exact pay16_1 p a w L m _ q hp hn hnD h1 rfl hx hL hm
      · rw [if_neg h1] at hx hL
        subst hL; subst hm
        have hq : q = false := by rw [← hx]; rfl
        subst hq
        exact pay16_no p a w hp h6 h17 h1
end Go.Proofs.Ytoegfgbalcholaa
