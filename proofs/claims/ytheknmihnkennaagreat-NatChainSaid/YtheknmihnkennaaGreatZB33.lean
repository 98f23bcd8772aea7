/-
  The contracts of package tuple's portsOf, its closures, and Of.
-/
import Derived.Test.YtheknmihnkennaaGreatZB01
import Derived.Test.YtheknmihnkennaaGreatZB32
import Derived.Test.YtheknmihnkennaaGreatZB21
import Derived.Test.YtheknmihnkennaaGreatZB06
import Derived.Deep.CutRange
import Derived.RegionTactic
import Derived.BigRegion
namespace Go.Proofs.YtheknmihnkennaaGreat
set_option maxRecDepth 10000
open Go.RowKit
set_option linter.unusedSimpArgs false
set_option linter.unusedVariables false

def portF6 (b : Nat) : Value := .func (.func 55) #[] #[.pointer (some ⟨b, 0, none⟩)]
def portF17 (b : Nat) : Value := .func (.func 56) #[] #[.pointer (some ⟨b, 0, none⟩)]
def portF1 (b : Nat) : Value := .func (.func 57) #[] #[.pointer (some ⟨b, 0, none⟩)]
def PortsIs (p : Pk) (a : PkA) (w : World) (e : Ending) (w' : World) : Prop :=
  ∃ g b, e = .returned (.map (some g)) ∧ w'.heap[g]? = some (threeO (portF6 b) (portF17 b) (portF1 b)) ∧ w'.heap[b]? = some (.cells #[.int .u8 p.h.to, .int .u16 p.h.id, .bool p.h.df, .int .u8 p.h.tt, .int .u8 p.h.pr, .int .u32 p.h.sr, .int .u32 p.h.ds, .slice a.AH a.nH a.cH, .int .u16 p.s.sp, .int .u16 p.s.dp, .int .u32 p.s.sq, .int .u32 p.s.ak, .int .u8 p.s.fl, .int .u16 p.s.wn, .int .u16 p.s.ug, .slice a.AO a.nO a.cO, .slice a.AD a.nD a.cD, .int .u16 p.u.sp, .int .u16 p.u.dp, .slice a.AU a.nU a.cU, .int .u8 p.m.ty, .int .u8 p.m.cd, .int .u32 p.m.rs, .slice a.AM a.nM a.cM] 35 (0, 0)) ∧ Below w.heap.size w w'
theorem ports_any (p : Pk) (a : PkA) (w : World) : Calls Tryz.prog 25 #[.agg #[.int .u8 p.h.to, .int .u16 p.h.id, .bool p.h.df, .int .u8 p.h.tt, .int .u8 p.h.pr, .int .u32 p.h.sr, .int .u32 p.h.ds, .slice a.AH a.nH a.cH, .int .u16 p.s.sp, .int .u16 p.s.dp, .int .u32 p.s.sq, .int .u32 p.s.ak, .int .u8 p.s.fl, .int .u16 p.s.wn, .int .u16 p.s.ug, .slice a.AO a.nO a.cO, .slice a.AD a.nD a.cD, .int .u16 p.u.sp, .int .u16 p.u.dp, .slice a.AU a.nU a.cU, .int .u8 p.m.ty, .int .u8 p.m.cd, .int .u32 p.m.rs, .slice a.AM a.nM a.cM]] w (PortsIs p a w) := by
  have hmf : ∀ (fn : Fn) (first cap : Array Value) (w : World), (Instr.makeFunc fn first cap).run Tryz.prog w = .ok (.func fn first cap) w := fun _ _ _ _ => rfl
  obtain ⟨z, hz⟩ : ∃ z, w.heap.size = z := ⟨_, rfl⟩
  obtain ⟨w0, ew⟩ : ∃ w0, w.alloc (.cells #[.int .u8 p.h.to, .int .u16 p.h.id, .bool p.h.df, .int .u8 p.h.tt, .int .u8 p.h.pr, .int .u32 p.h.sr, .int .u32 p.h.ds, .slice a.AH a.nH a.cH, .int .u16 p.s.sp, .int .u16 p.s.dp, .int .u32 p.s.sq, .int .u32 p.s.ak, .int .u8 p.s.fl, .int .u16 p.s.wn, .int .u16 p.s.ug, .slice a.AO a.nO a.cO, .slice a.AD a.nD a.cD, .int .u16 p.u.sp, .int .u16 p.u.dp, .slice a.AU a.nU a.cU, .int .u8 p.m.ty, .int .u8 p.m.cd, .int .u32 p.m.rs, .slice a.AM a.nM a.cM] 35) = w0 := ⟨_, rfl⟩
  have hb0 : Below w.heap.size w w0 := by rw [← ew]; exact (Below.refl _ _).alloc (Nat.le_refl _) _
  have hk0 : w0.heap[z]? = some (.cells #[.int .u8 p.h.to, .int .u16 p.h.id, .bool p.h.df, .int .u8 p.h.tt, .int .u8 p.h.pr, .int .u32 p.h.sr, .int .u32 p.h.ds, .slice a.AH a.nH a.cH, .int .u16 p.s.sp, .int .u16 p.s.dp, .int .u32 p.s.sq, .int .u32 p.s.ak, .int .u8 p.s.fl, .int .u16 p.s.wn, .int .u16 p.s.ug, .slice a.AO a.nO a.cO, .slice a.AD a.nD a.cD, .int .u16 p.u.sp, .int .u16 p.u.dp, .slice a.AU a.nU a.cU, .int .u8 p.m.ty, .int .u8 p.m.cd, .int .u32 p.m.rs, .slice a.AM a.nM a.cM] 35 (0, 0)) := by rw [← ew, ← hz]; exact heap_alloc_new w _
  have Hb0 := Lib.hid hb0
  have Ew := Lib.hid ew
  have Hz := Lib.hid hz
  have HK0 := Lib.hid hk0
  clear hz ew hb0 hk0
  go_enter Tryz.func25, Tryz.ntmps25
  go_upto_region 1 with (fail)
  rw [Ew.out]
  try rw [Hz.out]
  obtain ⟨w2, e2⟩ : ∃ v, w0.alloc (.map #[] 0) = v := ⟨_, rfl⟩
  have k2 : w2.heap[w0.heap.size]? = some (.map #[] 0) := by rw [← e2]; exact heap_alloc_new w0 _
  have b2 : Below w0.heap.size w0 w2 := by rw [← e2]; exact (Below.refl _ _).alloc (Nat.le_refl _) _
  obtain ⟨w3, w4, w5, r1, r2, r3, hg, hb⟩ := runs_ports (portF6 z) (portF17 z) (portF1 z) b2 (Nat.le_refl _) k2
  have hmk := run_makeMap_plain (P := Tryz.prog) w0 73
  rw [e2] at hmk
  have Hg := Lib.hid hg
  have Hb := Lib.hid hb
  clear k2 b2 hg hb e2
  unfold portF6 at r1
  unfold portF17 at r2
  unfold portF1 at r3
  go_wp2_with fail
  go_ret
  exact ⟨_, z, rfl, Hg.out, blk_on HK0.out Hb.out, below_trans Hb0.out Hb.out⟩
def PortIs (sp dp : Int) (x : Bool) (w : World) (e : Ending) (w' : World) : Prop := e = .returned (.tuple #[.int .u16 sp, .int .u16 dp, .bool x]) ∧ Below w.heap.size w w'
theorem port_6 (p : Pk) (a : PkA) (b : Nat) (w : World) (hk : w.heap[b]? = some (.cells #[.int .u8 p.h.to, .int .u16 p.h.id, .bool p.h.df, .int .u8 p.h.tt, .int .u8 p.h.pr, .int .u32 p.h.sr, .int .u32 p.h.ds, .slice a.AH a.nH a.cH, .int .u16 p.s.sp, .int .u16 p.s.dp, .int .u32 p.s.sq, .int .u32 p.s.ak, .int .u8 p.s.fl, .int .u16 p.s.wn, .int .u16 p.s.ug, .slice a.AO a.nO a.cO, .slice a.AD a.nD a.cD, .int .u16 p.u.sp, .int .u16 p.u.dp, .slice a.AU a.nU a.cU, .int .u8 p.m.ty, .int .u8 p.m.cd, .int .u32 p.m.rs, .slice a.AM a.nM a.cM] 35 (0, 0))) :
    Calls Tryz.prog 55 #[.pointer (some ⟨b, 0, none⟩)] w (PortIs p.s.sp p.s.dp true w) := by
  obtain ⟨k0, k1, k2, k3, k4, k5, k6, k7, k8, k9, k10, k11, k12, k13, k14, k15, k16, k17, k18, k19, k20, k21, k22, k23⟩ := cells24 hk
  clear hk
  go_enter Tryz.func55, Tryz.ntmps55
  go_wp2_with fail
  go_region
  go_wp2_with fail
  refine bodyPost_ret (v := .tuple #[.int .u16 p.s.sp, .int .u16 p.s.dp, .bool true]) (by simp [results, Tryz.results55, go_sem]) rfl ?_
  exact ⟨rfl, Below.drew (Below.refl _ _)⟩
theorem port_17 (p : Pk) (a : PkA) (b : Nat) (w : World) (hk : w.heap[b]? = some (.cells #[.int .u8 p.h.to, .int .u16 p.h.id, .bool p.h.df, .int .u8 p.h.tt, .int .u8 p.h.pr, .int .u32 p.h.sr, .int .u32 p.h.ds, .slice a.AH a.nH a.cH, .int .u16 p.s.sp, .int .u16 p.s.dp, .int .u32 p.s.sq, .int .u32 p.s.ak, .int .u8 p.s.fl, .int .u16 p.s.wn, .int .u16 p.s.ug, .slice a.AO a.nO a.cO, .slice a.AD a.nD a.cD, .int .u16 p.u.sp, .int .u16 p.u.dp, .slice a.AU a.nU a.cU, .int .u8 p.m.ty, .int .u8 p.m.cd, .int .u32 p.m.rs, .slice a.AM a.nM a.cM] 35 (0, 0))) :
    Calls Tryz.prog 56 #[.pointer (some ⟨b, 0, none⟩)] w (PortIs p.u.sp p.u.dp true w) := by
  obtain ⟨k0, k1, k2, k3, k4, k5, k6, k7, k8, k9, k10, k11, k12, k13, k14, k15, k16, k17, k18, k19, k20, k21, k22, k23⟩ := cells24 hk
  clear hk
  go_enter Tryz.func56, Tryz.ntmps56
  go_wp2_with fail
  go_region
  go_wp2_with fail
  refine bodyPost_ret (v := .tuple #[.int .u16 p.u.sp, .int .u16 p.u.dp, .bool true]) (by simp [results, Tryz.results56, go_sem]) rfl ?_
  exact ⟨rfl, Below.drew (Below.refl _ _)⟩
theorem port_1 (p : Pk) (a : PkA) (b : Nat) (w : World) (q : Int) (y : Bool) (hr : 0 ≤ p.m.rs ∧ p.m.rs < 4294967296) (hy : echoM p.m.ty p.m.cd = y) (hq : (if y = true then p.m.rs / 65536 else 0) = q) (hk : w.heap[b]? = some (.cells #[.int .u8 p.h.to, .int .u16 p.h.id, .bool p.h.df, .int .u8 p.h.tt, .int .u8 p.h.pr, .int .u32 p.h.sr, .int .u32 p.h.ds, .slice a.AH a.nH a.cH, .int .u16 p.s.sp, .int .u16 p.s.dp, .int .u32 p.s.sq, .int .u32 p.s.ak, .int .u8 p.s.fl, .int .u16 p.s.wn, .int .u16 p.s.ug, .slice a.AO a.nO a.cO, .slice a.AD a.nD a.cD, .int .u16 p.u.sp, .int .u16 p.u.dp, .slice a.AU a.nU a.cU, .int .u8 p.m.ty, .int .u8 p.m.cd, .int .u32 p.m.rs, .slice a.AM a.nM a.cM] 35 (0, 0))) :
    Calls Tryz.prog 57 #[.pointer (some ⟨b, 0, none⟩)] w (PortIs q 0 y w) := by
  have HE := Lib.hid (show Calls Tryz.prog _ _ w (fun e w' => (∃ q2, e = .returned (.tuple #[.int .u16 q, .int .u16 q2, .bool y])) ∧ Below w.heap.size w w') from (echo8_any p.m.ty p.m.cd p.m.rs a.AM a.nM a.cM w hr).mono (by
    rintro e w2 ⟨h1, hb2⟩
    refine ⟨?_, hb2⟩
    by_cases he : echoM p.m.ty p.m.cd = true
    · rw [if_pos he] at h1
      have : y = true := by rw [← hy]; exact he
      subst this
      rw [if_pos rfl] at hq
      exact ⟨_, by rw [h1, hq]⟩
    · rw [if_neg he] at h1
      have : y = false := by rw [← hy]; simpa using he
      subst this
      rw [if_neg (by simp)] at hq
      exact ⟨_, by rw [h1, hq]⟩))
  obtain ⟨k0, k1, k2, k3, k4, k5, k6, k7, k8, k9, k10, k11, k12, k13, k14, k15, k16, k17, k18, k19, k20, k21, k22, k23⟩ := cells24 hk
  clear hk hr hy hq
  go_enter Tryz.func57, Tryz.ntmps57
  go_wp2_with fail
  refine HE.out.mono ?_
  rintro e w2 ⟨⟨q2, rfl⟩, hb2⟩
  have Hb2 := Lib.hid hb2
  clear hb2
  clear k0 k1 k2 k3 k4 k5 k6 k7 k8 k9 k10 k11 k12 k13 k14 k15 k16 k17 k18 k19 k20 k21 k22 k23
  go_wp2_with fail
  refine bodyPost_ret (v := .tuple #[.int .u16 q, .int .u16 0, .bool y]) (by simp [results, Tryz.results57, go_sem]) rfl ?_
  exact ⟨rfl, Hb2.out⟩
set_option maxHeartbeats 4000000 in
theorem tof_any (p : Pk) (a : PkA) (w : World) (t : Tu) (x : Bool) (hr : 0 ≤ p.m.rs ∧ p.m.rs < 4294967296) (ht : tupT p = t) (hx : isT p = x) :
    Calls Tryz.prog 10 #[.agg #[.int .u8 p.h.to, .int .u16 p.h.id, .bool p.h.df, .int .u8 p.h.tt, .int .u8 p.h.pr, .int .u32 p.h.sr, .int .u32 p.h.ds, .slice a.AH a.nH a.cH, .int .u16 p.s.sp, .int .u16 p.s.dp, .int .u32 p.s.sq, .int .u32 p.s.ak, .int .u8 p.s.fl, .int .u16 p.s.wn, .int .u16 p.s.ug, .slice a.AO a.nO a.cO, .slice a.AD a.nD a.cD, .int .u16 p.u.sp, .int .u16 p.u.dp, .slice a.AU a.nU a.cU, .int .u8 p.m.ty, .int .u8 p.m.cd, .int .u32 p.m.rs, .slice a.AM a.nM a.cM]] w (OfIs t x w) := by
  obtain ⟨z, hz⟩ : ∃ z, w.heap.size = z := ⟨_, rfl⟩
  obtain ⟨w0, ew⟩ : ∃ w0, (w.alloc (.cells #[.int .u8 p.h.to, .int .u16 p.h.id, .bool p.h.df, .int .u8 p.h.tt, .int .u8 p.h.pr, .int .u32 p.h.sr, .int .u32 p.h.ds, .slice a.AH a.nH a.cH, .int .u16 p.s.sp, .int .u16 p.s.dp, .int .u32 p.s.sq, .int .u32 p.s.ak, .int .u8 p.s.fl, .int .u16 p.s.wn, .int .u16 p.s.ug, .slice a.AO a.nO a.cO, .slice a.AD a.nD a.cD, .int .u16 p.u.sp, .int .u16 p.u.dp, .slice a.AU a.nU a.cU, .int .u8 p.m.ty, .int .u8 p.m.cd, .int .u32 p.m.rs, .slice a.AM a.nM a.cM] 35)).alloc (.cells #[.int .u8 0, .int .u32 0, .int .u32 0, .int .u16 0, .int .u16 0] 45) = w0 := ⟨_, rfl⟩
  have hb0 : Below w.heap.size w w0 := by rw [← ew]; exact ((Below.refl _ _).alloc (Nat.le_refl _) _).alloc (by simp) _
  have hk0 : w0.heap[z]? = some (.cells #[.int .u8 p.h.to, .int .u16 p.h.id, .bool p.h.df, .int .u8 p.h.tt, .int .u8 p.h.pr, .int .u32 p.h.sr, .int .u32 p.h.ds, .slice a.AH a.nH a.cH, .int .u16 p.s.sp, .int .u16 p.s.dp, .int .u32 p.s.sq, .int .u32 p.s.ak, .int .u8 p.s.fl, .int .u16 p.s.wn, .int .u16 p.s.ug, .slice a.AO a.nO a.cO, .slice a.AD a.nD a.cD, .int .u16 p.u.sp, .int .u16 p.u.dp, .slice a.AU a.nU a.cU, .int .u8 p.m.ty, .int .u8 p.m.cd, .int .u32 p.m.rs, .slice a.AM a.nM a.cM] 35 (0, 0)) := by rw [← ew, Below.heap_alloc _ _ _ (by simp [hz]), ← hz]; exact heap_alloc_new w _
  have hk1 : w0.heap[z + 1]? = some (.cells #[.int .u8 0, .int .u32 0, .int .u32 0, .int .u16 0, .int .u16 0] 45 (0, 0)) := by
    rw [← ew, ← hz]; simpa using heap_alloc_new (w.alloc (.cells #[.int .u8 p.h.to, .int .u16 p.h.id, .bool p.h.df, .int .u8 p.h.tt, .int .u8 p.h.pr, .int .u32 p.h.sr, .int .u32 p.h.ds, .slice a.AH a.nH a.cH, .int .u16 p.s.sp, .int .u16 p.s.dp, .int .u32 p.s.sq, .int .u32 p.s.ak, .int .u8 p.s.fl, .int .u16 p.s.wn, .int .u16 p.s.ug, .slice a.AO a.nO a.cO, .slice a.AD a.nD a.cD, .int .u16 p.u.sp, .int .u16 p.u.dp, .slice a.AU a.nU a.cU, .int .u8 p.m.ty, .int .u8 p.m.cd, .int .u32 p.m.rs, .slice a.AM a.nM a.cM] 35)) (.cells #[.int .u8 0, .int .u32 0, .int .u32 0, .int .u16 0, .int .u16 0] 45)
  have hs0 : w0.heap.size = z + 2 := by rw [← ew, ← hz]; simp
  obtain ⟨w1, ew1⟩ : ∃ v, w0.alloc (.cells #[.int .u8 p.h.to, .int .u16 p.h.id, .bool p.h.df, .int .u8 p.h.tt, .int .u8 p.h.pr, .int .u32 p.h.sr, .int .u32 p.h.ds, .slice a.AH a.nH a.cH] 26) = v := ⟨_, rfl⟩
  have hb1 : Below w0.heap.size w0 w1 := by rw [← ew1]; exact (Below.refl _ _).alloc (Nat.le_refl _) _
  have hk2 : w1.heap[z + 2]? = some (.cells #[.int .u8 p.h.to, .int .u16 p.h.id, .bool p.h.df, .int .u8 p.h.tt, .int .u8 p.h.pr, .int .u32 p.h.sr, .int .u32 p.h.ds, .slice a.AH a.nH a.cH] 26 (0, 0)) := by rw [← ew1, ← hs0]; exact heap_alloc_new w0 _
  obtain ⟨kn, ekn⟩ : ∃ k, knownP p.h.pr = k := ⟨_, rfl⟩
  have Hkn := Lib.hid ekn
  have HK0 := Lib.hid hk0
  have HKd := Lib.hid (show ∀ w', Below w1.heap.size w1 w' → w'.heap[z]? = some (.cells #[.int .u8 p.h.to, .int .u16 p.h.id, .bool p.h.df, .int .u8 p.h.tt, .int .u8 p.h.pr, .int .u32 p.h.sr, .int .u32 p.h.ds, .slice a.AH a.nH a.cH, .int .u16 p.s.sp, .int .u16 p.s.dp, .int .u32 p.s.sq, .int .u32 p.s.ak, .int .u8 p.s.fl, .int .u16 p.s.wn, .int .u16 p.s.ug, .slice a.AO a.nO a.cO, .slice a.AD a.nD a.cD, .int .u16 p.u.sp, .int .u16 p.u.dp, .slice a.AU a.nU a.cU, .int .u8 p.m.ty, .int .u8 p.m.cd, .int .u32 p.m.rs, .slice a.AM a.nM a.cM] 35 (0, 0)) ∧ w'.heap[z + 1]? = some (.cells #[.int .u8 0, .int .u32 0, .int .u32 0, .int .u16 0, .int .u16 0] 45 (0, 0)) ∧ w'.heap[z + 2]? = some (.cells #[.int .u8 p.h.to, .int .u16 p.h.id, .bool p.h.df, .int .u8 p.h.tt, .int .u8 p.h.pr, .int .u32 p.h.sr, .int .u32 p.h.ds, .slice a.AH a.nH a.cH] 26 (0, 0)) from
    fun w' hb => ⟨blk_on (blk_on hk0 hb1) hb, blk_on (blk_on hk1 hb1) hb, blk_on hk2 hb⟩)
  have Hb1 := Lib.hid (below_trans hb0 hb1)
  have Ew := Lib.hid ew
  have Ew1 := Lib.hid ew1
  have Hs0 := Lib.hid hs0
  have Hz := Lib.hid hz
  have Ht := Lib.hid ht
  have Hx := Lib.hid hx
  have Hr := Lib.hid hr
  clear hb0 hk0 hk1 hs0 ew hz ht hx hr ew1 hb1 hk2 ekn
  go_enter Tryz.func10, Tryz.ntmps10
  go_upto_region 1 with (fail)
  rw [Ew.out]
  try rw [Hz.out]
  obtain ⟨k0, k1, k2, k3, k4, k5, k6, k7, k8, k9, k10, k11, k12, k13, k14, k15, k16, k17, k18, k19, k20, k21, k22, k23⟩ := cells24 HK0.out
  go_upto_region 2 with (fail)
  clear k0 k1 k2 k3 k4 k5 k6 k7 k8 k9 k10 k11 k12 k13 k14 k15 k16 k17 k18 k19 k20 k21 k22 k23
  rw [Ew1.out]
  rw [Hs0.out]
  clear Ew Ew1 Hs0 HK0
  have HBd := Lib.hid (Below.drew (Below.refl w1.heap.size w1))
  have Hcl := Lib.hid (show ∀ (w' : World), w'.heap[z + 2]? = some (.cells #[.int .u8 p.h.to, .int .u16 p.h.id, .bool p.h.df, .int .u8 p.h.tt, .int .u8 p.h.pr, .int .u32 p.h.sr, .int .u32 p.h.ds, .slice a.AH a.nH a.cH] 26 (0, 0)) → w'.cell? ⟨z + 2, 4, none⟩ = some (.int .u8 p.h.pr) from fun w' h => by rw [blk_cell h]; rfl)
  have HS := Lib.hid (show ∀ w', Below w1.heap.size w1 w' → w'.heap[z]? = some (.cells #[.int .u8 p.h.to, .int .u16 p.h.id, .bool p.h.df, .int .u8 p.h.tt, .int .u8 p.h.pr, .int .u32 p.h.sr, .int .u32 p.h.ds, .slice a.AH a.nH a.cH, .int .u16 p.s.sp, .int .u16 p.s.dp, .int .u32 p.s.sq, .int .u32 p.s.ak, .int .u8 p.s.fl, .int .u16 p.s.wn, .int .u16 p.s.ug, .slice a.AO a.nO a.cO, .slice a.AD a.nD a.cD, .int .u16 p.u.sp, .int .u16 p.u.dp, .slice a.AU a.nU a.cU, .int .u8 p.m.ty, .int .u8 p.m.cd, .int .u32 p.m.rs, .slice a.AM a.nM a.cM] 35 (0, 0)) ∧ w'.cell? ⟨z + 2, 4, none⟩ = some (.int .u8 p.h.pr) from fun w' hb => ⟨(HKd.out _ hb).1, Hcl.out _ (HKd.out _ hb).2.2⟩)
  refine wp_region_held_drew (S := fun w' => w'.heap[z]? = some (.cells #[.int .u8 p.h.to, .int .u16 p.h.id, .bool p.h.df, .int .u8 p.h.tt, .int .u8 p.h.pr, .int .u32 p.h.sr, .int .u32 p.h.ds, .slice a.AH a.nH a.cH, .int .u16 p.s.sp, .int .u16 p.s.dp, .int .u32 p.s.sq, .int .u32 p.s.ak, .int .u8 p.s.fl, .int .u16 p.s.wn, .int .u16 p.s.ug, .slice a.AO a.nO a.cO, .slice a.AD a.nD a.cD, .int .u16 p.u.sp, .int .u16 p.u.dp, .slice a.AU a.nU a.cU, .int .u8 p.m.ty, .int .u8 p.m.cd, .int .u32 p.m.rs, .slice a.AM a.nM a.cM] 35 (0, 0)) ∧ w'.cell? ⟨z + 2, 4, none⟩ = some (.int .u8 p.h.pr)) (by kernel_rfl) (HS.out _ HBd.out) (fun hHeld => ?_)
  obtain ⟨wd, ewd⟩ : ∃ wd, w1.drew = wd := ⟨_, rfl⟩
  rw [ewd] at HBd hHeld ⊢
  clear ewd
  refine tk 0 (.agg #[.int .u8 p.h.to, .int .u16 p.h.id, .bool p.h.df, .int .u8 p.h.tt, .int .u8 p.h.pr, .int .u32 p.h.sr, .int .u32 p.h.ds, .slice a.AH a.nH a.cH, .int .u16 p.s.sp, .int .u16 p.s.dp, .int .u32 p.s.sq, .int .u32 p.s.ak, .int .u8 p.s.fl, .int .u16 p.s.wn, .int .u16 p.s.ug, .slice a.AO a.nO a.cO, .slice a.AD a.nD a.cD, .int .u16 p.u.sp, .int .u16 p.u.dp, .slice a.AU a.nU a.cU, .int .u8 p.m.ty, .int .u8 p.m.cd, .int .u32 p.m.rs, .slice a.AM a.nM a.cM]) rfl (fun w' hSw => exec_row 35 (.tmp 1) rfl z _ _ _ _ (hSw.1) rfl Tryz.underlying35 rfl (by kernel_rfl)) ?_
  try simp only [Act.put, putL]
  refine tk 2 ?_ rfl ?_ ?_
  rotate_left
  · intro w' hSw; (go_simp <;> (with_reducible rfl))
  try simp only [Act.put, putL]
  refine tk 3 ?_ rfl ?_ ?_
  rotate_left
  · intro w' hSw; (go_simp <;> (with_reducible rfl))
  try simp only [Act.put, putL]
  refine tkC 1 rfl (fun K hK => ?_)
  go_simp
  (refine (ports_any p a _).mono ?_; rintro e w2 ⟨g, b, rfl, hg, hk, hb2⟩; have HG := Lib.hid hg; have HPB := Lib.hid hk; have HB2 := Lib.hid (below_trans HBd.out hb2); clear hg hk hb2)
  refine hK.out _ _ ?_ (fun hHeld => ?_)
  · exact HS.out _ HB2.out
  clear hK K
  try simp only [Act.put, putL]
  refine anyH_mono (S' := fun w' => (w'.heap[z]? = some (.cells #[.int .u8 p.h.to, .int .u16 p.h.id, .bool p.h.df, .int .u8 p.h.tt, .int .u8 p.h.pr, .int .u32 p.h.sr, .int .u32 p.h.ds, .slice a.AH a.nH a.cH, .int .u16 p.s.sp, .int .u16 p.s.dp, .int .u32 p.s.sq, .int .u32 p.s.ak, .int .u8 p.s.fl, .int .u16 p.s.wn, .int .u16 p.s.ug, .slice a.AO a.nO a.cO, .slice a.AD a.nD a.cD, .int .u16 p.u.sp, .int .u16 p.u.dp, .slice a.AU a.nU a.cU, .int .u8 p.m.ty, .int .u8 p.m.cd, .int .u32 p.m.rs, .slice a.AM a.nM a.cM] 35 (0, 0)) ∧ w'.cell? ⟨z + 2, 4, none⟩ = some (.int .u8 p.h.pr)) ∧ w'.heap[g]? = some (threeO (portF6 b) (portF17 b) (portF1 b))) (fun _ h => h.1) _ _ _ _ ?_
  have hHeld := And.intro hHeld HG.out
  obtain ⟨fv, efv⟩ : ∃ f, atP (portF6 b) (portF17 b) (portF1 b) p.h.pr = f := ⟨_, rfl⟩
  have hlook := fun (W : World) (h : W.heap[g]? = some (threeO (portF6 b) (portF17 b) (portF1 b))) => look3_ports W g _ _ _ p.h.pr fv kn h efv Hkn.out
  refine tk 4 ?_ rfl ?_ ?_
  rotate_left
  · intro w' hSw; (go_simp <;> (with_reducible rfl))
  try simp only [Act.put, putL]
  refine tk 5 ?_ rfl ?_ ?_
  rotate_left
  · intro w' hSw; (go_simp <;> (with_reducible rfl))
  try simp only [Act.put, putL]
  refine tk 6 ?_ rfl ?_ ?_
  rotate_left
  · intro w' hSw; (go_simp <;> (with_reducible rfl))
  try simp only [Act.put, putL]
  refine tk 7 ?_ rfl ?_ ?_
  rotate_left
  · intro w' hSw; (go_simp <;> (with_reducible rfl))
  try simp only [Act.put, putL]
  refine tk 8 ?_ rfl ?_ ?_
  rotate_left
  · intro w' hSw; (go_simp <;> (with_reducible rfl))
  try simp only [Act.put, putL]
  refine tk 9 ?_ rfl ?_ ?_
  rotate_left
  · intro w' hSw; (go_simp <;> (with_reducible rfl))
  try simp only [Act.put, putL]
  refine wpAnyH_done (by kernel_rfl) ?_ _
  clear hHeld hlook
  clear HS Hcl HBd HG
  cases kn with
  | false =>
    have hk := Hkn.out
    have Hp := Lib.hid (show t = ⟨0, 0, 0, 0, 0⟩ ∧ x = false by
      rw [← Ht.out, ← Hx.out]; unfold tupT isT; unfold knownP at hk; simp at hk; simp [hk, zeroTu])
    clear hk efv
    obtain ⟨K0, K1, K2⟩ := HKd.out _ HB2.out
    obtain ⟨r0, r1, r2, r3, r4⟩ := cells5 K1
    have rf := blk_free K1
    have g4 : w2.cell? ⟨z + 2, 4, none⟩ = some (.int .u8 p.h.pr) := by rw [blk_cell K2]; rfl
    have g5 : w2.cell? ⟨z + 2, 5, none⟩ = some (.int .u32 p.h.sr) := by rw [blk_cell K2]; rfl
    have g6 : w2.cell? ⟨z + 2, 6, none⟩ = some (.int .u32 p.h.ds) := by rw [blk_cell K2]; rfl
    have K1h := Lib.hid K1
    have HBz := Lib.hid (below_trans Hb1.out HB2.out)
    have hw1 : w.heap.size ≤ z + 1 := by have := Hz.out; omega
    clear K0 K1 K2
    go_wp2_with fail
    exact bodyPost_ret (v := .tuple #[.agg #[.int .u8 0, .int .u32 0, .int .u32 0, .int .u16 0, .int .u16 0], .bool false]) (results_row_tmp rfl _ _ (z + 1) _ _ _ _ _ rfl rfl (set5_blk K1h.out _ _ _ _ _) Tryz.underlying45 rfl (by kernel_rfl)) rfl ⟨by rw [Hp.out.1, Hp.out.2], set5_below HBz.out hw1 _ _ _ _ _⟩
  | true =>
    have hk := Hkn.out
    unfold knownP at hk
    simp only [Bool.or_eq_true, decide_eq_true_eq] at hk
    rcases hk with h1 | h1 | h1
    · have Hp := Lib.hid (show t = ⟨p.h.pr, p.h.sr, p.h.ds, p.s.sp, p.s.dp⟩ ∧ x = true by rw [← Ht.out, ← Hx.out]; unfold tupT isT; rw [if_pos h1]; simp [h1])
      have efv := efv
      rw [show atP (portF6 b) (portF17 b) (portF1 b) p.h.pr = portF6 b by unfold atP; simp [h1]] at efv
      subst efv
      unfold portF6
      go_wp2_with fail
      refine (port_6 p a b _ HPB.out).mono ?_
      rintro e w3 ⟨rfl, hb3⟩
      have HB3 := Lib.hid (below_trans HB2.out hb3)
      clear hb3
      obtain ⟨K0, K1, K2⟩ := HKd.out _ HB3.out
      obtain ⟨r0, r1, r2, r3, r4⟩ := cells5 K1
      have rf := blk_free K1
      have g4 : w3.cell? ⟨z + 2, 4, none⟩ = some (.int .u8 p.h.pr) := by rw [blk_cell K2]; rfl
      have g5 : w3.cell? ⟨z + 2, 5, none⟩ = some (.int .u32 p.h.sr) := by rw [blk_cell K2]; rfl
      have g6 : w3.cell? ⟨z + 2, 6, none⟩ = some (.int .u32 p.h.ds) := by rw [blk_cell K2]; rfl
      have K1h := Lib.hid K1
      have HBz := Lib.hid (below_trans Hb1.out HB3.out)
      have hw1 : w.heap.size ≤ z + 1 := by have := Hz.out; omega
      clear K0 K1 K2
      clear h1
      go_wp2_with fail
      exact bodyPost_ret (v := .tuple #[.agg #[.int .u8 p.h.pr, .int .u32 p.h.sr, .int .u32 p.h.ds, .int .u16 p.s.sp, .int .u16 p.s.dp], .bool true]) (results_row_tmp rfl _ _ (z + 1) _ _ _ _ _ rfl rfl (set5_blk K1h.out _ _ _ _ _) Tryz.underlying45 rfl (by kernel_rfl)) rfl ⟨by rw [Hp.out.1, Hp.out.2], set5_below HBz.out hw1 _ _ _ _ _⟩
    · have Hp := Lib.hid (show t = ⟨p.h.pr, p.h.sr, p.h.ds, p.u.sp, p.u.dp⟩ ∧ x = true by rw [← Ht.out, ← Hx.out]; unfold tupT isT; rw [if_neg (by omega), if_pos h1]; simp [h1])
      have efv := efv
      rw [show atP (portF6 b) (portF17 b) (portF1 b) p.h.pr = portF17 b by unfold atP; simp [h1]] at efv
      subst efv
      unfold portF17
      go_wp2_with fail
      refine (port_17 p a b _ HPB.out).mono ?_
      rintro e w3 ⟨rfl, hb3⟩
      have HB3 := Lib.hid (below_trans HB2.out hb3)
      clear hb3
      obtain ⟨K0, K1, K2⟩ := HKd.out _ HB3.out
      obtain ⟨r0, r1, r2, r3, r4⟩ := cells5 K1
      have rf := blk_free K1
      have g4 : w3.cell? ⟨z + 2, 4, none⟩ = some (.int .u8 p.h.pr) := by rw [blk_cell K2]; rfl
      have g5 : w3.cell? ⟨z + 2, 5, none⟩ = some (.int .u32 p.h.sr) := by rw [blk_cell K2]; rfl
      have g6 : w3.cell? ⟨z + 2, 6, none⟩ = some (.int .u32 p.h.ds) := by rw [blk_cell K2]; rfl
      have K1h := Lib.hid K1
      have HBz := Lib.hid (below_trans Hb1.out HB3.out)
      have hw1 : w.heap.size ≤ z + 1 := by have := Hz.out; omega
      clear K0 K1 K2
      clear h1
      go_wp2_with fail
      exact bodyPost_ret (v := .tuple #[.agg #[.int .u8 p.h.pr, .int .u32 p.h.sr, .int .u32 p.h.ds, .int .u16 p.u.sp, .int .u16 p.u.dp], .bool true]) (results_row_tmp rfl _ _ (z + 1) _ _ _ _ _ rfl rfl (set5_blk K1h.out _ _ _ _ _) Tryz.underlying45 rfl (by kernel_rfl)) rfl ⟨by rw [Hp.out.1, Hp.out.2], set5_below HBz.out hw1 _ _ _ _ _⟩
    · by_cases he : echoM p.m.ty p.m.cd = true
      · have Hp := Lib.hid (show t = ⟨p.h.pr, p.h.sr, p.h.ds, p.m.rs / 65536, 0⟩ ∧ x = true by rw [← Ht.out, ← Hx.out]; unfold tupT isT; rw [if_neg (by omega), if_neg (by omega), if_pos ⟨h1, he⟩]; simp [h1, he])
        have He := Lib.hid he
        clear he
        have efv := efv
        rw [show atP (portF6 b) (portF17 b) (portF1 b) p.h.pr = portF1 b by unfold atP; simp [h1]] at efv
        subst efv
        unfold portF1
        go_wp2_with fail
        refine (port_1 p a b _ (p.m.rs / 65536) true Hr.out He.out (if_pos rfl) HPB.out).mono ?_
        rintro e w3 ⟨rfl, hb3⟩
        have HB3 := Lib.hid (below_trans HB2.out hb3)
        clear hb3
        obtain ⟨K0, K1, K2⟩ := HKd.out _ HB3.out
        obtain ⟨r0, r1, r2, r3, r4⟩ := cells5 K1
        have rf := blk_free K1
        have g4 : w3.cell? ⟨z + 2, 4, none⟩ = some (.int .u8 p.h.pr) := by rw [blk_cell K2]; rfl
        have g5 : w3.cell? ⟨z + 2, 5, none⟩ = some (.int .u32 p.h.sr) := by rw [blk_cell K2]; rfl
        have g6 : w3.cell? ⟨z + 2, 6, none⟩ = some (.int .u32 p.h.ds) := by rw [blk_cell K2]; rfl
        have K1h := Lib.hid K1
        have HBz := Lib.hid (below_trans Hb1.out HB3.out)
        have hw1 : w.heap.size ≤ z + 1 := by have := Hz.out; omega
        clear K0 K1 K2
        clear h1
        go_wp2_with fail
        exact bodyPost_ret (v := .tuple #[.agg #[.int .u8 p.h.pr, .int .u32 p.h.sr, .int .u32 p.h.ds, .int .u16 (p.m.rs / 65536), .int .u16 0], .bool true]) (results_row_tmp rfl _ _ (z + 1) _ _ _ _ _ rfl rfl (set5_blk K1h.out _ _ _ _ _) Tryz.underlying45 rfl (by kernel_rfl)) rfl ⟨by rw [Hp.out.1, Hp.out.2], set5_below HBz.out hw1 _ _ _ _ _⟩
      · have Hp := Lib.hid (show t = ⟨0, 0, 0, 0, 0⟩ ∧ x = false by rw [← Ht.out, ← Hx.out]; unfold tupT isT; rw [if_neg (by omega), if_neg (by omega), if_neg (fun h => he h.2)]; simp [h1, he, zeroTu])
        have He := Lib.hid (show echoM p.m.ty p.m.cd = false by simpa using he)
        clear he
        have efv := efv
        rw [show atP (portF6 b) (portF17 b) (portF1 b) p.h.pr = portF1 b by unfold atP; simp [h1]] at efv
        subst efv
        unfold portF1
        go_wp2_with fail
        refine (port_1 p a b _ 0 false Hr.out He.out (if_neg (by simp)) HPB.out).mono ?_
        rintro e w3 ⟨rfl, hb3⟩
        have HB3 := Lib.hid (below_trans HB2.out hb3)
        clear hb3
        obtain ⟨K0, K1, K2⟩ := HKd.out _ HB3.out
        obtain ⟨r0, r1, r2, r3, r4⟩ := cells5 K1
        have rf := blk_free K1
        have g4 : w3.cell? ⟨z + 2, 4, none⟩ = some (.int .u8 p.h.pr) := by rw [blk_cell K2]; rfl
        have g5 : w3.cell? ⟨z + 2, 5, none⟩ = some (.int .u32 p.h.sr) := by rw [blk_cell K2]; rfl
        have g6 : w3.cell? ⟨z + 2, 6, none⟩ = some (.int .u32 p.h.ds) := by rw [blk_cell K2]; rfl
        have K1h := Lib.hid K1
        have HBz := Lib.hid (below_trans Hb1.out HB3.out)
        have hw1 : w.heap.size ≤ z + 1 := by have := Hz.out; omega
        clear K0 K1 K2
        clear h1
        go_wp2_with fail
        exact bodyPost_ret (v := .tuple #[.agg #[.int .u8 0, .int .u32 0, .int .u32 0, .int .u16 0, .int .u16 0], .bool false]) (results_row_tmp rfl _ _ (z + 1) _ _ _ _ _ rfl rfl (set5_blk K1h.out _ _ _ _ _) Tryz.underlying45 rfl (by kernel_rfl)) rfl ⟨by rw [Hp.out.1, Hp.out.2], set5_below HBz.out hw1 _ _ _ _ _⟩
end Go.Proofs.YtheknmihnkennaaGreat
