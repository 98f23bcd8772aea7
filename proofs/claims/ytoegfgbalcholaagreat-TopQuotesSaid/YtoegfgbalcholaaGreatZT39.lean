/-
  Texts laid together: BytesClone, NatHop, TupOf, NatGo0.
-/
import Derived.Test.YtoegfgbalcholaaGreatZT03
import Derived.Lib.Hide
import Derived.Lib.SliceRun
import Derived.Outline
import Derived.Test.YtoegfgbalcholaaGreatZT38
import Derived.Test.YtoegfgbalcholaaGreatZT34
import Derived.Test.YtoegfgbalcholaaGreatZT01
import Derived.Test.YtoegfgbalcholaaGreatZT24
import Derived.Test.YtoegfgbalcholaaGreatZT28
import Derived.Deep.CutRange
import Derived.RegionTactic
import Derived.BigRegion
import Derived.Test.YtoegfgbalcholaaGreatZT35

/-
  The contract of bytes.Clone of a slice that is not nil.
-/
namespace Go.Proofs.YtoegfgbalcholaaGreat
set_option maxRecDepth 10000
open Go.RowKit

theorem bclone_any (a : Addr) (n c : Nat) (l : List Int) (w : World) (hn : n ≤ 100000) (h : Rd w (some a) n l) :
    Calls Tryz.prog 23 #[.slice (some a) n c] w (RowIs n l w) := by
  have hba : Below w.heap.size w (w.alloc (.cells #[] 5)) := (Below.refl _ _).alloc (Nat.le_refl _) _
  have Hr := Lib.hid (h.below hba)
  have Hba := Lib.hid hba
  have Ho := Lib.hid (OwnB.made (w := w.alloc (.cells #[] 5)) (B := w.heap.size) (g := w.heap.size) (cap := 0) (cur := #[]) (heap_alloc_new w _) (Nat.le_refl _) (by simp [maxLen]) rfl)
  have hs : w.heap.size ≤ (w.alloc (.cells #[] 5)).heap.size := by simp
  have hnil := fun w => Lib.run_eql_slice_nil (P := Tryz.prog) w 24 5 (some a) n c 0 0 Tryz.underlying24
  clear h hba
  go_enter Tryz.func23, Tryz.ntmps23
  go_wp2_with (refine wpList_app rfl (.tmp 5) (.tmp 6) rfl w.heap.size (some ⟨w.heap.size, 0, none⟩) (some a) 0 0 n c [] l rfl rfl Ho.out Hr.out (by omega) hs ?_; intro A3 c3 w3 hown3 hg3 hb3 hat3)
  go_ret
  refine ⟨A3, c3, ?_, by have := hown3.cap; omega, hown3.capMax, by simpa using hown3, Hba.out.trans hb3⟩
  simp
end Go.Proofs.YtoegfgbalcholaaGreat

/-
  Package nat's Hop does what the laws ask of it (HopF).
-/
namespace Go.Proofs.YtoegfgbalcholaaGreat
set_option maxRecDepth 10000
open Go.RowKit
set_option linter.unusedSimpArgs false
set_option linter.unusedVariables false

theorem pk_row {b : List Int} {n : Nat} (hb : Bytes b) (he : errAll b = 0) (hl : b.length = n) (hn : n ≤ 1600) : RowW (b.getD 9 0) (hdW b) n b := by
  refine ⟨?_, pk_lay hb he, hl, by omega⟩
  have := errAll_pr he
  rw [hd_pr] at this
  exact this
theorem pk_opts {b : List Int} (hb : Bytes b) (he : errAll b = 0) : 20 + ((hdOf b).o.length : Int) = 2 * (hdW b : Int) ∧ (hdOf b).o.length ≤ 1000 ∧ 9 < b.length := by
  have hw := pk_w hb he
  have h10 := hw.ten
  have hH := hw.hH
  have hl := (pk_lay hb he).len
  have h0 := getD_mem b hb 0
  have hs : (hdOf b).o.length = 2 * hdW b - 20 := by
    show ((b.drop 20).take ((hdrL b).toNat - 20)).length = _
    rw [List.length_take, List.length_drop, hH]
    omega
  have hd : hdW b ≤ 30 := by unfold hdW; omega
  exact ⟨by omega, by omega, by omega⟩
end Go.Proofs.YtoegfgbalcholaaGreat

/-
  The contracts of package tuple's portsOf, its closures, and Of.
-/
namespace Go.Proofs.YtoegfgbalcholaaGreat
set_option maxRecDepth 10000
open Go.RowKit
set_option linter.unusedSimpArgs false
set_option linter.unusedVariables false

def portF6 (b : Nat) : Value := .func (.func 52) #[] #[.pointer (some ⟨b, 0, none⟩)]
def portF17 (b : Nat) : Value := .func (.func 53) #[] #[.pointer (some ⟨b, 0, none⟩)]
def portF1 (b : Nat) : Value := .func (.func 54) #[] #[.pointer (some ⟨b, 0, none⟩)]
def PortsIs (p : Pk) (a : PkA) (w : World) (e : Ending) (w' : World) : Prop :=
  ∃ g b, e = .returned (.map (some g)) ∧ w'.heap[g]? = some (threeO (portF6 b) (portF17 b) (portF1 b)) ∧ w'.heap[b]? = some (.cells #[.int .u8 p.h.to, .int .u16 p.h.id, .bool p.h.df, .int .u8 p.h.tt, .int .u8 p.h.pr, .int .u32 p.h.sr, .int .u32 p.h.ds, .slice a.AH a.nH a.cH, .int .u16 p.s.sp, .int .u16 p.s.dp, .int .u32 p.s.sq, .int .u32 p.s.ak, .int .u8 p.s.fl, .int .u16 p.s.wn, .int .u16 p.s.ug, .slice a.AO a.nO a.cO, .slice a.AD a.nD a.cD, .int .u16 p.u.sp, .int .u16 p.u.dp, .slice a.AU a.nU a.cU, .int .u8 p.m.ty, .int .u8 p.m.cd, .int .u32 p.m.rs, .slice a.AM a.nM a.cM] 35 (0, 0)) ∧ Below w.heap.size w w'
theorem ports_any (p : Pk) (a : PkA) (w : World) : Calls Tryz.prog 19 #[.agg #[.int .u8 p.h.to, .int .u16 p.h.id, .bool p.h.df, .int .u8 p.h.tt, .int .u8 p.h.pr, .int .u32 p.h.sr, .int .u32 p.h.ds, .slice a.AH a.nH a.cH, .int .u16 p.s.sp, .int .u16 p.s.dp, .int .u32 p.s.sq, .int .u32 p.s.ak, .int .u8 p.s.fl, .int .u16 p.s.wn, .int .u16 p.s.ug, .slice a.AO a.nO a.cO, .slice a.AD a.nD a.cD, .int .u16 p.u.sp, .int .u16 p.u.dp, .slice a.AU a.nU a.cU, .int .u8 p.m.ty, .int .u8 p.m.cd, .int .u32 p.m.rs, .slice a.AM a.nM a.cM]] w (PortsIs p a w) := by
  have hmf : ∀ (fn : Fn) (first cap : Array Value) (w : World), (Instr.makeFunc fn first cap).run Tryz.prog w = .ok (.func fn first cap) w := fun _ _ _ _ => rfl
  obtain ⟨z, hz⟩ : ∃ z, w.heap.size = z := ⟨_, rfl⟩
  obtain ⟨w0, ew⟩ : ∃ w0, w.alloc (.cells #[.int .u8 p.h.to, .int .u16 p.h.id, .bool p.h.df, .int .u8 p.h.tt, .int .u8 p.h.pr, .int .u32 p.h.sr, .int .u32 p.h.ds, .slice a.AH a.nH a.cH, .int .u16 p.s.sp, .int .u16 p.s.dp, .int .u32 p.s.sq, .int .u32 p.s.ak, .int .u8 p.s.fl, .int .u16 p.s.wn, .int .u16 p.s.ug, .slice a.AO a.nO a.cO, .slice a.AD a.nD a.cD, .int .u16 p.u.sp, .int .u16 p.u.dp, .slice a.AU a.nU a.cU, .int .u8 p.m.ty, .int .u8 p.m.cd, .int .u32 p.m.rs, .slice a.AM a.nM a.cM] 35) = w0 := ⟨_, rfl⟩
  have hb0 : Below w.heap.size w w0 := by rw [← ew]; exact (Below.refl _ _).alloc (Nat.le_refl _) _
  have hk0 : w0.heap[z]? = some (.cells #[.int .u8 p.h.to, .int .u16 p.h.id, .bool p.h.df, .int .u8 p.h.tt, .int .u8 p.h.pr, .int .u32 p.h.sr, .int .u32 p.h.ds, .slice a.AH a.nH a.cH, .int .u16 p.s.sp, .int .u16 p.s.dp, .int .u32 p.s.sq, .int .u32 p.s.ak, .int .u8 p.s.fl, .int .u16 p.s.wn, .int .u16 p.s.ug, .slice a.AO a.nO a.cO, .slice a.AD a.nD a.cD, .int .u16 p.u.sp, .int .u16 p.u.dp, .slice a.AU a.nU a.cU, .int .u8 p.m.ty, .int .u8 p.m.cd, .int .u32 p.m.rs, .slice a.AM a.nM a.cM] 35 (0, 0)) := by rw [← ew, ← hz]; exact heap_alloc_new w _
  have Hb0 := Lib.hid hb0
  have Ew := Lib.hid ew
  have Hz := Lib.hid hz
  have HK0 := Lib.hid hk0
  clear hz ew hb0 hk0
  go_enter Tryz.func19, Tryz.ntmps19
  go_upto_region 1 with (fail)
  rw [Ew.out]
  try rw [Hz.out]
  obtain ⟨w2, e2⟩ : ∃ v, w0.alloc (.map #[] 0) = v := ⟨_, rfl⟩
  have k2 : w2.heap[w0.heap.size]? = some (.map #[] 0) := by rw [← e2]; exact heap_alloc_new w0 _
  have b2 : Below w0.heap.size w0 w2 := by rw [← e2]; exact (Below.refl _ _).alloc (Nat.le_refl _) _
  obtain ⟨w3, w4, w5, r1, r2, r3, hg, hb⟩ := runs_ports (portF6 z) (portF17 z) (portF1 z) b2 (Nat.le_refl _) k2
  have hmk := run_makeMap_plain (P := Tryz.prog) w0 65
  rw [e2] at hmk
  have Hg := Lib.hid hg
  have Hb := Lib.hid hb
  clear k2 b2 hg hb e2
  unfold portF6 at r1
  unfold portF17 at r2
  unfold portF1 at r3
  go_wp2_with fail
  go_ret
  exact ⟨_, z, rfl, Hg.out, blk_on HK0.out Hb.out, below_trans Hb0.out Hb.out⟩
def PortIs (sp dp : Int) (x : Bool) (w : World) (e : Ending) (w' : World) : Prop := e = .returned (.tuple #[.int .u16 sp, .int .u16 dp, .bool x]) ∧ Below w.heap.size w w'
theorem port_6 (p : Pk) (a : PkA) (b : Nat) (w : World) (hk : w.heap[b]? = some (.cells #[.int .u8 p.h.to, .int .u16 p.h.id, .bool p.h.df, .int .u8 p.h.tt, .int .u8 p.h.pr, .int .u32 p.h.sr, .int .u32 p.h.ds, .slice a.AH a.nH a.cH, .int .u16 p.s.sp, .int .u16 p.s.dp, .int .u32 p.s.sq, .int .u32 p.s.ak, .int .u8 p.s.fl, .int .u16 p.s.wn, .int .u16 p.s.ug, .slice a.AO a.nO a.cO, .slice a.AD a.nD a.cD, .int .u16 p.u.sp, .int .u16 p.u.dp, .slice a.AU a.nU a.cU, .int .u8 p.m.ty, .int .u8 p.m.cd, .int .u32 p.m.rs, .slice a.AM a.nM a.cM] 35 (0, 0))) :
    Calls Tryz.prog 52 #[.pointer (some ⟨b, 0, none⟩)] w (PortIs p.s.sp p.s.dp true w) := by
  obtain ⟨k0, k1, k2, k3, k4, k5, k6, k7, k8, k9, k10, k11, k12, k13, k14, k15, k16, k17, k18, k19, k20, k21, k22, k23⟩ := cells24 hk
  clear hk
  go_enter Tryz.func52, Tryz.ntmps52
  go_wp2_with fail
  go_region
  go_wp2_with fail
  refine bodyPost_ret (v := .tuple #[.int .u16 p.s.sp, .int .u16 p.s.dp, .bool true]) (by simp [results, Tryz.results52, go_sem]) rfl ?_
  exact ⟨rfl, Below.drew (Below.refl _ _)⟩
theorem port_17 (p : Pk) (a : PkA) (b : Nat) (w : World) (hk : w.heap[b]? = some (.cells #[.int .u8 p.h.to, .int .u16 p.h.id, .bool p.h.df, .int .u8 p.h.tt, .int .u8 p.h.pr, .int .u32 p.h.sr, .int .u32 p.h.ds, .slice a.AH a.nH a.cH, .int .u16 p.s.sp, .int .u16 p.s.dp, .int .u32 p.s.sq, .int .u32 p.s.ak, .int .u8 p.s.fl, .int .u16 p.s.wn, .int .u16 p.s.ug, .slice a.AO a.nO a.cO, .slice a.AD a.nD a.cD, .int .u16 p.u.sp, .int .u16 p.u.dp, .slice a.AU a.nU a.cU, .int .u8 p.m.ty, .int .u8 p.m.cd, .int .u32 p.m.rs, .slice a.AM a.nM a.cM] 35 (0, 0))) :
    Calls Tryz.prog 53 #[.pointer (some ⟨b, 0, none⟩)] w (PortIs p.u.sp p.u.dp true w) := by
  obtain ⟨k0, k1, k2, k3, k4, k5, k6, k7, k8, k9, k10, k11, k12, k13, k14, k15, k16, k17, k18, k19, k20, k21, k22, k23⟩ := cells24 hk
  clear hk
  go_enter Tryz.func53, Tryz.ntmps53
  go_wp2_with fail
  go_region
  go_wp2_with fail
  refine bodyPost_ret (v := .tuple #[.int .u16 p.u.sp, .int .u16 p.u.dp, .bool true]) (by simp [results, Tryz.results53, go_sem]) rfl ?_
  exact ⟨rfl, Below.drew (Below.refl _ _)⟩
theorem port_1 (p : Pk) (a : PkA) (b : Nat) (w : World) (q : Int) (y : Bool) (hr : 0 ≤ p.m.rs ∧ p.m.rs < 4294967296) (hy : echoM p.m.ty p.m.cd = y) (hq : (if y = true then p.m.rs / 65536 else 0) = q) (hk : w.heap[b]? = some (.cells #[.int .u8 p.h.to, .int .u16 p.h.id, .bool p.h.df, .int .u8 p.h.tt, .int .u8 p.h.pr, .int .u32 p.h.sr, .int .u32 p.h.ds, .slice a.AH a.nH a.cH, .int .u16 p.s.sp, .int .u16 p.s.dp, .int .u32 p.s.sq, .int .u32 p.s.ak, .int .u8 p.s.fl, .int .u16 p.s.wn, .int .u16 p.s.ug, .slice a.AO a.nO a.cO, .slice a.AD a.nD a.cD, .int .u16 p.u.sp, .int .u16 p.u.dp, .slice a.AU a.nU a.cU, .int .u8 p.m.ty, .int .u8 p.m.cd, .int .u32 p.m.rs, .slice a.AM a.nM a.cM] 35 (0, 0))) :
    Calls Tryz.prog 54 #[.pointer (some ⟨b, 0, none⟩)] w (PortIs q 0 y w) := by
  have HE := Lib.hid (show Calls Tryz.prog _ _ w (fun e w' => (∃ q2, e = .returned (.tuple #[.int .u16 q, .int .u16 q2, .bool y])) ∧ Below w.heap.size w w') from (echo8_any p.m.ty p.m.cd p.m.rs a.AM a.nM a.cM w hr).mono (by
    rintro e w2 ⟨h1, hb2⟩
    refine ⟨?_, hb2⟩
    by_cases he : echoM p.m.ty p.m.cd = true
    · rw [if_pos he] at h1
      have : y = true := by rw [← hy]; exact he
      subst this
      rw [if_pos rfl] at hq
      exact ⟨_, by rw [h1, hq]⟩
    · rw [if_neg he] at h1
      have : y = false := by rw [← hy]; simpa using he
      subst this
      rw [if_neg (by simp)] at hq
      exact ⟨_, by rw [h1, hq]⟩))
  obtain ⟨k0, k1, k2, k3, k4, k5, k6, k7, k8, k9, k10, k11, k12, k13, k14, k15, k16, k17, k18, k19, k20, k21, k22, k23⟩ := cells24 hk
  clear hk hr hy hq
  go_enter Tryz.func54, Tryz.ntmps54
  go_wp2_with fail
  refine HE.out.mono ?_
  rintro e w2 ⟨⟨q2, rfl⟩, hb2⟩
  have Hb2 := Lib.hid hb2
  clear hb2
  clear k0 k1 k2 k3 k4 k5 k6 k7 k8 k9 k10 k11 k12 k13 k14 k15 k16 k17 k18 k19 k20 k21 k22 k23
  go_wp2_with fail
  refine bodyPost_ret (v := .tuple #[.int .u16 q, .int .u16 0, .bool y]) (by simp [results, Tryz.results54, go_sem]) rfl ?_
  exact ⟨rfl, Hb2.out⟩
set_option maxHeartbeats 4000000 in
theorem tof_any (p : Pk) (a : PkA) (w : World) (t : Tu) (x : Bool) (hr : 0 ≤ p.m.rs ∧ p.m.rs < 4294967296) (ht : tupT p = t) (hx : isT p = x) :
    Calls Tryz.prog 4 #[.agg #[.int .u8 p.h.to, .int .u16 p.h.id, .bool p.h.df, .int .u8 p.h.tt, .int .u8 p.h.pr, .int .u32 p.h.sr, .int .u32 p.h.ds, .slice a.AH a.nH a.cH, .int .u16 p.s.sp, .int .u16 p.s.dp, .int .u32 p.s.sq, .int .u32 p.s.ak, .int .u8 p.s.fl, .int .u16 p.s.wn, .int .u16 p.s.ug, .slice a.AO a.nO a.cO, .slice a.AD a.nD a.cD, .int .u16 p.u.sp, .int .u16 p.u.dp, .slice a.AU a.nU a.cU, .int .u8 p.m.ty, .int .u8 p.m.cd, .int .u32 p.m.rs, .slice a.AM a.nM a.cM]] w (OfIs t x w) := by
  obtain ⟨z, hz⟩ : ∃ z, w.heap.size = z := ⟨_, rfl⟩
  obtain ⟨w0, ew⟩ : ∃ w0, (w.alloc (.cells #[.int .u8 p.h.to, .int .u16 p.h.id, .bool p.h.df, .int .u8 p.h.tt, .int .u8 p.h.pr, .int .u32 p.h.sr, .int .u32 p.h.ds, .slice a.AH a.nH a.cH, .int .u16 p.s.sp, .int .u16 p.s.dp, .int .u32 p.s.sq, .int .u32 p.s.ak, .int .u8 p.s.fl, .int .u16 p.s.wn, .int .u16 p.s.ug, .slice a.AO a.nO a.cO, .slice a.AD a.nD a.cD, .int .u16 p.u.sp, .int .u16 p.u.dp, .slice a.AU a.nU a.cU, .int .u8 p.m.ty, .int .u8 p.m.cd, .int .u32 p.m.rs, .slice a.AM a.nM a.cM] 35)).alloc (.cells #[.int .u8 0, .int .u32 0, .int .u32 0, .int .u16 0, .int .u16 0] 37) = w0 := ⟨_, rfl⟩
  have hb0 : Below w.heap.size w w0 := by rw [← ew]; exact ((Below.refl _ _).alloc (Nat.le_refl _) _).alloc (by simp) _
  have hk0 : w0.heap[z]? = some (.cells #[.int .u8 p.h.to, .int .u16 p.h.id, .bool p.h.df, .int .u8 p.h.tt, .int .u8 p.h.pr, .int .u32 p.h.sr, .int .u32 p.h.ds, .slice a.AH a.nH a.cH, .int .u16 p.s.sp, .int .u16 p.s.dp, .int .u32 p.s.sq, .int .u32 p.s.ak, .int .u8 p.s.fl, .int .u16 p.s.wn, .int .u16 p.s.ug, .slice a.AO a.nO a.cO, .slice a.AD a.nD a.cD, .int .u16 p.u.sp, .int .u16 p.u.dp, .slice a.AU a.nU a.cU, .int .u8 p.m.ty, .int .u8 p.m.cd, .int .u32 p.m.rs, .slice a.AM a.nM a.cM] 35 (0, 0)) := by rw [← ew, Below.heap_alloc _ _ _ (by simp [hz]), ← hz]; exact heap_alloc_new w _
  have hk1 : w0.heap[z + 1]? = some (.cells #[.int .u8 0, .int .u32 0, .int .u32 0, .int .u16 0, .int .u16 0] 37 (0, 0)) := by
    rw [← ew, ← hz]; simpa using heap_alloc_new (w.alloc (.cells #[.int .u8 p.h.to, .int .u16 p.h.id, .bool p.h.df, .int .u8 p.h.tt, .int .u8 p.h.pr, .int .u32 p.h.sr, .int .u32 p.h.ds, .slice a.AH a.nH a.cH, .int .u16 p.s.sp, .int .u16 p.s.dp, .int .u32 p.s.sq, .int .u32 p.s.ak, .int .u8 p.s.fl, .int .u16 p.s.wn, .int .u16 p.s.ug, .slice a.AO a.nO a.cO, .slice a.AD a.nD a.cD, .int .u16 p.u.sp, .int .u16 p.u.dp, .slice a.AU a.nU a.cU, .int .u8 p.m.ty, .int .u8 p.m.cd, .int .u32 p.m.rs, .slice a.AM a.nM a.cM] 35)) (.cells #[.int .u8 0, .int .u32 0, .int .u32 0, .int .u16 0, .int .u16 0] 37)
  have hs0 : w0.heap.size = z + 2 := by rw [← ew, ← hz]; simp
  obtain ⟨w1, ew1⟩ : ∃ v, w0.alloc (.cells #[.int .u8 p.h.to, .int .u16 p.h.id, .bool p.h.df, .int .u8 p.h.tt, .int .u8 p.h.pr, .int .u32 p.h.sr, .int .u32 p.h.ds, .slice a.AH a.nH a.cH] 26) = v := ⟨_, rfl⟩
  have hb1 : Below w0.heap.size w0 w1 := by rw [← ew1]; exact (Below.refl _ _).alloc (Nat.le_refl _) _
  have hk2 : w1.heap[z + 2]? = some (.cells #[.int .u8 p.h.to, .int .u16 p.h.id, .bool p.h.df, .int .u8 p.h.tt, .int .u8 p.h.pr, .int .u32 p.h.sr, .int .u32 p.h.ds, .slice a.AH a.nH a.cH] 26 (0, 0)) := by rw [← ew1, ← hs0]; exact heap_alloc_new w0 _
  obtain ⟨kn, ekn⟩ : ∃ k, knownP p.h.pr = k := ⟨_, rfl⟩
  have Hkn := Lib.hid ekn
  have HK0 := Lib.hid hk0
  have HKd := Lib.hid (show ∀ w', Below w1.heap.size w1 w' → w'.heap[z]? = some (.cells #[.int .u8 p.h.to, .int .u16 p.h.id, .bool p.h.df, .int .u8 p.h.tt, .int .u8 p.h.pr, .int .u32 p.h.sr, .int .u32 p.h.ds, .slice a.AH a.nH a.cH, .int .u16 p.s.sp, .int .u16 p.s.dp, .int .u32 p.s.sq, .int .u32 p.s.ak, .int .u8 p.s.fl, .int .u16 p.s.wn, .int .u16 p.s.ug, .slice a.AO a.nO a.cO, .slice a.AD a.nD a.cD, .int .u16 p.u.sp, .int .u16 p.u.dp, .slice a.AU a.nU a.cU, .int .u8 p.m.ty, .int .u8 p.m.cd, .int .u32 p.m.rs, .slice a.AM a.nM a.cM] 35 (0, 0)) ∧ w'.heap[z + 1]? = some (.cells #[.int .u8 0, .int .u32 0, .int .u32 0, .int .u16 0, .int .u16 0] 37 (0, 0)) ∧ w'.heap[z + 2]? = some (.cells #[.int .u8 p.h.to, .int .u16 p.h.id, .bool p.h.df, .int .u8 p.h.tt, .int .u8 p.h.pr, .int .u32 p.h.sr, .int .u32 p.h.ds, .slice a.AH a.nH a.cH] 26 (0, 0)) from
    fun w' hb => ⟨blk_on (blk_on hk0 hb1) hb, blk_on (blk_on hk1 hb1) hb, blk_on hk2 hb⟩)
  have Hb1 := Lib.hid (below_trans hb0 hb1)
  have Ew := Lib.hid ew
  have Ew1 := Lib.hid ew1
  have Hs0 := Lib.hid hs0
  have Hz := Lib.hid hz
  have Ht := Lib.hid ht
  have Hx := Lib.hid hx
  have Hr := Lib.hid hr
  clear hb0 hk0 hk1 hs0 ew hz ht hx hr ew1 hb1 hk2 ekn
  go_enter Tryz.func4, Tryz.ntmps4
  go_upto_region 1 with (fail)
  rw [Ew.out]
  try rw [Hz.out]
  obtain ⟨k0, k1, k2, k3, k4, k5, k6, k7, k8, k9, k10, k11, k12, k13, k14, k15, k16, k17, k18, k19, k20, k21, k22, k23⟩ := cells24 HK0.out
  go_upto_region 2 with (fail)
  clear k0 k1 k2 k3 k4 k5 k6 k7 k8 k9 k10 k11 k12 k13 k14 k15 k16 k17 k18 k19 k20 k21 k22 k23
  rw [Ew1.out]
  rw [Hs0.out]
  clear Ew Ew1 Hs0 HK0
  have HBd := Lib.hid (Below.drew (Below.refl w1.heap.size w1))
  have Hcl := Lib.hid (show ∀ (w' : World), w'.heap[z + 2]? = some (.cells #[.int .u8 p.h.to, .int .u16 p.h.id, .bool p.h.df, .int .u8 p.h.tt, .int .u8 p.h.pr, .int .u32 p.h.sr, .int .u32 p.h.ds, .slice a.AH a.nH a.cH] 26 (0, 0)) → w'.cell? ⟨z + 2, 4, none⟩ = some (.int .u8 p.h.pr) from fun w' h => by rw [blk_cell h]; rfl)
  have HS := Lib.hid (show ∀ w', Below w1.heap.size w1 w' → w'.heap[z]? = some (.cells #[.int .u8 p.h.to, .int .u16 p.h.id, .bool p.h.df, .int .u8 p.h.tt, .int .u8 p.h.pr, .int .u32 p.h.sr, .int .u32 p.h.ds, .slice a.AH a.nH a.cH, .int .u16 p.s.sp, .int .u16 p.s.dp, .int .u32 p.s.sq, .int .u32 p.s.ak, .int .u8 p.s.fl, .int .u16 p.s.wn, .int .u16 p.s.ug, .slice a.AO a.nO a.cO, .slice a.AD a.nD a.cD, .int .u16 p.u.sp, .int .u16 p.u.dp, .slice a.AU a.nU a.cU, .int .u8 p.m.ty, .int .u8 p.m.cd, .int .u32 p.m.rs, .slice a.AM a.nM a.cM] 35 (0, 0)) ∧ w'.cell? ⟨z + 2, 4, none⟩ = some (.int .u8 p.h.pr) from fun w' hb => ⟨(HKd.out _ hb).1, Hcl.out _ (HKd.out _ hb).2.2⟩)
  refine wp_region_held_drew (S := fun w' => w'.heap[z]? = some (.cells #[.int .u8 p.h.to, .int .u16 p.h.id, .bool p.h.df, .int .u8 p.h.tt, .int .u8 p.h.pr, .int .u32 p.h.sr, .int .u32 p.h.ds, .slice a.AH a.nH a.cH, .int .u16 p.s.sp, .int .u16 p.s.dp, .int .u32 p.s.sq, .int .u32 p.s.ak, .int .u8 p.s.fl, .int .u16 p.s.wn, .int .u16 p.s.ug, .slice a.AO a.nO a.cO, .slice a.AD a.nD a.cD, .int .u16 p.u.sp, .int .u16 p.u.dp, .slice a.AU a.nU a.cU, .int .u8 p.m.ty, .int .u8 p.m.cd, .int .u32 p.m.rs, .slice a.AM a.nM a.cM] 35 (0, 0)) ∧ w'.cell? ⟨z + 2, 4, none⟩ = some (.int .u8 p.h.pr)) (by kernel_rfl) (HS.out _ HBd.out) (fun hHeld => ?_)
  obtain ⟨wd, ewd⟩ : ∃ wd, w1.drew = wd := ⟨_, rfl⟩
  rw [ewd] at HBd hHeld ⊢
  clear ewd
  refine tk 0 (.agg #[.int .u8 p.h.to, .int .u16 p.h.id, .bool p.h.df, .int .u8 p.h.tt, .int .u8 p.h.pr, .int .u32 p.h.sr, .int .u32 p.h.ds, .slice a.AH a.nH a.cH, .int .u16 p.s.sp, .int .u16 p.s.dp, .int .u32 p.s.sq, .int .u32 p.s.ak, .int .u8 p.s.fl, .int .u16 p.s.wn, .int .u16 p.s.ug, .slice a.AO a.nO a.cO, .slice a.AD a.nD a.cD, .int .u16 p.u.sp, .int .u16 p.u.dp, .slice a.AU a.nU a.cU, .int .u8 p.m.ty, .int .u8 p.m.cd, .int .u32 p.m.rs, .slice a.AM a.nM a.cM]) rfl (fun w' hSw => exec_row 35 (.tmp 1) rfl z _ _ _ _ (hSw.1) rfl Tryz.underlying35 rfl (by kernel_rfl)) ?_
  try simp only [Act.put, putL]
  refine tk 2 ?_ rfl ?_ ?_
  rotate_left
  · intro w' hSw; (go_simp <;> (with_reducible rfl))
  try simp only [Act.put, putL]
  refine tk 3 ?_ rfl ?_ ?_
  rotate_left
  · intro w' hSw; (go_simp <;> (with_reducible rfl))
  try simp only [Act.put, putL]
  refine tkC 1 rfl (fun K hK => ?_)
  go_simp
  (refine (ports_any p a _).mono ?_; rintro e w2 ⟨g, b, rfl, hg, hk, hb2⟩; have HG := Lib.hid hg; have HPB := Lib.hid hk; have HB2 := Lib.hid (below_trans HBd.out hb2); clear hg hk hb2)
  refine hK.out _ _ ?_ (fun hHeld => ?_)
  · exact HS.out _ HB2.out
  clear hK K
  try simp only [Act.put, putL]
  refine anyH_mono (S' := fun w' => (w'.heap[z]? = some (.cells #[.int .u8 p.h.to, .int .u16 p.h.id, .bool p.h.df, .int .u8 p.h.tt, .int .u8 p.h.pr, .int .u32 p.h.sr, .int .u32 p.h.ds, .slice a.AH a.nH a.cH, .int .u16 p.s.sp, .int .u16 p.s.dp, .int .u32 p.s.sq, .int .u32 p.s.ak, .int .u8 p.s.fl, .int .u16 p.s.wn, .int .u16 p.s.ug, .slice a.AO a.nO a.cO, .slice a.AD a.nD a.cD, .int .u16 p.u.sp, .int .u16 p.u.dp, .slice a.AU a.nU a.cU, .int .u8 p.m.ty, .int .u8 p.m.cd, .int .u32 p.m.rs, .slice a.AM a.nM a.cM] 35 (0, 0)) ∧ w'.cell? ⟨z + 2, 4, none⟩ = some (.int .u8 p.h.pr)) ∧ w'.heap[g]? = some (threeO (portF6 b) (portF17 b) (portF1 b))) (fun _ h => h.1) _ _ _ _ ?_
  have hHeld := And.intro hHeld HG.out
  obtain ⟨fv, efv⟩ : ∃ f, atP (portF6 b) (portF17 b) (portF1 b) p.h.pr = f := ⟨_, rfl⟩
  have hlook := fun (W : World) (h : W.heap[g]? = some (threeO (portF6 b) (portF17 b) (portF1 b))) => look3_ports W g _ _ _ p.h.pr fv kn h efv Hkn.out
  refine tk 4 ?_ rfl ?_ ?_
  rotate_left
  · intro w' hSw; (go_simp <;> (with_reducible rfl))
  try simp only [Act.put, putL]
  refine tk 5 ?_ rfl ?_ ?_
  rotate_left
  · intro w' hSw; (go_simp <;> (with_reducible rfl))
  try simp only [Act.put, putL]
  refine tk 6 ?_ rfl ?_ ?_
  rotate_left
  · intro w' hSw; (go_simp <;> (with_reducible rfl))
  try simp only [Act.put, putL]
  refine tk 7 ?_ rfl ?_ ?_
  rotate_left
  · intro w' hSw; (go_simp <;> (with_reducible rfl))
  try simp only [Act.put, putL]
  refine tk 8 ?_ rfl ?_ ?_
  rotate_left
  · intro w' hSw; (go_simp <;> (with_reducible rfl))
  try simp only [Act.put, putL]
  refine tk 9 ?_ rfl ?_ ?_
  rotate_left
  · intro w' hSw; (go_simp <;> (with_reducible rfl))
  try simp only [Act.put, putL]
  refine wpAnyH_done (by kernel_rfl) ?_ _
  clear hHeld hlook
  clear HS Hcl HBd HG
  cases kn with
  | false =>
    have hk := Hkn.out
    have Hp := Lib.hid (show t = ⟨0, 0, 0, 0, 0⟩ ∧ x = false by
      rw [← Ht.out, ← Hx.out]; unfold tupT isT; unfold knownP at hk; simp at hk; simp [hk, zeroTu])
    clear hk efv
    obtain ⟨K0, K1, K2⟩ := HKd.out _ HB2.out
    obtain ⟨r0, r1, r2, r3, r4⟩ := cells5 K1
    have rf := blk_free K1
    have g4 : w2.cell? ⟨z + 2, 4, none⟩ = some (.int .u8 p.h.pr) := by rw [blk_cell K2]; rfl
    have g5 : w2.cell? ⟨z + 2, 5, none⟩ = some (.int .u32 p.h.sr) := by rw [blk_cell K2]; rfl
    have g6 : w2.cell? ⟨z + 2, 6, none⟩ = some (.int .u32 p.h.ds) := by rw [blk_cell K2]; rfl
    have K1h := Lib.hid K1
    have HBz := Lib.hid (below_trans Hb1.out HB2.out)
    have hw1 : w.heap.size ≤ z + 1 := by have := Hz.out; omega
    clear K0 K1 K2
    go_wp2_with fail
    exact bodyPost_ret (v := .tuple #[.agg #[.int .u8 0, .int .u32 0, .int .u32 0, .int .u16 0, .int .u16 0], .bool false]) (results_row_tmp rfl _ _ (z + 1) _ _ _ _ _ rfl rfl (set5_blk K1h.out _ _ _ _ _) Tryz.underlying37 rfl (by kernel_rfl)) rfl ⟨by rw [Hp.out.1, Hp.out.2], set5_below HBz.out hw1 _ _ _ _ _⟩
  | true =>
    have hk := Hkn.out
    unfold knownP at hk
    simp only [Bool.or_eq_true, decide_eq_true_eq] at hk
    rcases hk with h1 | h1 | h1
    · have Hp := Lib.hid (show t = ⟨p.h.pr, p.h.sr, p.h.ds, p.s.sp, p.s.dp⟩ ∧ x = true by rw [← Ht.out, ← Hx.out]; unfold tupT isT; rw [if_pos h1]; simp [h1])
      have efv := efv
      rw [show atP (portF6 b) (portF17 b) (portF1 b) p.h.pr = portF6 b by unfold atP; simp [h1]] at efv
      subst efv
      unfold portF6
      go_wp2_with fail
      refine (port_6 p a b _ HPB.out).mono ?_
      rintro e w3 ⟨rfl, hb3⟩
      have HB3 := Lib.hid (below_trans HB2.out hb3)
      clear hb3
      obtain ⟨K0, K1, K2⟩ := HKd.out _ HB3.out
      obtain ⟨r0, r1, r2, r3, r4⟩ := cells5 K1
      have rf := blk_free K1
      have g4 : w3.cell? ⟨z + 2, 4, none⟩ = some (.int .u8 p.h.pr) := by rw [blk_cell K2]; rfl
      have g5 : w3.cell? ⟨z + 2, 5, none⟩ = some (.int .u32 p.h.sr) := by rw [blk_cell K2]; rfl
      have g6 : w3.cell? ⟨z + 2, 6, none⟩ = some (.int .u32 p.h.ds) := by rw [blk_cell K2]; rfl
      have K1h := Lib.hid K1
      have HBz := Lib.hid (below_trans Hb1.out HB3.out)
      have hw1 : w.heap.size ≤ z + 1 := by have := Hz.out; omega
      clear K0 K1 K2
      clear h1
      go_wp2_with fail
      exact bodyPost_ret (v := .tuple #[.agg #[.int .u8 p.h.pr, .int .u32 p.h.sr, .int .u32 p.h.ds, .int .u16 p.s.sp, .int .u16 p.s.dp], .bool true]) (results_row_tmp rfl _ _ (z + 1) _ _ _ _ _ rfl rfl (set5_blk K1h.out _ _ _ _ _) Tryz.underlying37 rfl (by kernel_rfl)) rfl ⟨by rw [Hp.out.1, Hp.out.2], set5_below HBz.out hw1 _ _ _ _ _⟩
    · have Hp := Lib.hid (show t = ⟨p.h.pr, p.h.sr, p.h.ds, p.u.sp, p.u.dp⟩ ∧ x = true by rw [← Ht.out, ← Hx.out]; unfold tupT isT; rw [if_neg (by omega), if_pos h1]; simp [h1])
      have efv := efv
      rw [show atP (portF6 b) (portF17 b) (portF1 b) p.h.pr = portF17 b by unfold atP; simp [h1]] at efv
      subst efv
      unfold portF17
      go_wp2_with fail
      refine (port_17 p a b _ HPB.out).mono ?_
      rintro e w3 ⟨rfl, hb3⟩
      have HB3 := Lib.hid (below_trans HB2.out hb3)
      clear hb3
      obtain ⟨K0, K1, K2⟩ := HKd.out _ HB3.out
      obtain ⟨r0, r1, r2, r3, r4⟩ := cells5 K1
      have rf := blk_free K1
      have g4 : w3.cell? ⟨z + 2, 4, none⟩ = some (.int .u8 p.h.pr) := by rw [blk_cell K2]; rfl
      have g5 : w3.cell? ⟨z + 2, 5, none⟩ = some (.int .u32 p.h.sr) := by rw [blk_cell K2]; rfl
      have g6 : w3.cell? ⟨z + 2, 6, none⟩ = some (.int .u32 p.h.ds) := by rw [blk_cell K2]; rfl
      have K1h := Lib.hid K1
      have HBz := Lib.hid (below_trans Hb1.out HB3.out)
      have hw1 : w.heap.size ≤ z + 1 := by have := Hz.out; omega
      clear K0 K1 K2
      clear h1
      go_wp2_with fail
      exact bodyPost_ret (v := .tuple #[.agg #[.int .u8 p.h.pr, .int .u32 p.h.sr, .int .u32 p.h.ds, .int .u16 p.u.sp, .int .u16 p.u.dp], .bool true]) (results_row_tmp rfl _ _ (z + 1) _ _ _ _ _ rfl rfl (set5_blk K1h.out _ _ _ _ _) Tryz.underlying37 rfl (by kernel_rfl)) rfl ⟨by rw [Hp.out.1, Hp.out.2], set5_below HBz.out hw1 _ _ _ _ _⟩
    · by_cases he : echoM p.m.ty p.m.cd = true
      · have Hp := Lib.hid (show t = ⟨p.h.pr, p.h.sr, p.h.ds, p.m.rs / 65536, 0⟩ ∧ x = true by rw [← Ht.out, ← Hx.out]; unfold tupT isT; rw [if_neg (by omega), if_neg (by omega), if_pos ⟨h1, he⟩]; simp [h1, he])
        have He := Lib.hid he
        clear he
        have efv := efv
        rw [show atP (portF6 b) (portF17 b) (portF1 b) p.h.pr = portF1 b by unfold atP; simp [h1]] at efv
        subst efv
        unfold portF1
        go_wp2_with fail
        refine (port_1 p a b _ (p.m.rs / 65536) true Hr.out He.out (if_pos rfl) HPB.out).mono ?_
        rintro e w3 ⟨rfl, hb3⟩
        have HB3 := Lib.hid (below_trans HB2.out hb3)
        clear hb3
        obtain ⟨K0, K1, K2⟩ := HKd.out _ HB3.out
        obtain ⟨r0, r1, r2, r3, r4⟩ := cells5 K1
        have rf := blk_free K1
        have g4 : w3.cell? ⟨z + 2, 4, none⟩ = some (.int .u8 p.h.pr) := by rw [blk_cell K2]; rfl
        have g5 : w3.cell? ⟨z + 2, 5, none⟩ = some (.int .u32 p.h.sr) := by rw [blk_cell K2]; rfl
        have g6 : w3.cell? ⟨z + 2, 6, none⟩ = some (.int .u32 p.h.ds) := by rw [blk_cell K2]; rfl
        have K1h := Lib.hid K1
        have HBz := Lib.hid (below_trans Hb1.out HB3.out)
        have hw1 : w.heap.size ≤ z + 1 := by have := Hz.out; omega
        clear K0 K1 K2
        clear h1
        go_wp2_with fail
        exact bodyPost_ret (v := .tuple #[.agg #[.int .u8 p.h.pr, .int .u32 p.h.sr, .int .u32 p.h.ds, .int .u16 (p.m.rs / 65536), .int .u16 0], .bool true]) (results_row_tmp rfl _ _ (z + 1) _ _ _ _ _ rfl rfl (set5_blk K1h.out _ _ _ _ _) Tryz.underlying37 rfl (by kernel_rfl)) rfl ⟨by rw [Hp.out.1, Hp.out.2], set5_below HBz.out hw1 _ _ _ _ _⟩
      · have Hp := Lib.hid (show t = ⟨0, 0, 0, 0, 0⟩ ∧ x = false by rw [← Ht.out, ← Hx.out]; unfold tupT isT; rw [if_neg (by omega), if_neg (by omega), if_neg (fun h => he h.2)]; simp [h1, he, zeroTu])
        have He := Lib.hid (show echoM p.m.ty p.m.cd = false by simpa using he)
        clear he
        have efv := efv
        rw [show atP (portF6 b) (portF17 b) (portF1 b) p.h.pr = portF1 b by unfold atP; simp [h1]] at efv
        subst efv
        unfold portF1
        go_wp2_with fail
        refine (port_1 p a b _ 0 false Hr.out He.out (if_neg (by simp)) HPB.out).mono ?_
        rintro e w3 ⟨rfl, hb3⟩
        have HB3 := Lib.hid (below_trans HB2.out hb3)
        clear hb3
        obtain ⟨K0, K1, K2⟩ := HKd.out _ HB3.out
        obtain ⟨r0, r1, r2, r3, r4⟩ := cells5 K1
        have rf := blk_free K1
        have g4 : w3.cell? ⟨z + 2, 4, none⟩ = some (.int .u8 p.h.pr) := by rw [blk_cell K2]; rfl
        have g5 : w3.cell? ⟨z + 2, 5, none⟩ = some (.int .u32 p.h.sr) := by rw [blk_cell K2]; rfl
        have g6 : w3.cell? ⟨z + 2, 6, none⟩ = some (.int .u32 p.h.ds) := by rw [blk_cell K2]; rfl
        have K1h := Lib.hid K1
        have HBz := Lib.hid (below_trans Hb1.out HB3.out)
        have hw1 : w.heap.size ≤ z + 1 := by have := Hz.out; omega
        clear K0 K1 K2
        clear h1
        go_wp2_with fail
        exact bodyPost_ret (v := .tuple #[.agg #[.int .u8 0, .int .u32 0, .int .u32 0, .int .u16 0, .int .u16 0], .bool false]) (results_row_tmp rfl _ _ (z + 1) _ _ _ _ _ rfl rfl (set5_blk K1h.out _ _ _ _ _) Tryz.underlying37 rfl (by kernel_rfl)) rfl ⟨by rw [Hp.out.1, Hp.out.2], set5_below HBz.out hw1 _ _ _ _ _⟩
end Go.Proofs.YtoegfgbalcholaaGreat

/-
  Package nat's Rewrite of a packet that goes on, told alone (TopQuotes): no error, the Ttl stays.
-/
namespace Go.Proofs.YtoegfgbalcholaaGreat
set_option maxRecDepth 10000
open Go.RowKit
set_option linter.unusedSimpArgs false
set_option linter.unusedVariables false

theorem row_at0 {w : World} {g : Nat} {C : Array Value} {T : TypeId} {t : Tu} (h : w.heap[g]? = some (.cells #[.int .u8 t.pr, .int .u32 t.sr, .int .u32 t.ds, .int .u16 t.sp, .int .u16 t.dp] T (0, 0))) : w.cell? ⟨g, 0, none⟩ = some (.int .u8 t.pr) ∧ w.cell? ⟨g, 1, none⟩ = some (.int .u32 t.sr) ∧ w.cell? ⟨g, 2, none⟩ = some (.int .u32 t.ds) ∧ w.cell? ⟨g, 3, none⟩ = some (.int .u16 t.sp) ∧ w.cell? ⟨g, 4, none⟩ = some (.int .u16 t.dp) := by
  refine ⟨?_, ?_, ?_, ?_, ?_⟩ <;> (rw [blk_cell h]; rfl)
set_option maxHeartbeats 4000000 in
theorem rw0 (A : Option Addr) (n c : Nat) (l : List Int) (t : Tu) (w : World) (L : List Int) (m : Nat) (hc : n ≤ c ∧ c ≤ maxLen) (hn : n ≤ 1600) (hA : Rd w A n l) (hT : TuNum t) (he : errAll l = 0) (hI : isT (pkOfB l) = true) (hno : ¬ (t.pr ≠ l.getD 9 0 ∨ (t.pr = 1 ∧ t.dp ≠ 0))) (hL : rwT l t false = L) (hm : L.length = m) :
    Calls Tryz.prog 6 #[.slice A n c, .agg #[.int .u8 t.pr, .int .u32 t.sr, .int .u32 t.ds, .int .u16 t.sp, .int .u16 t.dp], .bool false] w (OwnGot L m 0 w) := by
  have hby := hA.byte
  have hlen := hA.len
  obtain ⟨w0, ew⟩ : ∃ w0, w.alloc (.cells #[.int .u8 t.pr, .int .u32 t.sr, .int .u32 t.ds, .int .u16 t.sp, .int .u16 t.dp] 37) = w0 := ⟨_, rfl⟩
  obtain ⟨z0, hz⟩ : ∃ z, w.heap.size = z := ⟨_, rfl⟩
  have hb0 : Below w.heap.size w w0 := by rw [← ew]; exact (Below.refl _ _).alloc (Nat.le_refl _) _
  have hk0 : w0.heap[z0]? = some (.cells #[.int .u8 t.pr, .int .u32 t.sr, .int .u32 t.ds, .int .u16 t.sp, .int .u16 t.dp] 37 (0, 0)) := by rw [← ew, ← hz]; exact heap_alloc_new w _
  have HA0 := Lib.hid (hA.below hb0)
  have HA := Lib.hid hA
  have HB0 := Lib.hid hb0
  have HZ0 := Lib.hid hk0
  have Ew := Lib.hid ew
  have Hz := Lib.hid hz
  have Hby := Lib.hid hby
  have Hlen := Lib.hid hlen
  have HT := Lib.hid hT
  have Hm := Lib.hid hm
  have Hn := Lib.hid hn
  have Hc := Lib.hid hc
  have Hno := Lib.hid hno
  have HLe0 := Lib.hid (show rwB l (rwK l t false) = L by rw [← hL]; unfold rwT; rw [if_pos (show errRw l t false = 0 by unfold errRw; rw [if_neg (fun h => h he), if_neg (by rw [hI]; simp), if_neg hno, if_neg (by simp)])])
  have HI0 := Lib.hid hI
  clear hb0 hk0 ew hz hA hT hL hm hn hc hno hI
  obtain ⟨p, ep⟩ : ∃ p, pkOfB l = p := ⟨_, rfl⟩
  have hp1 := parse9_ok A n c l w0 Hc.out (by have := Hn.out; omega) HA0.out he
  rw [ep] at hp1
  have hph : p.h = hdOf l := by rw [← ep]; exact pkOfB_h l
  have htt : p.h.tt = l.getD 8 0 := by rw [hph]; rfl
  have hpr : p.h.pr = l.getD 9 0 := by rw [hph]; rfl
  obtain ⟨ho1, ho2, hl9⟩ := pk_opts hby he
  obtain ⟨a0, rfl⟩ : ∃ a0, A = some a0 := by
    obtain ⟨b, o, e, _⟩ := HA.out.at_ (by omega)
    exact ⟨_, e⟩
  have hrow := pk_row hby he hlen Hn.out
  rw [← hpr] at hrow
  rw [← hph] at ho1 ho2
  have hb8 := getD_mem l hby 8
  have hb9 := getD_mem l hby 9
  rw [← htt] at hb8
  rw [← hpr] at hb9
  have HR := Lib.hid hrow
  have Hl9 := Lib.hid (show 9 < n by omega)
  have Hpb := Lib.hid (And.intro hb8 hb9)
  have Hp1 := Lib.hid hp1
  have He0 := Lib.hid he
  have Hp8 := Lib.hid htt
  have Hp9 := Lib.hid hpr
  have Hpk := Lib.hid ep
  have Hoo := Lib.hid (And.intro ho1 ho2)
  have Hpr := Lib.hid hrow.is_
  clear hrow hb8 hb9 hpr htt hph ep hp1 hlen he hby ho1 ho2 hl9
  go_enter Tryz.func6, Tryz.ntmps6
  go_upto_region 1 with (fail)
  rw [Ew.out]
  try rw [Hz.out]
  clear Ew
  go_wp2_with fail
  refine Hp1.out.mono ?_
  rintro e w1 ⟨a, rfl, hp, hnO, hof, hb1⟩
  obtain ⟨z, ez⟩ : ∃ z, w1.heap.size = z := ⟨_, rfl⟩
  obtain ⟨w2, ew2⟩ : ∃ v, w1.alloc (.cells #[.int .u8 p.h.to, .int .u16 p.h.id, .bool p.h.df, .int .u8 p.h.tt, .int .u8 p.h.pr, .int .u32 p.h.sr, .int .u32 p.h.ds, .slice a.AH a.nH a.cH, .int .u16 p.s.sp, .int .u16 p.s.dp, .int .u32 p.s.sq, .int .u32 p.s.ak, .int .u8 p.s.fl, .int .u16 p.s.wn, .int .u16 p.s.ug, .slice a.AO a.nO a.cO, .slice a.AD a.nD a.cD, .int .u16 p.u.sp, .int .u16 p.u.dp, .slice a.AU a.nU a.cU, .int .u8 p.m.ty, .int .u8 p.m.cd, .int .u32 p.m.rs, .slice a.AM a.nM a.cM] 35) = v := ⟨_, rfl⟩
  have hba : Below w1.heap.size w1 w2 := by rw [← ew2]; exact (Below.refl _ _).alloc (Nat.le_refl _) _
  have HK2 := Lib.hid (show w2.heap[z]? = some (.cells #[.int .u8 p.h.to, .int .u16 p.h.id, .bool p.h.df, .int .u8 p.h.tt, .int .u8 p.h.pr, .int .u32 p.h.sr, .int .u32 p.h.ds, .slice a.AH a.nH a.cH, .int .u16 p.s.sp, .int .u16 p.s.dp, .int .u32 p.s.sq, .int .u32 p.s.ak, .int .u8 p.s.fl, .int .u16 p.s.wn, .int .u16 p.s.ug, .slice a.AO a.nO a.cO, .slice a.AD a.nD a.cD, .int .u16 p.u.sp, .int .u16 p.u.dp, .slice a.AU a.nU a.cU, .int .u8 p.m.ty, .int .u8 p.m.cd, .int .u32 p.m.rs, .slice a.AM a.nM a.cM] 35 (0, 0)) by rw [← ew2, ← ez]; exact heap_alloc_new w1 _)
  have HZ2 := Lib.hid (blk_on HZ0.out (below_trans hb1 hba))
  have HB2 := Lib.hid (below_trans HB0.out (below_trans hb1 hba))
  have Hop := Lib.hid (show 20 + (a.nH : Int) = 2 * (hdW l : Int) ∧ a.nH ≤ 1000 by rw [← hp.hr.len]; exact Hoo.out)
  have Hrs := Lib.hid hp.mn.rs
  have Ew2 := Lib.hid ew2
  have Ez := Lib.hid ez
  clear ew2 ez hba hp hnO hof hb1 Hp1
  go_upto_region 2 with (refine wp_store_new 35 (.tmp 8) (.tmp 19) rfl rfl w1 _ _ rfl rfl (by kernel_rfl) rfl (by simp [Value.oneCell']) ?_)
  rw [Ew2.out]
  try rw [Ez.out]
  clear Ew2 Ez
  obtain ⟨u, eu⟩ : ∃ u, tupT p = u := ⟨_, rfl⟩
  have eb : isT p = true := by rw [← Hpk.out]; exact HI0.out
  have Hu := Lib.hid eu
  have HI := Lib.hid eb
  clear eu eb
  go_upto_region 4 with (fail)
  try simp only []
  repeat (first | go_values | go_skip | ((fail_if_success (with_reducible refine wpList_row 35 (.tmp 8) rfl ?_ ?_ ?_ ?_ ?_ ?_ ?_ ?_ ?_ ?_ ?_ ?_)); (first | go_step | go_upon | go_back)))
  refine wpList_row 35 (.tmp 8) rfl ?hww z _ _ _ _ HK2.out rfl Tryz.underlying35 rfl (by kernel_rfl) ?_
  case hww => kernel_rfl
  (try simp only [Act.put, List.setIfInBounds_toArray, List.set_cons_zero, List.set_cons_succ])
  go_wp2_with fail
  refine (tof_any p a w2 u true Hrs.out Hu.out HI.out).mono ?_
  rintro e w3 ⟨rfl, hb3⟩
  obtain ⟨y, ey⟩ : ∃ z, w3.heap.size = z := ⟨_, rfl⟩
  obtain ⟨w4, ew4⟩ : ∃ v, w3.alloc (.cells #[.int .u8 u.pr, .int .u32 u.sr, .int .u32 u.ds, .int .u16 u.sp, .int .u16 u.dp] 37) = v := ⟨_, rfl⟩
  have hba : Below w3.heap.size w3 w4 := by rw [← ew4]; exact (Below.refl _ _).alloc (Nat.le_refl _) _
  have hky : w4.heap[y]? = some (.cells #[.int .u8 u.pr, .int .u32 u.sr, .int .u32 u.ds, .int .u16 u.sp, .int .u16 u.dp] 37 (0, 0)) := by rw [← ew4, ← ey]; exact heap_alloc_new w3 _
  have HK4 := Lib.hid (blk_on HK2.out (below_trans hb3 hba))
  have HZ4 := Lib.hid (blk_on HZ2.out (below_trans hb3 hba))
  have HB4 := Lib.hid (below_trans HB2.out (below_trans hb3 hba))
  have y0 := (row_at0 (C := #[]) hky).1
  have Ew4 := Lib.hid ew4
  have Ey := Lib.hid ey
  clear ew4 ey hba hb3 hky
  go_upto_region 5 with (fail)
  rw [Ew4.out]
  try rw [Ey.out]
  clear Ew4 Ey
  obtain ⟨k0, k1, k2, k3, k4, k5, k6, k7, -⟩ := cells24 HK4.out
  obtain ⟨j0, j1, j2, j3, j4⟩ := row_at0 (C := #[]) HZ4.out
  have hup : u.pr = p.h.pr := by rw [← Hu.out]; exact tup_pr HI.out
  rw [hup] at y0
  have Hup := Lib.hid hup
  clear hup
  have Hh8 := Lib.hid (show false = true → 1 < l.getD 8 0 from fun h => by cases h)
  have h2 : t.pr = p.h.pr := by have := Hno.out; rw [← Hp9.out] at this; omega
  have q2 : (t.pr != p.h.pr) = false := by simpa using h2
  by_cases h1 : p.h.pr = 1
  · have q1 : (p.h.pr == 1) = true := by simpa using h1
    have HE := Lib.hid (show l.getD 9 0 = 1 by rw [← Hp9.out]; exact h1)
    have h3 : t.dp = 0 := by have := Hno.out; omega
    have q4 : (t.dp != 0) = false := by simpa using h3
    clear h1 h2 h3
    have HMw := Lib.hid (rw_may (b := l) (t := t) (hop := false) Hby.out HT.out (fun h => Hh8.out h))
    have hkeys := may_keys Hby.out He0.out HMw.out
    rw [Hlen.out] at hkeys
    have HKy := Lib.hid hkeys
    clear hkeys
    have Hf := Lib.hid (show fldW l = fldP p.h.pr (hdW l) by rw [Hp9.out]; rfl)
    go_wp2_with fail
    refine (bclone_any a0 n c l _ (Nat.le_trans Hn.out (by decide)) (HA.out.below HB4.out)).mono ?_
    rintro e w5 ⟨A5, c5, rfl, hc5, hcm, ho5, hb5⟩
    obtain ⟨g, rfl, hgB, hgl⟩ := ho5.addr (by have := Hl9.out; omega)
    have Hg := Lib.hid (And.intro hgB hgl)
    have HO5 := Lib.hid ho5
    have HB5 := Lib.hid (below_trans HB4.out hb5)
    have HKt := Lib.hid (show ∀ w', But (fun k => k = g) w5 w' → w'.heap[z]? = some (.cells #[.int .u8 p.h.to, .int .u16 p.h.id, .bool p.h.df, .int .u8 p.h.tt, .int .u8 p.h.pr, .int .u32 p.h.sr, .int .u32 p.h.ds, .slice a.AH a.nH a.cH, .int .u16 p.s.sp, .int .u16 p.s.dp, .int .u32 p.s.sq, .int .u32 p.s.ak, .int .u8 p.s.fl, .int .u16 p.s.wn, .int .u16 p.s.ug, .slice a.AO a.nO a.cO, .slice a.AD a.nD a.cD, .int .u16 p.u.sp, .int .u16 p.u.dp, .slice a.AU a.nU a.cU, .int .u8 p.m.ty, .int .u8 p.m.cd, .int .u32 p.m.rs, .slice a.AM a.nM a.cM] 35 (0, 0)) ∧ w'.heap[z0]? = some (.cells #[.int .u8 t.pr, .int .u32 t.sr, .int .u32 t.ds, .int .u16 t.sp, .int .u16 t.dp] 37 (0, 0)) from
      fun w' hb => ⟨hb.blk (blk_on HK4.out hb5) (by have := lt_of_block HK4.out; omega), hb.blk (blk_on HZ4.out hb5) (by have := lt_of_block HZ4.out; omega)⟩)
    have Hn2 := Lib.hid (show w.heap.size ≤ w4.heap.size from HB4.out.size)
    have HBt := Lib.hid (But.refl (fun k => k = g) w5)
    clear hgB hgl ho5 hb5 hc5 hcm k0 k1 k2 k3 k4 k5 k6 k7 j0 j1 j2 j3 j4
    obtain ⟨k0, k1, k2, k3, k4, k5, k6, k7, -⟩ := cells24 (HKt.out _ HBt.out).1
    go_wp2_with fail
    refine (changing_any p.h a.AH a.nH a.cH n c5 g (hdW l) _ Hg.out.2 Hop.out.1 Hop.out.2 (Nat.le_trans Hn.out (by decide)) Hpr.out).mono ?_
    rintro e w6 ⟨pb, pf, rfl, hch, hb6⟩
    have HC := Lib.hid hch
    have HBt := Lib.hid (But.of (S := fun k => k = g) hb6)
    have HO := Lib.hid (HO5.out.on hb6)
    clear hch hb6
    clear k0 k1 k2 k3 k4 k5 k6 k7
    obtain ⟨j0, j1, j2, j3, j4⟩ := row_at0 (C := #[]) (HKt.out _ HBt.out).2
    obtain ⟨s1, es1⟩ : ∃ y, t.sr / 65536 = y := ⟨_, rfl⟩
    obtain ⟨s2, es2⟩ : ∃ y, t.sr % 65536 = y := ⟨_, rfl⟩
    obtain ⟨s3, es3⟩ : ∃ y, t.ds / 65536 = y := ⟨_, rfl⟩
    obtain ⟨s4, es4⟩ : ∃ y, t.ds % 65536 = y := ⟨_, rfl⟩
    obtain ⟨M1, eM1⟩ : ∃ M, chW p.h.pr (hdW l) (fldP p.h.pr (hdW l)) l 6 s1 = M := ⟨_, rfl⟩
    obtain ⟨M2, eM2⟩ : ∃ M, chW p.h.pr (hdW l) (fldP p.h.pr (hdW l)) M1 7 s2 = M := ⟨_, rfl⟩
    obtain ⟨M3, eM3⟩ : ∃ M, chW p.h.pr (hdW l) (fldP p.h.pr (hdW l)) M2 8 s3 = M := ⟨_, rfl⟩
    obtain ⟨M4, eM4⟩ : ∃ M, chW p.h.pr (hdW l) (fldP p.h.pr (hdW l)) M3 9 s4 = M := ⟨_, rfl⟩
    have HS := Lib.hid (show U16 s1 ∧ U16 s2 ∧ U16 s3 ∧ U16 s4 by have := HT.out.sr; have := HT.out.ds; exact ⟨⟨by omega, by omega⟩, ⟨by omega, by omega⟩, ⟨by omega, by omega⟩, ⟨by omega, by omega⟩⟩)
    have HFb := Lib.hid (show 20 ≤ n ∧ 9 < fldP p.h.pr (hdW l) by have := HR.out.lay.h10; have := HR.out.lay.hF; have := HR.out.lay.len; have := HR.out.len; exact ⟨by omega, by omega⟩)
    have HR1 := Lib.hid (show RowW p.h.pr (hdW l) n M1 by rw [← eM1]; exact HR.out.step HS.out.1 (by decide) (by have := HFb.out; omega) (by have := HFb.out; omega))
    have HR2 := Lib.hid (show RowW p.h.pr (hdW l) n M2 by rw [← eM2]; exact HR1.out.step HS.out.2.1 (by decide) (by have := HFb.out; omega) (by have := HFb.out; omega))
    have HR3 := Lib.hid (show RowW p.h.pr (hdW l) n M3 by rw [← eM3]; exact HR2.out.step HS.out.2.2.1 (by decide) (by have := HFb.out; omega) (by have := HFb.out; omega))
    have HR4 := Lib.hid (show RowW p.h.pr (hdW l) n M4 by rw [← eM4]; exact HR3.out.step HS.out.2.2.2 (by decide) (by have := HFb.out; omega) (by have := HFb.out; omega))
    have ES := Lib.hid (show (t.sr / 65536 = s1 ∧ t.sr % 65536 = s2) ∧ t.ds / 65536 = s3 ∧ t.ds % 65536 = s4 from ⟨⟨es1, es2⟩, es3, es4⟩)
    have EM := Lib.hid (show (chW p.h.pr (hdW l) (fldP p.h.pr (hdW l)) l 6 s1 = M1 ∧ chW p.h.pr (hdW l) (fldP p.h.pr (hdW l)) M1 7 s2 = M2) ∧ chW p.h.pr (hdW l) (fldP p.h.pr (hdW l)) M2 8 s3 = M3 ∧ chW p.h.pr (hdW l) (fldP p.h.pr (hdW l)) M3 9 s4 = M4 from ⟨⟨eM1, eM2⟩, eM3, eM4⟩)
    clear es1 es2 es3 es4 eM1 eM2 eM3 eM4
    go_wp2_with fail
    refine (changelong_any w4.heap.size g n c5 pb pf (hdW l) p.h.pr l M1 M2 12 t.sr s1 s2 6 _ HC.out HR.out HO.out rfl (by decide) (by have := HFb.out; omega) HT.out.sr (by decide) (by have := HFb.out; omega) ES.out.1.1 ES.out.1.2 EM.out.1.1 EM.out.1.2).mono ?_
    rintro e w7 ⟨rfl, ho7, hb7⟩
    have HC := Lib.hid (HC.out.but hb7)
    have HO := Lib.hid ho7
    have HBt := Lib.hid (HBt.out.trans hb7)
    clear ho7 hb7 j0 j1 j2 j3 j4
    obtain ⟨j0, j1, j2, j3, j4⟩ := row_at0 (C := #[]) (HKt.out _ HBt.out).2
    go_wp2_with fail
    refine (changelong_any w4.heap.size g n c5 pb pf (hdW l) p.h.pr M2 M3 M4 16 t.ds s3 s4 8 _ HC.out HR2.out HO.out rfl (by decide) (by have := HFb.out; omega) HT.out.ds (by decide) (by have := HFb.out; omega) ES.out.2.1 ES.out.2.2 EM.out.2.1 EM.out.2.2).mono ?_
    rintro e w8 ⟨rfl, ho8, hb8⟩
    have HC := Lib.hid (HC.out.but hb8)
    have HO := Lib.hid ho8
    have HBt := Lib.hid (HBt.out.trans hb8)
    clear ho8 hb8 j0 j1 j2 j3 j4
    obtain ⟨k0, k1, k2, k3, k4, k5, k6, k7, -⟩ := cells24 (HKt.out _ HBt.out).1
    go_wp2_with fail
    refine (header_any p.h a.AH a.nH a.cH _ Hop.out.2).mono ?_
    rintro e w9 ⟨rfl, hb9⟩
    have HC := Lib.hid (HC.out.but (But.of hb9))
    have HO := Lib.hid (HO.out.on hb9)
    have HBt := Lib.hid (HBt.out.trans (But.of (S := fun k => k = g) hb9))
    clear hb9
    clear k0 k1 k2 k3 k4 k5 k6 k7
    have hah : IntKind.i64.wrap (20 + (a.nH : Int)) = 20 + (a.nH : Int) := IntWalk.i64_in _ (by have := Hop.out.2; omega)
    have hah0 : IntKind.i64.wrap (20 + (a.nH : Int) + 0) = 20 + (a.nH : Int) := by rw [Int.add_zero]; exact hah
    have hah2 : IntKind.i64.wrap (20 + (a.nH : Int) + 2) = 20 + (a.nH : Int) + 2 := IntWalk.i64_in _ (by have := Hop.out.2; omega)
    have hah4 : IntKind.i64.wrap (20 + (a.nH : Int) + 4) = 20 + (a.nH : Int) + 4 := IntWalk.i64_in _ (by have := Hop.out.2; omega)
    obtain ⟨j0, j1, j2, j3, j4⟩ := row_at0 (C := #[]) (HKt.out _ HBt.out).2
    have HkE := Lib.hid (HKy.out (hdW l + 2, t.sp) (by unfold rwK portK; rw [if_pos HE.out]; simp))
    obtain ⟨M6, eM6⟩ : ∃ M, chW p.h.pr (hdW l) (fldP p.h.pr (hdW l)) M4 (hdW l + 2) t.sp = M := ⟨_, rfl⟩
    have HR6 := Lib.hid (show RowW p.h.pr (hdW l) n M6 by rw [← eM6]; exact HR4.out.step HkE.out.2.2.2 HkE.out.1 (by rw [← Hf.out]; exact HkE.out.2.1) HkE.out.2.2.1)
    have EM6 := Lib.hid (show (portK l t).foldl (fun b q => chW p.h.pr (hdW l) (fldP p.h.pr (hdW l)) b q.1 q.2) M4 = M6 by unfold portK; rw [if_pos HE.out, ← eM6]; rfl)
    go_wp2_with fail
    refine (chg_told w4.heap.size g n c5 pb pf (hdW l) p.h.pr M4 M6 (20 + (a.nH : Int) + 4) t.sp (hdW l + 2) _ HC.out HR4.out HO.out (by have := Hop.out.1; omega) HkE.out.2.2.1 HkE.out.2.2.2 eM6).mono ?_
    rintro e w10 ⟨rfl, ho10, hb10⟩
    have HC := Lib.hid (HC.out.but hb10)
    have HO := Lib.hid ho10
    have HBt := Lib.hid (HBt.out.trans hb10)
    clear ho10 hb10 j0 j1 j2 j3 j4 eM6
    have HLe := Lib.hid (show M6 = L by
      rw [← HLe0.out, ← EM6.out]
      unfold rwB rwK rwW
      rw [Hf.out, ← Hp9.out, if_neg (by simp), List.append_nil, List.foldl_append]
      simp only [List.foldl_cons, List.foldl_nil]
      rw [ES.out.1.1, ES.out.1.2, ES.out.2.1, ES.out.2.2, EM.out.1.1, EM.out.1.2, EM.out.2.1, EM.out.2.2])
    go_wp2_with fail
    go_ret2
    have hlm : n = m := by rw [← Hm.out, ← HLe.out]; exact HR6.out.len.symm
    refine ⟨some ⟨g, 0, none⟩, c5, ?_, ?_, ?_⟩
    · show Ending.returned (.tuple #[.slice (some ⟨g, 0, none⟩) n c5, .int .i64 0]) = _
      rw [hlm]
    · rw [← hlm, ← HLe.out]; exact HO.out.mono Hn2.out
    · exact HB5.out.trans (HBt.out.below (fun k hk => by subst hk; have := Hg.out; have := Hn2.out; omega) HB5.out.size)
  · have q1 : (p.h.pr == 1) = false := by simpa using h1
    have HE := Lib.hid (show l.getD 9 0 ≠ 1 by rw [← Hp9.out]; exact h1)
    clear h1 h2
    have HMw := Lib.hid (rw_may (b := l) (t := t) (hop := false) Hby.out HT.out (fun h => Hh8.out h))
    have hkeys := may_keys Hby.out He0.out HMw.out
    rw [Hlen.out] at hkeys
    have HKy := Lib.hid hkeys
    clear hkeys
    have Hf := Lib.hid (show fldW l = fldP p.h.pr (hdW l) by rw [Hp9.out]; rfl)
    go_wp2_with fail
    refine (bclone_any a0 n c l _ (Nat.le_trans Hn.out (by decide)) (HA.out.below HB4.out)).mono ?_
    rintro e w5 ⟨A5, c5, rfl, hc5, hcm, ho5, hb5⟩
    obtain ⟨g, rfl, hgB, hgl⟩ := ho5.addr (by have := Hl9.out; omega)
    have Hg := Lib.hid (And.intro hgB hgl)
    have HO5 := Lib.hid ho5
    have HB5 := Lib.hid (below_trans HB4.out hb5)
    have HKt := Lib.hid (show ∀ w', But (fun k => k = g) w5 w' → w'.heap[z]? = some (.cells #[.int .u8 p.h.to, .int .u16 p.h.id, .bool p.h.df, .int .u8 p.h.tt, .int .u8 p.h.pr, .int .u32 p.h.sr, .int .u32 p.h.ds, .slice a.AH a.nH a.cH, .int .u16 p.s.sp, .int .u16 p.s.dp, .int .u32 p.s.sq, .int .u32 p.s.ak, .int .u8 p.s.fl, .int .u16 p.s.wn, .int .u16 p.s.ug, .slice a.AO a.nO a.cO, .slice a.AD a.nD a.cD, .int .u16 p.u.sp, .int .u16 p.u.dp, .slice a.AU a.nU a.cU, .int .u8 p.m.ty, .int .u8 p.m.cd, .int .u32 p.m.rs, .slice a.AM a.nM a.cM] 35 (0, 0)) ∧ w'.heap[z0]? = some (.cells #[.int .u8 t.pr, .int .u32 t.sr, .int .u32 t.ds, .int .u16 t.sp, .int .u16 t.dp] 37 (0, 0)) from
      fun w' hb => ⟨hb.blk (blk_on HK4.out hb5) (by have := lt_of_block HK4.out; omega), hb.blk (blk_on HZ4.out hb5) (by have := lt_of_block HZ4.out; omega)⟩)
    have Hn2 := Lib.hid (show w.heap.size ≤ w4.heap.size from HB4.out.size)
    have HBt := Lib.hid (But.refl (fun k => k = g) w5)
    clear hgB hgl ho5 hb5 hc5 hcm k0 k1 k2 k3 k4 k5 k6 k7 j0 j1 j2 j3 j4
    obtain ⟨k0, k1, k2, k3, k4, k5, k6, k7, -⟩ := cells24 (HKt.out _ HBt.out).1
    go_wp2_with fail
    refine (changing_any p.h a.AH a.nH a.cH n c5 g (hdW l) _ Hg.out.2 Hop.out.1 Hop.out.2 (Nat.le_trans Hn.out (by decide)) Hpr.out).mono ?_
    rintro e w6 ⟨pb, pf, rfl, hch, hb6⟩
    have HC := Lib.hid hch
    have HBt := Lib.hid (But.of (S := fun k => k = g) hb6)
    have HO := Lib.hid (HO5.out.on hb6)
    clear hch hb6
    clear k0 k1 k2 k3 k4 k5 k6 k7
    obtain ⟨j0, j1, j2, j3, j4⟩ := row_at0 (C := #[]) (HKt.out _ HBt.out).2
    obtain ⟨s1, es1⟩ : ∃ y, t.sr / 65536 = y := ⟨_, rfl⟩
    obtain ⟨s2, es2⟩ : ∃ y, t.sr % 65536 = y := ⟨_, rfl⟩
    obtain ⟨s3, es3⟩ : ∃ y, t.ds / 65536 = y := ⟨_, rfl⟩
    obtain ⟨s4, es4⟩ : ∃ y, t.ds % 65536 = y := ⟨_, rfl⟩
    obtain ⟨M1, eM1⟩ : ∃ M, chW p.h.pr (hdW l) (fldP p.h.pr (hdW l)) l 6 s1 = M := ⟨_, rfl⟩
    obtain ⟨M2, eM2⟩ : ∃ M, chW p.h.pr (hdW l) (fldP p.h.pr (hdW l)) M1 7 s2 = M := ⟨_, rfl⟩
    obtain ⟨M3, eM3⟩ : ∃ M, chW p.h.pr (hdW l) (fldP p.h.pr (hdW l)) M2 8 s3 = M := ⟨_, rfl⟩
    obtain ⟨M4, eM4⟩ : ∃ M, chW p.h.pr (hdW l) (fldP p.h.pr (hdW l)) M3 9 s4 = M := ⟨_, rfl⟩
    have HS := Lib.hid (show U16 s1 ∧ U16 s2 ∧ U16 s3 ∧ U16 s4 by have := HT.out.sr; have := HT.out.ds; exact ⟨⟨by omega, by omega⟩, ⟨by omega, by omega⟩, ⟨by omega, by omega⟩, ⟨by omega, by omega⟩⟩)
    have HFb := Lib.hid (show 20 ≤ n ∧ 9 < fldP p.h.pr (hdW l) by have := HR.out.lay.h10; have := HR.out.lay.hF; have := HR.out.lay.len; have := HR.out.len; exact ⟨by omega, by omega⟩)
    have HR1 := Lib.hid (show RowW p.h.pr (hdW l) n M1 by rw [← eM1]; exact HR.out.step HS.out.1 (by decide) (by have := HFb.out; omega) (by have := HFb.out; omega))
    have HR2 := Lib.hid (show RowW p.h.pr (hdW l) n M2 by rw [← eM2]; exact HR1.out.step HS.out.2.1 (by decide) (by have := HFb.out; omega) (by have := HFb.out; omega))
    have HR3 := Lib.hid (show RowW p.h.pr (hdW l) n M3 by rw [← eM3]; exact HR2.out.step HS.out.2.2.1 (by decide) (by have := HFb.out; omega) (by have := HFb.out; omega))
    have HR4 := Lib.hid (show RowW p.h.pr (hdW l) n M4 by rw [← eM4]; exact HR3.out.step HS.out.2.2.2 (by decide) (by have := HFb.out; omega) (by have := HFb.out; omega))
    have ES := Lib.hid (show (t.sr / 65536 = s1 ∧ t.sr % 65536 = s2) ∧ t.ds / 65536 = s3 ∧ t.ds % 65536 = s4 from ⟨⟨es1, es2⟩, es3, es4⟩)
    have EM := Lib.hid (show (chW p.h.pr (hdW l) (fldP p.h.pr (hdW l)) l 6 s1 = M1 ∧ chW p.h.pr (hdW l) (fldP p.h.pr (hdW l)) M1 7 s2 = M2) ∧ chW p.h.pr (hdW l) (fldP p.h.pr (hdW l)) M2 8 s3 = M3 ∧ chW p.h.pr (hdW l) (fldP p.h.pr (hdW l)) M3 9 s4 = M4 from ⟨⟨eM1, eM2⟩, eM3, eM4⟩)
    clear es1 es2 es3 es4 eM1 eM2 eM3 eM4
    go_wp2_with fail
    refine (changelong_any w4.heap.size g n c5 pb pf (hdW l) p.h.pr l M1 M2 12 t.sr s1 s2 6 _ HC.out HR.out HO.out rfl (by decide) (by have := HFb.out; omega) HT.out.sr (by decide) (by have := HFb.out; omega) ES.out.1.1 ES.out.1.2 EM.out.1.1 EM.out.1.2).mono ?_
    rintro e w7 ⟨rfl, ho7, hb7⟩
    have HC := Lib.hid (HC.out.but hb7)
    have HO := Lib.hid ho7
    have HBt := Lib.hid (HBt.out.trans hb7)
    clear ho7 hb7 j0 j1 j2 j3 j4
    obtain ⟨j0, j1, j2, j3, j4⟩ := row_at0 (C := #[]) (HKt.out _ HBt.out).2
    go_wp2_with fail
    refine (changelong_any w4.heap.size g n c5 pb pf (hdW l) p.h.pr M2 M3 M4 16 t.ds s3 s4 8 _ HC.out HR2.out HO.out rfl (by decide) (by have := HFb.out; omega) HT.out.ds (by decide) (by have := HFb.out; omega) ES.out.2.1 ES.out.2.2 EM.out.2.1 EM.out.2.2).mono ?_
    rintro e w8 ⟨rfl, ho8, hb8⟩
    have HC := Lib.hid (HC.out.but hb8)
    have HO := Lib.hid ho8
    have HBt := Lib.hid (HBt.out.trans hb8)
    clear ho8 hb8 j0 j1 j2 j3 j4
    obtain ⟨k0, k1, k2, k3, k4, k5, k6, k7, -⟩ := cells24 (HKt.out _ HBt.out).1
    go_wp2_with fail
    refine (header_any p.h a.AH a.nH a.cH _ Hop.out.2).mono ?_
    rintro e w9 ⟨rfl, hb9⟩
    have HC := Lib.hid (HC.out.but (But.of hb9))
    have HO := Lib.hid (HO.out.on hb9)
    have HBt := Lib.hid (HBt.out.trans (But.of (S := fun k => k = g) hb9))
    clear hb9
    clear k0 k1 k2 k3 k4 k5 k6 k7
    have hah : IntKind.i64.wrap (20 + (a.nH : Int)) = 20 + (a.nH : Int) := IntWalk.i64_in _ (by have := Hop.out.2; omega)
    have hah0 : IntKind.i64.wrap (20 + (a.nH : Int) + 0) = 20 + (a.nH : Int) := by rw [Int.add_zero]; exact hah
    have hah2 : IntKind.i64.wrap (20 + (a.nH : Int) + 2) = 20 + (a.nH : Int) + 2 := IntWalk.i64_in _ (by have := Hop.out.2; omega)
    have hah4 : IntKind.i64.wrap (20 + (a.nH : Int) + 4) = 20 + (a.nH : Int) + 4 := IntWalk.i64_in _ (by have := Hop.out.2; omega)
    obtain ⟨j0, j1, j2, j3, j4⟩ := row_at0 (C := #[]) (HKt.out _ HBt.out).2
    have HkE := Lib.hid (HKy.out (hdW l, t.sp) (by unfold rwK portK; rw [if_neg HE.out]; simp))
    have HkD := Lib.hid (HKy.out (hdW l + 1, t.dp) (by unfold rwK portK; rw [if_neg HE.out]; simp))
    obtain ⟨M5, eM5⟩ : ∃ M, chW p.h.pr (hdW l) (fldP p.h.pr (hdW l)) M4 (hdW l) t.sp = M := ⟨_, rfl⟩
    have HR5 := Lib.hid (show RowW p.h.pr (hdW l) n M5 by rw [← eM5]; exact HR4.out.step HkE.out.2.2.2 HkE.out.1 (by rw [← Hf.out]; exact HkE.out.2.1) HkE.out.2.2.1)
    obtain ⟨M6, eM6⟩ : ∃ M, chW p.h.pr (hdW l) (fldP p.h.pr (hdW l)) M5 (hdW l + 1) t.dp = M := ⟨_, rfl⟩
    have HR6 := Lib.hid (show RowW p.h.pr (hdW l) n M6 by rw [← eM6]; exact HR5.out.step HkD.out.2.2.2 HkD.out.1 (by rw [← Hf.out]; exact HkD.out.2.1) HkD.out.2.2.1)
    have EM6 := Lib.hid (show (portK l t).foldl (fun b q => chW p.h.pr (hdW l) (fldP p.h.pr (hdW l)) b q.1 q.2) M4 = M6 by unfold portK; rw [if_neg HE.out, ← eM6, ← eM5]; rfl)
    go_wp2_with fail
    refine (chg_told w4.heap.size g n c5 pb pf (hdW l) p.h.pr M4 M5 (20 + (a.nH : Int)) t.sp (hdW l) _ HC.out HR4.out HO.out Hop.out.1 HkE.out.2.2.1 HkE.out.2.2.2 eM5).mono ?_
    rintro e w10 ⟨rfl, ho10, hb10⟩
    have HC := Lib.hid (HC.out.but hb10)
    have HO := Lib.hid ho10
    have HBt := Lib.hid (HBt.out.trans hb10)
    clear ho10 hb10 j0 j1 j2 j3 j4 eM5
    obtain ⟨j0, j1, j2, j3, j4⟩ := row_at0 (C := #[]) (HKt.out _ HBt.out).2
    go_wp2_with fail
    refine (chg_told w4.heap.size g n c5 pb pf (hdW l) p.h.pr M5 M6 (20 + (a.nH : Int) + 2) t.dp (hdW l + 1) _ HC.out HR5.out HO.out (by have := Hop.out.1; omega) HkD.out.2.2.1 HkD.out.2.2.2 eM6).mono ?_
    rintro e w11 ⟨rfl, ho11, hb11⟩
    have HC := Lib.hid (HC.out.but hb11)
    have HO := Lib.hid ho11
    have HBt := Lib.hid (HBt.out.trans hb11)
    clear ho11 hb11 j0 j1 j2 j3 j4 eM6
    have HLe := Lib.hid (show M6 = L by
      rw [← HLe0.out, ← EM6.out]
      unfold rwB rwK rwW
      rw [Hf.out, ← Hp9.out, if_neg (by simp), List.append_nil, List.foldl_append]
      simp only [List.foldl_cons, List.foldl_nil]
      rw [ES.out.1.1, ES.out.1.2, ES.out.2.1, ES.out.2.2, EM.out.1.1, EM.out.1.2, EM.out.2.1, EM.out.2.2])
    go_wp2_with fail
    go_ret2
    have hlm : n = m := by rw [← Hm.out, ← HLe.out]; exact HR6.out.len.symm
    refine ⟨some ⟨g, 0, none⟩, c5, ?_, ?_, ?_⟩
    · show Ending.returned (.tuple #[.slice (some ⟨g, 0, none⟩) n c5, .int .i64 0]) = _
      rw [hlm]
    · rw [← hlm, ← HLe.out]; exact HO.out.mono Hn2.out
    · exact HB5.out.trans (HBt.out.below (fun k hk => by subst hk; have := Hg.out; have := Hn2.out; omega) HB5.out.size)
end Go.Proofs.YtoegfgbalcholaaGreat
