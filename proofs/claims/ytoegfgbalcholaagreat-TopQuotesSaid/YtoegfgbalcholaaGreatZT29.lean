/-
  Texts laid together: PkMap, PkPay, PkOff, PkMake.
-/
import Derived.Test.YtoegfgbalcholaaGreatZT28
import Derived.Test.YtoegfgbalcholaaGreatZT27
import Derived.WideMake
import Derived.Deep.RegionHeld3
import Derived.Deep.DeepCutAuto
import Derived.Deep.CutRange
import Derived.Test.YtoegfgbalcholaaGreatZT25
import Derived.Test.YtoegfgbalcholaaGreatZT14
import Derived.Test.YtoegfgbalcholaaGreatZT09
import Derived.Test.YtoegfgbalcholaaGreatZT24
import Derived.Laws.CopyOwn

/-
  Maps of function values by a Proto, as package packet's payloads and readings make them: how the run puts in and looks up; the contract of payloads.
-/
namespace Go.Proofs.YtoegfgbalcholaaGreat
set_option maxRecDepth 10000
open Go.RowKit
set_option linter.unusedSimpArgs false
set_option linter.unusedVariables false

end Go.Proofs.YtoegfgbalcholaaGreat

/-
  Package packet's payloads: a map of closures that tell a Proto's part as bytes; what each tells.
-/
namespace Go.Proofs.YtoegfgbalcholaaGreat
set_option maxRecDepth 10000
open Go.RowKit
set_option linter.unusedSimpArgs false
set_option linter.unusedVariables false

def payF6 (q r b : Nat) : Value := .func (.func 56) #[] #[.pointer (some ⟨q, 0, none⟩), .pointer (some ⟨r, 0, none⟩), .pointer (some ⟨b, 0, none⟩)]
def payF17 (q r b : Nat) : Value := .func (.func 58) #[] #[.pointer (some ⟨q, 0, none⟩), .pointer (some ⟨r, 0, none⟩), .pointer (some ⟨b, 0, none⟩)]
def payF1 (b : Nat) : Value := .func (.func 60) #[] #[.pointer (some ⟨b, 0, none⟩)]
/-- Where payloads' closures find what they took. -/
structure PayAt (p : Pk) (a : PkA) (q r b B : Nat) (w : World) : Prop where
  src : Box w q 23 (.int .u32 p.h.sr)
  dst : Box w r 23 (.int .u32 p.h.ds)
  pkt : w.heap[b]? = some (.cells #[.int .u8 p.h.to, .int .u16 p.h.id, .bool p.h.df, .int .u8 p.h.tt, .int .u8 p.h.pr, .int .u32 p.h.sr, .int .u32 p.h.ds, .slice a.AH a.nH a.cH, .int .u16 p.s.sp, .int .u16 p.s.dp, .int .u32 p.s.sq, .int .u32 p.s.ak, .int .u8 p.s.fl, .int .u16 p.s.wn, .int .u16 p.s.ug, .slice a.AO a.nO a.cO, .slice a.AD a.nD a.cD, .int .u16 p.u.sp, .int .u16 p.u.dp, .slice a.AU a.nU a.cU, .int .u8 p.m.ty, .int .u8 p.m.cd, .int .u32 p.m.rs, .slice a.AM a.nM a.cM] 35 (0, 0))
  at_ : B ≤ q ∧ B ≤ r ∧ B ≤ b
theorem PayAt.on {p : Pk} {a : PkA} {q r b B : Nat} {w w' : World} (h : PayAt p a q r b B w) (hb : Below w.heap.size w w') : PayAt p a q r b B w' :=
  ⟨blk_on h.src hb, blk_on h.dst hb, blk_on h.pkt hb, h.at_⟩
def PayIs (p : Pk) (a : PkA) (w : World) (e : Ending) (w' : World) : Prop :=
  ∃ g q r b, e = .returned (.map (some g)) ∧ w'.heap[g]? = some (threeO (payF6 q r b) (payF17 q r b) (payF1 b)) ∧ PayAt p a q r b w.heap.size w' ∧ Below w.heap.size w w'
theorem box_two (w : World) (v u : Value) (t : TypeId) : Box ((w.alloc (.cells #[v] t)).alloc (.cells #[u] t)).drew w.heap.size t v ∧ Box ((w.alloc (.cells #[v] t)).alloc (.cells #[u] t)).drew (w.heap.size + 1) t u ∧
    Below w.heap.size w ((w.alloc (.cells #[v] t)).alloc (.cells #[u] t)).drew := by
  refine ⟨?_, ?_, Below.drew (((Below.refl _ _).alloc (Nat.le_refl _) _).alloc (by simp) _)⟩
  · exact (Below.heap_alloc _ _ _ (by simp)).trans (heap_alloc_new w _)
  · have := heap_alloc_new (w.alloc (.cells #[v] t)) (.cells #[u] t)
    rw [show (w.alloc (.cells #[v] t)).heap.size = w.heap.size + 1 by simp] at this
    exact this
set_option maxHeartbeats 2000000 in
theorem payloads_any (p : Pk) (a : PkA) (w : World) :
    Calls Tryz.prog 21 #[.agg #[.int .u8 p.h.to, .int .u16 p.h.id, .bool p.h.df, .int .u8 p.h.tt, .int .u8 p.h.pr, .int .u32 p.h.sr, .int .u32 p.h.ds, .slice a.AH a.nH a.cH, .int .u16 p.s.sp, .int .u16 p.s.dp, .int .u32 p.s.sq, .int .u32 p.s.ak, .int .u8 p.s.fl, .int .u16 p.s.wn, .int .u16 p.s.ug, .slice a.AO a.nO a.cO, .slice a.AD a.nD a.cD, .int .u16 p.u.sp, .int .u16 p.u.dp, .slice a.AU a.nU a.cU, .int .u8 p.m.ty, .int .u8 p.m.cd, .int .u32 p.m.rs, .slice a.AM a.nM a.cM]] w (PayIs p a w) := by
  have hmf : ∀ (fn : Fn) (first cap : Array Value) (w : World), (Instr.makeFunc fn first cap).run Tryz.prog w = .ok (.func fn first cap) w := fun _ _ _ _ => rfl
  obtain ⟨z, hz⟩ : ∃ z, w.heap.size = z := ⟨_, rfl⟩
  obtain ⟨w0, ew⟩ : ∃ w0, w.alloc (.cells #[.int .u8 p.h.to, .int .u16 p.h.id, .bool p.h.df, .int .u8 p.h.tt, .int .u8 p.h.pr, .int .u32 p.h.sr, .int .u32 p.h.ds, .slice a.AH a.nH a.cH, .int .u16 p.s.sp, .int .u16 p.s.dp, .int .u32 p.s.sq, .int .u32 p.s.ak, .int .u8 p.s.fl, .int .u16 p.s.wn, .int .u16 p.s.ug, .slice a.AO a.nO a.cO, .slice a.AD a.nD a.cD, .int .u16 p.u.sp, .int .u16 p.u.dp, .slice a.AU a.nU a.cU, .int .u8 p.m.ty, .int .u8 p.m.cd, .int .u32 p.m.rs, .slice a.AM a.nM a.cM] 35) = w0 := ⟨_, rfl⟩
  have hb0 : Below w.heap.size w w0 := by rw [← ew]; exact (Below.refl _ _).alloc (Nat.le_refl _) _
  have hk0 : w0.heap[z]? = some (.cells #[.int .u8 p.h.to, .int .u16 p.h.id, .bool p.h.df, .int .u8 p.h.tt, .int .u8 p.h.pr, .int .u32 p.h.sr, .int .u32 p.h.ds, .slice a.AH a.nH a.cH, .int .u16 p.s.sp, .int .u16 p.s.dp, .int .u32 p.s.sq, .int .u32 p.s.ak, .int .u8 p.s.fl, .int .u16 p.s.wn, .int .u16 p.s.ug, .slice a.AO a.nO a.cO, .slice a.AD a.nD a.cD, .int .u16 p.u.sp, .int .u16 p.u.dp, .slice a.AU a.nU a.cU, .int .u8 p.m.ty, .int .u8 p.m.cd, .int .u32 p.m.rs, .slice a.AM a.nM a.cM] 35 (0, 0)) := by rw [← ew, ← hz]; exact heap_alloc_new w _
  have Hb0 := Lib.hid hb0
  have Ew := Lib.hid ew
  have Hz := Lib.hid hz
  have HK0 := Lib.hid hk0
  clear hz ew hb0 hk0
  go_enter Tryz.func21, Tryz.ntmps21
  go_upto_region 1 with (fail)
  rw [Ew.out]
  try rw [Hz.out]
  go_cut [3, 4] (fun s3 s4 wx => ∃ (q r : Nat), s3 = .pointer (some ⟨q, 0, none⟩) ∧ s4 = .pointer (some ⟨r, 0, none⟩) ∧ Hid (PayAt p a q r z w.heap.size wx) ∧ Hid (Below w.heap.size w wx))
  case first =>
    obtain ⟨k0, k1, k2, k3, k4, k5, k6, k7, k8, k9, k10, k11, k12, k13, k14, k15, k16, k17, k18, k19, k20, k21, k22, k23⟩ := cells24 HK0.out
    have HS := Lib.hid (show ∀ w', Below w0.heap.size w0 w' → w'.cell? ⟨z, 5, none⟩ = some (.int .u32 p.h.sr) ∧ w'.cell? ⟨z, 6, none⟩ = some (.int .u32 p.h.ds) from
      fun w' hb => ⟨by rw [blk_cell (blk_on HK0.out hb)]; rfl, by rw [blk_cell (blk_on HK0.out hb)]; rfl⟩)
    clear k0 k1 k2 k3 k4 k5 k6 k7 k8 k9 k10 k11 k12 k13 k14 k15 k16 k17 k18 k19 k20 k21 k22 k23
    go_region_held3 (fun w' => w'.cell? ⟨z, 5, none⟩ = some (.int .u32 p.h.sr) ∧ w'.cell? ⟨z, 6, none⟩ = some (.int .u32 p.h.ds)) (exact HS.out _ (by repeat (first | exact Below.refl _ _ | refine Below.drew ?_ | (refine Below.alloc ?_ (by simp) _) | (refine Below.setCell ?_ (by simp) _)))) (fail)
    · go_wp2_with fail
      obtain ⟨h1, h2, h3⟩ := box_two w0 (.int .u32 p.h.sr) (.int .u32 p.h.ds) 23
      have hs := below_trans Hb0.out h3
      have hsz := Hb0.out.size
      have hz := Hz.out
      go_meet
      exact ⟨_, _, rfl, rfl, Lib.hid ⟨h1, h2, blk_on HK0.out h3, ⟨by omega, by omega, by omega⟩⟩, Lib.hid hs⟩
    · go_wp2_with fail
      obtain ⟨h1, h2, h3⟩ := box_two w0 (.int .u32 p.h.ds) (.int .u32 p.h.sr) 23
      have hs := below_trans Hb0.out h3
      have hsz := Hb0.out.size
      have hz := Hz.out
      go_meet
      exact ⟨_, _, rfl, rfl, Lib.hid ⟨h2, h1, blk_on HK0.out h3, ⟨by omega, by omega, by omega⟩⟩, Lib.hid hs⟩
  case rest =>
    obtain ⟨q, r, rfl, rfl, HP, HB⟩ := hcut
    clear HK0 Hb0 Ew
    obtain ⟨w2, e2⟩ : ∃ v, wc.alloc (.map #[] 0) = v := ⟨_, rfl⟩
    have k2 : w2.heap[wc.heap.size]? = some (.map #[] 0) := by rw [← e2]; exact heap_alloc_new wc _
    have b2 : Below wc.heap.size wc w2 := by rw [← e2]; exact (Below.refl _ _).alloc (Nat.le_refl _) _
    obtain ⟨w3, w4, w5, r1, r2, r3, hg, hb⟩ := runs_payload (payF6 q r z) (payF17 q r z) (payF1 z) b2 (Nat.le_refl _) k2
    have hmk := run_makeMap_plain (P := Tryz.prog) wc 71
    rw [e2] at hmk
    have Hg := Lib.hid hg
    have Hb := Lib.hid hb
    clear k2 b2 hg hb e2
    unfold payF6 at r1
    unfold payF17 at r2
    unfold payF1 at r3
    go_wp2_with fail
    go_ret
    exact ⟨_, q, r, z, rfl, Hg.out, HP.out.on Hb.out, HB.out.trans (Hb.out.mono HB.out.size)⟩

set_option maxHeartbeats 2000000 in
theorem pay_6 (p : Pk) (a : PkA) (q r b B : Nat) (w : World) (L : List Int) (m : Nat) (x : Int) (hp : PkRd w p a) (hn : a.nO ≤ 140737488355328) (hnD : a.nD ≤ 140737488355328) (h : PayAt p a q r b B w) (hx : errS p.s = x) (hL : toldB p.h.sr p.h.ds p.s = L) (hlm : L.length = m) :
    Calls Tryz.prog 56 #[.pointer (some ⟨q, 0, none⟩), .pointer (some ⟨r, 0, none⟩), .pointer (some ⟨b, 0, none⟩)] w (PutGot L m x w) := by
  have HC := Lib.hid (put6_got p.h.sr p.h.ds p.s a.AO a.nO a.cO a.os a.AD a.nD a.cD w L m x (by omega) hnD hp.sr hx hL hlm)
  have H1 := Lib.hid h.pkt
  have c1 := h.src.cell
  have c2 := h.dst.cell
  clear hp hx hL h
  obtain ⟨k0, k1, k2, k3, k4, k5, k6, k7, k8, k9, k10, k11, k12, k13, k14, k15, k16, k17, k18, k19, k20, k21, k22, k23⟩ := cells24 H1.out
  go_enter Tryz.func56, Tryz.ntmps56
  go_wp2_with fail
  refine HC.out.mono ?_
  rintro e w2 ⟨A2, c2, rfl, hc2, hr2, hb2⟩
  have HR := Lib.hid hr2
  have HC2 := Lib.hid hc2
  have HB := Lib.hid hb2
  clear hr2 hc2 hb2
  clear k0 k1 k2 k3 k4 k5 k6 k7 k8 k9 k10 k11 k12 k13 k14 k15 k16 k17 k18 k19 k20 k21 k22 k23
  clear c1 
  go_wp2_with fail
  go_ret2
  exact ⟨A2, c2, rfl, HC2.out, HR.out, HB.out⟩
set_option maxHeartbeats 2000000 in
theorem pay_17 (p : Pk) (a : PkA) (q r b B : Nat) (w : World) (L : List Int) (m : Nat) (x : Int) (hp : PkRd w p a) (hn : a.nO ≤ 140737488355328) (hnD : a.nD ≤ 140737488355328) (h : PayAt p a q r b B w) (hx : errUP p.u = x) (hL : toldU p.h.sr p.h.ds p.u = L) (hlm : L.length = m) :
    Calls Tryz.prog 58 #[.pointer (some ⟨q, 0, none⟩), .pointer (some ⟨r, 0, none⟩), .pointer (some ⟨b, 0, none⟩)] w (PutGot L m x w) := by
  have HC := Lib.hid (put7_got p.h.sr p.h.ds p.u a.AU a.nU a.cU w L m x hp.un hp.uc hp.ur hx hL hlm)
  have H1 := Lib.hid h.pkt
  have c1 := h.src.cell
  have c2 := h.dst.cell
  clear hp hx hL h
  obtain ⟨k0, k1, k2, k3, k4, k5, k6, k7, k8, k9, k10, k11, k12, k13, k14, k15, k16, k17, k18, k19, k20, k21, k22, k23⟩ := cells24 H1.out
  go_enter Tryz.func58, Tryz.ntmps58
  go_wp2_with fail
  refine HC.out.mono ?_
  rintro e w2 ⟨A2, c2, rfl, hc2, hr2, hb2⟩
  have HR := Lib.hid hr2
  have HC2 := Lib.hid hc2
  have HB := Lib.hid hb2
  clear hr2 hc2 hb2
  clear k0 k1 k2 k3 k4 k5 k6 k7 k8 k9 k10 k11 k12 k13 k14 k15 k16 k17 k18 k19 k20 k21 k22 k23
  clear c1 
  go_wp2_with fail
  go_ret2
  exact ⟨A2, c2, rfl, HC2.out, HR.out, HB.out⟩
set_option maxHeartbeats 2000000 in
theorem pay_1 (p : Pk) (a : PkA) (q r b B : Nat) (w : World) (L : List Int) (m : Nat) (x : Int) (hp : PkRd w p a) (hn : a.nO ≤ 140737488355328) (hnD : a.nD ≤ 140737488355328) (h : PayAt p a q r b B w) (hx : errP p.m = x) (hL : toldM p.m = L) (hlm : L.length = m) :
    Calls Tryz.prog 60 #[.pointer (some ⟨b, 0, none⟩)] w (PutGot L m x w) := by
  have HC := Lib.hid (put8_got p.m a.AM a.nM a.cM w L m x hp.mn hp.mc hp.mr hx hL hlm)
  have H1 := Lib.hid h.pkt
  have c1 := h.src.cell
  have c2 := h.dst.cell
  clear hp hx hL h
  obtain ⟨k0, k1, k2, k3, k4, k5, k6, k7, k8, k9, k10, k11, k12, k13, k14, k15, k16, k17, k18, k19, k20, k21, k22, k23⟩ := cells24 H1.out
  go_enter Tryz.func60, Tryz.ntmps60
  go_wp2_with fail
  refine HC.out.mono ?_
  rintro e w2 ⟨A2, c2, rfl, hc2, hr2, hb2⟩
  have HR := Lib.hid hr2
  have HC2 := Lib.hid hc2
  have HB := Lib.hid hb2
  clear hr2 hc2 hb2
  clear k0 k1 k2 k3 k4 k5 k6 k7 k8 k9 k10 k11 k12 k13 k14 k15 k16 k17 k18 k19 k20 k21 k22 k23
  clear c1 
  go_wp2_with fail
  go_ret2
  exact ⟨A2, c2, rfl, HC2.out, HR.out, HB.out⟩
end Go.Proofs.YtoegfgbalcholaaGreat

/-
  Where a packet's rows do not lie: so that a store into a box leaves the packet as it reads. No function of the program.
-/
namespace Go.Proofs.YtoegfgbalcholaaGreat
set_option maxRecDepth 10000
open Go.RowKit

/-- A row of some bytes lies in no block of S. -/
def offR (S : Nat → Prop) (A : Option Addr) (n : Nat) : Prop := ∀ g o, A = some ⟨g, o, none⟩ → 0 < n → ¬ S g
theorem offR.zero (S : Nat → Prop) (A : Option Addr) : offR S A 0 := fun _ _ _ h => absurd h (by omega)
theorem offR.sub {S S' : Nat → Prop} {A : Option Addr} {n : Nat} (h : offR S A n) (hS : ∀ g, S' g → S g) : offR S' A n := fun g o e hn hs => h g o e hn (hS g hs)
theorem offR.cut {S : Nat → Prop} {A : Option Addr} {n m : Nat} (h : offR S A n) (hm : m ≤ n) : offR S A m := fun g o e hn => h g o e (by omega)
theorem OwnB.off {w : World} {B : Nat} {A : Option Addr} {n c : Nat} {l : List Int} (h : OwnB w B A n c l) : offR (fun g => g < B) A n := fun g o e hn hs => by
  subst e
  have := (World.ownsRow.lt h g rfl).1
  omega
theorem OwnO.off {w : World} {B : Nat} {A : Option Addr} {n c : Nat} {os : List OptV} (h : OwnO w B A n c os) : offR (fun g => g < B) A n := fun g o e hn hs => by
  subst e
  have := (World.ownsRow.lt h g rfl).1
  omega
theorem OwnL.off {w : World} {B : Nat} : ∀ {os : List OptV} {ls : List (Int × List Int)}, OwnL w B os ls → ∀ v ∈ os, offR (fun g => g < B) v.A v.n
  | [], _, _, v, hv => by cases hv
  | o :: os, l :: ls, h, v, hv => by
    rcases List.mem_cons.1 hv with rfl | hv
    · exact h.1.2.2.2.off
    · exact OwnL.off h.2 v hv
structure PkA.Off (a : PkA) (S : Nat → Prop) : Prop where
  h : offR S a.AH a.nH
  o : offR S a.AO a.nO
  os : ∀ v ∈ a.os, offR S v.A v.n
  d : offR S a.AD a.nD
  u : offR S a.AU a.nU
  m : offR S a.AM a.nM
theorem PkA.Off.sub {a : PkA} {S S' : Nat → Prop} (h : a.Off S) (hS : ∀ g, S' g → S g) : a.Off S' :=
  ⟨h.h.sub hS, h.o.sub hS, fun v hv => (h.os v hv).sub hS, h.d.sub hS, h.u.sub hS, h.m.sub hS⟩
theorem Rd.off {w : World} {A : Option Addr} {n : Nat} {l : List Int} (h : Rd w A n l) : offR (fun g => w.heap.size ≤ g) A n := fun g o e hn hs => by
  obtain ⟨b, o', e', hlt, _⟩ := h.at_ hn
  rw [e] at e'
  cases e'
  omega
theorem RdO.off {w : World} {A : Option Addr} {n : Nat} {os : List OptV} (h : RdO w A n os) : offR (fun g => w.heap.size ≤ g) A n := fun g o e hn hs => by
  obtain ⟨b, o', e', hlt, _⟩ := h.at_ hn
  rw [e] at e'
  cases e'
  omega
theorem Reads.off {w : World} : ∀ {os : List OptV} {ls : List (Int × List Int)}, Reads w os ls → ∀ v ∈ os, offR (fun g => w.heap.size ≤ g) v.A v.n
  | [], _, _, v, hv => by cases hv
  | o :: os, l :: ls, h, v, hv => by
    rcases List.mem_cons.1 hv with rfl | hv
    · exact h.1.2.2.2.2.off
    · exact Reads.off h.2 v hv
/-- What reads lies in memory that is there. -/
theorem PkRd.off {w : World} {p : Pk} {a : PkA} (h : PkRd w p a) : a.Off (fun g => w.heap.size ≤ g) := ⟨h.hr.off, h.sr.o.off, h.sr.os.off, h.sr.d.off, h.ur.off, h.mr.off⟩
theorem Rd.offBut {S : Nat → Prop} {w w' : World} {A : Option Addr} {n : Nat} {l : List Int} (h : Rd w A n l) (hb : But S w w') (ho : offR S A n) : Rd w' A n l := h.but hb ho
theorem RdO.offBut {S : Nat → Prop} {w w' : World} {A : Option Addr} {n : Nat} {os : List OptV} (h : RdO w A n os) (hb : But S w w') (ho : offR S A n) : RdO w' A n os :=
  ⟨h.len, fun h0 => by
    obtain ⟨g, o, e, hlt, hc⟩ := h.at_ h0
    exact ⟨g, o, e, hb.lt hlt, fun i hi => ⟨by rw [hb.cell (p := ⟨g, o + i * 2, none⟩) hlt (ho g o e h0)]; exact (hc i hi).1, by rw [hb.cell (p := ⟨g, o + (i * 2 + 1), none⟩) hlt (ho g o e h0)]; exact (hc i hi).2⟩⟩⟩
theorem Reads.offBut {S : Nat → Prop} {w w' : World} {os : List OptV} {ls : List (Int × List Int)} (h : Reads w os ls) (hb : But S w w') (ho : ∀ v ∈ os, offR S v.A v.n) : Reads w' os ls :=
  h.but hb (fun o hm b off e hn => ho o hm b off e hn)
theorem PkRd.but {S : Nat → Prop} {w w' : World} {p : Pk} {a : PkA} (h : PkRd w p a) (hb : But S w w') (ho : a.Off S) : PkRd w' p a :=
  ⟨h.hn, h.hc, h.hr.offBut hb ho.h, ⟨h.sr.num, h.sr.oc, h.sr.dc, h.sr.o.offBut hb ho.o, h.sr.os.offBut hb ho.os, h.sr.d.offBut hb ho.d⟩, h.un, h.uc, h.ur.offBut hb ho.u, h.mn, h.mc, h.mr.offBut hb ho.m⟩
end Go.Proofs.YtoegfgbalcholaaGreat

/-
  Package packet's Tcp and Icmp: packets of our own, made of a segment or a message, with rows of their own.
-/
namespace Go.Proofs.YtoegfgbalcholaaGreat
set_option maxRecDepth 10000
open Go.RowKit
set_option linter.unusedSimpArgs false
set_option linter.unusedVariables false

theorem ownB_butA {S : Nat → Prop} {w w' : World} {B : Nat} {A : Option Addr} {n c : Nat} {l : List Int} (h : OwnB w B A n c l) (hb : But S w w') (hS : ∀ k, A = some ⟨k, 0, none⟩ → ¬ S k) : OwnB w' B A n c l := by
  refine ⟨h.1, ?_⟩
  rcases h.2 with h0 | ⟨g, cap, cur, e, hB, hc, hrest⟩
  · exact .inl h0
  · exact .inr ⟨g, cap, cur, e, hB, hb.blk hc (hS g (by injection e)), hrest⟩
/-- Where Tcp's loop stands: the first j options' bytes are copied. -/
structure TcpAt (w wr : World) (z k c2 j : Nat) (A2 : Option Addr) (os cl : List OptV) (ls : List (Int × List Int)) (C Z : Array Value) : Prop where
  own : OwnO wr (z + 2) A2 k c2 (cl ++ os.drop j)
  cln : OwnL wr (z + 2) cl (ls.take j)
  len : cl.length = j
  blk : wr.heap[z]? = some (.cells C 29 (0, 0))
  zero : wr.heap[z + 1]? = some (.cells Z 35 (0, 0))
  below : Below w.heap.size w wr
  size : z + 2 ≤ wr.heap.size
theorem TcpAt.on {w wr w' : World} {z k c2 j : Nat} {A2 : Option Addr} {os cl : List OptV} {ls : List (Int × List Int)} {C Z : Array Value} (h : TcpAt w wr z k c2 j A2 os cl ls C Z) (hz : w.heap.size = z) (hb : Below wr.heap.size wr w') : TcpAt w w' z k c2 j A2 os cl ls C Z :=
  ⟨h.own.on hb, h.cln.on hb, h.len, blk_on h.blk hb, blk_on h.zero hb, h.below.trans (hb.mono (by have := h.size; omega)), by have := h.size; have := hb.size; omega⟩
theorem tail_get (cl os : List OptV) (j : Nat) (hl : cl.length = j) : (cl ++ os.drop j).getD j .none = os.getD j .none := by
  simp [List.getD, List.getElem?_append, hl]
theorem tail_set (cl os : List OptV) (j : Nat) (hl : cl.length = j) (h : j < os.length) (v : OptV) : (cl ++ os.drop j).set j v = (cl ++ [v]) ++ os.drop (j + 1) := by
  rw [List.set_append_right _ _ (by omega), hl, Nat.sub_self, List.drop_eq_getElem_cons h, List.set_cons_zero, List.append_assoc]
  rfl
theorem take_snoc_opt (ls : List (Int × List Int)) (j : Nat) (h : j < ls.length) : ls.take (j + 1) = ls.take j ++ [ls.getD j (0, [])] := by
  rw [List.take_succ_eq_append_getElem h]; simp [List.getD, List.getElem?_eq_getElem h]
theorem TcpAt.step {w w4 : World} {z k c2 j g n5 c5 B5 : Nat} {os cl : List OptV} {ls : List (Int × List Int)} {C Z : Array Value} {A5 : Option Addr} {kd : Int} {l : List Int} (h : TcpAt w w4 z k c2 j (some ⟨g, 0, none⟩) os cl ls C Z) (hz : w.heap.size = z) (hg : z + 2 ≤ g) (hk : os.length = k) (hkl : ls.length = k) (hj : j < k)
    (ho : (os.getD j .none).kind = kd) (hl : ls.getD j (0, []) = (kd, l)) (hkb : 0 ≤ kd ∧ kd < 256) (hlb : ∀ x ∈ l, 0 ≤ x ∧ x < 256) (h5 : OwnB w4 B5 A5 n5 c5 l) (hB : z + 2 ≤ B5) :
    TcpAt w (w4.setCell ⟨g, j * 2 + 1, none⟩ (.slice A5 n5 c5)) z k c2 (j + 1) (some ⟨g, 0, none⟩) os (cl ++ [⟨kd, A5, n5, c5⟩]) ls C Z := by
  have h2 := h.own.set_ j hj A5 n5 c5
  rw [tail_get cl os j h.len, tail_set cl os j h.len (by omega), ho] at h2
  have hbut : But (fun k => k = g) w4 (w4.setCell ⟨g, j * 2 + 1, none⟩ (.slice A5 n5 c5)) := (But.refl (fun k => k = g) w4).setCell (p := ⟨g, j * 2 + 1, none⟩) rfl _
  have hap : ∀ (n c : Nat) (l : List Int) (B k : Nat), OwnB w4 B (some ⟨k, 0, none⟩) n c l → ¬ k = g := fun n c l B k hh e => own_apart hh h.own ⟨⟨g, 0, none⟩, rfl, e.symm⟩
  refine ⟨h2, ?_, by simp [h.len], (Below.heap_setCell _ ⟨g, j * 2 + 1, none⟩ _ z (show z ≠ g by omega)).trans h.blk, (Below.heap_setCell _ ⟨g, j * 2 + 1, none⟩ _ (z + 1) (show z + 1 ≠ g by omega)).trans h.zero, h.below.setCell (p := ⟨g, j * 2 + 1, none⟩) (show w.heap.size ≤ g by omega) _, by simpa [World.setCell] using h.size⟩
  rw [take_snoc_opt ls j (by omega), hl]
  refine (h.cln.but hbut (fun n c l k hh => hap n c l _ k hh)).snoc ⟨⟨rfl, hkb, hlb, ?_⟩, trivial⟩
  exact ownB_butA (h5.mono hB) hbut (fun k hh => hap n5 c5 l B5 k (hh ▸ h5))
theorem late_free {w : World} {z : Nat} {C : Array Value} {t : TypeId} (h : w.heap[z]? = some (.cells C t (0, 0))) (k : Nat) : w.frozen? ⟨z, k, none⟩ = false := by simp [World.frozen?, h]
end Go.Proofs.YtoegfgbalcholaaGreat
