/-
  Texts laid together: PkPay, PkOff.
-/
import Derived.Test.YtkooehejdfaekaaZK22
import Derived.Test.YtkooehejdfaekaaZK20
import Derived.Test.YtkooehejdfaekaaZK11

/-
  Package packet's payloads: a map of closures that tell a Proto's part as bytes; what each tells.
-/
namespace Go.Proofs.Ytkooehejdfaekaa
set_option maxRecDepth 10000
open Go.RowKit
set_option linter.unusedSimpArgs false
set_option linter.unusedVariables false

def payF6 (q r b : Nat) : Value := .func (.func 31) #[] #[.pointer (some ⟨q, 0, none⟩), .pointer (some ⟨r, 0, none⟩), .pointer (some ⟨b, 0, none⟩)]
def payF17 (q r b : Nat) : Value := .func (.func 33) #[] #[.pointer (some ⟨q, 0, none⟩), .pointer (some ⟨r, 0, none⟩), .pointer (some ⟨b, 0, none⟩)]
def payF1 (b : Nat) : Value := .func (.func 35) #[] #[.pointer (some ⟨b, 0, none⟩)]
/-- Where payloads' closures find what they took. -/
structure PayAt (p : Pk) (a : PkA) (q r b B : Nat) (w : World) : Prop where
  src : Box w q 23 (.int .u32 p.h.sr)
  dst : Box w r 23 (.int .u32 p.h.ds)
  pkt : w.heap[b]? = some (.cells #[.int .u8 p.h.to, .int .u16 p.h.id, .bool p.h.df, .int .u8 p.h.tt, .int .u8 p.h.pr, .int .u32 p.h.sr, .int .u32 p.h.ds, .slice a.AH a.nH a.cH, .int .u16 p.s.sp, .int .u16 p.s.dp, .int .u32 p.s.sq, .int .u32 p.s.ak, .int .u8 p.s.fl, .int .u16 p.s.wn, .int .u16 p.s.ug, .slice a.AO a.nO a.cO, .slice a.AD a.nD a.cD, .int .u16 p.u.sp, .int .u16 p.u.dp, .slice a.AU a.nU a.cU, .int .u8 p.m.ty, .int .u8 p.m.cd, .int .u32 p.m.rs, .slice a.AM a.nM a.cM] 35 (0, 0))
  at_ : B ≤ q ∧ B ≤ r ∧ B ≤ b
theorem PayAt.on {p : Pk} {a : PkA} {q r b B : Nat} {w w' : World} (h : PayAt p a q r b B w) (hb : Below w.heap.size w w') : PayAt p a q r b B w' :=
  ⟨blk_on h.src hb, blk_on h.dst hb, blk_on h.pkt hb, h.at_⟩
def PayIs (p : Pk) (a : PkA) (w : World) (e : Ending) (w' : World) : Prop :=
  ∃ g q r b, e = .returned (.map (some g)) ∧ w'.heap[g]? = some (threeO (payF6 q r b) (payF17 q r b) (payF1 b)) ∧ PayAt p a q r b w.heap.size w' ∧ Below w.heap.size w w'
theorem box_two (w : World) (v u : Value) (t : TypeId) : Box ((w.alloc (.cells #[v] t)).alloc (.cells #[u] t)).drew w.heap.size t v ∧ Box ((w.alloc (.cells #[v] t)).alloc (.cells #[u] t)).drew (w.heap.size + 1) t u ∧
    Below w.heap.size w ((w.alloc (.cells #[v] t)).alloc (.cells #[u] t)).drew := by
  refine ⟨?_, ?_, Below.drew (((Below.refl _ _).alloc (Nat.le_refl _) _).alloc (by simp) _)⟩
  · exact (Below.heap_alloc _ _ _ (by simp)).trans (heap_alloc_new w _)
  · have := heap_alloc_new (w.alloc (.cells #[v] t)) (.cells #[u] t)
    rw [show (w.alloc (.cells #[v] t)).heap.size = w.heap.size + 1 by simp] at this
    exact this
set_option maxHeartbeats 2000000 in
theorem payloads_any (p : Pk) (a : PkA) (w : World) :
    Calls Try.prog 15 #[.agg #[.int .u8 p.h.to, .int .u16 p.h.id, .bool p.h.df, .int .u8 p.h.tt, .int .u8 p.h.pr, .int .u32 p.h.sr, .int .u32 p.h.ds, .slice a.AH a.nH a.cH, .int .u16 p.s.sp, .int .u16 p.s.dp, .int .u32 p.s.sq, .int .u32 p.s.ak, .int .u8 p.s.fl, .int .u16 p.s.wn, .int .u16 p.s.ug, .slice a.AO a.nO a.cO, .slice a.AD a.nD a.cD, .int .u16 p.u.sp, .int .u16 p.u.dp, .slice a.AU a.nU a.cU, .int .u8 p.m.ty, .int .u8 p.m.cd, .int .u32 p.m.rs, .slice a.AM a.nM a.cM]] w (PayIs p a w) := by
  have hmf : ∀ (fn : Fn) (first cap : Array Value) (w : World), (Instr.makeFunc fn first cap).run Try.prog w = .ok (.func fn first cap) w := fun _ _ _ _ => rfl
  obtain ⟨z, hz⟩ : ∃ z, w.heap.size = z := ⟨_, rfl⟩
  obtain ⟨w0, ew⟩ : ∃ w0, w.alloc (.cells #[.int .u8 p.h.to, .int .u16 p.h.id, .bool p.h.df, .int .u8 p.h.tt, .int .u8 p.h.pr, .int .u32 p.h.sr, .int .u32 p.h.ds, .slice a.AH a.nH a.cH, .int .u16 p.s.sp, .int .u16 p.s.dp, .int .u32 p.s.sq, .int .u32 p.s.ak, .int .u8 p.s.fl, .int .u16 p.s.wn, .int .u16 p.s.ug, .slice a.AO a.nO a.cO, .slice a.AD a.nD a.cD, .int .u16 p.u.sp, .int .u16 p.u.dp, .slice a.AU a.nU a.cU, .int .u8 p.m.ty, .int .u8 p.m.cd, .int .u32 p.m.rs, .slice a.AM a.nM a.cM] 35) = w0 := ⟨_, rfl⟩
  have hb0 : Below w.heap.size w w0 := by rw [← ew]; exact (Below.refl _ _).alloc (Nat.le_refl _) _
  have hk0 : w0.heap[z]? = some (.cells #[.int .u8 p.h.to, .int .u16 p.h.id, .bool p.h.df, .int .u8 p.h.tt, .int .u8 p.h.pr, .int .u32 p.h.sr, .int .u32 p.h.ds, .slice a.AH a.nH a.cH, .int .u16 p.s.sp, .int .u16 p.s.dp, .int .u32 p.s.sq, .int .u32 p.s.ak, .int .u8 p.s.fl, .int .u16 p.s.wn, .int .u16 p.s.ug, .slice a.AO a.nO a.cO, .slice a.AD a.nD a.cD, .int .u16 p.u.sp, .int .u16 p.u.dp, .slice a.AU a.nU a.cU, .int .u8 p.m.ty, .int .u8 p.m.cd, .int .u32 p.m.rs, .slice a.AM a.nM a.cM] 35 (0, 0)) := by rw [← ew, ← hz]; exact heap_alloc_new w _
  have Hb0 := Lib.hid hb0
  have Ew := Lib.hid ew
  have Hz := Lib.hid hz
  have HK0 := Lib.hid hk0
  clear hz ew hb0 hk0
  go_enter Try.func15, Try.ntmps15
  go_upto_region 1 with (fail)
  rw [Ew.out]
  try rw [Hz.out]
  go_cut [3, 4] (fun s3 s4 wx => ∃ (q r : Nat), s3 = .pointer (some ⟨q, 0, none⟩) ∧ s4 = .pointer (some ⟨r, 0, none⟩) ∧ Hid (PayAt p a q r z w.heap.size wx) ∧ Hid (Below w.heap.size w wx))
  case first =>
    obtain ⟨k0, k1, k2, k3, k4, k5, k6, k7, k8, k9, k10, k11, k12, k13, k14, k15, k16, k17, k18, k19, k20, k21, k22, k23⟩ := cells24 HK0.out
    have HS := Lib.hid (show ∀ w', Below w0.heap.size w0 w' → w'.cell? ⟨z, 5, none⟩ = some (.int .u32 p.h.sr) ∧ w'.cell? ⟨z, 6, none⟩ = some (.int .u32 p.h.ds) from
      fun w' hb => ⟨by rw [blk_cell (blk_on HK0.out hb)]; rfl, by rw [blk_cell (blk_on HK0.out hb)]; rfl⟩)
    clear k0 k1 k2 k3 k4 k5 k6 k7 k8 k9 k10 k11 k12 k13 k14 k15 k16 k17 k18 k19 k20 k21 k22 k23
    go_region_held3 (fun w' => w'.cell? ⟨z, 5, none⟩ = some (.int .u32 p.h.sr) ∧ w'.cell? ⟨z, 6, none⟩ = some (.int .u32 p.h.ds)) (exact HS.out _ (by repeat (first | exact Below.refl _ _ | refine Below.drew ?_ | (refine Below.alloc ?_ (by simp) _) | (refine Below.setCell ?_ (by simp) _)))) (fail)
    · go_wp2_with fail
      obtain ⟨h1, h2, h3⟩ := box_two w0 (.int .u32 p.h.sr) (.int .u32 p.h.ds) 23
      have hs := below_trans Hb0.out h3
      have hsz := Hb0.out.size
      have hz := Hz.out
      go_meet
      exact ⟨_, _, rfl, rfl, Lib.hid ⟨h1, h2, blk_on HK0.out h3, ⟨by omega, by omega, by omega⟩⟩, Lib.hid hs⟩
    · go_wp2_with fail
      obtain ⟨h1, h2, h3⟩ := box_two w0 (.int .u32 p.h.ds) (.int .u32 p.h.sr) 23
      have hs := below_trans Hb0.out h3
      have hsz := Hb0.out.size
      have hz := Hz.out
      go_meet
      exact ⟨_, _, rfl, rfl, Lib.hid ⟨h2, h1, blk_on HK0.out h3, ⟨by omega, by omega, by omega⟩⟩, Lib.hid hs⟩
  case rest =>
    obtain ⟨q, r, rfl, rfl, HP, HB⟩ := hcut
    clear HK0 Hb0 Ew
    obtain ⟨w2, e2⟩ : ∃ v, wc.alloc (.map #[] 0) = v := ⟨_, rfl⟩
    have k2 : w2.heap[wc.heap.size]? = some (.map #[] 0) := by rw [← e2]; exact heap_alloc_new wc _
    have b2 : Below wc.heap.size wc w2 := by rw [← e2]; exact (Below.refl _ _).alloc (Nat.le_refl _) _
    obtain ⟨w3, w4, w5, r1, r2, r3, hg, hb⟩ := runs_payload (payF6 q r z) (payF17 q r z) (payF1 z) b2 (Nat.le_refl _) k2
    have hmk := run_makeMap_plain (P := Try.prog) wc 54
    rw [e2] at hmk
    have Hg := Lib.hid hg
    have Hb := Lib.hid hb
    clear k2 b2 hg hb e2
    unfold payF6 at r1
    unfold payF17 at r2
    unfold payF1 at r3
    go_wp2_with fail
    go_ret
    exact ⟨_, q, r, z, rfl, Hg.out, HP.out.on Hb.out, HB.out.trans (Hb.out.mono HB.out.size)⟩

set_option maxHeartbeats 2000000 in
theorem pay_6 (p : Pk) (a : PkA) (q r b B : Nat) (w : World) (L : List Int) (m : Nat) (x : Int) (hp : PkRd w p a) (hn : a.nO ≤ 2000000) (hnD : a.nD ≤ 140737488355328) (h : PayAt p a q r b B w) (hx : errS p.s = x) (hL : toldB p.h.sr p.h.ds p.s = L) (hlm : L.length = m) :
    Calls Try.prog 31 #[.pointer (some ⟨q, 0, none⟩), .pointer (some ⟨r, 0, none⟩), .pointer (some ⟨b, 0, none⟩)] w (PutGot L m x w) := by
  have HC := Lib.hid (put6_got p.h.sr p.h.ds p.s a.AO a.nO a.cO a.os a.AD a.nD a.cD w L m x (by omega) hnD hp.sr hx hL hlm)
  have H1 := Lib.hid h.pkt
  have c1 := h.src.cell
  have c2 := h.dst.cell
  clear hp hx hL h
  obtain ⟨k0, k1, k2, k3, k4, k5, k6, k7, k8, k9, k10, k11, k12, k13, k14, k15, k16, k17, k18, k19, k20, k21, k22, k23⟩ := cells24 H1.out
  go_enter Try.func31, Try.ntmps31
  go_wp2_with fail
  refine HC.out.mono ?_
  rintro e w2 ⟨A2, c2, rfl, hc2, hr2, hb2⟩
  have HR := Lib.hid hr2
  have HC2 := Lib.hid hc2
  have HB := Lib.hid hb2
  clear hr2 hc2 hb2
  clear k0 k1 k2 k3 k4 k5 k6 k7 k8 k9 k10 k11 k12 k13 k14 k15 k16 k17 k18 k19 k20 k21 k22 k23
  clear c1 
  go_wp2_with fail
  go_ret2
  exact ⟨A2, c2, rfl, HC2.out, HR.out, HB.out⟩
set_option maxHeartbeats 2000000 in
theorem pay_17 (p : Pk) (a : PkA) (q r b B : Nat) (w : World) (L : List Int) (m : Nat) (x : Int) (hp : PkRd w p a) (hn : a.nO ≤ 2000000) (hnD : a.nD ≤ 140737488355328) (h : PayAt p a q r b B w) (hx : errUP p.u = x) (hL : toldU p.h.sr p.h.ds p.u = L) (hlm : L.length = m) :
    Calls Try.prog 33 #[.pointer (some ⟨q, 0, none⟩), .pointer (some ⟨r, 0, none⟩), .pointer (some ⟨b, 0, none⟩)] w (PutGot L m x w) := by
  have HC := Lib.hid (put7_got p.h.sr p.h.ds p.u a.AU a.nU a.cU w L m x hp.un hp.uc hp.ur hx hL hlm)
  have H1 := Lib.hid h.pkt
  have c1 := h.src.cell
  have c2 := h.dst.cell
  clear hp hx hL h
  obtain ⟨k0, k1, k2, k3, k4, k5, k6, k7, k8, k9, k10, k11, k12, k13, k14, k15, k16, k17, k18, k19, k20, k21, k22, k23⟩ := cells24 H1.out
  go_enter Try.func33, Try.ntmps33
  go_wp2_with fail
  refine HC.out.mono ?_
  rintro e w2 ⟨A2, c2, rfl, hc2, hr2, hb2⟩
  have HR := Lib.hid hr2
  have HC2 := Lib.hid hc2
  have HB := Lib.hid hb2
  clear hr2 hc2 hb2
  clear k0 k1 k2 k3 k4 k5 k6 k7 k8 k9 k10 k11 k12 k13 k14 k15 k16 k17 k18 k19 k20 k21 k22 k23
  clear c1 
  go_wp2_with fail
  go_ret2
  exact ⟨A2, c2, rfl, HC2.out, HR.out, HB.out⟩
set_option maxHeartbeats 2000000 in
theorem pay_1 (p : Pk) (a : PkA) (q r b B : Nat) (w : World) (L : List Int) (m : Nat) (x : Int) (hp : PkRd w p a) (hn : a.nO ≤ 2000000) (hnD : a.nD ≤ 140737488355328) (h : PayAt p a q r b B w) (hx : errP p.m = x) (hL : toldM p.m = L) (hlm : L.length = m) :
    Calls Try.prog 35 #[.pointer (some ⟨b, 0, none⟩)] w (PutGot L m x w) := by
  have HC := Lib.hid (put8_got p.m a.AM a.nM a.cM w L m x hp.mn hp.mc hp.mr hx hL hlm)
  have H1 := Lib.hid h.pkt
  have c1 := h.src.cell
  have c2 := h.dst.cell
  clear hp hx hL h
  obtain ⟨k0, k1, k2, k3, k4, k5, k6, k7, k8, k9, k10, k11, k12, k13, k14, k15, k16, k17, k18, k19, k20, k21, k22, k23⟩ := cells24 H1.out
  go_enter Try.func35, Try.ntmps35
  go_wp2_with fail
  refine HC.out.mono ?_
  rintro e w2 ⟨A2, c2, rfl, hc2, hr2, hb2⟩
  have HR := Lib.hid hr2
  have HC2 := Lib.hid hc2
  have HB := Lib.hid hb2
  clear hr2 hc2 hb2
  clear k0 k1 k2 k3 k4 k5 k6 k7 k8 k9 k10 k11 k12 k13 k14 k15 k16 k17 k18 k19 k20 k21 k22 k23
  clear c1 
  go_wp2_with fail
  go_ret2
  exact ⟨A2, c2, rfl, HC2.out, HR.out, HB.out⟩
end Go.Proofs.Ytkooehejdfaekaa

/-
  Where a packet's rows do not lie: so that a store into a box leaves the packet as it reads. No function of the program.
-/
namespace Go.Proofs.Ytkooehejdfaekaa
set_option maxRecDepth 10000
open Go.RowKit

/-- A row of some bytes lies in no block of S. -/
def offR (S : Nat → Prop) (A : Option Addr) (n : Nat) : Prop := ∀ g o, A = some ⟨g, o, none⟩ → 0 < n → ¬ S g
theorem offR.zero (S : Nat → Prop) (A : Option Addr) : offR S A 0 := fun _ _ _ h => absurd h (by omega)
theorem offR.sub {S S' : Nat → Prop} {A : Option Addr} {n : Nat} (h : offR S A n) (hS : ∀ g, S' g → S g) : offR S' A n := fun g o e hn hs => h g o e hn (hS g hs)
theorem OwnB.off {w : World} {B : Nat} {A : Option Addr} {n c : Nat} {l : List Int} (h : OwnB w B A n c l) : offR (fun g => g < B) A n := fun g o e hn hs => by
  subst e
  have := (World.ownsRow.lt h g rfl).1
  omega
theorem OwnO.off {w : World} {B : Nat} {A : Option Addr} {n c : Nat} {os : List OptV} (h : OwnO w B A n c os) : offR (fun g => g < B) A n := fun g o e hn hs => by
  subst e
  have := (World.ownsRow.lt h g rfl).1
  omega
theorem OwnL.off {w : World} {B : Nat} : ∀ {os : List OptV} {ls : List (Int × List Int)}, OwnL w B os ls → ∀ v ∈ os, offR (fun g => g < B) v.A v.n
  | [], _, _, v, hv => by cases hv
  | o :: os, l :: ls, h, v, hv => by
    rcases List.mem_cons.1 hv with rfl | hv
    · exact h.1.2.2.2.off
    · exact OwnL.off h.2 v hv
structure PkA.Off (a : PkA) (S : Nat → Prop) : Prop where
  h : offR S a.AH a.nH
  o : offR S a.AO a.nO
  os : ∀ v ∈ a.os, offR S v.A v.n
  d : offR S a.AD a.nD
  u : offR S a.AU a.nU
  m : offR S a.AM a.nM
theorem PkA.Off.sub {a : PkA} {S S' : Nat → Prop} (h : a.Off S) (hS : ∀ g, S' g → S g) : a.Off S' :=
  ⟨h.h.sub hS, h.o.sub hS, fun v hv => (h.os v hv).sub hS, h.d.sub hS, h.u.sub hS, h.m.sub hS⟩
theorem Rd.off {w : World} {A : Option Addr} {n : Nat} {l : List Int} (h : Rd w A n l) : offR (fun g => w.heap.size ≤ g) A n := fun g o e hn hs => by
  obtain ⟨b, o', e', hlt, _⟩ := h.at_ hn
  rw [e] at e'
  cases e'
  omega
theorem RdO.off {w : World} {A : Option Addr} {n : Nat} {os : List OptV} (h : RdO w A n os) : offR (fun g => w.heap.size ≤ g) A n := fun g o e hn hs => by
  obtain ⟨b, o', e', hlt, _⟩ := h.at_ hn
  rw [e] at e'
  cases e'
  omega
theorem Reads.off {w : World} : ∀ {os : List OptV} {ls : List (Int × List Int)}, Reads w os ls → ∀ v ∈ os, offR (fun g => w.heap.size ≤ g) v.A v.n
  | [], _, _, v, hv => by cases hv
  | o :: os, l :: ls, h, v, hv => by
    rcases List.mem_cons.1 hv with rfl | hv
    · exact h.1.2.2.2.2.off
    · exact Reads.off h.2 v hv
/-- What reads lies in memory that is there. -/
theorem PkRd.off {w : World} {p : Pk} {a : PkA} (h : PkRd w p a) : a.Off (fun g => w.heap.size ≤ g) := ⟨h.hr.off, h.sr.o.off, h.sr.os.off, h.sr.d.off, h.ur.off, h.mr.off⟩
theorem Rd.offBut {S : Nat → Prop} {w w' : World} {A : Option Addr} {n : Nat} {l : List Int} (h : Rd w A n l) (hb : But S w w') (ho : offR S A n) : Rd w' A n l := h.but hb ho
theorem RdO.offBut {S : Nat → Prop} {w w' : World} {A : Option Addr} {n : Nat} {os : List OptV} (h : RdO w A n os) (hb : But S w w') (ho : offR S A n) : RdO w' A n os :=
  ⟨h.len, fun h0 => by
    obtain ⟨g, o, e, hlt, hc⟩ := h.at_ h0
    exact ⟨g, o, e, hb.lt hlt, fun i hi => ⟨by rw [hb.cell (p := ⟨g, o + i * 2, none⟩) hlt (ho g o e h0)]; exact (hc i hi).1, by rw [hb.cell (p := ⟨g, o + (i * 2 + 1), none⟩) hlt (ho g o e h0)]; exact (hc i hi).2⟩⟩⟩
theorem Reads.offBut {S : Nat → Prop} {w w' : World} {os : List OptV} {ls : List (Int × List Int)} (h : Reads w os ls) (hb : But S w w') (ho : ∀ v ∈ os, offR S v.A v.n) : Reads w' os ls :=
  h.but hb (fun o hm b off e hn => ho o hm b off e hn)
theorem PkRd.but {S : Nat → Prop} {w w' : World} {p : Pk} {a : PkA} (h : PkRd w p a) (hb : But S w w') (ho : a.Off S) : PkRd w' p a :=
  ⟨h.hn, h.hc, h.hr.offBut hb ho.h, ⟨h.sr.num, h.sr.oc, h.sr.dc, h.sr.o.offBut hb ho.o, h.sr.os.offBut hb ho.os, h.sr.d.offBut hb ho.d⟩, h.un, h.uc, h.ur.offBut hb ho.u, h.mn, h.mc, h.mr.offBut hb ho.m⟩
/-- A whole packet is stored into the box g. -/
theorem row_but (w : World) (g : Nat) (cs : Array Value) : But (fun k => k = g) w (w.setRow g cs) := ⟨rfl, rfl, rfl, by simp, fun k _ hn => setRow_other _ _ _ _ hn⟩
end Go.Proofs.Ytkooehejdfaekaa
