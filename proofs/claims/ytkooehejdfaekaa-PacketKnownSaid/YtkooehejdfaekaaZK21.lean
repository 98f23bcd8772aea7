/-
  Texts laid together: UdpParse, UdpLaw, Pkt, IpRef.
-/
import Derived.Test.YtkooehejdfaekaaZK20
import Derived.Deep.CutRange
import Derived.Test.YtkooehejdfaekaaZK19
import Derived.Test.YtkooehejdfaekaaZK04
import Derived.Test.YtkooehejdfaekaaZK03
import Derived.RegionTactic

/-
  The contract of package udp's Parse: what is wrong is told in the document's own order; else the datagram, its data in a row of the call's own.
-/
namespace Go.Proofs.Ytkooehejdfaekaa
set_option maxRecDepth 10000
open Go.RowKit

end Go.Proofs.Ytkooehejdfaekaa

/-
  What the laws of udp have in common: whether two datagrams have all the same; Parse's error alone; culvertlaw07's awake; what comes in, opened.
-/
namespace Go.Proofs.Ytkooehejdfaekaa
set_option maxRecDepth 10000
open Go.RowKit

def dgSame (s t : Dg) : Bool := decide (s.sp = t.sp) && (decide (s.dp = t.dp) && decide (s.d = t.d))
theorem usame_any (s t : Dg) (A : Option Addr) (n c : Nat) (A' : Option Addr) (n' c' : Nat) (w : World) (x : Bool) (h : Rd w A n s.d) (h' : Rd w A' n' t.d) (hx : dgSame s t = x) :
    Calls Try.prog 29 #[.agg #[.int .u16 s.sp, .int .u16 s.dp, .slice A n c], .agg #[.int .u16 t.sp, .int .u16 t.dp, .slice A' n' c']] w (BoolIs x w) := by
  obtain ⟨sp, dp, d⟩ := s
  obtain ⟨sp', dp', d'⟩ := t
  simp only at h h' ⊢
  have hb := ((Below.refl w.heap.size w).alloc (Nat.le_refl _) (.cells #[.int .u16 sp, .int .u16 dp, .slice A n c] 31)).alloc (by simp) (.cells #[.int .u16 sp', .int .u16 dp', .slice A' n' c'] 31)
  have H1 := Lib.hid (h.below hb)
  have H2 := Lib.hid (h'.below hb)
  have Hb := Lib.hid hb
  clear h h' hb
  unfold dgSame at hx
  simp only at hx
  by_cases h1 : sp = sp'
  · subst h1
    by_cases h2 : dp = dp'
    · subst h2
      have Hx := Lib.hid (show decide (d = d') = x by simpa using hx)
      clear hx
      skip
      go_enter Try.func29, Try.ntmps29
      go_wp2_with fail
      (refine (bequal_any A A' n n' c c' d d' _ x H1.out H2.out Hx.out).mono ?_; rintro e w' ⟨rfl, rfl⟩; go_wp2_with fail; go_ret; exact ⟨rfl, Hb.out⟩)
    · have h2b : (dp == dp') = false := by simpa using h2
      have Hx := Lib.hid (show x = false by rw [← hx]; simp [h2])
      clear hx h2
      go_enter Try.func29, Try.ntmps29
      go_wp2_with fail
      go_ret
      exact ⟨ret_bool (by rw [Hx.out]), Hb.out⟩
  · have h1b : (sp == sp') = false := by simpa using h1
    have Hx := Lib.hid (show x = false by rw [← hx]; simp [h1])
    clear hx h1
    go_enter Try.func29, Try.ntmps29
    go_wp2_with fail
    go_ret
    exact ⟨ret_bool (by rw [Hx.out]), Hb.out⟩
end Go.Proofs.Ytkooehejdfaekaa

/-
  Packets (api.Packet): a head, a segment, a datagram, a message, as numbers and lists; how they lie in memory. No function of the program.
-/
namespace Go.Proofs.Ytkooehejdfaekaa
set_option maxRecDepth 10000
open Go.RowKit

structure Pk where
  h : Hd
  s : Seg
  u : Dg
  m : Msg
/-- Where the parts' rows lie. -/
structure PkA where
  AH : Option Addr
  nH : Nat
  cH : Nat
  AO : Option Addr
  nO : Nat
  cO : Nat
  os : List OptV
  AD : Option Addr
  nD : Nat
  cD : Nat
  AU : Option Addr
  nU : Nat
  cU : Nat
  AM : Option Addr
  nM : Nat
  cM : Nat
def PkA.none_ : PkA := ⟨none, 0, 0, none, 0, 0, [], none, 0, 0, none, 0, 0, none, 0, 0⟩
structure PkRd (w : World) (p : Pk) (a : PkA) : Prop where
  hn : HdNum p.h
  hc : a.nH ≤ a.cH ∧ a.cH ≤ maxLen
  hr : Rd w a.AH a.nH p.h.o
  sr : SegRd w p.s a.AO a.nO a.cO a.os a.AD a.nD a.cD
  un : DgNum p.u
  uc : a.nU ≤ a.cU ∧ a.cU ≤ maxLen
  ur : Rd w a.AU a.nU p.u.d
  mn : MsgNum p.m
  mc : a.nM ≤ a.cM ∧ a.cM ≤ maxLen
  mr : Rd w a.AM a.nM p.m.d
theorem PkRd.below {w w' : World} {p : Pk} {a : PkA} (h : PkRd w p a) (hb : Below w.heap.size w w') : PkRd w' p a :=
  ⟨h.hn, h.hc, h.hr.below hb, h.sr.below hb, h.un, h.uc, h.ur.below hb, h.mn, h.mc, h.mr.below hb⟩
def zeroDg : Dg := ⟨0, 0, []⟩
def zeroP : Pk := ⟨zeroH, zeroSeg, zeroDg, zeroM⟩
def pkSame (p q : Pk) : Bool := hdSame p.h q.h && (segSame p.s q.s && (dgSame p.u q.u && msgSame p.m q.m))
theorem segSame_iff (s t : Seg) : segSame s t = true ↔ s = t := by
  obtain ⟨a, b, c, d, e, f, g, l, k⟩ := s
  obtain ⟨a', b', c', d', e', f', g', l', k'⟩ := t
  simp [segSame, and_assoc]
theorem dgSame_iff (s t : Dg) : dgSame s t = true ↔ s = t := by
  obtain ⟨a, b, c⟩ := s
  obtain ⟨a', b', c'⟩ := t
  simp [dgSame]
theorem msgSame_iff (s t : Msg) : msgSame s t = true ↔ s = t := by
  obtain ⟨a, b, c, d⟩ := s
  obtain ⟨a', b', c', d'⟩ := t
  simp [msgSame]
theorem pkSame_iff (p q : Pk) : pkSame p q = true ↔ p = q := by
  obtain ⟨h, s, u, m⟩ := p
  obtain ⟨h', s', u', m'⟩ := q
  simp [pkSame, hdSame_iff, segSame_iff, dgSame_iff, msgSame_iff]
theorem pkSame_self (p : Pk) : pkSame p p = true := (pkSame_iff p p).2 rfl
/-- A packet of which the Proto's part alone is there. -/
def partP (p : Pk) : Pk := if p.h.pr = 6 then ⟨p.h, p.s, zeroDg, zeroM⟩ else if p.h.pr = 17 then ⟨p.h, zeroSeg, p.u, zeroM⟩ else ⟨p.h, zeroSeg, zeroDg, p.m⟩
def mayP (p : Pk) : Bool := (decide (p.h.pr = 6) || (decide (p.h.pr = 17) || decide (p.h.pr = 1))) && (mayB p.h.tt p.h.o.length && pkSame (partP p) p)
def errLoad (p : Pk) : Int := if p.h.pr = 6 then errS p.s else if p.h.pr = 17 then errUP p.u else errP p.m
def loadB (p : Pk) : List Int := if p.h.pr = 6 then toldB p.h.sr p.h.ds p.s else if p.h.pr = 17 then toldU p.h.sr p.h.ds p.u else toldM p.m
/-- What is wrong with a packet that should be laid; its bytes. -/
def errPk (p : Pk) : Int := if mayP p = true then (if errLoad p = 0 then (if 1500 < 20 + p.h.o.length + (loadB p).length then 3 else 0) else errLoad p) else 1
def pkB (p : Pk) : List Int := if errPk p = 0 then hdB p.h (loadB p) else []
/-- A head of our own. -/
def ownH (sr ds pr : Int) : Hd := ⟨0, 0, true, 64, pr, sr, ds, []⟩
end Go.Proofs.Ytkooehejdfaekaa

/-
  The document's own answers for heads (culvertref04): May, Same.
-/
namespace Go.Proofs.Ytkooehejdfaekaa
set_option maxRecDepth 10000
open Go.RowKit
set_option linter.unusedSimpArgs false
set_option linter.unusedVariables false

end Go.Proofs.Ytkooehejdfaekaa
