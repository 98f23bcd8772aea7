/-
  Texts laid together: UdpLaw, Pkt, IpRef, IpRefPut.
-/
import Derived.Test.YtheknmihnkennaaGreatZB22
import Derived.Test.YtheknmihnkennaaGreatZB21
import Derived.Test.YtheknmihnkennaaGreatZB09
import Derived.Test.YtheknmihnkennaaGreatZB06
import Derived.Test.YtheknmihnkennaaGreatZB05
import Derived.Test.YtheknmihnkennaaGreatZB03
import Derived.RegionTactic
import Derived.Test.YtheknmihnkennaaGreatZB14
import Derived.Test.YtheknmihnkennaaGreatZB10
import Derived.BigRegion
import Derived.Deep.DeepCutAuto
import Derived.Deep.CutRange
import Derived.Deep.RegionHeld3

/-
  What the laws of udp have in common: whether two datagrams have all the same; Parse's error alone; culvertlaw07's awake; what comes in, opened.
-/
namespace Go.Proofs.YtheknmihnkennaaGreat
set_option maxRecDepth 10000
open Go.RowKit

def dgSame (s t : Dg) : Bool := decide (s.sp = t.sp) && (decide (s.dp = t.dp) && decide (s.d = t.d))
theorem usame_any (s t : Dg) (A : Option Addr) (n c : Nat) (A' : Option Addr) (n' c' : Nat) (w : World) (x : Bool) (h : Rd w A n s.d) (h' : Rd w A' n' t.d) (hx : dgSame s t = x) :
    Calls Tryz.prog 23 #[.agg #[.int .u16 s.sp, .int .u16 s.dp, .slice A n c], .agg #[.int .u16 t.sp, .int .u16 t.dp, .slice A' n' c']] w (BoolIs x w) := by
  obtain ⟨sp, dp, d⟩ := s
  obtain ⟨sp', dp', d'⟩ := t
  simp only at h h' ⊢
  have hb := ((Below.refl w.heap.size w).alloc (Nat.le_refl _) (.cells #[.int .u16 sp, .int .u16 dp, .slice A n c] 31)).alloc (by simp) (.cells #[.int .u16 sp', .int .u16 dp', .slice A' n' c'] 31)
  have H1 := Lib.hid (h.below hb)
  have H2 := Lib.hid (h'.below hb)
  have Hb := Lib.hid hb
  clear h h' hb
  unfold dgSame at hx
  simp only at hx
  by_cases h1 : sp = sp'
  · subst h1
    by_cases h2 : dp = dp'
    · subst h2
      have Hx := Lib.hid (show decide (d = d') = x by simpa using hx)
      clear hx
      skip
      go_enter Tryz.func23, Tryz.ntmps23
      go_wp2_with fail
      (refine (bequal_any A A' n n' c c' d d' _ x H1.out H2.out Hx.out).mono ?_; rintro e w' ⟨rfl, rfl⟩; go_wp2_with fail; go_ret; exact ⟨rfl, Hb.out⟩)
    · have h2b : (dp == dp') = false := by simpa using h2
      have Hx := Lib.hid (show x = false by rw [← hx]; simp [h2])
      clear hx h2
      go_enter Tryz.func23, Tryz.ntmps23
      go_wp2_with fail
      go_ret
      exact ⟨ret_bool (by rw [Hx.out]), Hb.out⟩
  · have h1b : (sp == sp') = false := by simpa using h1
    have Hx := Lib.hid (show x = false by rw [← hx]; simp [h1])
    clear hx h1
    go_enter Tryz.func23, Tryz.ntmps23
    go_wp2_with fail
    go_ret
    exact ⟨ret_bool (by rw [Hx.out]), Hb.out⟩
end Go.Proofs.YtheknmihnkennaaGreat

/-
  Packets (api.Packet): a head, a segment, a datagram, a message, as numbers and lists; how they lie in memory. No function of the program.
-/
namespace Go.Proofs.YtheknmihnkennaaGreat
set_option maxRecDepth 10000
open Go.RowKit

def zeroDg : Dg := ⟨0, 0, []⟩
def pkSame (p q : Pk) : Bool := hdSame p.h q.h && (segSame p.s q.s && (dgSame p.u q.u && msgSame p.m q.m))
theorem segSame_iff (s t : Seg) : segSame s t = true ↔ s = t := by
  obtain ⟨a, b, c, d, e, f, g, l, k⟩ := s
  obtain ⟨a', b', c', d', e', f', g', l', k'⟩ := t
  simp [segSame, and_assoc]
theorem dgSame_iff (s t : Dg) : dgSame s t = true ↔ s = t := by
  obtain ⟨a, b, c⟩ := s
  obtain ⟨a', b', c'⟩ := t
  simp [dgSame]
theorem msgSame_iff (s t : Msg) : msgSame s t = true ↔ s = t := by
  obtain ⟨a, b, c, d⟩ := s
  obtain ⟨a', b', c', d'⟩ := t
  simp [msgSame]
/-- A packet of which the Proto's part alone is there. -/
def partP (p : Pk) : Pk := if p.h.pr = 6 then ⟨p.h, p.s, zeroDg, zeroM⟩ else if p.h.pr = 17 then ⟨p.h, zeroSeg, p.u, zeroM⟩ else ⟨p.h, zeroSeg, zeroDg, p.m⟩
def mayP (p : Pk) : Bool := (decide (p.h.pr = 6) || (decide (p.h.pr = 17) || decide (p.h.pr = 1))) && (mayB p.h.tt p.h.o.length && pkSame (partP p) p)
def errLoad (p : Pk) : Int := if p.h.pr = 6 then errS p.s else if p.h.pr = 17 then errUP p.u else errP p.m
def loadB (p : Pk) : List Int := if p.h.pr = 6 then toldB p.h.sr p.h.ds p.s else if p.h.pr = 17 then toldU p.h.sr p.h.ds p.u else toldM p.m
/-- What is wrong with a packet that should be laid; its bytes. -/
def errPk (p : Pk) : Int := if mayP p = true then (if errLoad p = 0 then (if 1500 < 20 + p.h.o.length + (loadB p).length then 3 else 0) else errLoad p) else 1
def pkB (p : Pk) : List Int := if errPk p = 0 then hdB p.h (loadB p) else []
/-- A head of our own. -/
def ownH (sr ds pr : Int) : Hd := ⟨0, 0, true, 64, pr, sr, ds, []⟩
end Go.Proofs.YtheknmihnkennaaGreat

/-
  The document's own answers for heads (culvertref04): May, Same.
-/
namespace Go.Proofs.YtheknmihnkennaaGreat
set_option maxRecDepth 10000
open Go.RowKit
set_option linter.unusedSimpArgs false
set_option linter.unusedVariables false

end Go.Proofs.YtheknmihnkennaaGreat

/-
  The document's own answers for heads (culvertref04): Put.
-/
namespace Go.Proofs.YtheknmihnkennaaGreat
set_option maxRecDepth 10000
open Go.RowKit
set_option linter.unusedSimpArgs false
set_option linter.unusedVariables false

theorem cells8 {w : World} {g : Nat} {u0 u1 u2 u3 u4 u5 u6 u7 : Value} {t : TypeId} (h : w.heap[g]? = some (.cells #[u0, u1, u2, u3, u4, u5, u6, u7] t (0, 0))) : w.cell? ⟨g, 0, none⟩ = some u0 ∧ w.cell? ⟨g, 1, none⟩ = some u1 ∧ w.cell? ⟨g, 2, none⟩ = some u2 ∧ w.cell? ⟨g, 3, none⟩ = some u3 ∧ w.cell? ⟨g, 4, none⟩ = some u4 ∧ w.cell? ⟨g, 5, none⟩ = some u5 ∧ w.cell? ⟨g, 6, none⟩ = some u6 ∧ w.cell? ⟨g, 7, none⟩ = some u7 := by
  refine ⟨?_, ?_, ?_, ?_, ?_, ?_, ?_, ?_⟩ <;> (rw [blk_cell h]; rfl)
/-- A row being laid beside a block that stays. -/
structure Lay4 (w : World) (z g : Nat) (hc : Array Value) (L : List Int) (w' : World) : Prop where
  own : OwnB w' g (some ⟨g, 0, none⟩) 20 20 L
  blk : w'.heap[z]? = some (.cells hc 26 (0, 0))
  low : Below g w w'
theorem Lay4.set_ {w : World} {z g : Nat} {hc : Array Value} {L : List Int} {w' : World} (h : Lay4 w z g hc L w') (hz : z ≠ g) (i : Nat) (x : Int) : Lay4 w z g hc (L.set i x) (w'.setCell ⟨g, i, none⟩ (.int .u8 x)) :=
  ⟨h.own.set_ i x, (Below.heap_setCell _ _ _ _ (by simpa using hz)).trans h.blk, h.low.setCell (p := ⟨g, i, none⟩) (Nat.le_refl _) _⟩
theorem Lay4.drew {w : World} {z g : Nat} {hc : Array Value} {L : List Int} {w' : World} (h : Lay4 w z g hc L w') : Lay4 w z g hc L w'.drew := ⟨h.own, h.blk, h.low.drew⟩
end Go.Proofs.YtheknmihnkennaaGreat
