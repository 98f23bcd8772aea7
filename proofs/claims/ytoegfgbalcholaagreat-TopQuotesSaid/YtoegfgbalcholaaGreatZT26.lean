/-
  Texts laid together: UdpParse, UdpLaw, Pkt, IpRef.
-/
import Derived.Test.YtoegfgbalcholaaGreatZT08
import Derived.Deep.CutRange
import Derived.Test.YtoegfgbalcholaaGreatZT20
import Derived.Test.YtoegfgbalcholaaGreatZT21
import Derived.Test.YtoegfgbalcholaaGreatZT25
import Derived.Test.YtoegfgbalcholaaGreatZT05
import Derived.Test.YtoegfgbalcholaaGreatZT06
import Derived.Test.YtoegfgbalcholaaGreatZT07
import Derived.RegionTactic

/-
  The contract of package udp's Parse: what is wrong is told in the document's own order; else the datagram, its data in a row of the call's own.
-/
namespace Go.Proofs.YtoegfgbalcholaaGreat
set_option maxRecDepth 10000
open Go.RowKit

/-- What Parse tells of bytes that are a datagram. -/
def DgGood (s : Dg) (m : Nat) (w : World) (e : Ending) (w' : World) : Prop :=
  ∃ AD cD, e = .returned (.tuple #[.agg #[.int .u16 s.sp, .int .u16 s.dp, .slice AD m cD], .int .i64 0]) ∧ m ≤ cD ∧ cD ≤ maxLen ∧ OwnB w' w.heap.size AD m cD s.d ∧ Below w.heap.size w w'
theorem set3_cells {w : World} {q : Nat} {u0 u1 u2 : Value} {t : TypeId} (h : w.heap[q]? = some (.cells #[u0, u1, u2] t (0, 0))) (v0 v1 v2 : Value) :
    (((w.setCell ⟨q, 0, none⟩ v0).setCell ⟨q, 1, none⟩ v1).setCell ⟨q, 2, none⟩ v2).cell? ⟨q, 0, none⟩ = some v0 ∧ (((w.setCell ⟨q, 0, none⟩ v0).setCell ⟨q, 1, none⟩ v1).setCell ⟨q, 2, none⟩ v2).cell? ⟨q, 1, none⟩ = some v1 ∧ (((w.setCell ⟨q, 0, none⟩ v0).setCell ⟨q, 1, none⟩ v1).setCell ⟨q, 2, none⟩ v2).cell? ⟨q, 2, none⟩ = some v2 :=
  cells3 (set3_blk h v0 v1 v2)

theorem uparse_good (src dst : Int) (A : Option Addr) (n c m : Nat) (b : List Int) (sp dp : Int) (d : List Int) (w : World) (hc : n ≤ c ∧ c ≤ maxLen) (hn : n ≤ 1480) (hA : Rd w A n b) (hx : errU src dst b = 0) (hS : dgOf b = ⟨sp, dp, d⟩) (hm : d.length = m) :
    Calls Tryz.prog 74 #[.int .u32 src, .int .u32 dst, .slice A n c] w (DgGood ⟨sp, dp, d⟩ m w) := by
  have Hlm := Lib.hid (show b.length - 8 = m by rw [← hm, show d = (dgOf b).d by rw [hS]]; simp [dgOf])
  have Hd := Lib.hid (show b.drop 8 = d by rw [show d = (dgOf b).d by rw [hS]]; rfl)
  have HS := Lib.hid hS
  clear hS hm
  have hmf : ∀ (fn : Fn) (first cap : Array Value) (w : World), (Instr.makeFunc fn first cap).run Tryz.prog w = .ok (.func fn first cap) w := fun _ _ _ _ => rfl
  have hal : Below w.heap.size w w := Below.refl _ _
  have HA := Lib.hid hA
  have Hx := Lib.hid hx
  have hni : (n : Int) ≤ 1480 := by omega
  clear hA hx
  obtain ⟨z, hz⟩ : ∃ z, w.heap.size = z := ⟨_, rfl⟩
  go_enter Tryz.func74, Tryz.ntmps74
  go_wp2_with fail
  obtain ⟨w0, hw0⟩ : ∃ w0, w0 = ((((w.alloc (.cells #[.int .u32 src] 23)).alloc (.cells #[.int .u32 dst] 23)).alloc (.cells #[.slice A n c] 24)).alloc (.cells #[.int .u16 0, .int .u16 0, .slice none 0 0] 31)).alloc (.cells #[.int .u16 0, .int .u16 0, .slice none 0 0] 31) := ⟨_, rfl⟩
  rw [← hw0]
  have hsz : w0.heap.size = z + 5 := by rw [hw0, ← hz]; simp
  have hb0 : Below w.heap.size w w0 := by rw [hw0]; exact ((((hal.alloc (Nat.le_refl _) _).alloc (by simp) _).alloc (by simp <;> omega) _).alloc (by simp <;> omega) _).alloc (by simp <;> omega) _
  have h1 : Box w0 z 23 (.int .u32 src) := by rw [hw0, ← hz]; exact ((((Box.new w _ _).alloc _).alloc _).alloc _).alloc _
  have h2 : Box w0 (z + 1) 23 (.int .u32 dst) := by
    rw [hw0, ← hz]
    have := Box.new (w.alloc (.cells #[.int .u32 src] 23)) 23 (.int .u32 dst)
    exact (((by simpa using this : Box _ (w.heap.size + 1) _ _).alloc _).alloc _).alloc _
  have h3 : Box w0 (z + 2) 24 (.slice A n c) := by
    rw [hw0, ← hz]
    have := Box.new ((w.alloc (.cells #[.int .u32 src] 23)).alloc (.cells #[.int .u32 dst] 23)) 24 (.slice A n c)
    exact ((by simpa using this : Box _ (w.heap.size + 2) _ _).alloc _).alloc _
  have h4 : w0.heap[z + 3]? = some (.cells zeroU 31 (0, 0)) := by
    rw [hw0, ← hz]
    have := heap_alloc_new (((w.alloc (.cells #[.int .u32 src] 23)).alloc (.cells #[.int .u32 dst] 23)).alloc (.cells #[.slice A n c] 24)) (.cells #[.int .u16 0, .int .u16 0, .slice none 0 0] 31)
    rw [Below.heap_alloc _ _ _ (by simp)]
    simpa [zeroU] using this
  have h5 : w0.heap[z + 4]? = some (.cells zeroU 31 (0, 0)) := by
    rw [hw0, ← hz]
    have := heap_alloc_new ((((w.alloc (.cells #[.int .u32 src] 23)).alloc (.cells #[.int .u32 dst] 23)).alloc (.cells #[.slice A n c] 24)).alloc (.cells #[.int .u16 0, .int .u16 0, .slice none 0 0] 31)) (.cells #[.int .u16 0, .int .u16 0, .slice none 0 0] 31)
    simpa [zeroU] using this
  have hr0 := HA.out.below hb0
  clear hw0
  have hdo := fun w1 g (hb : Below w0.heap.size w0 w1) (_ : w0.heap.size ≤ g) (_ : g < w1.heap.size) (hR : Rdr w1 w0.heap.size g b 0) =>
    uparse1_any w0.heap.size g z (z + 1) (z + 2) (z + 4) n c src dst A w1 (by omega) hn b hc (fun h x o e => by
      obtain ⟨x', o', e', hlt, _⟩ := hr0.at_ h
      rw [e] at e'; injection e' with e'; injection e' with e'; subst e'; exact hlt) (hr0.below hb) (h1.below hb (by omega)) (h2.below hb (by omega)) (h3.below hb (by omega)) ((hb.block _ (by omega)).trans h5) hR
  have hread := read_any (fun k => k = z + 4) _ n c #[.pointer (some ⟨z + 2, 0, none⟩), .pointer (some ⟨z, 0, none⟩), .pointer (some ⟨z + 1, 0, none⟩), .pointer (some ⟨z + 4, 0, none⟩)] _ (fun _ => rfl) A b (DgR (z + 4) src dst b) w0 (fun k hk => by omega) (by omega) hr0 (enter_of Tryz.func112 (by kernel_rfl) rfl) hdo
  have Hb0 := Lib.hid hb0
  have Hc3 := h3.cell
  have H4 := Lib.hid h4
  have Hsz := Lib.hid hsz
  have Hz := Lib.hid hz
  clear hb0 h1 h2 h3 h4 h5 hr0 hdo hal hsz hz
  refine hread.mono ?_
  clear hread
  rintro e w5 ⟨x', w1, w4, rfl, hb1, ⟨hxe, hR⟩, hb4, hb5⟩
  rw [Hx.out] at hxe
  subst hxe
  rcases hR with ⟨h, _⟩ | ⟨_, AD, cD, hq, hd⟩
  · exact absurd rfl h
  have hsz := Hsz.out
  have hz := Hz.out
  have hqb := hb4.blk hq (by omega)
  have hrb := hb5.blk H4.out (by omega)
  have hd5 := hd.but hb4 (fun k hk e => by omega)
  rw [HS.out, Hlm.out] at hqb
  rw [Hlm.out, Hd.out] at hd5
  simp only at hqb
  unfold zeroU at hrb
  have hB := Hb0.out.trans (hb5.below (B := w.heap.size) (fun k hk => by omega) Hb0.out.size)
  have HB := Lib.hid hB
  obtain ⟨q0, q1, q2⟩ := cells3 hqb
  obtain ⟨r0, r1, r2⟩ := cells3 hrb
  have rf := blk_free hrb
  have HS9 := Lib.hid (set3_cells hrb)
  have Hset := Lib.hid (set3_but w5 (z + 3))
  have HD := Lib.hid hd5
  have hw1 : z + 5 ≤ w1.heap.size := by have := hb1.size; omega
  clear hqb hrb hq hb1 hb4 hb5 hsz hB hd hd5 hz
  go_wp2_with fail
  have hz := Hz.out
  obtain ⟨s0, s1, s2⟩ := HS9.out (.int .u16 sp) (.int .u16 dp) (.slice AD m cD)
  have Hset := Hset.out (.int .u16 sp) (.int .u16 dp) (.slice AD m cD)
  refine bodyPost_ret (v := .tuple #[.agg #[.int .u16 sp, .int .u16 dp, .slice AD m cD], .int .i64 0]) (by simp [results, Tryz.results74, go_sem, s0, s1, s2]) rfl ⟨AD, cD, rfl, HD.out.cap, HD.out.capMax, ?_, ?_⟩
  · exact (HD.out.but Hset (fun k hk e => by omega)).mono (by omega)
  · exact (((HB.out.setCell (by simp <;> omega) _).setCell (by simp <;> omega) _).setCell (by simp <;> omega) _)

theorem uparse_told (src dst : Int) (A : Option Addr) (n c m : Nat) (b : List Int) (sp dp : Int) (d : List Int) (w : World) (hc : n ≤ c ∧ c ≤ maxLen) (hA : Rd w A n b) (hx : errU src dst b = 0) (hS : dgOf b = ⟨sp, dp, d⟩) (hm : d.length = m) :
    Calls Tryz.prog 74 #[.int .u32 src, .int .u32 dst, .slice A n c] w (DgGood ⟨sp, dp, d⟩ m w) := by
  refine uparse_good src dst A n c m b sp dp d w hc ?_ hA hx hS hm
  rw [← hA.len]
  unfold errU at hx
  by_cases h3 : 1480 < b.length
  · rw [if_pos h3] at hx; omega
  · omega
end Go.Proofs.YtoegfgbalcholaaGreat

/-
  What the laws of udp have in common: whether two datagrams have all the same; Parse's error alone; culvertlaw07's awake; what comes in, opened.
-/
namespace Go.Proofs.YtoegfgbalcholaaGreat
set_option maxRecDepth 10000
open Go.RowKit

def dgSame (s t : Dg) : Bool := decide (s.sp = t.sp) && (decide (s.dp = t.dp) && decide (s.d = t.d))
theorem usame_any (s t : Dg) (A : Option Addr) (n c : Nat) (A' : Option Addr) (n' c' : Nat) (w : World) (x : Bool) (h : Rd w A n s.d) (h' : Rd w A' n' t.d) (hx : dgSame s t = x) :
    Calls Tryz.prog 33 #[.agg #[.int .u16 s.sp, .int .u16 s.dp, .slice A n c], .agg #[.int .u16 t.sp, .int .u16 t.dp, .slice A' n' c']] w (BoolIs x w) := by
  obtain ⟨sp, dp, d⟩ := s
  obtain ⟨sp', dp', d'⟩ := t
  simp only at h h' ⊢
  have hb := ((Below.refl w.heap.size w).alloc (Nat.le_refl _) (.cells #[.int .u16 sp, .int .u16 dp, .slice A n c] 31)).alloc (by simp) (.cells #[.int .u16 sp', .int .u16 dp', .slice A' n' c'] 31)
  have H1 := Lib.hid (h.below hb)
  have H2 := Lib.hid (h'.below hb)
  have Hb := Lib.hid hb
  clear h h' hb
  unfold dgSame at hx
  simp only at hx
  by_cases h1 : sp = sp'
  · subst h1
    by_cases h2 : dp = dp'
    · subst h2
      have Hx := Lib.hid (show decide (d = d') = x by simpa using hx)
      clear hx
      skip
      go_enter Tryz.func33, Tryz.ntmps33
      go_wp2_with fail
      (refine (bequal_any A A' n n' c c' d d' _ x H1.out H2.out Hx.out).mono ?_; rintro e w' ⟨rfl, rfl⟩; go_wp2_with fail; go_ret; exact ⟨rfl, Hb.out⟩)
    · have h2b : (dp == dp') = false := by simpa using h2
      have Hx := Lib.hid (show x = false by rw [← hx]; simp [h2])
      clear hx h2
      go_enter Tryz.func33, Tryz.ntmps33
      go_wp2_with fail
      go_ret
      exact ⟨ret_bool (by rw [Hx.out]), Hb.out⟩
  · have h1b : (sp == sp') = false := by simpa using h1
    have Hx := Lib.hid (show x = false by rw [← hx]; simp [h1])
    clear hx h1
    go_enter Tryz.func33, Tryz.ntmps33
    go_wp2_with fail
    go_ret
    exact ⟨ret_bool (by rw [Hx.out]), Hb.out⟩
end Go.Proofs.YtoegfgbalcholaaGreat

/-
  Packets (api.Packet): a head, a segment, a datagram, a message, as numbers and lists; how they lie in memory. No function of the program.
-/
namespace Go.Proofs.YtoegfgbalcholaaGreat
set_option maxRecDepth 10000
open Go.RowKit

def zeroDg : Dg := ⟨0, 0, []⟩
def pkSame (p q : Pk) : Bool := hdSame p.h q.h && (segSame p.s q.s && (dgSame p.u q.u && msgSame p.m q.m))
theorem segSame_iff (s t : Seg) : segSame s t = true ↔ s = t := by
  obtain ⟨a, b, c, d, e, f, g, l, k⟩ := s
  obtain ⟨a', b', c', d', e', f', g', l', k'⟩ := t
  simp [segSame, and_assoc]
theorem dgSame_iff (s t : Dg) : dgSame s t = true ↔ s = t := by
  obtain ⟨a, b, c⟩ := s
  obtain ⟨a', b', c'⟩ := t
  simp [dgSame]
theorem msgSame_iff (s t : Msg) : msgSame s t = true ↔ s = t := by
  obtain ⟨a, b, c, d⟩ := s
  obtain ⟨a', b', c', d'⟩ := t
  simp [msgSame]
theorem pkSame_iff (p q : Pk) : pkSame p q = true ↔ p = q := by
  obtain ⟨h, s, u, m⟩ := p
  obtain ⟨h', s', u', m'⟩ := q
  simp [pkSame, hdSame_iff, segSame_iff, dgSame_iff, msgSame_iff]
theorem pkSame_self (p : Pk) : pkSame p p = true := (pkSame_iff p p).2 rfl
/-- A packet of which the Proto's part alone is there. -/
def partP (p : Pk) : Pk := if p.h.pr = 6 then ⟨p.h, p.s, zeroDg, zeroM⟩ else if p.h.pr = 17 then ⟨p.h, zeroSeg, p.u, zeroM⟩ else ⟨p.h, zeroSeg, zeroDg, p.m⟩
def mayP (p : Pk) : Bool := (decide (p.h.pr = 6) || (decide (p.h.pr = 17) || decide (p.h.pr = 1))) && (mayB p.h.tt p.h.o.length && pkSame (partP p) p)
def errLoad (p : Pk) : Int := if p.h.pr = 6 then errS p.s else if p.h.pr = 17 then errUP p.u else errP p.m
def loadB (p : Pk) : List Int := if p.h.pr = 6 then toldB p.h.sr p.h.ds p.s else if p.h.pr = 17 then toldU p.h.sr p.h.ds p.u else toldM p.m
/-- What is wrong with a packet that should be laid; its bytes. -/
def errPk (p : Pk) : Int := if mayP p = true then (if errLoad p = 0 then (if 1500 < 20 + p.h.o.length + (loadB p).length then 3 else 0) else errLoad p) else 1
def pkB (p : Pk) : List Int := if errPk p = 0 then hdB p.h (loadB p) else []
end Go.Proofs.YtoegfgbalcholaaGreat

/-
  The document's own answers for heads (culvertref04): May, Same.
-/
namespace Go.Proofs.YtoegfgbalcholaaGreat
set_option maxRecDepth 10000
open Go.RowKit
set_option linter.unusedSimpArgs false
set_option linter.unusedVariables false

end Go.Proofs.YtoegfgbalcholaaGreat
