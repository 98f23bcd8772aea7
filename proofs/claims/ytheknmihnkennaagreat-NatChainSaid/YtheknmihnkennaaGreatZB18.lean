/-
  Texts laid together: TcpRead, TcpWakes, LenOf, TcpOpen.
-/
import Derived.Test.YtheknmihnkennaaGreatZB17
import Derived.Deep.CutRange
import Derived.Test.YtheknmihnkennaaGreatZB02
import Derived.Lib.SmallJoins
import Derived.SizedLaws
import Derived.Test.YtheknmihnkennaaGreatZB08

/-
  The contract of package tcp's Parse: what is wrong is told in the document's own order; else the segment, its options and its data in rows of the call's own.
-/
namespace Go.Proofs.YtheknmihnkennaaGreat
set_option maxRecDepth 10000
open Go.RowKit

theorem tparse1_any (B g p1 p2 p3 q n c : Nat) (src dst : Int) (A : Option Addr) (w : World) (hB : p1 < B ∧ p2 < B ∧ p3 < B ∧ q < B ∧ p1 ≠ q ∧ p2 ≠ q ∧ p3 ≠ q) (hl : n ≤ 1480) (b : List Int) (hc : n ≤ c ∧ c ≤ maxLen) (hAB : 0 < n → ∀ x o, A = some ⟨x, o, none⟩ → x < B) (hA : Rd w A n b)
    (hp1 : Box w p1 24 (.int .u32 src)) (hp2 : Box w p2 24 (.int .u32 dst)) (hp3 : Box w p3 22 (.slice A n c)) (hq : w.heap[q]? = some (.cells (segC zeroSeg none 0 0 none 0 0) 29 (0, 0))) (h : Rdr w B g b 0) :
    Calls Tryz.prog 77 #[.pointer (some ⟨g, 0, none⟩), .pointer (some ⟨p1, 0, none⟩), .pointer (some ⟨p2, 0, none⟩), .pointer (some ⟨p3, 0, none⟩), .pointer (some ⟨q, 0, none⟩)] w
      (Did (fun k => k = q) g (SegR q src dst b w) w) := by
  have hlen := hA.len
  by_cases h2 : n < 20
  · exact tparse1_short B g p1 p2 p3 q n src dst b w hB.2.2.2.1 h2 hlen hq h
  · obtain ⟨b0, b1, b2, b3, b4, b5, b6, b7, b8, b9, b10, b11, b12, b13, b14, b15, b16, b17, b18, b19, l, eb⟩ := twenty b (by omega)
    exact tparse1_ok B g p1 p2 p3 q n c src dst A b0 b1 b2 b3 b4 b5 b6 b7 b8 b9 b10 b11 b12 b13 b14 b15 b16 b17 b18 b19 l w hB hl b eb hlen hc (hAB (by omega)) hA hp1 hp2 hp3 hq h

/-- What Parse tells of bytes that are a segment. -/
def SegGoodT (b : List Int) (w : World) (e : Ending) (w' : World) : Prop :=
  ∃ AO nO cO os AD cD, e = .returned (.tuple #[.agg (segC (segOf b (offB b)) AO nO cO AD (b.length - offB b) cD), .int .i64 0]) ∧ OwnO w' w.heap.size AO nO cO os ∧ OwnL w' w.heap.size os (segOf b (offB b)).os ∧
    OwnB w' w.heap.size AD (b.length - offB b) cD (b.drop (offB b)) ∧ Below w.heap.size w w'

theorem tparse_long (src dst : Int) (A : Option Addr) (n c : Nat) (b : List Int) (w : World) (hA : Rd w A n b) (h1 : 1480 < n) :
    Calls Tryz.prog 41 #[.int .u32 src, .int .u32 dst, .slice A n c] w (SegBad (errSeg src dst b) w) := by
  have hal : Below w.heap.size w w := Below.refl _ _
  have Hx := Lib.hid (show errSeg src dst b = 3 by unfold errSeg; rw [if_pos (by rw [hA.len]; exact h1)])
  have i1 : 1480 < (n : Int) := by omega
  rw [Hx.out]
  clear hA h1
  obtain ⟨z, hz⟩ : ∃ z, w.heap.size = z := ⟨_, rfl⟩
  go_enter Tryz.func41, Tryz.ntmps41
  go_upto_region 2 with (fail)
  obtain ⟨w0, hw0⟩ : ∃ w0, w0 = (((w.alloc (.cells #[.int .u32 src] 24)).alloc (.cells #[.int .u32 dst] 24)).alloc (.cells #[.slice A n c] 22)).alloc (.cells #[.int .u16 0, .int .u16 0, .int .u32 0, .int .u32 0, .int .u8 0, .int .u16 0, .int .u16 0, .slice none 0 0, .slice none 0 0] 29) := ⟨_, rfl⟩
  rw [← hw0]
  have hb0 : Below w.heap.size w w0 := by rw [hw0]; exact (((hal.alloc (Nat.le_refl _) _).alloc (by simp) _).alloc (by simp <;> omega) _).alloc (by simp <;> omega) _
  have hrb : w0.heap[z + 3]? = some (.cells #[.int .u16 0, .int .u16 0, .int .u32 0, .int .u32 0, .int .u8 0, .int .u16 0, .int .u16 0, .slice none 0 0, .slice none 0 0] 29 (0, 0)) := by
    rw [hw0, ← hz]
    have := heap_alloc_new (((w.alloc (.cells #[.int .u32 src] 24)).alloc (.cells #[.int .u32 dst] 24)).alloc (.cells #[.slice A n c] 22)) (.cells #[.int .u16 0, .int .u16 0, .int .u32 0, .int .u32 0, .int .u8 0, .int .u16 0, .int .u16 0, .slice none 0 0, .slice none 0 0] 29)
    simpa using this
  have HB := Lib.hid hb0
  have HS9 := Lib.hid (set9_cells hrb)
  obtain ⟨r0, r1, r2, r3, r4, r5, r6, r7, r8⟩ := seg_cells hrb
  have rf := blk_free hrb
  have Hz := Lib.hid hz
  clear hrb hw0 hb0 hal hz
  go_wp2_with fail
  have hz := Hz.out
  obtain ⟨s0, s1, s2, s3, s4, s5, s6, s7, s8⟩ := HS9.out (.int .u16 0) (.int .u16 0) (.int .u32 0) (.int .u32 0) (.int .u8 0) (.int .u16 0) (.int .u16 0) (.slice none 0 0) (.slice none 0 0)
  refine bodyPost_ret (v := .tuple #[.agg #[.int .u16 0, .int .u16 0, .int .u32 0, .int .u32 0, .int .u8 0, .int .u16 0, .int .u16 0, .slice none 0 0, .slice none 0 0], .int .i64 3]) (by simp [results, Tryz.results41, go_sem, s0, s1, s2, s3, s4, s5, s6, s7, s8]) rfl ⟨rfl, ?_⟩
  exact (((((((((HB.out.setCell (by simp <;> omega) _).setCell (by simp <;> omega) _).setCell (by simp <;> omega) _).setCell (by simp <;> omega) _).setCell (by simp <;> omega) _).setCell (by simp <;> omega) _).setCell (by simp <;> omega) _).setCell (by simp <;> omega) _).setCell (by simp <;> omega) _)

theorem tparse_bad (src dst : Int) (A : Option Addr) (n c : Nat) (b : List Int) (x : Int) (w : World) (hc : n ≤ c ∧ c ≤ maxLen) (hn : n ≤ 1480) (hA : Rd w A n b) (hx : errSeg src dst b = x) (h0 : x ≠ 0) :
    Calls Tryz.prog 41 #[.int .u32 src, .int .u32 dst, .slice A n c] w (SegBad x w) := by
  have hmf : ∀ (fn : Fn) (first cap : Array Value) (w : World), (Instr.makeFunc fn first cap).run Tryz.prog w = .ok (.func fn first cap) w := fun _ _ _ _ => rfl
  have hal : Below w.heap.size w w := Below.refl _ _
  have HA := Lib.hid hA
  have Hx := Lib.hid hx
  have hni : (n : Int) ≤ 1480 := by omega
  clear hA hx
  obtain ⟨z, hz⟩ : ∃ z, w.heap.size = z := ⟨_, rfl⟩
  go_enter Tryz.func41, Tryz.ntmps41
  go_wp2_with fail
  obtain ⟨w0, hw0⟩ : ∃ w0, w0 = ((((w.alloc (.cells #[.int .u32 src] 24)).alloc (.cells #[.int .u32 dst] 24)).alloc (.cells #[.slice A n c] 22)).alloc (.cells #[.int .u16 0, .int .u16 0, .int .u32 0, .int .u32 0, .int .u8 0, .int .u16 0, .int .u16 0, .slice none 0 0, .slice none 0 0] 29)).alloc (.cells #[.int .u16 0, .int .u16 0, .int .u32 0, .int .u32 0, .int .u8 0, .int .u16 0, .int .u16 0, .slice none 0 0, .slice none 0 0] 29) := ⟨_, rfl⟩
  rw [← hw0]
  have hsz : w0.heap.size = z + 5 := by rw [hw0, ← hz]; simp
  have hb0 : Below w.heap.size w w0 := by rw [hw0]; exact ((((hal.alloc (Nat.le_refl _) _).alloc (by simp) _).alloc (by simp <;> omega) _).alloc (by simp <;> omega) _).alloc (by simp <;> omega) _
  have h1 : Box w0 z 24 (.int .u32 src) := by rw [hw0, ← hz]; exact ((((Box.new w _ _).alloc _).alloc _).alloc _).alloc _
  have h2 : Box w0 (z + 1) 24 (.int .u32 dst) := by
    rw [hw0, ← hz]
    have := Box.new (w.alloc (.cells #[.int .u32 src] 24)) 24 (.int .u32 dst)
    exact (((by simpa using this : Box _ (w.heap.size + 1) _ _).alloc _).alloc _).alloc _
  have h3 : Box w0 (z + 2) 22 (.slice A n c) := by
    rw [hw0, ← hz]
    have := Box.new ((w.alloc (.cells #[.int .u32 src] 24)).alloc (.cells #[.int .u32 dst] 24)) 22 (.slice A n c)
    exact ((by simpa using this : Box _ (w.heap.size + 2) _ _).alloc _).alloc _
  have h4 : w0.heap[z + 3]? = some (.cells (segC zeroSeg none 0 0 none 0 0) 29 (0, 0)) := by
    rw [hw0, ← hz]
    have := heap_alloc_new (((w.alloc (.cells #[.int .u32 src] 24)).alloc (.cells #[.int .u32 dst] 24)).alloc (.cells #[.slice A n c] 22)) (.cells #[.int .u16 0, .int .u16 0, .int .u32 0, .int .u32 0, .int .u8 0, .int .u16 0, .int .u16 0, .slice none 0 0, .slice none 0 0] 29)
    rw [Below.heap_alloc _ _ _ (by simp)]
    simpa [segC, zeroSeg] using this
  have h5 : w0.heap[z + 4]? = some (.cells (segC zeroSeg none 0 0 none 0 0) 29 (0, 0)) := by
    rw [hw0, ← hz]
    have := heap_alloc_new ((((w.alloc (.cells #[.int .u32 src] 24)).alloc (.cells #[.int .u32 dst] 24)).alloc (.cells #[.slice A n c] 22)).alloc (.cells #[.int .u16 0, .int .u16 0, .int .u32 0, .int .u32 0, .int .u8 0, .int .u16 0, .int .u16 0, .slice none 0 0, .slice none 0 0] 29)) (.cells #[.int .u16 0, .int .u16 0, .int .u32 0, .int .u32 0, .int .u8 0, .int .u16 0, .int .u16 0, .slice none 0 0, .slice none 0 0] 29)
    simpa [segC, zeroSeg] using this
  have hr0 := HA.out.below hb0
  clear hw0
  have hdo := fun w1 g (hb : Below w0.heap.size w0 w1) (_ : w0.heap.size ≤ g) (_ : g < w1.heap.size) (hR : Rdr w1 w0.heap.size g b 0) =>
    tparse1_any w0.heap.size g z (z + 1) (z + 2) (z + 4) n c src dst A w1 (by omega) hn b hc (fun h x o e => by
      obtain ⟨x', o', e', hlt, _⟩ := hr0.at_ h
      rw [e] at e'; injection e' with e'; injection e' with e'; subst e'; exact hlt) (hr0.below hb) (h1.below hb (by omega)) (h2.below hb (by omega)) (h3.below hb (by omega)) ((hb.block _ (by omega)).trans h5) hR
  have hread := read_any (fun k => k = z + 4) _ n c #[.pointer (some ⟨z, 0, none⟩), .pointer (some ⟨z + 1, 0, none⟩), .pointer (some ⟨z + 2, 0, none⟩), .pointer (some ⟨z + 4, 0, none⟩)] _ (fun _ => rfl) A b (SegR (z + 4) src dst b) w0 (fun k hk => by omega) (by omega) hr0 (enter_of Tryz.func77 (by kernel_rfl) rfl) hdo
  have Hb0 := Lib.hid hb0
  have H4 := Lib.hid h4
  have Hsz := Lib.hid hsz
  have Hz := Lib.hid hz
  clear hb0 h1 h2 h3 h4 h5 hr0 hdo hal hsz hz
  refine hread.mono ?_
  clear hread
  rintro e w5 ⟨x', w1, w4, rfl, hb1, ⟨hxe, hR⟩, hb4, hb5⟩
  rw [Hx.out] at hxe
  subst hxe
  rcases hR with ⟨_, hq⟩ | ⟨h, _⟩
  rotate_left 1
  · exact absurd h h0
  have hsz := Hsz.out
  have hz := Hz.out
  have hqb := hb4.blk hq (by omega)
  have hrb := hb5.blk H4.out (by omega)
  unfold segC zeroSeg at hqb hrb
  have hB := Hb0.out.trans (hb5.below (B := w.heap.size) (fun k hk => by omega) Hb0.out.size)
  have HB := Lib.hid hB
  obtain ⟨q0, q1, q2, q3, q4, q5, q6, q7, q8⟩ := seg_cells hqb
  obtain ⟨r0, r1, r2, r3, r4, r5, r6, r7, r8⟩ := seg_cells hrb
  have rf := blk_free hrb
  have HS9 := Lib.hid (set9_cells hrb)
  clear hqb hrb hq hb1 hb4 hb5 hsz hB
  clear hz
  go_wp2_with fail
  have hz := Hz.out
  obtain ⟨s0, s1, s2, s3, s4, s5, s6, s7, s8⟩ := HS9.out (.int .u16 0) (.int .u16 0) (.int .u32 0) (.int .u32 0) (.int .u8 0) (.int .u16 0) (.int .u16 0) (.slice none 0 0) (.slice none 0 0)
  refine bodyPost_ret (v := .tuple #[.agg #[.int .u16 0, .int .u16 0, .int .u32 0, .int .u32 0, .int .u8 0, .int .u16 0, .int .u16 0, .slice none 0 0, .slice none 0 0], .int .i64 x']) (by simp [results, Tryz.results41, go_sem, s0, s1, s2, s3, s4, s5, s6, s7, s8]) rfl ⟨rfl, ?_⟩
  exact (((((((((HB.out.setCell (by simp <;> omega) _).setCell (by simp <;> omega) _).setCell (by simp <;> omega) _).setCell (by simp <;> omega) _).setCell (by simp <;> omega) _).setCell (by simp <;> omega) _).setCell (by simp <;> omega) _).setCell (by simp <;> omega) _).setCell (by simp <;> omega) _)

theorem tparse_good (src dst : Int) (A : Option Addr) (n c : Nat) (b : List Int) (w : World) (hc : n ≤ c ∧ c ≤ maxLen) (hn : n ≤ 1480) (hA : Rd w A n b) (hx : errSeg src dst b = 0) :
    Calls Tryz.prog 41 #[.int .u32 src, .int .u32 dst, .slice A n c] w (SegGoodT b w) := by
  have hmf : ∀ (fn : Fn) (first cap : Array Value) (w : World), (Instr.makeFunc fn first cap).run Tryz.prog w = .ok (.func fn first cap) w := fun _ _ _ _ => rfl
  have hal : Below w.heap.size w w := Below.refl _ _
  have HA := Lib.hid hA
  have Hx := Lib.hid hx
  have hni : (n : Int) ≤ 1480 := by omega
  clear hA hx
  obtain ⟨z, hz⟩ : ∃ z, w.heap.size = z := ⟨_, rfl⟩
  go_enter Tryz.func41, Tryz.ntmps41
  go_wp2_with fail
  obtain ⟨w0, hw0⟩ : ∃ w0, w0 = ((((w.alloc (.cells #[.int .u32 src] 24)).alloc (.cells #[.int .u32 dst] 24)).alloc (.cells #[.slice A n c] 22)).alloc (.cells #[.int .u16 0, .int .u16 0, .int .u32 0, .int .u32 0, .int .u8 0, .int .u16 0, .int .u16 0, .slice none 0 0, .slice none 0 0] 29)).alloc (.cells #[.int .u16 0, .int .u16 0, .int .u32 0, .int .u32 0, .int .u8 0, .int .u16 0, .int .u16 0, .slice none 0 0, .slice none 0 0] 29) := ⟨_, rfl⟩
  rw [← hw0]
  have hsz : w0.heap.size = z + 5 := by rw [hw0, ← hz]; simp
  have hb0 : Below w.heap.size w w0 := by rw [hw0]; exact ((((hal.alloc (Nat.le_refl _) _).alloc (by simp) _).alloc (by simp <;> omega) _).alloc (by simp <;> omega) _).alloc (by simp <;> omega) _
  have h1 : Box w0 z 24 (.int .u32 src) := by rw [hw0, ← hz]; exact ((((Box.new w _ _).alloc _).alloc _).alloc _).alloc _
  have h2 : Box w0 (z + 1) 24 (.int .u32 dst) := by
    rw [hw0, ← hz]
    have := Box.new (w.alloc (.cells #[.int .u32 src] 24)) 24 (.int .u32 dst)
    exact (((by simpa using this : Box _ (w.heap.size + 1) _ _).alloc _).alloc _).alloc _
  have h3 : Box w0 (z + 2) 22 (.slice A n c) := by
    rw [hw0, ← hz]
    have := Box.new ((w.alloc (.cells #[.int .u32 src] 24)).alloc (.cells #[.int .u32 dst] 24)) 22 (.slice A n c)
    exact ((by simpa using this : Box _ (w.heap.size + 2) _ _).alloc _).alloc _
  have h4 : w0.heap[z + 3]? = some (.cells (segC zeroSeg none 0 0 none 0 0) 29 (0, 0)) := by
    rw [hw0, ← hz]
    have := heap_alloc_new (((w.alloc (.cells #[.int .u32 src] 24)).alloc (.cells #[.int .u32 dst] 24)).alloc (.cells #[.slice A n c] 22)) (.cells #[.int .u16 0, .int .u16 0, .int .u32 0, .int .u32 0, .int .u8 0, .int .u16 0, .int .u16 0, .slice none 0 0, .slice none 0 0] 29)
    rw [Below.heap_alloc _ _ _ (by simp)]
    simpa [segC, zeroSeg] using this
  have h5 : w0.heap[z + 4]? = some (.cells (segC zeroSeg none 0 0 none 0 0) 29 (0, 0)) := by
    rw [hw0, ← hz]
    have := heap_alloc_new ((((w.alloc (.cells #[.int .u32 src] 24)).alloc (.cells #[.int .u32 dst] 24)).alloc (.cells #[.slice A n c] 22)).alloc (.cells #[.int .u16 0, .int .u16 0, .int .u32 0, .int .u32 0, .int .u8 0, .int .u16 0, .int .u16 0, .slice none 0 0, .slice none 0 0] 29)) (.cells #[.int .u16 0, .int .u16 0, .int .u32 0, .int .u32 0, .int .u8 0, .int .u16 0, .int .u16 0, .slice none 0 0, .slice none 0 0] 29)
    simpa [segC, zeroSeg] using this
  have hr0 := HA.out.below hb0
  clear hw0
  have hdo := fun w1 g (hb : Below w0.heap.size w0 w1) (_ : w0.heap.size ≤ g) (_ : g < w1.heap.size) (hR : Rdr w1 w0.heap.size g b 0) =>
    tparse1_any w0.heap.size g z (z + 1) (z + 2) (z + 4) n c src dst A w1 (by omega) hn b hc (fun h x o e => by
      obtain ⟨x', o', e', hlt, _⟩ := hr0.at_ h
      rw [e] at e'; injection e' with e'; injection e' with e'; subst e'; exact hlt) (hr0.below hb) (h1.below hb (by omega)) (h2.below hb (by omega)) (h3.below hb (by omega)) ((hb.block _ (by omega)).trans h5) hR
  have hread := read_any (fun k => k = z + 4) _ n c #[.pointer (some ⟨z, 0, none⟩), .pointer (some ⟨z + 1, 0, none⟩), .pointer (some ⟨z + 2, 0, none⟩), .pointer (some ⟨z + 4, 0, none⟩)] _ (fun _ => rfl) A b (SegR (z + 4) src dst b) w0 (fun k hk => by omega) (by omega) hr0 (enter_of Tryz.func77 (by kernel_rfl) rfl) hdo
  have Hb0 := Lib.hid hb0
  have H4 := Lib.hid h4
  have Hsz := Lib.hid hsz
  have Hz := Lib.hid hz
  clear hb0 h1 h2 h3 h4 h5 hr0 hdo hal hsz hz
  refine hread.mono ?_
  clear hread
  rintro e w5 ⟨x', w1, w4, rfl, hb1, ⟨hxe, hR⟩, hb4, hb5⟩
  rw [Hx.out] at hxe
  subst hxe
  rcases hR with ⟨h, _⟩ | ⟨_, AO, nO, cO, os, AD, cD, hq, ho, hl, hd⟩
  · exact absurd rfl h
  have hsz := Hsz.out
  have hz := Hz.out
  have hqb := hb4.blk hq (by omega)
  have hrb := hb5.blk H4.out (by omega)
  have ho5 := ho.but hb4 (fun k e => by have := ho.at_ e; omega)
  have hl5 := hl.but hb4 (fun _ _ _ k h2 => by have := h2.at_ rfl; omega)
  have hd5 := hd.but hb4 (fun k hk e => by omega)
  obtain ⟨S, eS⟩ : ∃ S, segOf b (offB b) = S := ⟨_, rfl⟩
  obtain ⟨nD, enD⟩ : ∃ nD, b.length - offB b = nD := ⟨_, rfl⟩
  rw [eS] at hl5
  rw [eS, enD] at hqb
  rw [enD] at hd5
  unfold segC at hqb
  unfold segC zeroSeg at hrb
  have hB := Hb0.out.trans (hb5.below (B := w.heap.size) (fun k hk => by omega) Hb0.out.size)
  have HB := Lib.hid hB
  have Hfin : Hid (∀ w', Below w.heap.size w w' → OwnO w' w.heap.size AO nO cO os → OwnL w' w.heap.size os S.os → OwnB w' w.heap.size AD nD cD (b.drop (offB b)) →
      SegGoodT b w (.returned (.tuple #[.agg #[.int .u16 S.sp, .int .u16 S.dp, .int .u32 S.sq, .int .u32 S.ak, .int .u8 S.fl, .int .u16 S.wn, .int .u16 S.ug, .slice AO nO cO, .slice AD nD cD], .int .i64 0])) w') :=
    fun w' h1 h2 h3 h4 => ⟨AO, nO, cO, os, AD, cD, by rw [eS, enD]; rfl, h2, by rw [eS]; exact h3, by rw [enD]; exact h4, h1⟩
  obtain ⟨q0, q1, q2, q3, q4, q5, q6, q7, q8⟩ := seg_cells hqb
  obtain ⟨r0, r1, r2, r3, r4, r5, r6, r7, r8⟩ := seg_cells hrb
  have rf := blk_free hrb
  have HS9 := Lib.hid (set9_cells hrb)
  have Hset := Lib.hid (set9_but w5 (z + 3))
  have HO := Lib.hid ho5
  have HL := Lib.hid hl5
  have HD := Lib.hid hd5
  have hw1 : z + 5 ≤ w1.heap.size := by have := hb1.size; omega
  obtain ⟨sp, dp, sq, ak, fl, wn, ug, oS, dS⟩ := S
  simp only at q0 q1 q2 q3 q4 q5 q6 q7 q8 Hfin HL
  clear hqb hrb hq hb1 hb4 hb5 hsz hB ho hl hd ho5 hl5 hd5 eS enD hz
  go_wp2_with fail
  have hz := Hz.out
  obtain ⟨s0, s1, s2, s3, s4, s5, s6, s7, s8⟩ := HS9.out (.int .u16 sp) (.int .u16 dp) (.int .u32 sq) (.int .u32 ak) (.int .u8 fl) (.int .u16 wn) (.int .u16 ug) (.slice AO nO cO) (.slice AD nD cD)
  have Hset := Hset.out (.int .u16 sp) (.int .u16 dp) (.int .u32 sq) (.int .u32 ak) (.int .u8 fl) (.int .u16 wn) (.int .u16 ug) (.slice AO nO cO) (.slice AD nD cD)
  refine bodyPost_ret (v := .tuple #[.agg #[.int .u16 sp, .int .u16 dp, .int .u32 sq, .int .u32 ak, .int .u8 fl, .int .u16 wn, .int .u16 ug, .slice AO nO cO, .slice AD nD cD], .int .i64 0]) (by simp [results, Tryz.results41, go_sem, s0, s1, s2, s3, s4, s5, s6, s7, s8]) rfl (Hfin.out _ ?_ ?_ ?_ ?_)
  · exact (((((((((HB.out.setCell (by simp <;> omega) _).setCell (by simp <;> omega) _).setCell (by simp <;> omega) _).setCell (by simp <;> omega) _).setCell (by simp <;> omega) _).setCell (by simp <;> omega) _).setCell (by simp <;> omega) _).setCell (by simp <;> omega) _).setCell (by simp <;> omega) _)
  · exact (HO.out.but Hset (fun k e => by have := HO.out.at_ e; omega)).mono (by omega)
  · exact (HL.out.but Hset (fun _ _ _ k h2 => by have := h2.at_ rfl; omega)).low (by omega)
  · exact (HD.out.but Hset (fun k hk e => by omega)).mono (by omega)

/-- Parse, by whether something is wrong. -/
theorem tparse_err (src dst : Int) (A : Option Addr) (n c : Nat) (b : List Int) (x : Int) (w : World) (hc : n ≤ c ∧ c ≤ maxLen) (hA : Rd w A n b) (hx : errSeg src dst b = x) (h0 : x ≠ 0) :
    Calls Tryz.prog 41 #[.int .u32 src, .int .u32 dst, .slice A n c] w (SegBad x w) := by
  by_cases h1 : 1480 < n
  · have := tparse_long src dst A n c b w hA h1
    rw [hx] at this
    exact this
  · exact tparse_bad src dst A n c b x w hc (by omega) hA hx h0
theorem tparse_ok (src dst : Int) (A : Option Addr) (n c : Nat) (b : List Int) (w : World) (hc : n ≤ c ∧ c ≤ maxLen) (hA : Rd w A n b) (hx : errSeg src dst b = 0) :
    Calls Tryz.prog 41 #[.int .u32 src, .int .u32 dst, .slice A n c] w (SegGoodT b w) := by
  refine tparse_good src dst A n c b w hc ?_ hA hx
  rw [← hA.len]
  unfold errSeg at hx
  by_cases h3 : 1480 < b.length
  · rw [if_pos h3] at hx; omega
  · omega
end Go.Proofs.YtheknmihnkennaaGreat

/-
  culvertlaw06's wakes: what the document's examples say.
-/
namespace Go.Proofs.YtheknmihnkennaaGreat
set_option maxRecDepth 10000
open Go.RowKit

theorem segB_bytes {src dst : Int} {s : Seg} (h : SegNum s) (h0 : errS s = 0) (ho : ∀ l ∈ s.os, (0 ≤ l.1 ∧ l.1 < 256) ∧ ∀ x ∈ l.2, 0 ≤ x ∧ x < 256) (hd : ∀ x ∈ s.d, 0 ≤ x ∧ x < 256) : ∀ x ∈ segB src dst s, 0 ≤ x ∧ x < 256 := by
  have hm := (errS_zero s).1 h0
  unfold mayT at hm
  simp at hm
  have hl := padTo4_len (bytesO s.os)
  have hyl : ∀ l ∈ s.os, l.2.length ≤ 38 := fun l hl => (badB_false (by have := hm.1.1; simpa using this l.1 l.2 hl)).2
  intro x hx
  unfold segB at hx
  rcases List.mem_append.1 hx with h1 | h1
  · rcases List.mem_append.1 h1 with h2 | h2
    · refine segHd_bytes s _ _ h.fl ?_ x h2
      unfold offS optB
      omega
    · exact padTo4_bytes_ (bytesO_bytes ho hyl) x h2
  · exact hd x h1

end Go.Proofs.YtheknmihnkennaaGreat

/-
  How long a slice that comes in is, as its reading has it; bytes that come in, opened. No function of the program.
-/
namespace Go.Proofs.YtheknmihnkennaaGreat
set_option maxRecDepth 10000
open Go.Joins Go.ChangeShapes Go.WideShapes Go.ChangeAt Go.RowKit Go.Deep

def BytesIn (w : World) (v : Value) : Prop := ∃ A n c l, v = .slice A n c ∧ (n ≤ c ∧ c ≤ maxLen) ∧ Rd w A n l
section
variable {H : Type} {enc : TypeId × Value → H} {W : World} {base : Nat} {v : Value} {d : DataW H} {p : List MemPlace}
theorem bytes_in (hv : Value.okWide Tryz.prog W .any base 22 v) (h : DataW.Trod enc Tryz.prog W 0 (fun _ => true) true 22 v d p) : BytesIn W v := by
  obtain ⟨a0, len0, cap0, rfl⟩ := okWide_slice Tryz.underlying22 hv
  obtain ⟨m, hm⟩ := h
  obtain ⟨A, n, c, l, e, h1, h2, h3⟩ := rd_open (y := (d, p)) (by simpa [Value.cells] using hm)
  exact ⟨A, n, c, l, e, ⟨h1, h2⟩, h3⟩
end
end Go.Proofs.YtheknmihnkennaaGreat

/-
  A segment (api.Segment) that comes in, opened: numbers within their bounds, a slice of options, a slice of bytes.
-/
namespace Go.Proofs.YtheknmihnkennaaGreat
set_option maxRecDepth 10000
open Go.Joins Go.ChangeShapes Go.WideShapes Go.ChangeAt Go.RowKit Go.Deep

section
variable {H : Type} {enc : TypeId × Value → H} {P : Program} {w : World} {base : Nat} {spare : Nat → Bool} {held : Bool}
end

end Go.Proofs.YtheknmihnkennaaGreat
