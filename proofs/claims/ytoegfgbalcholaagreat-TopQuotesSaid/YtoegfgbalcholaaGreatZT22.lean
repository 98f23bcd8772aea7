/-
  Texts laid together: TcpRead, TcpWakes, LenOf, TcpOpen.
-/
import Derived.Test.YtoegfgbalcholaaGreatZT18
import Derived.Deep.CutRange
import Derived.Test.YtoegfgbalcholaaGreatZT02
import Derived.Lib.SmallJoins
import Derived.SizedLaws
import Derived.Test.YtoegfgbalcholaaGreatZT11

/-
  The contract of package tcp's Parse: what is wrong is told in the document's own order; else the segment, its options and its data in rows of the call's own.
-/
namespace Go.Proofs.YtoegfgbalcholaaGreat
set_option maxRecDepth 10000
open Go.RowKit

theorem tparse1_any (B g p1 p2 p3 q n c : Nat) (src dst : Int) (A : Option Addr) (w : World) (hB : p1 < B ∧ p2 < B ∧ p3 < B ∧ q < B ∧ p1 ≠ q ∧ p2 ≠ q ∧ p3 ≠ q) (hl : n ≤ 1480) (b : List Int) (hc : n ≤ c ∧ c ≤ maxLen) (hAB : 0 < n → ∀ x o, A = some ⟨x, o, none⟩ → x < B) (hA : Rd w A n b)
    (hp1 : Box w p1 23 (.int .u32 src)) (hp2 : Box w p2 23 (.int .u32 dst)) (hp3 : Box w p3 24 (.slice A n c)) (hq : w.heap[q]? = some (.cells (segC zeroSeg none 0 0 none 0 0) 29 (0, 0))) (h : Rdr w B g b 0) :
    Calls Tryz.prog 109 #[.pointer (some ⟨g, 0, none⟩), .pointer (some ⟨p1, 0, none⟩), .pointer (some ⟨p2, 0, none⟩), .pointer (some ⟨p3, 0, none⟩), .pointer (some ⟨q, 0, none⟩)] w
      (Did (fun k => k = q) g (SegR q src dst b w) w) := by
  have hlen := hA.len
  by_cases h2 : n < 20
  · exact tparse1_short B g p1 p2 p3 q n src dst b w hB.2.2.2.1 h2 hlen hq h
  · obtain ⟨b0, b1, b2, b3, b4, b5, b6, b7, b8, b9, b10, b11, b12, b13, b14, b15, b16, b17, b18, b19, l, eb⟩ := twenty b (by omega)
    exact tparse1_ok B g p1 p2 p3 q n c src dst A b0 b1 b2 b3 b4 b5 b6 b7 b8 b9 b10 b11 b12 b13 b14 b15 b16 b17 b18 b19 l w hB hl b eb hlen hc (hAB (by omega)) hA hp1 hp2 hp3 hq h

/-- What Parse tells of bytes that are a segment. -/
def SegGoodT (b : List Int) (w : World) (e : Ending) (w' : World) : Prop :=
  ∃ AO nO cO os AD cD, e = .returned (.tuple #[.agg (segC (segOf b (offB b)) AO nO cO AD (b.length - offB b) cD), .int .i64 0]) ∧ OwnO w' w.heap.size AO nO cO os ∧ OwnL w' w.heap.size os (segOf b (offB b)).os ∧
    OwnB w' w.heap.size AD (b.length - offB b) cD (b.drop (offB b)) ∧ Below w.heap.size w w'

theorem tparse_good (src dst : Int) (A : Option Addr) (n c : Nat) (b : List Int) (w : World) (hc : n ≤ c ∧ c ≤ maxLen) (hn : n ≤ 1480) (hA : Rd w A n b) (hx : errSeg src dst b = 0) :
    Calls Tryz.prog 72 #[.int .u32 src, .int .u32 dst, .slice A n c] w (SegGoodT b w) := by
  have hmf : ∀ (fn : Fn) (first cap : Array Value) (w : World), (Instr.makeFunc fn first cap).run Tryz.prog w = .ok (.func fn first cap) w := fun _ _ _ _ => rfl
  have hal : Below w.heap.size w w := Below.refl _ _
  have HA := Lib.hid hA
  have Hx := Lib.hid hx
  have hni : (n : Int) ≤ 1480 := by omega
  clear hA hx
  obtain ⟨z, hz⟩ : ∃ z, w.heap.size = z := ⟨_, rfl⟩
  go_enter Tryz.func72, Tryz.ntmps72
  go_wp2_with fail
  obtain ⟨w0, hw0⟩ : ∃ w0, w0 = ((((w.alloc (.cells #[.int .u32 src] 23)).alloc (.cells #[.int .u32 dst] 23)).alloc (.cells #[.slice A n c] 24)).alloc (.cells #[.int .u16 0, .int .u16 0, .int .u32 0, .int .u32 0, .int .u8 0, .int .u16 0, .int .u16 0, .slice none 0 0, .slice none 0 0] 29)).alloc (.cells #[.int .u16 0, .int .u16 0, .int .u32 0, .int .u32 0, .int .u8 0, .int .u16 0, .int .u16 0, .slice none 0 0, .slice none 0 0] 29) := ⟨_, rfl⟩
  rw [← hw0]
  have hsz : w0.heap.size = z + 5 := by rw [hw0, ← hz]; simp
  have hb0 : Below w.heap.size w w0 := by rw [hw0]; exact ((((hal.alloc (Nat.le_refl _) _).alloc (by simp) _).alloc (by simp <;> omega) _).alloc (by simp <;> omega) _).alloc (by simp <;> omega) _
  have h1 : Box w0 z 23 (.int .u32 src) := by rw [hw0, ← hz]; exact ((((Box.new w _ _).alloc _).alloc _).alloc _).alloc _
  have h2 : Box w0 (z + 1) 23 (.int .u32 dst) := by
    rw [hw0, ← hz]
    have := Box.new (w.alloc (.cells #[.int .u32 src] 23)) 23 (.int .u32 dst)
    exact (((by simpa using this : Box _ (w.heap.size + 1) _ _).alloc _).alloc _).alloc _
  have h3 : Box w0 (z + 2) 24 (.slice A n c) := by
    rw [hw0, ← hz]
    have := Box.new ((w.alloc (.cells #[.int .u32 src] 23)).alloc (.cells #[.int .u32 dst] 23)) 24 (.slice A n c)
    exact ((by simpa using this : Box _ (w.heap.size + 2) _ _).alloc _).alloc _
  have h4 : w0.heap[z + 3]? = some (.cells (segC zeroSeg none 0 0 none 0 0) 29 (0, 0)) := by
    rw [hw0, ← hz]
    have := heap_alloc_new (((w.alloc (.cells #[.int .u32 src] 23)).alloc (.cells #[.int .u32 dst] 23)).alloc (.cells #[.slice A n c] 24)) (.cells #[.int .u16 0, .int .u16 0, .int .u32 0, .int .u32 0, .int .u8 0, .int .u16 0, .int .u16 0, .slice none 0 0, .slice none 0 0] 29)
    rw [Below.heap_alloc _ _ _ (by simp)]
    simpa [segC, zeroSeg] using this
  have h5 : w0.heap[z + 4]? = some (.cells (segC zeroSeg none 0 0 none 0 0) 29 (0, 0)) := by
    rw [hw0, ← hz]
    have := heap_alloc_new ((((w.alloc (.cells #[.int .u32 src] 23)).alloc (.cells #[.int .u32 dst] 23)).alloc (.cells #[.slice A n c] 24)).alloc (.cells #[.int .u16 0, .int .u16 0, .int .u32 0, .int .u32 0, .int .u8 0, .int .u16 0, .int .u16 0, .slice none 0 0, .slice none 0 0] 29)) (.cells #[.int .u16 0, .int .u16 0, .int .u32 0, .int .u32 0, .int .u8 0, .int .u16 0, .int .u16 0, .slice none 0 0, .slice none 0 0] 29)
    simpa [segC, zeroSeg] using this
  have hr0 := HA.out.below hb0
  clear hw0
  have hdo := fun w1 g (hb : Below w0.heap.size w0 w1) (_ : w0.heap.size ≤ g) (_ : g < w1.heap.size) (hR : Rdr w1 w0.heap.size g b 0) =>
    tparse1_any w0.heap.size g z (z + 1) (z + 2) (z + 4) n c src dst A w1 (by omega) hn b hc (fun h x o e => by
      obtain ⟨x', o', e', hlt, _⟩ := hr0.at_ h
      rw [e] at e'; injection e' with e'; injection e' with e'; subst e'; exact hlt) (hr0.below hb) (h1.below hb (by omega)) (h2.below hb (by omega)) (h3.below hb (by omega)) ((hb.block _ (by omega)).trans h5) hR
  have hread := read_any (fun k => k = z + 4) _ n c #[.pointer (some ⟨z, 0, none⟩), .pointer (some ⟨z + 1, 0, none⟩), .pointer (some ⟨z + 2, 0, none⟩), .pointer (some ⟨z + 4, 0, none⟩)] _ (fun _ => rfl) A b (SegR (z + 4) src dst b) w0 (fun k hk => by omega) (by omega) hr0 (enter_of Tryz.func109 (by kernel_rfl) rfl) hdo
  have Hb0 := Lib.hid hb0
  have H4 := Lib.hid h4
  have Hsz := Lib.hid hsz
  have Hz := Lib.hid hz
  clear hb0 h1 h2 h3 h4 h5 hr0 hdo hal hsz hz
  refine hread.mono ?_
  clear hread
  rintro e w5 ⟨x', w1, w4, rfl, hb1, ⟨hxe, hR⟩, hb4, hb5⟩
  rw [Hx.out] at hxe
  subst hxe
  rcases hR with ⟨h, _⟩ | ⟨_, AO, nO, cO, os, AD, cD, hq, ho, hl, hd⟩
  · exact absurd rfl h
  have hsz := Hsz.out
  have hz := Hz.out
  have hqb := hb4.blk hq (by omega)
  have hrb := hb5.blk H4.out (by omega)
  have ho5 := ho.but hb4 (fun k e => by have := ho.at_ e; omega)
  have hl5 := hl.but hb4 (fun _ _ _ k h2 => by have := h2.at_ rfl; omega)
  have hd5 := hd.but hb4 (fun k hk e => by omega)
  obtain ⟨S, eS⟩ : ∃ S, segOf b (offB b) = S := ⟨_, rfl⟩
  obtain ⟨nD, enD⟩ : ∃ nD, b.length - offB b = nD := ⟨_, rfl⟩
  rw [eS] at hl5
  rw [eS, enD] at hqb
  rw [enD] at hd5
  unfold segC at hqb
  unfold segC zeroSeg at hrb
  have hB := Hb0.out.trans (hb5.below (B := w.heap.size) (fun k hk => by omega) Hb0.out.size)
  have HB := Lib.hid hB
  have Hfin : Hid (∀ w', Below w.heap.size w w' → OwnO w' w.heap.size AO nO cO os → OwnL w' w.heap.size os S.os → OwnB w' w.heap.size AD nD cD (b.drop (offB b)) →
      SegGoodT b w (.returned (.tuple #[.agg #[.int .u16 S.sp, .int .u16 S.dp, .int .u32 S.sq, .int .u32 S.ak, .int .u8 S.fl, .int .u16 S.wn, .int .u16 S.ug, .slice AO nO cO, .slice AD nD cD], .int .i64 0])) w') :=
    fun w' h1 h2 h3 h4 => ⟨AO, nO, cO, os, AD, cD, by rw [eS, enD]; rfl, h2, by rw [eS]; exact h3, by rw [enD]; exact h4, h1⟩
  obtain ⟨q0, q1, q2, q3, q4, q5, q6, q7, q8⟩ := seg_cells hqb
  obtain ⟨r0, r1, r2, r3, r4, r5, r6, r7, r8⟩ := seg_cells hrb
  have rf := blk_free hrb
  have HS9 := Lib.hid (set9_cells hrb)
  have Hset := Lib.hid (set9_but w5 (z + 3))
  have HO := Lib.hid ho5
  have HL := Lib.hid hl5
  have HD := Lib.hid hd5
  have hw1 : z + 5 ≤ w1.heap.size := by have := hb1.size; omega
  obtain ⟨sp, dp, sq, ak, fl, wn, ug, oS, dS⟩ := S
  simp only at q0 q1 q2 q3 q4 q5 q6 q7 q8 Hfin HL
  clear hqb hrb hq hb1 hb4 hb5 hsz hB ho hl hd ho5 hl5 hd5 eS enD hz
  go_wp2_with fail
  have hz := Hz.out
  obtain ⟨s0, s1, s2, s3, s4, s5, s6, s7, s8⟩ := HS9.out (.int .u16 sp) (.int .u16 dp) (.int .u32 sq) (.int .u32 ak) (.int .u8 fl) (.int .u16 wn) (.int .u16 ug) (.slice AO nO cO) (.slice AD nD cD)
  have Hset := Hset.out (.int .u16 sp) (.int .u16 dp) (.int .u32 sq) (.int .u32 ak) (.int .u8 fl) (.int .u16 wn) (.int .u16 ug) (.slice AO nO cO) (.slice AD nD cD)
  refine bodyPost_ret (v := .tuple #[.agg #[.int .u16 sp, .int .u16 dp, .int .u32 sq, .int .u32 ak, .int .u8 fl, .int .u16 wn, .int .u16 ug, .slice AO nO cO, .slice AD nD cD], .int .i64 0]) (by simp [results, Tryz.results72, go_sem, s0, s1, s2, s3, s4, s5, s6, s7, s8]) rfl (Hfin.out _ ?_ ?_ ?_ ?_)
  · exact (((((((((HB.out.setCell (by simp <;> omega) _).setCell (by simp <;> omega) _).setCell (by simp <;> omega) _).setCell (by simp <;> omega) _).setCell (by simp <;> omega) _).setCell (by simp <;> omega) _).setCell (by simp <;> omega) _).setCell (by simp <;> omega) _).setCell (by simp <;> omega) _)
  · exact (HO.out.but Hset (fun k e => by have := HO.out.at_ e; omega)).mono (by omega)
  · exact (HL.out.but Hset (fun _ _ _ k h2 => by have := h2.at_ rfl; omega)).low (by omega)
  · exact (HD.out.but Hset (fun k hk e => by omega)).mono (by omega)

theorem tparse_ok (src dst : Int) (A : Option Addr) (n c : Nat) (b : List Int) (w : World) (hc : n ≤ c ∧ c ≤ maxLen) (hA : Rd w A n b) (hx : errSeg src dst b = 0) :
    Calls Tryz.prog 72 #[.int .u32 src, .int .u32 dst, .slice A n c] w (SegGoodT b w) := by
  refine tparse_good src dst A n c b w hc ?_ hA hx
  rw [← hA.len]
  unfold errSeg at hx
  by_cases h3 : 1480 < b.length
  · rw [if_pos h3] at hx; omega
  · omega
end Go.Proofs.YtoegfgbalcholaaGreat

/-
  culvertlaw06's wakes: what the document's examples say.
-/
namespace Go.Proofs.YtoegfgbalcholaaGreat
set_option maxRecDepth 10000
open Go.RowKit

theorem segB_bytes {src dst : Int} {s : Seg} (h : SegNum s) (h0 : errS s = 0) (ho : ∀ l ∈ s.os, (0 ≤ l.1 ∧ l.1 < 256) ∧ ∀ x ∈ l.2, 0 ≤ x ∧ x < 256) (hd : ∀ x ∈ s.d, 0 ≤ x ∧ x < 256) : ∀ x ∈ segB src dst s, 0 ≤ x ∧ x < 256 := by
  have hm := (errS_zero s).1 h0
  unfold mayT at hm
  simp at hm
  have hl := padTo4_len (bytesO s.os)
  have hyl : ∀ l ∈ s.os, l.2.length ≤ 38 := fun l hl => (badB_false (by have := hm.1.1; simpa using this l.1 l.2 hl)).2
  intro x hx
  unfold segB at hx
  rcases List.mem_append.1 hx with h1 | h1
  · rcases List.mem_append.1 h1 with h2 | h2
    · refine segHd_bytes s _ _ h.fl ?_ x h2
      unfold offS optB
      omega
    · exact padTo4_bytes_ (bytesO_bytes ho hyl) x h2
  · exact hd x h1

end Go.Proofs.YtoegfgbalcholaaGreat

/-
  How long a slice that comes in is, as its reading has it; bytes that come in, opened. No function of the program.
-/
namespace Go.Proofs.YtoegfgbalcholaaGreat
set_option maxRecDepth 10000
open Go.Joins Go.ChangeShapes Go.WideShapes Go.ChangeAt Go.RowKit Go.Deep

/-- How long a slice is, as its reading has it. -/
def LenOf {H : Type} (d : DataW H) (n : Nat) : Prop := n = 0 ∨ ∃ elems spare, d = .slice elems spare ∧ elems.length = n

theorem bytes_read {H : Type} {enc : TypeId × Value → H} {W : World} {n0 : Nat} {v : Value} {y : DataW H × List MemPlace}
    (h : DataW.trod enc Tryz.prog W 0 (fun _ => true) true n0 24 [v] = some y) : ∃ A n c l, v = .slice A n c ∧ n ≤ c ∧ c ≤ maxLen ∧ Rd W A n l ∧ LenOf y.1 n := by
  rcases open_ints Tryz.underlying24 Tryz.underlying5 (by kernel_rfl) h with ⟨hcs, _⟩ | ⟨x, len, cap, zs, hcs, _, hl, hm, hz, hx, hcell, hwz⟩
  · simp at hcs
    exact ⟨none, 0, 0, [], hcs, Nat.le_refl _, by simp [maxLen], Rd.nil _ _, .inl rfl⟩
  · simp at hcs
    refine ⟨some x, len, cap, zs.take len, hcs, hl, hm, ⟨?_, ?_, ?_⟩, .inr ⟨_, _, by rw [hx], ?_⟩⟩
    · rw [List.length_take]; simp at hz; omega
    · intro z hz'
      have := bounds_u8 (hwz z (List.mem_of_mem_take hz'))
      omega
    · intro h0
      simp at hz
      obtain ⟨b, o, rfl, hc⟩ := ints_at hcell (by omega)
      refine ⟨b, o, rfl, World.block_lt_of_cell? W _ (hc 0 (by omega)), fun i hi => ?_⟩
      rw [hc i (by omega)]
      simp [List.getD, List.getElem?_take_of_lt hi]
    · simp at hz
      simp [lits, List.length_take]
      omega

theorem bytes_u8 : Tryz.prog.bytesOf 5 = 1 := by kernel_rfl
theorem len_sized {H : Type} {t : TypeId} {ts : List TypeId} {ds : List (DataW H)} {j : Nat} {e : TypeId} {d : DataW H} {n : Nat} (h : ∀ k ∈ DataW.weightsEach Tryz.prog ts ds, k ≤ reachBytes) (ht : ts[j]? = some t) (hd : ds[j]? = some d) (hu : Tryz.prog.underlying t = some (.slice e)) (hb : 1 ≤ Tryz.prog.bytesOf e) (hn : LenOf d n) : n ≤ 140737488355328 := by
  rcases hn with rfl | ⟨elems, spare, rfl, rfl⟩
  · omega
  · have h1 := h _ (DataW.weights_mem_each ht hd ((elems.length + spare.length) * Tryz.prog.bytesOf e) (by simp [DataW.weights, hu]))
    have h2 : elems.length ≤ (elems.length + spare.length) * Tryz.prog.bytesOf e := Nat.le_trans (Nat.le_add_right _ _) (Nat.le_mul_of_pos_right _ hb)
    have h3 := reachBytes_lt
    omega

section
variable {H : Type} {enc : TypeId × Value → H} {W : World} {base : Nat} {v : Value} {d : DataW H} {p : List MemPlace}
end
end Go.Proofs.YtoegfgbalcholaaGreat

/-
  A segment (api.Segment) that comes in, opened: numbers within their bounds, a slice of options, a slice of bytes.
-/
namespace Go.Proofs.YtoegfgbalcholaaGreat
set_option maxRecDepth 10000
open Go.Joins Go.ChangeShapes Go.WideShapes Go.ChangeAt Go.RowKit Go.Deep

section
variable {H : Type} {enc : TypeId × Value → H} {P : Program} {w : World} {base : Nat} {spare : Nat → Bool} {held : Bool}
end

theorem opts_read {H : Type} {enc : TypeId × Value → H} {W : World} {n0 : Nat} {v : Value} {y : DataW H × List MemPlace}
    (hm : DataW.trod enc Tryz.prog W 0 (fun _ => true) true n0 27 [v] = some y) : ∃ A n c os ls, v = .slice A n c ∧ n ≤ c ∧ c ≤ maxLen ∧ RdO W A n os ∧ Reads W os ls ∧ LenOf y.1 n := by
  have hC : Tryz.prog.cellsOf 176 = 2 := by kernel_rfl
  have hC1 : Tryz.prog.cellsOf 5 = 1 := by kernel_rfl
  have hC2 : Tryz.prog.cellsOf 24 = 1 := by kernel_rfl
  rcases open_slice Tryz.underlying27 hm with ⟨hcs, _⟩ | ⟨x, len, cap, m, fu2, D, Pl, hcs, _, hl, hm', hmm, hX, hi⟩
  · simp at hcs
    exact ⟨Option.none, 0, 0, [], [], hcs, Nat.le_refl _, by simp [maxLen], RdO.nil _ _, trivial, .inl rfl⟩
  · simp at hcs
    simp only [if_true] at hmm
    subst hmm
    rw [hC] at hi
    have hP : ∀ i, i < len → ∃ o l, (W.cell? (x.add (i * 2)) = some (.int .u8 o.kind) ∧ W.cell? ((x.add (i * 2)).add 1) = some (.slice o.A o.n o.c)) ∧ OptAt W o l := by
      intro i hin
      obtain ⟨cs', hc, ht⟩ := hi i (by omega)
      obtain ⟨y0, y1, fu3, _, hlen, h0, h1⟩ := trod_struct2 Tryz.underlying176 ht
      rw [hC] at hlen
      obtain ⟨_, hcl, hat⟩ := World.cells?_some hc
      match cs', hlen with
      | [u0, u1], _ =>
        simp [hC1, hC2] at h0 h1
        obtain ⟨kd, e0, -, w0⟩ := DataW.trod_int Tryz.underlying5 h0
        obtain ⟨A, n, c, l, e1, hnc, hcm, hr⟩ := rd_open h1
        simp at e0
        subst e0 e1
        have b0 := bounds_u8 w0
        have c0 := hat 0 (by omega)
        have c1 := hat 1 (by omega)
        simp at c0 c1
        exact ⟨⟨kd, A, n, c⟩, (kd, l), ⟨by simpa [Addr.add] using c0, c1⟩, rfl, (show 0 ≤ kd ∧ kd < 256 by omega), hnc, hcm, hr⟩
    obtain ⟨os, ls, hlen, hp, hreads⟩ := lists_of len hP
    refine ⟨some x, len, _, os, ls, hcs, hl, hm', ⟨hlen, fun hn => ?_⟩, hreads, .inr ⟨_, _, by rw [hX], by simp⟩⟩
    obtain ⟨b, off, spot⟩ := x
    have hspot : spot = Option.none := by simpa [Addr.add] using World.cell?_spot (hp 0 hn).1
    subst hspot
    refine ⟨b, off, rfl, World.block_lt_of_cell? (w := W) (a := ⟨b, off, Option.none⟩) (by simpa [Addr.add] using (hp 0 hn).1), fun i hin => ?_⟩
    have := hp i hin
    rw [add_plain, add_plain, Nat.add_assoc] at this
    exact this

theorem bytes_opt : Tryz.prog.bytesOf 176 = 32 := by kernel_rfl
end Go.Proofs.YtoegfgbalcholaaGreat
