/-
  Texts laid together: IpRead, TcpParse, TcpPlain.
-/
import Derived.Test.YtoegfgbalcholaaGreatZT17
import Derived.BigRegion
import Derived.RegionTactic
import Derived.ChangeAlike
import Derived.Test.YtoegfgbalcholaaGreatZT01
import Derived.Test.YtoegfgbalcholaaGreatZT12
import Derived.Test.YtoegfgbalcholaaGreatZT16
import Derived.Test.YtoegfgbalcholaaGreatZT14

/-
  The contract of package ipv4's Parse: what is wrong is told as the document's own order has it; else the head and the payload, in rows of the call's own.
-/
namespace Go.Proofs.YtoegfgbalcholaaGreat
set_option maxRecDepth 10000
open Go.RowKit

theorem twenty (b : List Int) (h : 20 ≤ b.length) : ∃ (b0 b1 b2 b3 b4 b5 b6 b7 b8 b9 b10 b11 b12 b13 b14 b15 b16 b17 b18 b19 : Int) (l : List Int), b = b0 :: b1 :: b2 :: b3 :: b4 :: b5 :: b6 :: b7 :: b8 :: b9 :: b10 :: b11 :: b12 :: b13 :: b14 :: b15 :: b16 :: b17 :: b18 :: b19 :: l := by
  have four : ∀ l : List Int, 4 ≤ l.length → ∃ a b c d t, l = a :: b :: c :: d :: t := by
    intro l h
    rcases l with _ | ⟨a, _ | ⟨b, _ | ⟨c, _ | ⟨d, t⟩⟩⟩⟩
    · simp at h
    · simp at h
    · simp at h
    · simp at h
    · exact ⟨a, b, c, d, t, rfl⟩
  obtain ⟨b0, b1, b2, b3, t, rfl⟩ := four b (by omega)
  obtain ⟨b4, b5, b6, b7, t, rfl⟩ := four t (by simp at h; omega)
  obtain ⟨b8, b9, b10, b11, t, rfl⟩ := four t (by simp at h; omega)
  obtain ⟨b12, b13, b14, b15, t, rfl⟩ := four t (by simp at h; omega)
  obtain ⟨b16, b17, b18, b19, t, rfl⟩ := four t (by simp at h; omega)
  exact ⟨_, _, _, _, _, _, _, _, _, _, _, _, _, _, _, _, _, _, _, _, t, rfl⟩

theorem parse1_any (B g p q s n c : Nat) (A : Option Addr) (b : List Int) (w : World) (hB : p < B ∧ q < B ∧ s < B ∧ p ≠ q ∧ p ≠ s ∧ q ≠ s) (hc : n ≤ c ∧ c ≤ maxLen) (hAB : 0 < n → ∀ x o, A = some ⟨x, o, none⟩ → x < B) (hA : Rd w A n b)
    (hp : Box w p 24 (.slice A n c)) (hq : w.heap[q]? = some (.cells (headCells 0 0 false 0 0 0 0 none 0 0) 26 (0, 0))) (hs : Box w s 24 (.slice none 0 0)) (h : Rdr w B g b 0) :
    Calls Tryz.prog 68 #[.pointer (some ⟨g, 0, none⟩), .pointer (some ⟨p, 0, none⟩), .pointer (some ⟨q, 0, none⟩), .pointer (some ⟨s, 0, none⟩)] w
      (Did (fun k => k = q ∨ k = s) g (IpParseR q s b w) w) := by
  have hlen := hA.len
  by_cases h1 : 1500 < n
  · exact parse1_long B g p q s n c A b w hB h1 hlen hp hq hs h
  · by_cases h2 : n < 20
    · exact parse1_short B g p q s n c A b w hB h2 hlen hp hq hs h
    · obtain ⟨b0, b1, b2, b3, b4, b5, b6, b7, b8, b9, b10, b11, b12, b13, b14, b15, b16, b17, b18, b19, l, rfl⟩ := twenty b (by omega)
      exact parse1_ok B g p q s n c A b0 b1 b2 b3 b4 b5 b6 b7 b8 b9 b10 b11 b12 b13 b14 b15 b16 b17 b18 b19 l w hB (by omega) hlen hc (hAB (by omega)) hA hp hq hs h

theorem OwnB.drew {w : World} {B : Nat} {A : Option Addr} {n c : Nat} {l : List Int} (h : OwnB w B A n c l) : OwnB w.drew B A n c l := h

def ParseGood (b : List Int) (w : World) (e : Ending) (w' : World) : Prop :=
  ∃ Ao no co Ap np cp, e = .returned (.tuple #[.agg #[.int .u8 (b.getD 1 0), .int .u16 (b.getD 4 0 * 256 + b.getD 5 0), .bool (decide (flagsL b = 16384)), .int .u8 (b.getD 8 0), .int .u8 (b.getD 9 0),
      .int .u32 (((b.getD 12 0 * 256 + b.getD 13 0) * 256 + b.getD 14 0) * 256 + b.getD 15 0), .int .u32 (((b.getD 16 0 * 256 + b.getD 17 0) * 256 + b.getD 18 0) * 256 + b.getD 19 0), .slice Ao no co], .slice Ap np cp, .int .i64 0]) ∧
    OwnB w' w.heap.size Ao no co ((b.drop 20).take ((hdrL b).toNat - 20)) ∧ OwnB w' w.heap.size Ap np cp (b.drop (hdrL b).toNat) ∧ Below w.heap.size w w'

theorem parse_good (A : Option Addr) (n c : Nat) (b : List Int) (w : World) (hc : n ≤ c ∧ c ≤ maxLen) (hn : n ≤ 140737488355328) (hA : Rd w A n b) (hx : errIp b = 0) :
    Calls Tryz.prog 28 #[.slice A n c] w (ParseGood b w) := by
  have hmf : ∀ (fn : Fn) (first cap : Array Value) (w : World), (Instr.makeFunc fn first cap).run Tryz.prog w = .ok (.func fn first cap) w := fun _ _ _ _ => rfl
  have hal : Below w.heap.size w w := Below.refl _ _
  have HA := Lib.hid hA
  have Hx := Lib.hid hx
  clear hA hx
  go_enter Tryz.func28, Tryz.ntmps28
  go_wp2_with fail
  obtain ⟨w0, hw0⟩ : ∃ w0, w0 = (((w.alloc (.cells #[.slice A n c] 24)).alloc (.cells #[.int .u8 0, .int .u16 0, .bool false, .int .u8 0, .int .u8 0, .int .u32 0, .int .u32 0, .slice none 0 0] 26)).alloc (.cells #[.int .u8 0, .int .u16 0, .bool false, .int .u8 0, .int .u8 0, .int .u32 0, .int .u32 0, .slice none 0 0] 26)).alloc (.cells #[.slice none 0 0] 24) := ⟨_, rfl⟩
  rw [← hw0]
  have hsz : w0.heap.size = w.heap.size + 4 := by rw [hw0]; simp
  have hb0 : Below w.heap.size w w0 := by rw [hw0]; exact (((hal.alloc (Nat.le_refl _) _).alloc (by simp) _).alloc (by simp <;> omega) _).alloc (by simp <;> omega) _
  have h1 : Box w0 w.heap.size 24 (.slice A n c) := by rw [hw0]; exact (((Box.new w _ _).alloc _).alloc _).alloc _
  have h2 : w0.heap[w.heap.size + 1 + 1]? = some (.cells (headCells 0 0 false 0 0 0 0 none 0 0) 26 (0, 0)) := by
    rw [hw0]
    have := heap_alloc_new ((w.alloc (.cells #[.slice A n c] 24)).alloc (.cells #[.int .u8 0, .int .u16 0, .bool false, .int .u8 0, .int .u8 0, .int .u32 0, .int .u32 0, .slice none 0 0] 26)) (.cells #[.int .u8 0, .int .u16 0, .bool false, .int .u8 0, .int .u8 0, .int .u32 0, .int .u32 0, .slice none 0 0] 26)
    rw [Below.heap_alloc _ _ _ (by simp)]
    simpa [headCells] using this
  have h3 : w0.heap[w.heap.size + 1]? = some (.cells (headCells 0 0 false 0 0 0 0 none 0 0) 26 (0, 0)) := by
    rw [hw0]
    have := heap_alloc_new (w.alloc (.cells #[.slice A n c] 24)) (.cells #[.int .u8 0, .int .u16 0, .bool false, .int .u8 0, .int .u8 0, .int .u32 0, .int .u32 0, .slice none 0 0] 26)
    rw [Below.heap_alloc _ _ _ (by simp), Below.heap_alloc _ _ _ (by simp)]
    simpa [headCells] using this
  have h4 : Box w0 (w.heap.size + 1 + 1 + 1) 24 (.slice none 0 0) := by
    rw [hw0]
    have := Box.new (((w.alloc (.cells #[.slice A n c] 24)).alloc (.cells #[.int .u8 0, .int .u16 0, .bool false, .int .u8 0, .int .u8 0, .int .u32 0, .int .u32 0, .slice none 0 0] 26)).alloc (.cells #[.int .u8 0, .int .u16 0, .bool false, .int .u8 0, .int .u8 0, .int .u32 0, .int .u32 0, .slice none 0 0] 26)) 24 (.slice none 0 0)
    simpa using this
  have hr0 := HA.out.below hb0
  clear hw0
  have hdo := fun w1 g (hb : Below w0.heap.size w0 w1) (_ : w0.heap.size ≤ g) (_ : g < w1.heap.size) (hR : Rdr w1 w0.heap.size g b 0) =>
    parse1_any w0.heap.size g w.heap.size (w.heap.size + 1 + 1) (w.heap.size + 1 + 1 + 1) n c A b w1 (by omega) hc (fun h x o e => by
      obtain ⟨x', o', e', hlt, _⟩ := hr0.at_ h
      rw [e] at e'; injection e' with e'; injection e' with e'; subst e'; exact hlt) (hr0.below hb) (h1.below hb (by omega)) ((hb.block _ (by omega)).trans h2) (h4.below hb (by omega)) hR
  have hread := read_any (fun k => k = w.heap.size + 1 + 1 ∨ k = w.heap.size + 1 + 1 + 1) _ n c #[.pointer (some ⟨w.heap.size, 0, none⟩), .pointer (some ⟨w.heap.size + 1 + 1, 0, none⟩), .pointer (some ⟨w.heap.size + 1 + 1 + 1, 0, none⟩)] _ (fun _ => rfl) A b (IpParseR (w.heap.size + 1 + 1) (w.heap.size + 1 + 1 + 1) b) w0 (fun k hk => by omega) hn hr0 (enter_of Tryz.func68 (by kernel_rfl) rfl) hdo
  have Hb0 := Lib.hid hb0
  have H3 := Lib.hid h3
  have Hsz := Lib.hid hsz
  clear hb0 h1 h2 h3 h4 hr0 hdo hal hsz
  refine hread.mono ?_
  clear hread
  rintro e w5 ⟨x', w1, w4, rfl, hb1, ⟨hxe, hR⟩, hb4, hb5⟩
  rw [Hx.out] at hxe
  subst hxe
  rcases hR with ⟨h, _⟩ | ⟨_, Ao, no, co, Ap, np, cp, hq, hs, ho, hp⟩
  · exact absurd rfl h
  have hsz := Hsz.out
  have hqb := hb4.blk hq (by omega)
  have hsb := hs.but hb4 (by omega)
  have hrb := hb5.blk H3.out (by omega)
  have ho5 := ho.but hb4 (fun k hk e => by omega)
  have hp5 := hp.but hb4 (fun k hk e => by omega)
  unfold headCells at hqb hrb
  have hB := Hb0.out.trans (hb5.below (B := w.heap.size) (fun k hk => by omega) Hb0.out.size)
  obtain ⟨f1, ef1⟩ : ∃ f1, b.getD 1 0 = f1 := ⟨_, rfl⟩
  obtain ⟨f2, ef2⟩ : ∃ f2, b.getD 4 0 * 256 + b.getD 5 0 = f2 := ⟨_, rfl⟩
  obtain ⟨f3, ef3⟩ : ∃ f3, decide (flagsL b = 16384) = f3 := ⟨_, rfl⟩
  obtain ⟨f4, ef4⟩ : ∃ f4, b.getD 8 0 = f4 := ⟨_, rfl⟩
  obtain ⟨f5, ef5⟩ : ∃ f5, b.getD 9 0 = f5 := ⟨_, rfl⟩
  obtain ⟨f6, ef6⟩ : ∃ f6, ((b.getD 12 0 * 256 + b.getD 13 0) * 256 + b.getD 14 0) * 256 + b.getD 15 0 = f6 := ⟨_, rfl⟩
  obtain ⟨f7, ef7⟩ : ∃ f7, ((b.getD 16 0 * 256 + b.getD 17 0) * 256 + b.getD 18 0) * 256 + b.getD 19 0 = f7 := ⟨_, rfl⟩
  rw [ef1, ef2, ef3, ef4, ef5, ef6, ef7] at hqb
  have Hfin : Hid (∀ w', Below w.heap.size w w' → OwnB w' w.heap.size Ao no co ((b.drop 20).take ((hdrL b).toNat - 20)) → OwnB w' w.heap.size Ap np cp (b.drop (hdrL b).toNat) →
      ParseGood b w (.returned (.tuple #[.agg #[.int .u8 f1, .int .u16 f2, .bool f3, .int .u8 f4, .int .u8 f5, .int .u32 f6, .int .u32 f7, .slice Ao no co], .slice Ap np cp, .int .i64 0])) w') :=
    fun w' h1 h2 h3 => ⟨Ao, no, co, Ap, np, cp, by rw [ef1, ef2, ef3, ef4, ef5, ef6, ef7], h2, h3, h1⟩
  have q0 := blk_cell hqb 0
  have q1 := blk_cell hqb 1
  have q2 := blk_cell hqb 2
  have q3 := blk_cell hqb 3
  have q4 := blk_cell hqb 4
  have q5 := blk_cell hqb 5
  have q6 := blk_cell hqb 6
  have q7 := blk_cell hqb 7
  have r0 := blk_cell hrb 0
  have r1 := blk_cell hrb 1
  have r2 := blk_cell hrb 2
  have r3 := blk_cell hrb 3
  have r4 := blk_cell hrb 4
  have r5 := blk_cell hrb 5
  have r6 := blk_cell hrb 6
  have r7 := blk_cell hrb 7
  simp at q0 q1 q2 q3 q4 q5 q6 q7 r0 r1 r2 r3 r4 r5 r6 r7
  have rf := blk_free hrb
  have sc := hsb.cell
  have HB := Lib.hid hB
  have HO := Lib.hid ho5
  have HP := Lib.hid hp5
  have hw1 : w.heap.size + 1 < w1.heap.size := by have := hb1.size; omega
  have hw1' : w.heap.size ≤ w1.heap.size := by omega
  clear hqb hrb hsb hq hs hb1 hb4 hb5 hsz hB ef1 ef2 ef3 ef4 ef5 ef6 ef7 ho hp ho5 hp5
  have hb8 := set8_but w5 (w.heap.size + 1) (.int .u8 f1) (.int .u16 f2) (.bool f3) (.int .u8 f4) (.int .u8 f5) (.int .u32 f6) (.int .u32 f7) (.slice Ao no co)
  have Hb8 := Lib.hid hb8
  clear hb8
  go_wp2_with fail
  go_region
  go_wp2_with fail
  refine bodyPost_ret (v := .tuple #[.agg #[.int .u8 f1, .int .u16 f2, .bool f3, .int .u8 f4, .int .u8 f5, .int .u32 f6, .int .u32 f7, .slice Ao no co], .slice Ap np cp, .int .i64 0]) (by simp [results, Tryz.results28, go_sem, *]) rfl (Hfin.out _ ?_ ?_ ?_)
  · exact Below.drew ((((((((HB.out.setCell (by simp) _).setCell (by simp) _).setCell (by simp) _).setCell (by simp) _).setCell (by simp) _).setCell (by simp) _).setCell (by simp) _).setCell (by simp) _)
  · exact OwnB.drew ((HO.out.but Hb8.out (fun k hk e => by omega)).mono hw1')
  · exact OwnB.drew ((HP.out.but Hb8.out (fun k hk e => by omega)).mono hw1')

end Go.Proofs.YtoegfgbalcholaaGreat

/-
  The contract of the closure within package tcp's Parse: what is wrong is told in the document's own order; else the segment, its options and its data in rows of the call's own.
-/
namespace Go.Proofs.YtoegfgbalcholaaGreat
set_option maxRecDepth 10000
open Go.RowKit

theorem failif_no (g : Nat) (x : Int) (w : World) :
    Calls Tryz.prog 110 #[.pointer (some ⟨g, 0, none⟩), .bool false, .int .i64 x] w fun e w' => e = .returned (.tuple #[]) ∧ w = w' := by
  go_enter Tryz.func110, Tryz.ntmps110
  go_wp2_with fail
  go_end0
  exact ⟨rfl, rfl⟩
theorem failif_yes (B g : Nat) (x : Int) (l : List Int) (at_ : Int) (w : World) (hx : x ≠ 0) (h : Rdr w B g l at_) :
    Calls Tryz.prog 110 #[.pointer (some ⟨g, 0, none⟩), .bool true, .int .i64 x] w (GivesUp g x w) := by
  have Hf := Lib.hid (fail_any B g x l at_ w hx h)
  clear h hx
  go_enter Tryz.func110, Tryz.ntmps110
  go_wp2_with fail
  refine Hf.out.mono ?_
  rintro e w' ⟨rfl, hg, hb⟩
  exact ⟨rfl, rfl, hg, hb⟩

/-- What Parse's closure leaves. -/
def SegR (q : Nat) (src dst : Int) (b : List Int) (w1 : World) (x : Int) (w' : World) : Prop :=
  x = errSeg src dst b ∧ ((x ≠ 0 ∧ w'.heap[q]? = some (.cells (segC zeroSeg none 0 0 none 0 0) 29 (0, 0))) ∨
    (x = 0 ∧ ∃ AO nO cO os AD cD, w'.heap[q]? = some (.cells (segC (segOf b (offB b)) AO nO cO AD (b.length - offB b) cD) 29 (0, 0)) ∧
      OwnO w' w1.heap.size AO nO cO os ∧ OwnL w' w1.heap.size os (segOf b (offB b)).os ∧ OwnB w' w1.heap.size AD (b.length - offB b) cD (b.drop (offB b))))

theorem set9_blk {w : World} {q : Nat} {u0 u1 u2 u3 u4 u5 u6 u7 u8 : Value} {t : TypeId} (h : w.heap[q]? = some (.cells #[u0, u1, u2, u3, u4, u5, u6, u7, u8] t (0, 0))) (v0 v1 v2 v3 v4 v5 v6 v7 v8 : Value) :
    (((((((((w.setCell ⟨q, 0, none⟩ v0).setCell ⟨q, 1, none⟩ v1).setCell ⟨q, 2, none⟩ v2).setCell ⟨q, 3, none⟩ v3).setCell ⟨q, 4, none⟩ v4).setCell ⟨q, 5, none⟩ v5).setCell ⟨q, 6, none⟩ v6).setCell ⟨q, 7, none⟩ v7).setCell ⟨q, 8, none⟩ v8).heap[q]? = some (.cells #[v0, v1, v2, v3, v4, v5, v6, v7, v8] t (0, 0)) := by
  have h1 := setCell_block (i := 0) h v0
  have h2 := setCell_block (i := 1) h1 v1
  have h3 := setCell_block (i := 2) h2 v2
  have h4 := setCell_block (i := 3) h3 v3
  have h5 := setCell_block (i := 4) h4 v4
  have h6 := setCell_block (i := 5) h5 v5
  have h7 := setCell_block (i := 6) h6 v6
  have h8 := setCell_block (i := 7) h7 v7
  have h9 := setCell_block (i := 8) h8 v8
  simpa using h9

theorem segOf_cons (b0 b1 b2 b3 b4 b5 b6 b7 b8 b9 b10 b11 b12 b13 b14 b15 b16 b17 b18 b19 : Int) (l : List Int) (n : Nat) (b : List Int) (eb : b = b0 :: b1 :: b2 :: b3 :: b4 :: b5 :: b6 :: b7 :: b8 :: b9 :: b10 :: b11 :: b12 :: b13 :: b14 :: b15 :: b16 :: b17 :: b18 :: b19 :: l) :
    segOf b n = ⟨b0 * 256 + b1, b2 * 256 + b3, ((b4 * 256 + b5) * 256 + b6) * 256 + b7, ((b8 * 256 + b9) * 256 + b10) * 256 + b11, b13, b14 * 256 + b15, b18 * 256 + b19, (parseO ((b.take n).drop 20)).1, b.drop n⟩ := by
  have e : ∀ a c : Int, numL [a, c] = a * 256 + c := fun a c => by simp [numL]; omega
  have e4 : ∀ a c x y : Int, numL [a, c, x, y] = ((a * 256 + c) * 256 + x) * 256 + y := fun a c x y => by simp [numL]; omega
  unfold segOf
  rw [show (b.drop 0).take 2 = [b0, b1] by rw [eb]; rfl, show (b.drop 2).take 2 = [b2, b3] by rw [eb]; rfl, show (b.drop 4).take 4 = [b4, b5, b6, b7] by rw [eb]; rfl, show (b.drop 8).take 4 = [b8, b9, b10, b11] by rw [eb]; rfl,
    show b.getD 13 0 = b13 by rw [eb]; rfl, show (b.drop 14).take 2 = [b14, b15] by rw [eb]; rfl, show (b.drop 18).take 2 = [b18, b19] by rw [eb]; rfl, e, e, e4, e4, e, e]

theorem tparse1_short (B g p1 p2 p3 q n : Nat) (src dst : Int) (l : List Int) (w : World) (hB : q < B) (hl : n < 20) (hlen : l.length = n)
    (hq : w.heap[q]? = some (.cells (segC zeroSeg none 0 0 none 0 0) 29 (0, 0))) (h : Rdr w B g l 0) :
    Calls Tryz.prog 109 #[.pointer (some ⟨g, 0, none⟩), .pointer (some ⟨p1, 0, none⟩), .pointer (some ⟨p2, 0, none⟩), .pointer (some ⟨p3, 0, none⟩), .pointer (some ⟨q, 0, none⟩)] w
      (Did (fun k => k = q) g (SegR q src dst l w) w) := by
  have hg : B ≤ g := h.choose_spec.choose_spec.choose_spec.2.2.2.1.1
  have Hend := Lib.hid (show ∀ w', Gave w' g 4 → But (fun k => k = g) w w' → Did (fun k => k = q) g (SegR q src dst l w) w (.panicked (gaveUp g)) w' from fun w' ⟨A', n', c', a', hg1⟩ hb =>
    ⟨4, A', n', c', a', .inr rfl, hg1, hb.mono (fun _ _ hk => .inr hk), by unfold errSeg; rw [if_neg (by omega), if_pos (by omega)], .inl ⟨by decide, hb.blk hq (by omega)⟩⟩)
  have Hr := Lib.hid h
  have Hlen := Lib.hid hlen
  have Hl := Lib.hid hl
  have Hb := Lib.hid (But.refl (fun k => k = g) w)
  clear h hq hlen hl
  go_enter Tryz.func109, Tryz.ntmps109
  go_wp2_with fail
  have Hl := Hl.out
  rcases l with _ | ⟨b0, l⟩
  · refine (u16_short B g [] _ _ (by simp) Hr.out).mono ?_
    rintro e w' ⟨rfl, hg1, hb⟩
    exact ⟨rfl, Hend.out w' hg1 (Hb.out.trans hb)⟩
  rcases l with _ | ⟨b1, l⟩
  · refine (u16_short B g [b0] _ _ (by simp) Hr.out).mono ?_
    rintro e w' ⟨rfl, hg1, hb⟩
    exact ⟨rfl, Hend.out w' hg1 (Hb.out.trans hb)⟩
  refine (u16_told B g b0 b1 l _ _ Hr.out).mono ?_
  rintro e w1 ⟨rfl, hR, hb⟩
  have Hr := Lib.hid hR
  have Hb := Lib.hid (Hb.out.trans hb)
  clear hR hb
  go_wp2_with fail
  rcases l with _ | ⟨b2, l⟩
  · refine (u16_short B g [] _ _ (by simp) Hr.out).mono ?_
    rintro e w' ⟨rfl, hg1, hb⟩
    exact ⟨rfl, Hend.out w' hg1 (Hb.out.trans hb)⟩
  rcases l with _ | ⟨b3, l⟩
  · refine (u16_short B g [b2] _ _ (by simp) Hr.out).mono ?_
    rintro e w' ⟨rfl, hg1, hb⟩
    exact ⟨rfl, Hend.out w' hg1 (Hb.out.trans hb)⟩
  refine (u16_told B g b2 b3 l _ _ Hr.out).mono ?_
  rintro e w1 ⟨rfl, hR, hb⟩
  have Hr := Lib.hid hR
  have Hb := Lib.hid (Hb.out.trans hb)
  clear hR hb
  go_wp2_with fail
  rcases l with _ | ⟨b4, l⟩
  · refine (u32_short B g [] _ _ (by simp) Hr.out).mono ?_
    rintro e w' ⟨rfl, hg1, hb⟩
    exact ⟨rfl, Hend.out w' hg1 (Hb.out.trans hb)⟩
  rcases l with _ | ⟨b5, l⟩
  · refine (u32_short B g [b4] _ _ (by simp) Hr.out).mono ?_
    rintro e w' ⟨rfl, hg1, hb⟩
    exact ⟨rfl, Hend.out w' hg1 (Hb.out.trans hb)⟩
  rcases l with _ | ⟨b6, l⟩
  · refine (u32_short B g [b4, b5] _ _ (by simp) Hr.out).mono ?_
    rintro e w' ⟨rfl, hg1, hb⟩
    exact ⟨rfl, Hend.out w' hg1 (Hb.out.trans hb)⟩
  rcases l with _ | ⟨b7, l⟩
  · refine (u32_short B g [b4, b5, b6] _ _ (by simp) Hr.out).mono ?_
    rintro e w' ⟨rfl, hg1, hb⟩
    exact ⟨rfl, Hend.out w' hg1 (Hb.out.trans hb)⟩
  refine (u32_told B g b4 b5 b6 b7 l _ _ Hr.out).mono ?_
  rintro e w1 ⟨rfl, hR, hb⟩
  have Hr := Lib.hid hR
  have Hb := Lib.hid (Hb.out.trans hb)
  clear hR hb
  go_wp2_with fail
  rcases l with _ | ⟨b8, l⟩
  · refine (u32_short B g [] _ _ (by simp) Hr.out).mono ?_
    rintro e w' ⟨rfl, hg1, hb⟩
    exact ⟨rfl, Hend.out w' hg1 (Hb.out.trans hb)⟩
  rcases l with _ | ⟨b9, l⟩
  · refine (u32_short B g [b8] _ _ (by simp) Hr.out).mono ?_
    rintro e w' ⟨rfl, hg1, hb⟩
    exact ⟨rfl, Hend.out w' hg1 (Hb.out.trans hb)⟩
  rcases l with _ | ⟨b10, l⟩
  · refine (u32_short B g [b8, b9] _ _ (by simp) Hr.out).mono ?_
    rintro e w' ⟨rfl, hg1, hb⟩
    exact ⟨rfl, Hend.out w' hg1 (Hb.out.trans hb)⟩
  rcases l with _ | ⟨b11, l⟩
  · refine (u32_short B g [b8, b9, b10] _ _ (by simp) Hr.out).mono ?_
    rintro e w' ⟨rfl, hg1, hb⟩
    exact ⟨rfl, Hend.out w' hg1 (Hb.out.trans hb)⟩
  refine (u32_told B g b8 b9 b10 b11 l _ _ Hr.out).mono ?_
  rintro e w1 ⟨rfl, hR, hb⟩
  have Hr := Lib.hid hR
  have Hb := Lib.hid (Hb.out.trans hb)
  clear hR hb
  go_wp2_with fail
  rcases l with _ | ⟨b12, l⟩
  · refine (u8_short B g [] _ _ (by simp) Hr.out).mono ?_
    rintro e w' ⟨rfl, hg1, hb⟩
    exact ⟨rfl, Hend.out w' hg1 (Hb.out.trans hb)⟩
  refine (u8_told B g b12 l _ _ Hr.out).mono ?_
  rintro e w1 ⟨rfl, hR, hb⟩
  have Hr := Lib.hid hR
  have Hb := Lib.hid (Hb.out.trans hb)
  clear hR hb
  go_wp2_with fail
  rcases l with _ | ⟨b13, l⟩
  · refine (u8_short B g [] _ _ (by simp) Hr.out).mono ?_
    rintro e w' ⟨rfl, hg1, hb⟩
    exact ⟨rfl, Hend.out w' hg1 (Hb.out.trans hb)⟩
  refine (u8_told B g b13 l _ _ Hr.out).mono ?_
  rintro e w1 ⟨rfl, hR, hb⟩
  have Hr := Lib.hid hR
  have Hb := Lib.hid (Hb.out.trans hb)
  clear hR hb
  go_wp2_with fail
  rcases l with _ | ⟨b14, l⟩
  · refine (u16_short B g [] _ _ (by simp) Hr.out).mono ?_
    rintro e w' ⟨rfl, hg1, hb⟩
    exact ⟨rfl, Hend.out w' hg1 (Hb.out.trans hb)⟩
  rcases l with _ | ⟨b15, l⟩
  · refine (u16_short B g [b14] _ _ (by simp) Hr.out).mono ?_
    rintro e w' ⟨rfl, hg1, hb⟩
    exact ⟨rfl, Hend.out w' hg1 (Hb.out.trans hb)⟩
  refine (u16_told B g b14 b15 l _ _ Hr.out).mono ?_
  rintro e w1 ⟨rfl, hR, hb⟩
  have Hr := Lib.hid hR
  have Hb := Lib.hid (Hb.out.trans hb)
  clear hR hb
  go_wp2_with fail
  rcases l with _ | ⟨b16, l⟩
  · refine (u16_short B g [] _ _ (by simp) Hr.out).mono ?_
    rintro e w' ⟨rfl, hg1, hb⟩
    exact ⟨rfl, Hend.out w' hg1 (Hb.out.trans hb)⟩
  rcases l with _ | ⟨b17, l⟩
  · refine (u16_short B g [b16] _ _ (by simp) Hr.out).mono ?_
    rintro e w' ⟨rfl, hg1, hb⟩
    exact ⟨rfl, Hend.out w' hg1 (Hb.out.trans hb)⟩
  refine (u16_told B g b16 b17 l _ _ Hr.out).mono ?_
  rintro e w1 ⟨rfl, hR, hb⟩
  have Hr := Lib.hid hR
  have Hb := Lib.hid (Hb.out.trans hb)
  clear hR hb
  go_wp2_with fail
  rcases l with _ | ⟨b18, l⟩
  · refine (u16_short B g [] _ _ (by simp) Hr.out).mono ?_
    rintro e w' ⟨rfl, hg1, hb⟩
    exact ⟨rfl, Hend.out w' hg1 (Hb.out.trans hb)⟩
  rcases l with _ | ⟨b19, l⟩
  · refine (u16_short B g [b18] _ _ (by simp) Hr.out).mono ?_
    rintro e w' ⟨rfl, hg1, hb⟩
    exact ⟨rfl, Hend.out w' hg1 (Hb.out.trans hb)⟩
  refine (u16_told B g b18 b19 l _ _ Hr.out).mono ?_
  rintro e w1 ⟨rfl, hR, hb⟩
  have Hr := Lib.hid hR
  have Hb := Lib.hid (Hb.out.trans hb)
  clear hR hb
  have := Hlen.out
  simp at this
  omega

set_option maxHeartbeats 4000000 in
set_option maxRecDepth 100000 in
theorem tparse1_ok (B g p1 p2 p3 q n c : Nat) (src dst : Int) (A : Option Addr) (b0 b1 b2 b3 b4 b5 b6 b7 b8 b9 b10 b11 b12 b13 b14 b15 b16 b17 b18 b19 : Int) (l : List Int) (w : World) (hB : p1 < B ∧ p2 < B ∧ p3 < B ∧ q < B ∧ p1 ≠ q ∧ p2 ≠ q ∧ p3 ≠ q) (hl : n ≤ 1480) (b : List Int) (eb : b = b0 :: b1 :: b2 :: b3 :: b4 :: b5 :: b6 :: b7 :: b8 :: b9 :: b10 :: b11 :: b12 :: b13 :: b14 :: b15 :: b16 :: b17 :: b18 :: b19 :: l) (hlen : b.length = n) (hc : n ≤ c ∧ c ≤ maxLen) (hAB : ∀ x o, A = some ⟨x, o, none⟩ → x < B) (hA : Rd w A n b)
    (hp1 : Box w p1 23 (.int .u32 src)) (hp2 : Box w p2 23 (.int .u32 dst)) (hp3 : Box w p3 24 (.slice A n c)) (hq : w.heap[q]? = some (.cells (segC zeroSeg none 0 0 none 0 0) 29 (0, 0))) (h : Rdr w B g b 0) :
    Calls Tryz.prog 109 #[.pointer (some ⟨g, 0, none⟩), .pointer (some ⟨p1, 0, none⟩), .pointer (some ⟨p2, 0, none⟩), .pointer (some ⟨p3, 0, none⟩), .pointer (some ⟨q, 0, none⟩)] w
      (Did (fun k => k = q) g (SegR q src dst b w) w) := by
  have hbyte := hA.byte
  have x12 := hbyte b12 (by rw [eb]; simp)
  have hg : B ≤ g := h.choose_spec.choose_spec.choose_spec.2.2.2.1.1
  have hgw : g < w.heap.size := lt_of_block h.choose_spec.choose_spec.choose_spec.2.2.2.2.2.1
  obtain ⟨H, eH⟩ : ∃ H : Nat, b12 / 16 * 4 = (H : Int) := ⟨(b12 / 16 * 4).toNat, by omega⟩
  have hH : H ≤ 60 := by omega
  have hoff : offB b = H := by unfold offB; rw [show b.getD 12 0 = b12 by rw [eb]; rfl]; omega
  have hn20 : 20 ≤ n := by rw [← hlen, eb]; simp
  have Hend := Lib.hid (show ∀ x w', x ≠ 0 → errSeg src dst b = x → Gave w' g x → But (fun k => k = g) w w' → Did (fun k => k = q) g (SegR q src dst b w) w (.panicked (gaveUp g)) w' from fun x w' h0 hx ⟨A', n', c', a', hg1⟩ hb =>
    ⟨x, A', n', c', a', .inr rfl, hg1, hb.mono (fun _ _ hk => .inr hk), hx.symm, .inl ⟨h0, hb.blk hq (by omega)⟩⟩)
  have Hsof := Lib.hid (segOf_cons b0 b1 b2 b3 b4 b5 b6 b7 b8 b9 b10 b11 b12 b13 b14 b15 b16 b17 b18 b19 l (offB b) b eb)
  have Hr := Lib.hid (show Rdr w B g (b0 :: b1 :: b2 :: b3 :: b4 :: b5 :: b6 :: b7 :: b8 :: b9 :: b10 :: b11 :: b12 :: b13 :: b14 :: b15 :: b16 :: b17 :: b18 :: b19 :: l) 0 by rw [← eb]; exact h)
  have Hp1 := Lib.hid hp1
  have Hp2 := Lib.hid hp2
  have Hp3 := Lib.hid hp3
  have Hq := Lib.hid hq
  have HA := Lib.hid hA
  have Hlen := Lib.hid hlen
  have Heb := Lib.hid eb
  have Hoff := Lib.hid hoff
  have Hb := Lib.hid (But.refl (fun k => k = g) w)
  clear h hp1 hp2 hp3 hq hA hlen hbyte eb hoff
  go_enter Tryz.func109, Tryz.ntmps109
  go_wp2_with fail
  refine (u16_told B g b0 b1 (b2 :: b3 :: b4 :: b5 :: b6 :: b7 :: b8 :: b9 :: b10 :: b11 :: b12 :: b13 :: b14 :: b15 :: b16 :: b17 :: b18 :: b19 :: l) _ _ Hr.out).mono ?_
  rintro e w1 ⟨rfl, hR, hb⟩
  have Hr := Lib.hid hR
  have Hb := Lib.hid (Hb.out.trans hb)
  clear hR hb
  go_wp2_with fail
  refine (u16_told B g b2 b3 (b4 :: b5 :: b6 :: b7 :: b8 :: b9 :: b10 :: b11 :: b12 :: b13 :: b14 :: b15 :: b16 :: b17 :: b18 :: b19 :: l) _ _ Hr.out).mono ?_
  rintro e w1 ⟨rfl, hR, hb⟩
  have Hr := Lib.hid hR
  have Hb := Lib.hid (Hb.out.trans hb)
  clear hR hb
  go_wp2_with fail
  refine (u32_told B g b4 b5 b6 b7 (b8 :: b9 :: b10 :: b11 :: b12 :: b13 :: b14 :: b15 :: b16 :: b17 :: b18 :: b19 :: l) _ _ Hr.out).mono ?_
  rintro e w1 ⟨rfl, hR, hb⟩
  have Hr := Lib.hid hR
  have Hb := Lib.hid (Hb.out.trans hb)
  clear hR hb
  go_wp2_with fail
  refine (u32_told B g b8 b9 b10 b11 (b12 :: b13 :: b14 :: b15 :: b16 :: b17 :: b18 :: b19 :: l) _ _ Hr.out).mono ?_
  rintro e w1 ⟨rfl, hR, hb⟩
  have Hr := Lib.hid hR
  have Hb := Lib.hid (Hb.out.trans hb)
  clear hR hb
  go_wp2_with fail
  refine (u8_told B g b12 (b13 :: b14 :: b15 :: b16 :: b17 :: b18 :: b19 :: l) _ _ Hr.out).mono ?_
  rintro e w1 ⟨rfl, hR, hb⟩
  have Hr := Lib.hid hR
  have Hb := Lib.hid (Hb.out.trans hb)
  clear hR hb
  go_wp2_with fail
  refine (u8_told B g b13 (b14 :: b15 :: b16 :: b17 :: b18 :: b19 :: l) _ _ Hr.out).mono ?_
  rintro e w1 ⟨rfl, hR, hb⟩
  have Hr := Lib.hid hR
  have Hb := Lib.hid (Hb.out.trans hb)
  clear hR hb
  go_wp2_with fail
  refine (u16_told B g b14 b15 (b16 :: b17 :: b18 :: b19 :: l) _ _ Hr.out).mono ?_
  rintro e w1 ⟨rfl, hR, hb⟩
  have Hr := Lib.hid hR
  have Hb := Lib.hid (Hb.out.trans hb)
  clear hR hb
  go_wp2_with fail
  refine (u16_told B g b16 b17 (b18 :: b19 :: l) _ _ Hr.out).mono ?_
  rintro e w1 ⟨rfl, hR, hb⟩
  have Hr := Lib.hid hR
  have Hb := Lib.hid (Hb.out.trans hb)
  clear hR hb
  go_wp2_with fail
  refine (u16_told B g b18 b19 (l) _ _ Hr.out).mono ?_
  rintro e w1 ⟨rfl, hR, hb⟩
  have Hr := Lib.hid hR
  have Hb := Lib.hid (Hb.out.trans hb)
  clear hR hb
  go_wp2_with fail
  have EH := Lib.hid eH
  by_cases h5 : H < 20
  · have h5i : (H : Int) < 20 := by omega
    have h5d : decide ((H : Int) < 20) = true := by simpa using h5i
    have He := Lib.hid (show errSeg src dst b = 5 by unfold errSeg; rw [if_neg (by have := Hlen.out; omega), if_neg (by have := Hlen.out; omega), if_pos (by have := Hoff.out; omega)])
    rw [h5d]
    refine (failif_yes B g 5 _ _ _ (by decide) Hr.out).mono ?_
    rintro e w2 ⟨rfl, hg2, hb2⟩
    exact ⟨rfl, Hend.out 5 _ (by decide) He.out hg2 (Hb.out.trans hb2)⟩
  have h5i : ¬ (H : Int) < 20 := by omega
  have h5i' : 20 ≤ (H : Int) := by omega
  have h5d : decide ((H : Int) < 20) = false := by simpa using h5i
  obtain ⟨m, em⟩ : ∃ m : Nat, H = 20 + m := ⟨H - 20, by omega⟩
  have hmi : (H : Int) - 20 = (m : Int) := by omega
  have hll : l.length = n - 20 := by rw [← Hlen.out, Heb.out]; simp
  have Em := Lib.hid em
  have Hll := Lib.hid hll
  clear em hll
  rw [h5d]
  refine (failif_no g 5 _).mono ?_
  rintro e w2 ⟨rfl, rfl⟩
  go_wp2_with fail
  clear h5d h5i
  by_cases h6 : n < H
  · have He := Lib.hid (show errSeg src dst b = 4 by unfold errSeg; rw [if_neg (by have := Hlen.out; omega), if_neg (by have := Hlen.out; omega), if_neg (by have := Hoff.out; omega), if_pos (by have := Hoff.out; have := Hlen.out; omega)])
    refine (bytes_short B g (m : Int) l _ _ (by have := Hll.out; have := Em.out; omega) Hr.out).mono ?_
    rintro e w2 ⟨rfl, hg2, hb2⟩
    exact ⟨rfl, Hend.out 4 _ (by decide) He.out hg2 (Hb.out.trans hb2)⟩
  have hml : m ≤ l.length := by have := Hll.out; have := Em.out; omega
  have hlb : l.length ≤ 1480 := by have := Hll.out; omega
  have Hlt := Lib.hid (show (l.take m).length = m by rw [List.length_take]; omega)
  refine (bytes_is B g m l (l.take m) (l.drop m) _ _ Hlt.out (List.take_append_drop m l).symm (by omega) Hr.out).mono ?_
  rintro e w4 ⟨Ao, co, rfl, k4, m4, ho4, hr4, hb4⟩
  have hby : ∀ x ∈ l.take m, 0 ≤ x ∧ x < 256 := fun x hx => HA.out.byte x (by rw [Heb.out]; simp; have := List.mem_of_mem_take hx; simp [this])
  have Hlaid := Lib.hid (ho4.rd hby)
  have Hr := Lib.hid hr4
  have Hb := Lib.hid (Hb.out.trans hb4)
  have Hmco := Lib.hid (And.intro k4 m4)
  clear ho4 hr4 hb4 k4 m4
  go_wp2_with fail
  have hpA : ∀ w', But (fun k => k = g) w w' → (w'.cell? ⟨p1, 0, none⟩ = some (.int .u32 src) ∧ w'.cell? ⟨p2, 0, none⟩ = some (.int .u32 dst) ∧ w'.cell? ⟨p3, 0, none⟩ = some (.slice A n c)) := fun w' hb => ⟨(Hp1.out.but hb (by omega)).cell, (Hp2.out.but hb (by omega)).cell, (Hp3.out.but hb (by omega)).cell⟩
  have HpA := Lib.hid hpA
  clear hpA
  have HbD := Lib.hid Hb.out.drew
  have HrD := Lib.hid (Hr.out.below (Below.drew (Below.refl _ _)))
  have HlD := Lib.hid (Hlaid.out.below (Below.drew (Below.refl _ _)))
  refine wp_region_held_drew (S := fun w' => w'.cell? ⟨p1, 0, none⟩ = some (.int .u32 src) ∧ w'.cell? ⟨p2, 0, none⟩ = some (.int .u32 dst) ∧ w'.cell? ⟨p3, 0, none⟩ = some (.slice A n c)) (by kernel_rfl) (HpA.out _ HbD.out) (fun hHeld => ?_)
  obtain ⟨wd, ewd⟩ : ∃ wd, w4.drew = wd := ⟨_, rfl⟩
  rw [ewd] at HbD HrD HlD hHeld ⊢
  clear ewd Hb Hr Hlaid
  have HsumL := Lib.hid (show (sumL ([pseudoL src dst 6 (n : Int), b] : List (List Int)).flatten == 65535) = (sumL (pseudoL src dst 6 b.length ++ b) == 65535) by rw [Hlen.out]; simp)
  obtain ⟨y, ey⟩ : ∃ y, sumL (pseudoL src dst 6 b.length ++ b) = y := ⟨_, rfl⟩
  rw [ey] at HsumL
  have Ey := Lib.hid ey
  have hwrapn : (0 : Int) ≤ (n : Int) := by omega
  by_cases h7 : y = 65535
  case neg =>
    have h7b : (y == 65535) = false := by simpa using h7
    have He := Lib.hid (show errSeg src dst b = 20 by unfold errSeg; rw [if_neg (by have := Hlen.out; omega), if_neg (by have := Hlen.out; omega), if_neg (by have := Hoff.out; omega), if_neg (by have := Hoff.out; have := Hlen.out; omega), if_pos (by rw [Ey.out]; exact h7)])
    clear ey h7
    refine tk 0 ?_ rfl ?_ ?_
    rotate_left
    · intro w' hSw; (go_simp <;> (with_reducible rfl))
    try simp only [Act.put, putL]
    refine tk 1 ?_ rfl ?_ ?_
    rotate_left
    · intro w' hSw; (go_simp <;> (with_reducible rfl))
    try simp only [Act.put, putL]
    refine tk 2 ?_ rfl ?_ ?_
    rotate_left
    · intro w' hSw; (go_simp <;> (with_reducible rfl))
    try simp only [Act.put, putL]
    refine tk 3 ?_ rfl ?_ ?_
    rotate_left
    · intro w' hSw; (go_simp <;> (with_reducible rfl))
    try simp only [Act.put, putL]
    refine tk 4 ?_ rfl ?_ ?_
    rotate_left
    · intro w' hSw; (go_simp <;> (with_reducible rfl))
    try simp only [Act.put, putL]
    refine tk 6 ?_ rfl ?_ ?_
    rotate_left
    · intro w' hSw; (go_simp <;> (with_reducible rfl))
    try simp only [Act.put, putL]
    refine tkC 5 rfl (fun K hK => ?_)
    go_simp
    (go_at_call 104; refine (pseudo_any src dst 6 (n : Int) _ (by omega)).mono ?_; rintro e w6 ⟨A6, c6, rfl, k6, m6, ho6, hb6⟩; have Hb6 := Lib.hid hb6; have Hr6 := Lib.hid (ho6.rd (pseudo_byte _ _ _ _ (by omega))); have Hc6 := Lib.hid (And.intro k6 m6); clear ho6 hb6 k6 m6)
    refine hK.out _ _ ?_ (fun hHeld => ?_)
    · exact HpA.out _ (HbD.out.trans (But.of Hb6.out))
    clear hK K
    try simp only [Act.put, putL]
    refine tkC 7 rfl (fun K hK => ?_)
    go_simp
    skip
    refine hK.out _ _ ?_ (fun hHeld => ?_)
    · exact HpA.out _ (HbD.out.trans (But.of (below_trans Hb6.out ((Below.refl _ _).alloc (Nat.le_refl _) _))))
    clear hK K
    try simp only [Act.put, putL]
    refine tkC 8 rfl (fun K hK => ?_)
    go_simp
    (go_at_call 12; refine (right_told _ 2 2 [pseudoL src dst 6 (n : Int), b] _ (y == 65535) (by omega) (RdL.twoW w6 _ A6 A 12 c6 n c _ _ Hc6.out hc Hr6.out (HA.out.but (HbD.out.trans (But.of Hb6.out)) (fun x o e _ => by have := hAB x o e; omega))) HsumL.out).mono ?_; rintro e w7 ⟨rfl, hb7⟩; have Hb7 := Lib.hid (below_trans Hb6.out (below_alloc hb7)); clear hb7)
    refine hK.out _ _ ?_ (fun hHeld => ?_)
    · exact HpA.out _ (HbD.out.trans (But.of Hb7.out))
    clear hK K
    try simp only [Act.put, putL]
    refine tk 9 ?_ rfl ?_ ?_
    rotate_left
    · intro w' hSw; (go_simp <;> (with_reducible rfl))
    try simp only [Act.put, putL]
    refine wpAnyH_ready (rs := [10]) (by kernel_rfl) (by simp) ?_
    refine AllReadyH.cons (o := { dst := some 57, op := Go.Op.call { callee := Go.Callee.value (Go.Operand.func 110), args := #[Go.Operand.tmp 47, Go.Operand.tmp 56, Go.Operand.const (Go.Value.int Go.IntKind.i64 20)], argTypes := #[106, 4, 40] }, type := 0, pos := "tcp.go:48", after := #[{ on := 0, ground := Go.Ground.data }, { on := 9, ground := Go.Ground.data }, { on := 8, ground := Go.Ground.chain }], guard := none }) rfl (fun K hK => ?_) AllReadyH.nil
    go_simp
    (go_at_call 110; refine (failif_yes B g 20 _ _ _ (by decide) (HrD.out.below Hb7.out)).mono ?_; rintro e w8 ⟨rfl, hg8, hb8⟩; exact ⟨rfl, Hend.out 20 _ (by decide) He.out hg8 ((HbD.out.trans (But.of Hb7.out)).trans hb8)⟩)
  have h7b : (y == 65535) = true := by simpa using h7
  have H7 := Lib.hid h7
  clear ey h7
  refine tk 0 ?_ rfl ?_ ?_
  rotate_left
  · intro w' hSw; (go_simp <;> (with_reducible rfl))
  try simp only [Act.put, putL]
  refine tk 1 ?_ rfl ?_ ?_
  rotate_left
  · intro w' hSw; (go_simp <;> (with_reducible rfl))
  try simp only [Act.put, putL]
  refine tk 2 ?_ rfl ?_ ?_
  rotate_left
  · intro w' hSw; (go_simp <;> (with_reducible rfl))
  try simp only [Act.put, putL]
  refine tk 3 ?_ rfl ?_ ?_
  rotate_left
  · intro w' hSw; (go_simp <;> (with_reducible rfl))
  try simp only [Act.put, putL]
  refine tk 4 ?_ rfl ?_ ?_
  rotate_left
  · intro w' hSw; (go_simp <;> (with_reducible rfl))
  try simp only [Act.put, putL]
  refine tk 6 ?_ rfl ?_ ?_
  rotate_left
  · intro w' hSw; (go_simp <;> (with_reducible rfl))
  try simp only [Act.put, putL]
  refine tkC 5 rfl (fun K hK => ?_)
  go_simp
  (go_at_call 104; refine (pseudo_any src dst 6 (n : Int) _ (by omega)).mono ?_; rintro e w6 ⟨A6, c6, rfl, k6, m6, ho6, hb6⟩; have Hb6 := Lib.hid hb6; have Hr6 := Lib.hid (ho6.rd (pseudo_byte _ _ _ _ (by omega))); have Hc6 := Lib.hid (And.intro k6 m6); clear ho6 hb6 k6 m6)
  refine hK.out _ _ ?_ (fun hHeld => ?_)
  · exact HpA.out _ (HbD.out.trans (But.of Hb6.out))
  clear hK K
  try simp only [Act.put, putL]
  refine tkC 7 rfl (fun K hK => ?_)
  go_simp
  skip
  refine hK.out _ _ ?_ (fun hHeld => ?_)
  · exact HpA.out _ (HbD.out.trans (But.of (below_trans Hb6.out ((Below.refl _ _).alloc (Nat.le_refl _) _))))
  clear hK K
  try simp only [Act.put, putL]
  refine tkC 8 rfl (fun K hK => ?_)
  go_simp
  (go_at_call 12; refine (right_told _ 2 2 [pseudoL src dst 6 (n : Int), b] _ (y == 65535) (by omega) (RdL.twoW w6 _ A6 A 12 c6 n c _ _ Hc6.out hc Hr6.out (HA.out.but (HbD.out.trans (But.of Hb6.out)) (fun x o e _ => by have := hAB x o e; omega))) HsumL.out).mono ?_; rintro e w7 ⟨rfl, hb7⟩; have Hb7 := Lib.hid (below_trans Hb6.out (below_alloc hb7)); clear hb7)
  refine hK.out _ _ ?_ (fun hHeld => ?_)
  · exact HpA.out _ (HbD.out.trans (But.of Hb7.out))
  clear hK K
  try simp only [Act.put, putL]
  refine tk 9 ?_ rfl ?_ ?_
  rotate_left
  · intro w' hSw; (go_simp <;> (with_reducible rfl))
  try simp only [Act.put, putL]
  refine tkC 10 rfl (fun K hK => ?_)
  go_simp
  (go_at_call 110; refine (failif_no g 20 _).mono ?_; rintro e w8 ⟨rfl, rfl⟩)
  refine hK.out _ _ ?_ (fun hHeld => ?_)
  · exact HpA.out _ (HbD.out.trans (But.of Hb7.out))
  clear hK K
  try simp only [Act.put, putL]
  refine wpAnyH_done (by kernel_rfl) ?_ _
  have Hr := Lib.hid (HrD.out.below Hb7.out)
  have Hb := Lib.hid (HbD.out.trans (But.of Hb7.out))
  have Hlaid := Lib.hid (HlD.out.below Hb7.out)
  clear Hb6 Hr6 Hc6 Hb7 HbD HrD HlD hHeld HsumL h7b
  go_wp2_with fail
  have hmi2 : m ≤ 1480 := by omega
  refine (parse_any Ao m co (l.take m) _ (by omega) Hlaid.out).mono ?_
  rintro e w8 ⟨A8, m8, c8, os8, rfl, ho8, hl8, hb8⟩
  have HpO := Lib.hid (show (b.take (offB b)).drop 20 = l.take m by rw [Hoff.out, Em.out, List.drop_take, show b.drop 20 = l by rw [Heb.out]; rfl]; congr 1; omega)
  have hw7 : w.heap.size ≤ w7.heap.size := Hb.out.size
  have Ho8 := Lib.hid (ho8.mono hw7)
  have Hl8 := Lib.hid (hl8.low hw7)
  have Hr := Lib.hid (Hr.out.below hb8)
  have Hb := Lib.hid (Hb.out.trans (But.of hb8))
  clear ho8 hl8 hb8 Hlaid
  obtain ⟨x8, ex8⟩ : ∃ x, (parseO (l.take m)).2 = x := ⟨_, rfl⟩
  rw [ex8]
  have Ex8 := Lib.hid ex8
  clear ex8
  by_cases h8 : x8 = 0
  case neg =>
    have h8b : (x8 == 0) = false := by simpa using h8
    have h8c : (x8 != 0) = true := by simpa using h8
    have He := Lib.hid (show errSeg src dst b = 5 by
      unfold errSeg
      rw [if_neg (by have := Hlen.out; omega), if_neg (by have := Hlen.out; omega), if_neg (by have := Hoff.out; omega), if_neg (by have := Hoff.out; have := Hlen.out; omega), if_neg (by rw [Ey.out, H7.out]; simp), if_pos (by rw [HpO.out, Ex8.out]; exact h8)])
    clear h8
    go_wp2_with fail
    refine (failif_yes B g 5 _ _ _ (by decide) Hr.out).mono ?_
    rintro e w9 ⟨rfl, hg9, hb9⟩
    exact ⟨rfl, Hend.out 5 _ (by decide) He.out hg9 (Hb.out.trans hb9)⟩
  subst h8
  have Herr := Lib.hid (show errSeg src dst b = 0 by
    unfold errSeg
    rw [if_neg (by have := Hlen.out; omega), if_neg (by have := Hlen.out; omega), if_neg (by have := Hoff.out; omega), if_neg (by have := Hoff.out; have := Hlen.out; omega), if_neg (by rw [Ey.out, H7.out]; simp), if_neg (by rw [HpO.out, Ex8.out]; simp)])
  go_wp2_with fail
  refine (failif_no g 5 _).mono ?_
  rintro e w9 ⟨rfl, rfl⟩
  go_wp2_with fail
  obtain ⟨r, er⟩ : ∃ r, (l.drop m).length = r := ⟨_, rfl⟩
  have hr2 : r ≤ 140737488355328 := by rw [← er, List.length_drop]; omega
  have Her := Lib.hid er
  clear er
  refine (rest_is B g r (l.drop m) _ _ Her.out hr2 Hr.out).mono ?_
  rintro e w10 ⟨A10, c10, rfl, k10, m10, ho10, hr10, hb10⟩
  have hw8 : w.heap.size ≤ w8.heap.size := Hb.out.size
  have Ho10 := Lib.hid (ho10.mono hw8)
  have Ho8 := Lib.hid (Ho8.out.but hb10 (fun k e => by have := (Ho8.out.at_ e); omega))
  have Hl8 := Lib.hid (Hl8.out.but hb10 (fun _ _ _ k h2 => by have := h2.at_ rfl; omega))
  have Hr := Lib.hid hr10
  have Hb := Lib.hid (Hb.out.trans hb10)
  clear ho10 hr10 hb10
  have hqb := Hb.out.blk Hq.out (by omega)
  unfold segC zeroSeg at hqb
  obtain ⟨q0, q1, q2, q3, q4, q5, q6, q7, q8⟩ := seg_cells hqb
  have qf := blk_free hqb
  have HS9 := Lib.hid (set9_blk hqb)
  have HB9 := Lib.hid (set9_but w10 q)
  clear hqb
  go_wp2_with fail
  have hb9 := HB9.out (.int .u16 (b0 * 256 + b1)) (.int .u16 (b2 * 256 + b3)) (.int .u32 (((b4 * 256 + b5) * 256 + b6) * 256 + b7)) (.int .u32 (((b8 * 256 + b9) * 256 + b10) * 256 + b11)) (.int .u8 b13) (.int .u16 (b14 * 256 + b15)) (.int .u16 (b18 * 256 + b19)) (.slice A8 m8 c8) (.slice A10 r c10)
  have hs9 := HS9.out (.int .u16 (b0 * 256 + b1)) (.int .u16 (b2 * 256 + b3)) (.int .u32 (((b4 * 256 + b5) * 256 + b6) * 256 + b7)) (.int .u32 (((b8 * 256 + b9) * 256 + b10) * 256 + b11)) (.int .u8 b13) (.int .u16 (b14 * 256 + b15)) (.int .u16 (b18 * 256 + b19)) (.slice A8 m8 c8) (.slice A10 r c10)
  go_end0
  have hr7 := Hr.out.but hb9 (fun k e => by rw [e]; omega)
  obtain ⟨A7, n7, c7, _, _, _, _, _, hg7, _⟩ := hr7
  have hrl : b.length - offB b = r := by rw [Hlen.out, Hoff.out, ← Her.out, List.length_drop, Hll.out]; have := Em.out; omega
  have hrd : b.drop (offB b) = l.drop m := by rw [Hoff.out, Em.out, ← List.drop_drop, show b.drop 20 = l by rw [Heb.out]; rfl]
  refine ⟨0, A7, n7, c7, _, .inl ⟨rfl, rfl⟩, hg7, (Hb.out.mono (fun _ _ h => .inr h)).trans (hb9.mono (fun _ _ h => .inl h)), Herr.out.symm, .inr ⟨rfl, A8, m8, c8, os8, A10, c10, ?_, ?_, ?_, ?_⟩⟩
  · rw [hrl, Hsof.out]
    exact hs9
  · exact Ho8.out.but hb9 (fun k e => by have := Ho8.out.at_ e; omega)
  · rw [Hsof.out, HpO.out]
    exact Hl8.out.but hb9 (fun _ _ _ k h2 => by have := h2.at_ rfl; omega)
  · rw [hrl, hrd]
    exact Ho10.out.but hb9 (fun k hk e => by omega)
end Go.Proofs.YtoegfgbalcholaaGreat

/-
  Segments' bytes, plainly: what is laid is read again, what is read may be laid; other addresses; one bit that is turned. No function of the program.
-/
namespace Go.Proofs.YtoegfgbalcholaaGreat
set_option maxRecDepth 10000
open Go.RowKit

theorem ws_b2 (f : Int) (h : 0 ≤ f ∧ f < 65536) : ws false (b2 f) = f := by simp [ws, b2]; omega
/-- All words of a segment's bytes, its field told apart. -/
def restS (s : Seg) : Int := ws false (aheadT s (offS s)) + ws false (be16 s.ug ++ (optB s ++ s.d))
theorem ws_segB {s : Seg} (h : SegNum s) (src dst : Int) : ws false (segB src dst s) = restS s + fieldS src dst s := by
  unfold segB restS
  rw [segHd_parts h]
  have e : aheadT s (offS s) ++ b2 (fieldS src dst s) ++ be16 s.ug ++ optB s ++ s.d = aheadT s (offS s) ++ (b2 (fieldS src dst s) ++ (be16 s.ug ++ (optB s ++ s.d))) := by simp
  rw [e, ws_even _ _ (by simp [aheadT, be16, be32]), ws_even _ _ (by simp [b2]), ws_b2 _ (fieldS_bd src dst s)]
  omega
theorem pseudo_len (a b c d : Int) : (pseudoL a b c d).length % 2 = 0 := by simp [pseudoL]
theorem fieldS_eq {s : Seg} (h : SegNum s) (src dst : Int) : fieldS src dst s = 65535 - fold16 (ws false (pseudoL src dst 6 (lenB s)) + restS s) := by
  rw [fieldS_of h src dst _ rfl]
  unfold sumL restS
  rw [show ([pseudoL src dst 6 (lenB s), aheadT s (offS s), be16 s.ug ++ (optB s ++ s.d)] : List (List Int)).flatten = pseudoL src dst 6 (lenB s) ++ (aheadT s (offS s) ++ (be16 s.ug ++ (optB s ++ s.d))) by simp,
    ws_even _ _ (pseudo_len _ _ _ _), ws_even _ _ (by simp [aheadT, be16, be32])]
/-- What was read of a sum: its total goes into 65535, and it is not 0. -/
theorem sum_right_iff (n : Int) (h : 0 ≤ n) : fold16 n = 65535 ↔ n % 65535 = 0 ∧ 0 < n := by unfold fold16; split <;> omega
theorem fill_right (T : Int) (h : 0 ≤ T) : fold16 (T + (65535 - fold16 T)) = 65535 := by
  have h1 := fold_mod T h
  have h2 := fold_bd T
  rw [sum_right_iff _ (by omega)]
  by_cases h0 : T = 0
  · subst h0; simp [fold_zero]
  · have := fold_pos T (by omega); omega
theorem segB_len (src dst : Int) (s : Seg) : (segB src dst s).length = lenB s := by
  simp [segB, segHd, b2, b4, lenB]; omega
theorem restS_nn {s : Seg} (h : SegNum s) (ho : 0 ≤ offS s ∧ offS s < 256) (hy : ∀ x ∈ optB s, 0 ≤ x ∧ x < 256) (hd : ∀ x ∈ s.d, 0 ≤ x ∧ x < 256) : 0 ≤ restS s := by
  have h1 := ws_nn (aheadT s (offS s)) (aheadT_bytes h ho) false
  have h2 := ws_nn (be16 s.ug ++ (optB s ++ s.d)) (fun x hx => by
    rcases List.mem_append.1 hx with h1 | h1
    · have := h.ug; simp [be16] at h1; omega
    · rcases List.mem_append.1 h1 with h2 | h2
      · exact hy x h2
      · exact hd x h2) false
  unfold restS
  omega

/-- What a segment that may be is. -/
structure Good (s : Seg) : Prop where
  num : SegNum s
  os : ∀ l ∈ s.os, (0 ≤ l.1 ∧ l.1 < 256) ∧ ∀ x ∈ l.2, 0 ≤ x ∧ x < 256
  d : ∀ x ∈ s.d, 0 ≤ x ∧ x < 256
  ok : errS s = 0
theorem Good.may {s : Seg} (h : Good s) : s.os.any badB = false ∧ (bytesO s.os).length ≤ 40 ∧ lenB s ≤ 1480 := by
  have hm := (errS_zero s).1 h.ok
  unfold mayT at hm
  rw [Bool.and_eq_true, Bool.and_eq_true] at hm
  obtain ⟨⟨h1, h2⟩, h3⟩ := hm
  exact ⟨by simpa using h1, by simpa using h2, by simpa using h3⟩
theorem Good.opt {s : Seg} (h : Good s) : (optB s).length ≤ 40 ∧ (optB s).length % 4 = 0 ∧ ∀ x ∈ optB s, 0 ≤ x ∧ x < 256 := by
  have hm := h.may
  have hl := padTo4_len (bytesO s.os)
  refine ⟨?_, ?_, padTo4_bytes_ (bytesO_bytes h.os (fun l hl => (badB_false (by have := hm.1; rw [List.any_eq_false] at this; simpa using this l hl)).2))⟩
  · unfold optB; omega
  · unfold optB; omega
theorem Good.off {s : Seg} (h : Good s) : 0 ≤ offS s ∧ offS s < 256 ∧ offS s / 16 * 4 = 20 + (optB s).length := by
  have := h.opt
  unfold offS
  omega
theorem Good.nn {s : Seg} (h : Good s) : 0 ≤ restS s := restS_nn h.num ⟨h.off.1, h.off.2.1⟩ h.opt.2.2 h.d
theorem ws_pseudo_nn (a b n : Int) : 6 ≤ ws false (pseudoL a b 6 n) := by simp [ws, pseudoL]; omega
theorem Good.sum {s : Seg} (h : Good s) (src dst : Int) : sumL (pseudoL src dst 6 (lenB s) ++ segB src dst s) = 65535 := by
  unfold sumL
  rw [ws_even _ _ (pseudo_len _ _ _ _), ws_segB h.num, fieldS_eq h.num, ← Int.add_assoc]
  exact fill_right _ (by have := ws_pseudo_nn src dst (lenB s); have := h.nn; omega)
theorem Good.bytes {s : Seg} (h : Good s) (src dst : Int) : ∀ x ∈ segB src dst s, 0 ≤ x ∧ x < 256 := by
  intro x hx
  unfold segB at hx
  rcases List.mem_append.1 hx with h1 | h1
  · rcases List.mem_append.1 h1 with h2 | h2
    · exact segHd_bytes s _ _ h.num.fl ⟨h.off.1, h.off.2.1⟩ x h2
    · exact h.opt.2.2 x h2
  · exact h.d x h1
/-- A segment's bytes, one by one. -/
theorem segB_cons (src dst : Int) (s : Seg) : ∃ f0 f1 : Int, segB src dst s = s.sp / 256 % 256 :: s.sp % 256 :: s.dp / 256 % 256 :: s.dp % 256 :: s.sq / 16777216 % 256 :: s.sq / 65536 % 256 :: s.sq / 256 % 256 :: s.sq % 256 ::
    s.ak / 16777216 % 256 :: s.ak / 65536 % 256 :: s.ak / 256 % 256 :: s.ak % 256 :: offS s :: s.fl :: s.wn / 256 % 256 :: s.wn % 256 :: f0 :: f1 :: s.ug / 256 % 256 :: s.ug % 256 :: (optB s ++ s.d) :=
  ⟨fieldS src dst s / 256 % 256, fieldS src dst s % 256, by simp [segB, segHd, b2, b4]⟩
theorem Good.offB {s : Seg} (h : Good s) (src dst : Int) : offB (segB src dst s) = 20 + (optB s).length := by
  obtain ⟨f0, f1, e⟩ := segB_cons src dst s
  have := h.off
  unfold Go.Proofs.YtoegfgbalcholaaGreat.offB
  rw [e]
  show (offS s / 16 * 4).toNat = _
  omega
theorem segB_drop (src dst : Int) (s : Seg) : (segB src dst s).drop 20 = optB s ++ s.d := by
  obtain ⟨f0, f1, e⟩ := segB_cons src dst s
  rw [e]; rfl
theorem Good.opts {s : Seg} (h : Good s) (src dst : Int) : parseO (((segB src dst s).take (Go.Proofs.YtoegfgbalcholaaGreat.offB (segB src dst s))).drop 20) = (s.os, 0) := by
  rw [h.offB, List.drop_take, segB_drop, Nat.add_sub_cancel_left, List.take_left]
  exact parseO_put h.may.1 h.may.2.1
/-- Between its own addresses, what is laid is a segment. -/
theorem Good.err {s : Seg} (h : Good s) (src dst : Int) : errSeg src dst (segB src dst s) = 0 := by
  have h1 := h.may
  have h2 := segB_len src dst s
  have h3 := h.offB src dst
  have h4 := h.sum src dst
  have h5 := h.opts src dst
  unfold errSeg
  rw [if_neg (by omega), if_neg (by unfold lenB at h2; omega), if_neg (by omega), if_neg (by unfold lenB at h2; omega), h2, if_neg (by rw [h4]; simp), if_neg (by rw [h5]; simp)]
theorem Good.segOf {s : Seg} (h : Good s) (src dst : Int) : Go.Proofs.YtoegfgbalcholaaGreat.segOf (segB src dst s) (Go.Proofs.YtoegfgbalcholaaGreat.offB (segB src dst s)) = s := by
  obtain ⟨f0, f1, e⟩ := segB_cons src dst s
  rw [segOf_cons _ _ _ _ _ _ _ _ _ _ _ _ _ _ _ _ _ _ _ _ _ _ _ e, h.opts, h.offB, ← List.drop_drop, segB_drop, List.drop_left]
  obtain ⟨h1, h2, h3, h4, h5, h6, h7⟩ := h.num
  obtain ⟨sp, dp, sq, ak, fl, wn, ug, os, d⟩ := s
  simp only at h1 h2 h3 h4 h5 h6 h7 ⊢
  rw [show sp / 256 % 256 * 256 + sp % 256 = sp by omega, show dp / 256 % 256 * 256 + dp % 256 = dp by omega, show wn / 256 % 256 * 256 + wn % 256 = wn by omega, show ug / 256 % 256 * 256 + ug % 256 = ug by omega,
    show ((sq / 16777216 % 256 * 256 + sq / 65536 % 256) * 256 + sq / 256 % 256) * 256 + sq % 256 = sq by omega, show ((ak / 16777216 % 256 * 256 + ak / 65536 % 256) * 256 + ak / 256 % 256) * 256 + ak % 256 = ak by omega]

/-- Where nothing is wrong, the sum is right. -/
theorem err_zero {src dst : Int} {b : List Int} (h : errSeg src dst b = 0) : b.length ≤ 1480 ∧ 20 ≤ b.length ∧ 20 ≤ offB b ∧ offB b ≤ b.length ∧ sumL (pseudoL src dst 6 b.length ++ b) = 65535 ∧ (parseO ((b.take (offB b)).drop 20)).2 = 0 := by
  unfold errSeg at h
  by_cases h3 : 1480 < b.length
  · rw [if_pos h3] at h; omega
  by_cases h4 : b.length < 20
  · rw [if_neg h3, if_pos h4] at h; omega
  by_cases h5 : offB b < 20
  · rw [if_neg h3, if_neg h4, if_pos h5] at h; omega
  by_cases h6 : b.length < offB b
  · rw [if_neg h3, if_neg h4, if_neg h5, if_pos h6] at h; omega
  by_cases h7 : sumL (pseudoL src dst 6 b.length ++ b) = 65535
  · by_cases h8 : (parseO ((b.take (offB b)).drop 20)).2 = 0
    · exact ⟨by omega, by omega, by omega, by omega, h7, h8⟩
    · rw [if_neg h3, if_neg h4, if_neg h5, if_neg h6, if_neg (by simp [h7]), if_pos h8] at h; omega
  · rw [if_neg h3, if_neg h4, if_neg h5, if_neg h6, if_pos h7] at h; omega

/-- Other addresses: no segment, unless both pairs' sums are alike. -/
def pairW (src dst : Int) : Int := ws false (pseudoL src dst 0 0)
theorem pairW_eq (src dst n : Int) : ws false (pseudoL src dst 6 n) = pairW src dst + 6 + n % 65536 := by
  unfold pairW
  simp [ws, pseudoL]
  omega
theorem pairW_nn (src dst : Int) : 0 ≤ pairW src dst := by unfold pairW; simp [ws, pseudoL]; omega
theorem pair_sum (src dst : Int) : sumL (pseudoL src dst 0 0) = fold16 (pairW src dst) := rfl
theorem like_pair (a b : Int) (ha : 0 ≤ a) (hb : 0 ≤ b) : likeB (fold16 a) (fold16 b) = true ↔ a % 65535 = b % 65535 := by
  have h1 := fold_mod a ha
  have h2 := fold_mod b hb
  have h3 := fold_bd a
  have h4 := fold_bd b
  constructor
  · intro h; have := like_mod _ _ h; omega
  · intro h; exact like_of _ _ (by unfold U16; omega) (by unfold U16; omega) (by omega)
theorem Good.other {s : Seg} (h : Good s) (src dst src2 dst2 : Int) : errSeg src2 dst2 (segB src dst s) = if likeB (sumL (pseudoL src dst 0 0)) (sumL (pseudoL src2 dst2 0 0)) = true then 0 else 20 := by
  have h1 := h.may
  have h2 := segB_len src dst s
  have h3 := h.offB src dst
  have h4 := h.sum src dst
  have h5 := h.opts src dst
  have hnn := ws_nn _ (h.bytes src dst) false
  rw [pair_sum, pair_sum]
  have hl := like_pair (pairW src dst) (pairW src2 dst2) (pairW_nn _ _) (pairW_nn _ _)
  have p1 := pairW_nn src dst
  have p2 := pairW_nn src2 dst2
  unfold sumL at h4
  rw [ws_even _ _ (pseudo_len _ _ _ _), pairW_eq, sum_right_iff _ (by omega)] at h4
  have hs : sumL (pseudoL src2 dst2 6 (lenB s) ++ segB src dst s) = 65535 ↔ pairW src dst % 65535 = pairW src2 dst2 % 65535 := by
    unfold sumL
    rw [ws_even _ _ (pseudo_len _ _ _ _), pairW_eq, sum_right_iff _ (by omega)]
    omega
  unfold errSeg
  rw [if_neg (by omega), if_neg (by unfold lenB at h2; omega), if_neg (by omega), if_neg (by unfold lenB at h2; omega), h2]
  by_cases hk : likeB (fold16 (pairW src dst)) (fold16 (pairW src2 dst2)) = true
  · rw [if_pos hk, if_neg (by rw [hs.2 (hl.1 hk)]; simp), if_neg (by rw [h5]; simp)]
  · rw [if_neg hk, if_pos (fun h6 => hk (hl.2 (hs.1 h6)))]

/-- What is read may be laid, in no more bytes. -/
theorem parse_bytes {b : List Int} (hb : ∀ x ∈ b, 0 ≤ x ∧ x < 256) : ∀ l ∈ (parseO b).1, (0 ≤ l.1 ∧ l.1 < 256) ∧ ∀ x ∈ l.2, 0 ≤ x ∧ x < 256 := by
  have key : ∀ (f : Nat) (b : List Int), (∀ x ∈ b, 0 ≤ x ∧ x < 256) → ∀ l ∈ (parseF f b).1, (0 ≤ l.1 ∧ l.1 < 256) ∧ ∀ x ∈ l.2, 0 ≤ x ∧ x < 256 := by
    intro f
    induction f with
    | zero => intro b _ l hl; simp [parseF] at hl
    | succ f ih =>
      intro b hb l hl
      match b, hb with
      | [], _ => simp [parseF] at hl
      | k :: r, hb =>
        have hr : ∀ x ∈ r, 0 ≤ x ∧ x < 256 := fun x hx => hb x (by simp [hx])
        have hk := hb k (by simp)
        unfold parseF at hl
        split at hl
        · split at hl <;> simp at hl
        · split at hl
          · exact ih r hr l hl
          · match r, hr with
            | [], _ => simp at hl
            | n :: r', hr =>
              simp only at hl
              split at hl
              · simp at hl
              · split at hl
                · simp at hl
                · split at hl
                  · rcases List.mem_cons.1 hl with rfl | hl
                    · exact ⟨hk, fun x hx => hr x (by simp [List.mem_of_mem_take hx])⟩
                    · exact ih _ (fun x hx => hr x (by simp [List.mem_of_mem_drop hx])) l hl
                  · simp at hl
  unfold parseO
  split
  · intro l hl; simp at hl
  · exact key _ b hb
theorem segOf_good {src dst : Int} {b : List Int} (hb : ∀ x ∈ b, 0 ≤ x ∧ x < 256) (h : errSeg src dst b = 0) : Good (Go.Proofs.YtoegfgbalcholaaGreat.segOf b (Go.Proofs.YtoegfgbalcholaaGreat.offB b)) ∧ lenB (Go.Proofs.YtoegfgbalcholaaGreat.segOf b (Go.Proofs.YtoegfgbalcholaaGreat.offB b)) ≤ b.length := by
  obtain ⟨h1, h2, h3, h4, h5, h6⟩ := err_zero h
  have hob : ∀ x ∈ (b.take (Go.Proofs.YtoegfgbalcholaaGreat.offB b)).drop 20, 0 ≤ x ∧ x < 256 := fun x hx => hb x (List.mem_of_mem_take (List.mem_of_mem_drop hx))
  have hol : ((b.take (Go.Proofs.YtoegfgbalcholaaGreat.offB b)).drop 20).length = Go.Proofs.YtoegfgbalcholaaGreat.offB b - 20 := by rw [List.length_drop, List.length_take]; omega
  have hx12 := getD_byte hb 12
  have ho4 : Go.Proofs.YtoegfgbalcholaaGreat.offB b % 4 = 0 ∧ Go.Proofs.YtoegfgbalcholaaGreat.offB b ≤ 60 := by unfold Go.Proofs.YtoegfgbalcholaaGreat.offB; omega
  have hf := parseF_fits ((b.take (Go.Proofs.YtoegfgbalcholaaGreat.offB b)).drop 20).length _ hob (by omega)
  have hpl : parseO ((b.take (Go.Proofs.YtoegfgbalcholaaGreat.offB b)).drop 20) = parseF ((b.take (Go.Proofs.YtoegfgbalcholaaGreat.offB b)).drop 20).length ((b.take (Go.Proofs.YtoegfgbalcholaaGreat.offB b)).drop 20) := by unfold parseO; rw [if_neg (by omega)]; rfl
  rw [← hpl] at hf
  have hpad := padTo4_len (bytesO (parseO ((b.take (Go.Proofs.YtoegfgbalcholaaGreat.offB b)).drop 20)).1)
  have hlen : lenB (Go.Proofs.YtoegfgbalcholaaGreat.segOf b (Go.Proofs.YtoegfgbalcholaaGreat.offB b)) ≤ b.length := by
    unfold lenB optB
    show 20 + (padTo4 (bytesO (parseO ((b.take (Go.Proofs.YtoegfgbalcholaaGreat.offB b)).drop 20)).1)).length + (b.drop (Go.Proofs.YtoegfgbalcholaaGreat.offB b)).length ≤ _
    rw [List.length_drop]
    omega
  have hn : ∀ k s, s ≤ 4 → (∀ x ∈ (b.drop k).take s, 0 ≤ x ∧ x < 256) := fun k s _ x hx => hb x (List.mem_of_mem_drop (List.mem_of_mem_take hx))
  have hnl : ∀ k s, s ≤ 4 → ((b.drop k).take s).length ≤ s := fun k s _ => by rw [List.length_take]; omega
  have n2 : ∀ k, 0 ≤ numL ((b.drop k).take 2) ∧ numL ((b.drop k).take 2) < 65536 := fun k => by
    have := numL_bd _ (hn k 2 (by omega)) (by have := hnl k 2 (by omega); omega)
    have hl := hnl k 2 (by omega)
    have hp : (256 : Int) ^ ((b.drop k).take 2).length ≤ 65536 := by
      have : ((b.drop k).take 2).length = 0 ∨ ((b.drop k).take 2).length = 1 ∨ ((b.drop k).take 2).length = 2 := by omega
      rcases this with e | e | e <;> rw [e] <;> decide
    omega
  have n4 : ∀ k, 0 ≤ numL ((b.drop k).take 4) ∧ numL ((b.drop k).take 4) < 4294967296 := fun k => by
    have := numL_bd _ (hn k 4 (by omega)) (by have := hnl k 4 (by omega); omega)
    have hl := hnl k 4 (by omega)
    have hp : (256 : Int) ^ ((b.drop k).take 4).length ≤ 4294967296 := by
      have : ((b.drop k).take 4).length = 0 ∨ ((b.drop k).take 4).length = 1 ∨ ((b.drop k).take 4).length = 2 ∨ ((b.drop k).take 4).length = 3 ∨ ((b.drop k).take 4).length = 4 := by omega
      rcases this with e | e | e | e | e <;> rw [e] <;> decide
    omega
  refine ⟨⟨⟨n2 0, n2 2, n4 4, n4 8, getD_byte hb 13, n2 14, n2 18⟩, parse_bytes hob, fun x hx => hb x (List.mem_of_mem_drop hx), ?_⟩, hlen⟩
  rw [errS_zero]
  unfold mayT
  rw [Bool.and_eq_true, Bool.and_eq_true]
  refine ⟨⟨?_, ?_⟩, ?_⟩
  · show (!(parseO ((b.take (Go.Proofs.YtoegfgbalcholaaGreat.offB b)).drop 20)).1.any badB) = true
    rw [hf.1]; rfl
  · show decide ((bytesO (parseO ((b.take (Go.Proofs.YtoegfgbalcholaaGreat.offB b)).drop 20)).1).length ≤ 40) = true
    have := hf.2
    simp; omega
  · simp; omega
end Go.Proofs.YtoegfgbalcholaaGreat
