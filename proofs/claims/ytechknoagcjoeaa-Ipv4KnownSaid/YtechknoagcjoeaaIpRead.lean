/-
  The contract of package ipv4's Parse: what is wrong is told as the document's own order has it; else the head and the payload, in rows of the call's own.
-/
import Derived.Test.YtechknoagcjoeaaIpParse
import Derived.BigRegion
import Derived.RegionTactic
import Derived.ChangeAlike
namespace Go.Proofs.Ytechknoagcjoeaa
open Go.RowKit

theorem twenty (b : List Int) (h : 20 ≤ b.length) : ∃ (b0 b1 b2 b3 b4 b5 b6 b7 b8 b9 b10 b11 b12 b13 b14 b15 b16 b17 b18 b19 : Int) (l : List Int), b = b0 :: b1 :: b2 :: b3 :: b4 :: b5 :: b6 :: b7 :: b8 :: b9 :: b10 :: b11 :: b12 :: b13 :: b14 :: b15 :: b16 :: b17 :: b18 :: b19 :: l := by
  have four : ∀ l : List Int, 4 ≤ l.length → ∃ a b c d t, l = a :: b :: c :: d :: t := by
    intro l h
    rcases l with _ | ⟨a, _ | ⟨b, _ | ⟨c, _ | ⟨d, t⟩⟩⟩⟩
    · simp at h
    · simp at h
    · simp at h
    · simp at h
    · exact ⟨a, b, c, d, t, rfl⟩
  obtain ⟨b0, b1, b2, b3, t, rfl⟩ := four b (by omega)
  obtain ⟨b4, b5, b6, b7, t, rfl⟩ := four t (by simp at h; omega)
  obtain ⟨b8, b9, b10, b11, t, rfl⟩ := four t (by simp at h; omega)
  obtain ⟨b12, b13, b14, b15, t, rfl⟩ := four t (by simp at h; omega)
  obtain ⟨b16, b17, b18, b19, t, rfl⟩ := four t (by simp at h; omega)
  exact ⟨_, _, _, _, _, _, _, _, _, _, _, _, _, _, _, _, _, _, _, _, t, rfl⟩

theorem parse1_any (B g p q s n c : Nat) (A : Option Addr) (b : List Int) (w : World) (hB : p < B ∧ q < B ∧ s < B ∧ p ≠ q ∧ p ≠ s ∧ q ≠ s) (hc : n ≤ c ∧ c ≤ maxLen) (hAB : 0 < n → ∀ x o, A = some ⟨x, o, none⟩ → x < B) (hA : Rd w A n b)
    (hp : Box w p 24 (.slice A n c)) (hq : w.heap[q]? = some (.cells (headCells 0 0 false 0 0 0 0 none 0 0) 26 (0, 0))) (hs : Box w s 24 (.slice none 0 0)) (h : Rdr w B g b 0) :
    Calls Try.prog 18 #[.pointer (some ⟨g, 0, none⟩), .pointer (some ⟨p, 0, none⟩), .pointer (some ⟨q, 0, none⟩), .pointer (some ⟨s, 0, none⟩)] w
      (Did (fun k => k = q ∨ k = s) g (ParseR q s b w) w) := by
  have hlen := hA.len
  by_cases h1 : 1500 < n
  · exact parse1_long B g p q s n c A b w hB h1 hlen hp hq hs h
  · by_cases h2 : n < 20
    · exact parse1_short B g p q s n c A b w hB h2 hlen hp hq hs h
    · obtain ⟨b0, b1, b2, b3, b4, b5, b6, b7, b8, b9, b10, b11, b12, b13, b14, b15, b16, b17, b18, b19, l, rfl⟩ := twenty b (by omega)
      exact parse1_ok B g p q s n c A b0 b1 b2 b3 b4 b5 b6 b7 b8 b9 b10 b11 b12 b13 b14 b15 b16 b17 b18 b19 l w hB (by omega) hlen hc (hAB (by omega)) hA hp hq hs h

theorem OwnB.drew {w : World} {B : Nat} {A : Option Addr} {n c : Nat} {l : List Int} (h : OwnB w B A n c l) : OwnB w.drew B A n c l := h

def ParseBad (x : Int) (w : World) (e : Ending) (w' : World) : Prop := e = .returned (.tuple #[.agg #[.int .u8 0, .int .u16 0, .bool false, .int .u8 0, .int .u8 0, .int .u32 0, .int .u32 0, .slice none 0 0], .slice none 0 0, .int .i64 x]) ∧ Below w.heap.size w w'
def ParseGood (b : List Int) (w : World) (e : Ending) (w' : World) : Prop :=
  ∃ Ao no co Ap np cp, e = .returned (.tuple #[.agg #[.int .u8 (b.getD 1 0), .int .u16 (b.getD 4 0 * 256 + b.getD 5 0), .bool (decide (flagsL b = 16384)), .int .u8 (b.getD 8 0), .int .u8 (b.getD 9 0),
      .int .u32 (((b.getD 12 0 * 256 + b.getD 13 0) * 256 + b.getD 14 0) * 256 + b.getD 15 0), .int .u32 (((b.getD 16 0 * 256 + b.getD 17 0) * 256 + b.getD 18 0) * 256 + b.getD 19 0), .slice Ao no co], .slice Ap np cp, .int .i64 0]) ∧
    OwnB w' w.heap.size Ao no co ((b.drop 20).take ((hdrL b).toNat - 20)) ∧ OwnB w' w.heap.size Ap np cp (b.drop (hdrL b).toNat) ∧ Below w.heap.size w w'

theorem parse_bad (A : Option Addr) (n c : Nat) (b : List Int) (x : Int) (w : World) (hc : n ≤ c ∧ c ≤ maxLen) (hn : n ≤ 140737488355328) (hA : Rd w A n b) (hx : errIp b = x) (h0 : x ≠ 0) :
    Calls Try.prog 9 #[.slice A n c] w (ParseBad x w) := by
  have hmf : ∀ (fn : Fn) (first cap : Array Value) (w : World), (Instr.makeFunc fn first cap).run Try.prog w = .ok (.func fn first cap) w := fun _ _ _ _ => rfl
  have hal : Below w.heap.size w w := Below.refl _ _
  have HA := Lib.hid hA
  have Hx := Lib.hid hx
  clear hA hx
  go_enter Try.func9, Try.ntmps9
  go_wp2_with fail
  obtain ⟨w0, hw0⟩ : ∃ w0, w0 = (((w.alloc (.cells #[.slice A n c] 24)).alloc (.cells #[.int .u8 0, .int .u16 0, .bool false, .int .u8 0, .int .u8 0, .int .u32 0, .int .u32 0, .slice none 0 0] 26)).alloc (.cells #[.int .u8 0, .int .u16 0, .bool false, .int .u8 0, .int .u8 0, .int .u32 0, .int .u32 0, .slice none 0 0] 26)).alloc (.cells #[.slice none 0 0] 24) := ⟨_, rfl⟩
  rw [← hw0]
  have hsz : w0.heap.size = w.heap.size + 4 := by rw [hw0]; simp
  have hb0 : Below w.heap.size w w0 := by rw [hw0]; exact (((hal.alloc (Nat.le_refl _) _).alloc (by simp) _).alloc (by simp <;> omega) _).alloc (by simp <;> omega) _
  have h1 : Box w0 w.heap.size 24 (.slice A n c) := by rw [hw0]; exact (((Box.new w _ _).alloc _).alloc _).alloc _
  have h2 : w0.heap[w.heap.size + 1 + 1]? = some (.cells (headCells 0 0 false 0 0 0 0 none 0 0) 26 (0, 0)) := by
    rw [hw0]
    have := heap_alloc_new ((w.alloc (.cells #[.slice A n c] 24)).alloc (.cells #[.int .u8 0, .int .u16 0, .bool false, .int .u8 0, .int .u8 0, .int .u32 0, .int .u32 0, .slice none 0 0] 26)) (.cells #[.int .u8 0, .int .u16 0, .bool false, .int .u8 0, .int .u8 0, .int .u32 0, .int .u32 0, .slice none 0 0] 26)
    rw [Below.heap_alloc _ _ _ (by simp)]
    simpa [headCells] using this
  have h3 : w0.heap[w.heap.size + 1]? = some (.cells (headCells 0 0 false 0 0 0 0 none 0 0) 26 (0, 0)) := by
    rw [hw0]
    have := heap_alloc_new (w.alloc (.cells #[.slice A n c] 24)) (.cells #[.int .u8 0, .int .u16 0, .bool false, .int .u8 0, .int .u8 0, .int .u32 0, .int .u32 0, .slice none 0 0] 26)
    rw [Below.heap_alloc _ _ _ (by simp), Below.heap_alloc _ _ _ (by simp)]
    simpa [headCells] using this
  have h4 : Box w0 (w.heap.size + 1 + 1 + 1) 24 (.slice none 0 0) := by
    rw [hw0]
    have := Box.new (((w.alloc (.cells #[.slice A n c] 24)).alloc (.cells #[.int .u8 0, .int .u16 0, .bool false, .int .u8 0, .int .u8 0, .int .u32 0, .int .u32 0, .slice none 0 0] 26)).alloc (.cells #[.int .u8 0, .int .u16 0, .bool false, .int .u8 0, .int .u8 0, .int .u32 0, .int .u32 0, .slice none 0 0] 26)) 24 (.slice none 0 0)
    simpa using this
  have hr0 := HA.out.below hb0
  clear hw0
  have hdo := fun w1 g (hb : Below w0.heap.size w0 w1) (_ : w0.heap.size ≤ g) (_ : g < w1.heap.size) (hR : Rdr w1 w0.heap.size g b 0) =>
    parse1_any w0.heap.size g w.heap.size (w.heap.size + 1 + 1) (w.heap.size + 1 + 1 + 1) n c A b w1 (by omega) hc (fun h x o e => by
      obtain ⟨x', o', e', hlt, _⟩ := hr0.at_ h
      rw [e] at e'; injection e' with e'; injection e' with e'; subst e'; exact hlt) (hr0.below hb) (h1.below hb (by omega)) ((hb.block _ (by omega)).trans h2) (h4.below hb (by omega)) hR
  have hread := read_any (fun k => k = w.heap.size + 1 + 1 ∨ k = w.heap.size + 1 + 1 + 1) _ n c #[.pointer (some ⟨w.heap.size, 0, none⟩), .pointer (some ⟨w.heap.size + 1 + 1, 0, none⟩), .pointer (some ⟨w.heap.size + 1 + 1 + 1, 0, none⟩)] _ (fun _ => rfl) A b (ParseR (w.heap.size + 1 + 1) (w.heap.size + 1 + 1 + 1) b) w0 (fun k hk => by omega) hn hr0 (enter_of Try.func18 (by kernel_rfl) rfl) hdo
  have Hb0 := Lib.hid hb0
  have H3 := Lib.hid h3
  have Hsz := Lib.hid hsz
  clear hb0 h1 h2 h3 h4 hr0 hdo hal hsz
  refine hread.mono ?_
  clear hread
  rintro e w5 ⟨x', w1, w4, rfl, hb1, ⟨hxe, hR⟩, hb4, hb5⟩
  rw [Hx.out] at hxe
  subst hxe
  rcases hR with ⟨_, hq, hs⟩ | ⟨h, _⟩
  rotate_left 1
  · exact absurd h h0
  have hsz := Hsz.out
  have hqb := hb4.blk hq (by omega)
  have hsb := hs.but hb4 (by omega)
  have hrb := hb5.blk H3.out (by omega)
  unfold headCells at hqb hrb
  have hB := Hb0.out.trans (hb5.below (B := w.heap.size) (fun k hk => by omega) Hb0.out.size)
  have q0 := blk_cell hqb 0
  have q1 := blk_cell hqb 1
  have q2 := blk_cell hqb 2
  have q3 := blk_cell hqb 3
  have q4 := blk_cell hqb 4
  have q5 := blk_cell hqb 5
  have q6 := blk_cell hqb 6
  have q7 := blk_cell hqb 7
  have r0 := blk_cell hrb 0
  have r1 := blk_cell hrb 1
  have r2 := blk_cell hrb 2
  have r3 := blk_cell hrb 3
  have r4 := blk_cell hrb 4
  have r5 := blk_cell hrb 5
  have r6 := blk_cell hrb 6
  have r7 := blk_cell hrb 7
  simp at q0 q1 q2 q3 q4 q5 q6 q7 r0 r1 r2 r3 r4 r5 r6 r7
  have rf := blk_free hrb
  have sc := hsb.cell
  have HB := Lib.hid hB
  clear hqb hrb hsb hq hs hb1 hb4 hb5 hsz hB
  go_wp2_with fail
  go_region
  go_wp2_with fail
  refine bodyPost_ret (v := .tuple #[.agg #[.int .u8 0, .int .u16 0, .bool false, .int .u8 0, .int .u8 0, .int .u32 0, .int .u32 0, .slice none 0 0], .slice none 0 0, .int .i64 x']) (by simp [results, Try.results9, go_sem, *]) rfl ⟨rfl, ?_⟩
  exact Below.drew ((((((((HB.out.setCell (by simp) _).setCell (by simp) _).setCell (by simp) _).setCell (by simp) _).setCell (by simp) _).setCell (by simp) _).setCell (by simp) _).setCell (by simp) _)

theorem parse_good (A : Option Addr) (n c : Nat) (b : List Int) (w : World) (hc : n ≤ c ∧ c ≤ maxLen) (hn : n ≤ 140737488355328) (hA : Rd w A n b) (hx : errIp b = 0) :
    Calls Try.prog 9 #[.slice A n c] w (ParseGood b w) := by
  have hmf : ∀ (fn : Fn) (first cap : Array Value) (w : World), (Instr.makeFunc fn first cap).run Try.prog w = .ok (.func fn first cap) w := fun _ _ _ _ => rfl
  have hal : Below w.heap.size w w := Below.refl _ _
  have HA := Lib.hid hA
  have Hx := Lib.hid hx
  clear hA hx
  go_enter Try.func9, Try.ntmps9
  go_wp2_with fail
  obtain ⟨w0, hw0⟩ : ∃ w0, w0 = (((w.alloc (.cells #[.slice A n c] 24)).alloc (.cells #[.int .u8 0, .int .u16 0, .bool false, .int .u8 0, .int .u8 0, .int .u32 0, .int .u32 0, .slice none 0 0] 26)).alloc (.cells #[.int .u8 0, .int .u16 0, .bool false, .int .u8 0, .int .u8 0, .int .u32 0, .int .u32 0, .slice none 0 0] 26)).alloc (.cells #[.slice none 0 0] 24) := ⟨_, rfl⟩
  rw [← hw0]
  have hsz : w0.heap.size = w.heap.size + 4 := by rw [hw0]; simp
  have hb0 : Below w.heap.size w w0 := by rw [hw0]; exact (((hal.alloc (Nat.le_refl _) _).alloc (by simp) _).alloc (by simp <;> omega) _).alloc (by simp <;> omega) _
  have h1 : Box w0 w.heap.size 24 (.slice A n c) := by rw [hw0]; exact (((Box.new w _ _).alloc _).alloc _).alloc _
  have h2 : w0.heap[w.heap.size + 1 + 1]? = some (.cells (headCells 0 0 false 0 0 0 0 none 0 0) 26 (0, 0)) := by
    rw [hw0]
    have := heap_alloc_new ((w.alloc (.cells #[.slice A n c] 24)).alloc (.cells #[.int .u8 0, .int .u16 0, .bool false, .int .u8 0, .int .u8 0, .int .u32 0, .int .u32 0, .slice none 0 0] 26)) (.cells #[.int .u8 0, .int .u16 0, .bool false, .int .u8 0, .int .u8 0, .int .u32 0, .int .u32 0, .slice none 0 0] 26)
    rw [Below.heap_alloc _ _ _ (by simp)]
    simpa [headCells] using this
  have h3 : w0.heap[w.heap.size + 1]? = some (.cells (headCells 0 0 false 0 0 0 0 none 0 0) 26 (0, 0)) := by
    rw [hw0]
    have := heap_alloc_new (w.alloc (.cells #[.slice A n c] 24)) (.cells #[.int .u8 0, .int .u16 0, .bool false, .int .u8 0, .int .u8 0, .int .u32 0, .int .u32 0, .slice none 0 0] 26)
    rw [Below.heap_alloc _ _ _ (by simp), Below.heap_alloc _ _ _ (by simp)]
    simpa [headCells] using this
  have h4 : Box w0 (w.heap.size + 1 + 1 + 1) 24 (.slice none 0 0) := by
    rw [hw0]
    have := Box.new (((w.alloc (.cells #[.slice A n c] 24)).alloc (.cells #[.int .u8 0, .int .u16 0, .bool false, .int .u8 0, .int .u8 0, .int .u32 0, .int .u32 0, .slice none 0 0] 26)).alloc (.cells #[.int .u8 0, .int .u16 0, .bool false, .int .u8 0, .int .u8 0, .int .u32 0, .int .u32 0, .slice none 0 0] 26)) 24 (.slice none 0 0)
    simpa using this
  have hr0 := HA.out.below hb0
  clear hw0
  have hdo := fun w1 g (hb : Below w0.heap.size w0 w1) (_ : w0.heap.size ≤ g) (_ : g < w1.heap.size) (hR : Rdr w1 w0.heap.size g b 0) =>
    parse1_any w0.heap.size g w.heap.size (w.heap.size + 1 + 1) (w.heap.size + 1 + 1 + 1) n c A b w1 (by omega) hc (fun h x o e => by
      obtain ⟨x', o', e', hlt, _⟩ := hr0.at_ h
      rw [e] at e'; injection e' with e'; injection e' with e'; subst e'; exact hlt) (hr0.below hb) (h1.below hb (by omega)) ((hb.block _ (by omega)).trans h2) (h4.below hb (by omega)) hR
  have hread := read_any (fun k => k = w.heap.size + 1 + 1 ∨ k = w.heap.size + 1 + 1 + 1) _ n c #[.pointer (some ⟨w.heap.size, 0, none⟩), .pointer (some ⟨w.heap.size + 1 + 1, 0, none⟩), .pointer (some ⟨w.heap.size + 1 + 1 + 1, 0, none⟩)] _ (fun _ => rfl) A b (ParseR (w.heap.size + 1 + 1) (w.heap.size + 1 + 1 + 1) b) w0 (fun k hk => by omega) hn hr0 (enter_of Try.func18 (by kernel_rfl) rfl) hdo
  have Hb0 := Lib.hid hb0
  have H3 := Lib.hid h3
  have Hsz := Lib.hid hsz
  clear hb0 h1 h2 h3 h4 hr0 hdo hal hsz
  refine hread.mono ?_
  clear hread
  rintro e w5 ⟨x', w1, w4, rfl, hb1, ⟨hxe, hR⟩, hb4, hb5⟩
  rw [Hx.out] at hxe
  subst hxe
  rcases hR with ⟨h, _⟩ | ⟨_, Ao, no, co, Ap, np, cp, hq, hs, ho, hp⟩
  · exact absurd rfl h
  have hsz := Hsz.out
  have hqb := hb4.blk hq (by omega)
  have hsb := hs.but hb4 (by omega)
  have hrb := hb5.blk H3.out (by omega)
  have ho5 := ho.but hb4 (fun k hk e => by omega)
  have hp5 := hp.but hb4 (fun k hk e => by omega)
  unfold headCells at hqb hrb
  have hB := Hb0.out.trans (hb5.below (B := w.heap.size) (fun k hk => by omega) Hb0.out.size)
  obtain ⟨f1, ef1⟩ : ∃ f1, b.getD 1 0 = f1 := ⟨_, rfl⟩
  obtain ⟨f2, ef2⟩ : ∃ f2, b.getD 4 0 * 256 + b.getD 5 0 = f2 := ⟨_, rfl⟩
  obtain ⟨f3, ef3⟩ : ∃ f3, decide (flagsL b = 16384) = f3 := ⟨_, rfl⟩
  obtain ⟨f4, ef4⟩ : ∃ f4, b.getD 8 0 = f4 := ⟨_, rfl⟩
  obtain ⟨f5, ef5⟩ : ∃ f5, b.getD 9 0 = f5 := ⟨_, rfl⟩
  obtain ⟨f6, ef6⟩ : ∃ f6, ((b.getD 12 0 * 256 + b.getD 13 0) * 256 + b.getD 14 0) * 256 + b.getD 15 0 = f6 := ⟨_, rfl⟩
  obtain ⟨f7, ef7⟩ : ∃ f7, ((b.getD 16 0 * 256 + b.getD 17 0) * 256 + b.getD 18 0) * 256 + b.getD 19 0 = f7 := ⟨_, rfl⟩
  rw [ef1, ef2, ef3, ef4, ef5, ef6, ef7] at hqb
  have Hfin : Hid (∀ w', Below w.heap.size w w' → OwnB w' w.heap.size Ao no co ((b.drop 20).take ((hdrL b).toNat - 20)) → OwnB w' w.heap.size Ap np cp (b.drop (hdrL b).toNat) →
      ParseGood b w (.returned (.tuple #[.agg #[.int .u8 f1, .int .u16 f2, .bool f3, .int .u8 f4, .int .u8 f5, .int .u32 f6, .int .u32 f7, .slice Ao no co], .slice Ap np cp, .int .i64 0])) w') :=
    fun w' h1 h2 h3 => ⟨Ao, no, co, Ap, np, cp, by rw [ef1, ef2, ef3, ef4, ef5, ef6, ef7], h2, h3, h1⟩
  have q0 := blk_cell hqb 0
  have q1 := blk_cell hqb 1
  have q2 := blk_cell hqb 2
  have q3 := blk_cell hqb 3
  have q4 := blk_cell hqb 4
  have q5 := blk_cell hqb 5
  have q6 := blk_cell hqb 6
  have q7 := blk_cell hqb 7
  have r0 := blk_cell hrb 0
  have r1 := blk_cell hrb 1
  have r2 := blk_cell hrb 2
  have r3 := blk_cell hrb 3
  have r4 := blk_cell hrb 4
  have r5 := blk_cell hrb 5
  have r6 := blk_cell hrb 6
  have r7 := blk_cell hrb 7
  simp at q0 q1 q2 q3 q4 q5 q6 q7 r0 r1 r2 r3 r4 r5 r6 r7
  have rf := blk_free hrb
  have sc := hsb.cell
  have HB := Lib.hid hB
  have HO := Lib.hid ho5
  have HP := Lib.hid hp5
  have hw1 : w.heap.size + 1 < w1.heap.size := by have := hb1.size; omega
  have hw1' : w.heap.size ≤ w1.heap.size := by omega
  clear hqb hrb hsb hq hs hb1 hb4 hb5 hsz hB ef1 ef2 ef3 ef4 ef5 ef6 ef7 ho hp ho5 hp5
  have hb8 := set8_but w5 (w.heap.size + 1) (.int .u8 f1) (.int .u16 f2) (.bool f3) (.int .u8 f4) (.int .u8 f5) (.int .u32 f6) (.int .u32 f7) (.slice Ao no co)
  have Hb8 := Lib.hid hb8
  clear hb8
  go_wp2_with fail
  go_region
  go_wp2_with fail
  refine bodyPost_ret (v := .tuple #[.agg #[.int .u8 f1, .int .u16 f2, .bool f3, .int .u8 f4, .int .u8 f5, .int .u32 f6, .int .u32 f7, .slice Ao no co], .slice Ap np cp, .int .i64 0]) (by simp [results, Try.results9, go_sem, *]) rfl (Hfin.out _ ?_ ?_ ?_)
  · exact Below.drew ((((((((HB.out.setCell (by simp) _).setCell (by simp) _).setCell (by simp) _).setCell (by simp) _).setCell (by simp) _).setCell (by simp) _).setCell (by simp) _).setCell (by simp) _)
  · exact OwnB.drew ((HO.out.but Hb8.out (fun k hk e => by omega)).mono hw1')
  · exact OwnB.drew ((HP.out.but Hb8.out (fun k hk e => by omega)).mono hw1')

end Go.Proofs.Ytechknoagcjoeaa
