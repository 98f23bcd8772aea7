/-
  The contract of package pool's turn: a port's state, and the counts.
-/
import Derived.Test.YtlifldionfoddaaPoolRead
import Derived.BigRegion
namespace Go.Proofs.Ytlifldionfoddaa
set_option maxRecDepth 10000
open Go.RowKit
set_option linter.unusedSimpArgs false
set_option linter.unusedVariables false

def TurnIs (g gp cp : Nat) (C' : Array Value) (st' : List Int) (w : World) (e : Ending) (w' : World) : Prop :=
  e = .returned (.tuple #[]) ∧ w'.heap[g]? = some (.cells C' 52 (0, 0)) ∧ Row w' 53 .u8 gp 0 st' cp ∧ But (fun k => k = g ∨ k = gp) w w'
theorem wrap_i64s (x : Int) (h0 : -9223372036854775808 ≤ x) (h1 : x < 9223372036854775808) : IntKind.i64.wrap x = x := by rw [IntKind.wrap_i64]; omega
theorem turn_01 (g gp cp i : Nat) (lo k0 k1 k2 : Int) (c0 c2 c3 c8 c9 : Value) (st : List Int) (w : World)
    (hg : w.heap[g]? = some (.cells #[c0, .int .u16 lo, c2, c3, .slice (some ⟨gp, 0, none⟩) st.length cp, .int .i64 k0, .int .i64 k1, .int .i64 k2, c8, c9] 52 (0, 0)))
    (hr : Row w 53 .u8 gp 0 st cp) (hi : i < st.length) (hs : st.getD i 0 = 0) (hne : g ≠ gp) (h0 : 0 ≤ lo) (hl : lo + st.length ≤ 65536) (hk0 : 0 ≤ k0 ∧ k0 ≤ 65536) (hk1 : 0 ≤ k1 ∧ k1 ≤ 65536) (hk2 : 0 ≤ k2 ∧ k2 ≤ 65536) :
    Calls Try.prog 20 #[.pointer (some ⟨g, 0, none⟩), .int .u16 (lo + (i : Int)), .int .u8 1] w (TurnIs g gp cp #[c0, .int .u16 lo, c2, c3, .slice (some ⟨gp, 0, none⟩) st.length cp, .int .i64 (k0 - 1), .int .i64 (k1 + 1), .int .i64 k2, c8, c9] (st.set i 1) w) := by
  obtain ⟨d0, d1, d2, d3, d4, d5, d6, d7, d8, d9⟩ := cells10 hg
  have fg := fun j => blk_free hg j
  have hc : w.cell? ⟨gp, i, none⟩ = some (.int .u8 0) := by have := hr.cell hi; rw [hs] at this; simpa using this
  have fp := hr.free i
  have Hend := Lib.hid (show (((w.setCell ⟨g, 5 + 0, none⟩ (.int .i64 (k0 - 1))).setCell ⟨g, 5 + 1, none⟩ (.int .i64 (k1 + 1))).setCell ⟨gp, i, none⟩ (.int .u8 1)).heap[g]? = some (.cells #[c0, .int .u16 lo, c2, c3, .slice (some ⟨gp, 0, none⟩) st.length cp, .int .i64 (k0 - 1), .int .i64 (k1 + 1), .int .i64 k2, c8, c9] 52 (0, 0)) ∧
      Row (((w.setCell ⟨g, 5 + 0, none⟩ (.int .i64 (k0 - 1))).setCell ⟨g, 5 + 1, none⟩ (.int .i64 (k1 + 1))).setCell ⟨gp, i, none⟩ (.int .u8 1)) 53 .u8 gp 0 (st.set i 1) cp ∧
      But (fun k => k = g ∨ k = gp) w (((w.setCell ⟨g, 5 + 0, none⟩ (.int .i64 (k0 - 1))).setCell ⟨g, 5 + 1, none⟩ (.int .i64 (k1 + 1))).setCell ⟨gp, i, none⟩ (.int .u8 1)) by
    refine ⟨?_, ?_, (((But.refl _ _).setCell (.inl rfl) _).setCell (.inl rfl) _).setCell (.inr rfl) _⟩
    · rw [Below.heap_setCell _ _ _ _ hne]
      have h1 := heap_setCell_at (heap_setCell_at hg (5 + 0) (.int .i64 (k0 - 1))) (5 + 1) (.int .i64 (k1 + 1))
      simpa using h1
    · have h1 := (hr.of_block (Below.heap_setCell w ⟨g, 5 + 0, none⟩ (.int .i64 (k0 - 1)) gp (fun e => hne e.symm)))
      have h2 := (h1.of_block (Below.heap_setCell _ ⟨g, 5 + 1, none⟩ (.int .i64 (k1 + 1)) gp (fun e => hne e.symm)))
      have h3 := h2.set_ i 1
      simpa using h3)
  obtain ⟨n, en⟩ : ∃ n, st.length = n := ⟨_, rfl⟩
  rw [en] at d4 hi hl Hend
  rw [en]
  clear hs en hr hg
  have q1 : IntKind.u16.wrap (lo + (i : Int) - lo) = (i : Int) := by (simp [IntKind.wrap, IntKind.bits, IntKind.signed] <;> omega)
  have q2 := wrap_i64s (k0 - 1) (by omega) (by omega)
  have q3 := wrap_i64s (k1 + 1) (by omega) (by omega)
  have i0 : (0 : Int) ≤ (i : Int) := by omega
  have i1 : (i : Int) < (n : Int) := by omega
  have hne2 : gp ≠ g := fun e => hne e.symm
  go_enter Try.func20, Try.ntmps20
  go_wp2_with fail
  go_quiet (fail)
  go_wp2_with fail
  go_region
  go_wp2_with fail
  go_region
  go_wp2_with fail
  go_end0
  obtain ⟨h1, h2, h3⟩ := Hend.out
  exact ⟨rfl, h1, h2, ⟨h3.os, h3.tape, h3.output, h3.size, h3.block⟩⟩
theorem turn_12 (g gp cp i : Nat) (lo k0 k1 k2 : Int) (c0 c2 c3 c8 c9 : Value) (st : List Int) (w : World)
    (hg : w.heap[g]? = some (.cells #[c0, .int .u16 lo, c2, c3, .slice (some ⟨gp, 0, none⟩) st.length cp, .int .i64 k0, .int .i64 k1, .int .i64 k2, c8, c9] 52 (0, 0)))
    (hr : Row w 53 .u8 gp 0 st cp) (hi : i < st.length) (hs : st.getD i 0 = 1) (hne : g ≠ gp) (h0 : 0 ≤ lo) (hl : lo + st.length ≤ 65536) (hk0 : 0 ≤ k0 ∧ k0 ≤ 65536) (hk1 : 0 ≤ k1 ∧ k1 ≤ 65536) (hk2 : 0 ≤ k2 ∧ k2 ≤ 65536) :
    Calls Try.prog 20 #[.pointer (some ⟨g, 0, none⟩), .int .u16 (lo + (i : Int)), .int .u8 2] w (TurnIs g gp cp #[c0, .int .u16 lo, c2, c3, .slice (some ⟨gp, 0, none⟩) st.length cp, .int .i64 k0, .int .i64 (k1 - 1), .int .i64 (k2 + 1), c8, c9] (st.set i 2) w) := by
  obtain ⟨d0, d1, d2, d3, d4, d5, d6, d7, d8, d9⟩ := cells10 hg
  have fg := fun j => blk_free hg j
  have hc : w.cell? ⟨gp, i, none⟩ = some (.int .u8 1) := by have := hr.cell hi; rw [hs] at this; simpa using this
  have fp := hr.free i
  have Hend := Lib.hid (show (((w.setCell ⟨g, 5 + 1, none⟩ (.int .i64 (k1 - 1))).setCell ⟨g, 5 + 2, none⟩ (.int .i64 (k2 + 1))).setCell ⟨gp, i, none⟩ (.int .u8 2)).heap[g]? = some (.cells #[c0, .int .u16 lo, c2, c3, .slice (some ⟨gp, 0, none⟩) st.length cp, .int .i64 k0, .int .i64 (k1 - 1), .int .i64 (k2 + 1), c8, c9] 52 (0, 0)) ∧
      Row (((w.setCell ⟨g, 5 + 1, none⟩ (.int .i64 (k1 - 1))).setCell ⟨g, 5 + 2, none⟩ (.int .i64 (k2 + 1))).setCell ⟨gp, i, none⟩ (.int .u8 2)) 53 .u8 gp 0 (st.set i 2) cp ∧
      But (fun k => k = g ∨ k = gp) w (((w.setCell ⟨g, 5 + 1, none⟩ (.int .i64 (k1 - 1))).setCell ⟨g, 5 + 2, none⟩ (.int .i64 (k2 + 1))).setCell ⟨gp, i, none⟩ (.int .u8 2)) by
    refine ⟨?_, ?_, (((But.refl _ _).setCell (.inl rfl) _).setCell (.inl rfl) _).setCell (.inr rfl) _⟩
    · rw [Below.heap_setCell _ _ _ _ hne]
      have h1 := heap_setCell_at (heap_setCell_at hg (5 + 1) (.int .i64 (k1 - 1))) (5 + 2) (.int .i64 (k2 + 1))
      simpa using h1
    · have h1 := (hr.of_block (Below.heap_setCell w ⟨g, 5 + 1, none⟩ (.int .i64 (k1 - 1)) gp (fun e => hne e.symm)))
      have h2 := (h1.of_block (Below.heap_setCell _ ⟨g, 5 + 2, none⟩ (.int .i64 (k2 + 1)) gp (fun e => hne e.symm)))
      have h3 := h2.set_ i 2
      simpa using h3)
  obtain ⟨n, en⟩ : ∃ n, st.length = n := ⟨_, rfl⟩
  rw [en] at d4 hi hl Hend
  rw [en]
  clear hs en hr hg
  have q1 : IntKind.u16.wrap (lo + (i : Int) - lo) = (i : Int) := by (simp [IntKind.wrap, IntKind.bits, IntKind.signed] <;> omega)
  have q2 := wrap_i64s (k1 - 1) (by omega) (by omega)
  have q3 := wrap_i64s (k2 + 1) (by omega) (by omega)
  have i0 : (0 : Int) ≤ (i : Int) := by omega
  have i1 : (i : Int) < (n : Int) := by omega
  have hne2 : gp ≠ g := fun e => hne e.symm
  go_enter Try.func20, Try.ntmps20
  go_wp2_with fail
  go_quiet (fail)
  go_wp2_with fail
  go_region
  go_wp2_with fail
  go_region
  go_wp2_with fail
  go_end0
  obtain ⟨h1, h2, h3⟩ := Hend.out
  exact ⟨rfl, h1, h2, ⟨h3.os, h3.tape, h3.output, h3.size, h3.block⟩⟩
theorem turn_20 (g gp cp i : Nat) (lo k0 k1 k2 : Int) (c0 c2 c3 c8 c9 : Value) (st : List Int) (w : World)
    (hg : w.heap[g]? = some (.cells #[c0, .int .u16 lo, c2, c3, .slice (some ⟨gp, 0, none⟩) st.length cp, .int .i64 k0, .int .i64 k1, .int .i64 k2, c8, c9] 52 (0, 0)))
    (hr : Row w 53 .u8 gp 0 st cp) (hi : i < st.length) (hs : st.getD i 0 = 2) (hne : g ≠ gp) (h0 : 0 ≤ lo) (hl : lo + st.length ≤ 65536) (hk0 : 0 ≤ k0 ∧ k0 ≤ 65536) (hk1 : 0 ≤ k1 ∧ k1 ≤ 65536) (hk2 : 0 ≤ k2 ∧ k2 ≤ 65536) :
    Calls Try.prog 20 #[.pointer (some ⟨g, 0, none⟩), .int .u16 (lo + (i : Int)), .int .u8 0] w (TurnIs g gp cp #[c0, .int .u16 lo, c2, c3, .slice (some ⟨gp, 0, none⟩) st.length cp, .int .i64 (k0 + 1), .int .i64 k1, .int .i64 (k2 - 1), c8, c9] (st.set i 0) w) := by
  obtain ⟨d0, d1, d2, d3, d4, d5, d6, d7, d8, d9⟩ := cells10 hg
  have fg := fun j => blk_free hg j
  have hc : w.cell? ⟨gp, i, none⟩ = some (.int .u8 2) := by have := hr.cell hi; rw [hs] at this; simpa using this
  have fp := hr.free i
  have Hend := Lib.hid (show (((w.setCell ⟨g, 5 + 2, none⟩ (.int .i64 (k2 - 1))).setCell ⟨g, 5 + 0, none⟩ (.int .i64 (k0 + 1))).setCell ⟨gp, i, none⟩ (.int .u8 0)).heap[g]? = some (.cells #[c0, .int .u16 lo, c2, c3, .slice (some ⟨gp, 0, none⟩) st.length cp, .int .i64 (k0 + 1), .int .i64 k1, .int .i64 (k2 - 1), c8, c9] 52 (0, 0)) ∧
      Row (((w.setCell ⟨g, 5 + 2, none⟩ (.int .i64 (k2 - 1))).setCell ⟨g, 5 + 0, none⟩ (.int .i64 (k0 + 1))).setCell ⟨gp, i, none⟩ (.int .u8 0)) 53 .u8 gp 0 (st.set i 0) cp ∧
      But (fun k => k = g ∨ k = gp) w (((w.setCell ⟨g, 5 + 2, none⟩ (.int .i64 (k2 - 1))).setCell ⟨g, 5 + 0, none⟩ (.int .i64 (k0 + 1))).setCell ⟨gp, i, none⟩ (.int .u8 0)) by
    refine ⟨?_, ?_, (((But.refl _ _).setCell (.inl rfl) _).setCell (.inl rfl) _).setCell (.inr rfl) _⟩
    · rw [Below.heap_setCell _ _ _ _ hne]
      have h1 := heap_setCell_at (heap_setCell_at hg (5 + 2) (.int .i64 (k2 - 1))) (5 + 0) (.int .i64 (k0 + 1))
      simpa using h1
    · have h1 := (hr.of_block (Below.heap_setCell w ⟨g, 5 + 2, none⟩ (.int .i64 (k2 - 1)) gp (fun e => hne e.symm)))
      have h2 := (h1.of_block (Below.heap_setCell _ ⟨g, 5 + 0, none⟩ (.int .i64 (k0 + 1)) gp (fun e => hne e.symm)))
      have h3 := h2.set_ i 0
      simpa using h3)
  obtain ⟨n, en⟩ : ∃ n, st.length = n := ⟨_, rfl⟩
  rw [en] at d4 hi hl Hend
  rw [en]
  clear hs en hr hg
  have q1 : IntKind.u16.wrap (lo + (i : Int) - lo) = (i : Int) := by (simp [IntKind.wrap, IntKind.bits, IntKind.signed] <;> omega)
  have q2 := wrap_i64s (k2 - 1) (by omega) (by omega)
  have q3 := wrap_i64s (k0 + 1) (by omega) (by omega)
  have i0 : (0 : Int) ≤ (i : Int) := by omega
  have i1 : (i : Int) < (n : Int) := by omega
  have hne2 : gp ≠ g := fun e => hne e.symm
  go_enter Try.func20, Try.ntmps20
  go_wp2_with fail
  go_quiet (fail)
  go_wp2_with fail
  go_region
  go_wp2_with fail
  go_region
  go_wp2_with fail
  go_end0
  obtain ⟨h1, h2, h3⟩ := Hend.out
  exact ⟨rfl, h1, h2, ⟨h3.os, h3.tape, h3.output, h3.size, h3.block⟩⟩
end Go.Proofs.Ytlifldionfoddaa
