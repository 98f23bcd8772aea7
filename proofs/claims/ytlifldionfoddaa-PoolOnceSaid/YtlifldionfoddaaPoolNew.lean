/-
  The contract of package pool's New.
-/
import Derived.Test.YtlifldionfoddaaPoolRest
import Derived.Laws.MakeOwn
namespace Go.Proofs.Ytlifldionfoddaa
set_option maxRecDepth 10000
open Go.RowKit
set_option linter.unusedSimpArgs false
set_option linter.unusedVariables false

theorem made_state (w : World) (n : Nat) (hn : n ≤ 65536) : ∃ C : Array Value, (Instr.makeSlice 47 (.int .i64 (n : Int)) (.int .i64 (n : Int))).run Try.prog w = .ok (.slice (some ⟨w.heap.size, 0, none⟩) n n) (w.alloc (.cells C 53)) ∧ C.size = n ∧ ∀ i, i < n → C[i]? = some (.int .u8 0) := by
  obtain ⟨i0, hi, hz0, hz1, hz2⟩ := info_parts info_state
  have h := run_make (P := Try.prog) w 47 53 i0 (.int .u8 0) Try.underlying47 hi hz0 .i64 .i64 (n : Int) (n : Int) (by omega) (by omega) (by rw [hz2]; omega) (by omega)
  rw [hz1] at h
  simp only [Int.toNat_natCast, Nat.mul_one] at h
  refine ⟨_, h, ?_, fun i hi => ?_⟩
  · rw [size_madeCells]
  · rw [← Array.getElem?_toList, show (Value.int .u8 0).cells = #[Value.int .u8 0] from rfl, toList_madeCells_one]
    simp [hi]
def newQ (lo rest : Int) (n : Nat) : PS := ⟨lo, rest, 0, List.replicate n 0, []⟩
theorem made_mem (lo rest : Int) (w : World) (n : Nat) (C : Array Value) (hC : C.size = n) (hC0 : ∀ i, i < n → C[i]? = some (.int .u8 0)) (hn : n ≤ 65536) :
    MemAt (((w.alloc (.cells C 53)).alloc (.map #[] 0)).alloc (.cells #[.pointer (some ⟨w.heap.size + 1 + 1, 0, none⟩), .int .u16 lo, .int .u64 rest, .int .u64 0, .slice (some ⟨w.heap.size, 0, none⟩) n n, .int .i64 (n : Int), .int .i64 0, .int .i64 0, .map (some (w.heap.size + 1)), .slice none 0 0] 52))
      (fun k => w.heap.size ≤ k ∧ k < w.heap.size + 3) (w.heap.size + 1 + 1) w.heap.size n (w.heap.size + 1) (.slice none 0 0) (fun _ => .slice none 0 0) (newQ lo rest n) ∧
    Below w.heap.size w (((w.alloc (.cells C 53)).alloc (.map #[] 0)).alloc (.cells #[.pointer (some ⟨w.heap.size + 1 + 1, 0, none⟩), .int .u16 lo, .int .u64 rest, .int .u64 0, .slice (some ⟨w.heap.size, 0, none⟩) n n, .int .i64 (n : Int), .int .i64 0, .int .i64 0, .map (some (w.heap.size + 1)), .slice none 0 0] 52)) := by
  have e1 : (w.alloc (.cells C 53)).heap.size = w.heap.size + 1 := by simp
  have e2 : ((w.alloc (.cells C 53)).alloc (.map #[] 0)).heap.size = w.heap.size + 1 + 1 := by simp
  have hc0 : cntS (List.replicate n 0) 0 = (n : Int) := by simp [cntS]
  have hc1 : cntS (List.replicate n 0) 1 = 0 := by simp [cntS, List.count_replicate]
  have hc2 : cntS (List.replicate n 0) 2 = 0 := by simp [cntS, List.count_replicate]
  refine ⟨⟨?_, ?_, ?_, Sl.nil _ _ _, fun e ps hm => (by cases hm), fun e ps e' ps' b hm => (by cases hm), (by omega), (by omega), (by omega), fun b hb => (by cases hb), fun e ps b hm => (by cases hm), fun k hk => ?_⟩, ?_⟩
  · have := heap_alloc_new ((w.alloc (.cells C 53)).alloc (.map #[] 0)) (.cells #[.pointer (some ⟨w.heap.size + 1 + 1, 0, none⟩), .int .u16 lo, .int .u64 rest, .int .u64 0, .slice (some ⟨w.heap.size, 0, none⟩) n n, .int .i64 (n : Int), .int .i64 0, .int .i64 0, .map (some (w.heap.size + 1)), .slice none 0 0] 52)
    rw [e2] at this
    rw [this]
    simp [poolC, newQ, hc0, hc1, hc2]
  · refine ⟨C, ?_, by omega, by simp [newQ], by simp [maxLen]; omega, fun i hi => ?_⟩
    · rw [Below.heap_alloc _ _ _ (by rw [e2]; omega), Below.heap_alloc _ _ _ (by rw [e1]; omega)]
      exact heap_alloc_new w _
    · simp only [newQ, List.length_replicate] at hi ⊢
      rw [Nat.zero_add, hC0 i hi]
      simp [List.getD, hi]
  · have h := MapIs.made (w.alloc (.cells C 53)) (fun _ => .slice none 0 0) (w.heap.size + 1) e1
    refine (h.but ((But.refl (fun _ => False) _).alloc _) (fun x => x)).congr (fun e => ?_) (fun _ _ => rfl)
    constructor
    · exact fun x => x.elim
    · rintro ⟨ps, hm⟩; cases hm
  · simp; omega
  · exact (((Below.refl _ _).alloc (Nat.le_refl _) _).alloc (by rw [e1]; omega) _).alloc (by rw [e2]; omega) _
def NewMem (lo rest : Int) (n : Nat) (w : World) (e : Ending) (w' : World) : Prop := ∃ g gp gm S, e = .returned (.tuple #[.pointer (some ⟨g, 0, none⟩), .int .i64 0]) ∧ MemAt w' S g gp n gm (.slice none 0 0) (fun _ => .slice none 0 0) (newQ lo rest n) ∧ (∀ k, S k → w.heap.size ≤ k) ∧ Below w.heap.size w w'
theorem new_mem (lo hi rest : Int) (w : World) (h0 : 0 ≤ lo ∧ lo < 65536) (h1 : 0 ≤ hi ∧ hi < 65536) (h2 : 0 ≤ rest ∧ rest < 18446744073709551616) (ha : ¬ lo = 0) (hb : ¬ hi < lo) (hc : ¬ bigT < rest) (n : Nat) (hn : hi - lo + 1 = n) :
    Calls Try.prog 8 #[.int .u16 lo, .int .u16 hi, .int .u64 rest] w (NewMem lo rest n w) := by
  have hn6 : n ≤ 65536 := by omega
  obtain ⟨C, hmk, hC, hC0⟩ := made_state w n (by omega)
  have HC := Lib.hid hC
  have HC0 := Lib.hid hC0
  have HN := Lib.hid hn
  have ha2 : (lo == 0) = false := by simpa using ha
  have hb2 : decide (hi < lo) = false := decide_eq_false hb
  have hc2 : decide (1099511627776 < rest) = false := decide_eq_false (by unfold bigT at hc; omega)
  have hb3 : ¬ hi < lo := hb
  have q1 : IntKind.u16.wrap (hi - lo) = hi - lo := by (simp [IntKind.wrap, IntKind.bits, IntKind.signed] <;> omega)
  have q2 : IntKind.i64.wrap (hi - lo) = hi - lo := wrap_i64s _ (by omega) (by omega)
  have q3 : IntKind.i64.wrap (hi - lo + 1) = (n : Int) := by rw [wrap_i64s _ (by omega) (by omega)]; exact hn
  have hmap := run_makeMap_plain (P := Try.prog) (w.alloc (.cells C 53)) 49
  clear hC hC0 hn ha hb hc
  have HF := Lib.hid (made_mem lo rest w n C HC.out HC0.out hn6)
  go_enter Try.func8, Try.ntmps8
  go_wp2_with fail
  go_ret2
  exact ⟨_, _, _, _, rfl, HF.out.1, fun k hk => hk.1, HF.out.2⟩
theorem new_no (lo hi rest : Int) (w : World) (h0 : 0 ≤ lo ∧ lo < 65536) (h1 : 0 ≤ hi ∧ hi < 65536) (h2 : 0 ≤ rest ∧ rest < 18446744073709551616) (hb : badA lo hi rest = true) :
    Calls Try.prog 8 #[.int .u16 lo, .int .u16 hi, .int .u64 rest] w (RetIs (.tuple #[.pointer none, .int .i64 1]) w) := by
  unfold badA at hb
  simp only [Bool.or_eq_true, decide_eq_true_eq] at hb
  by_cases ha : lo = 0
  · have ha2 : (lo == 0) = true := by simpa using ha
    clear hb ha
    go_enter Try.func8, Try.ntmps8
    go_wp2_with fail
    go_ret2
    exact ⟨rfl, Below.refl _ _⟩
  · have ha2 : (lo == 0) = false := by simpa using ha
    by_cases hx : hi < lo
    · have hb2 : decide (hi < lo) = true := decide_eq_true hx
      clear hb ha
      go_enter Try.func8, Try.ntmps8
      go_wp2_with fail
      go_ret2
      exact ⟨rfl, Below.refl _ _⟩
    · have hb2 : decide (hi < lo) = false := decide_eq_false hx
      have hc : bigT < rest := by rcases hb with h | h | h; exact absurd h ha; exact absurd h hx; exact h
      unfold bigT at hc
      have hc2 : decide (1099511627776 < rest) = true := decide_eq_true hc
      clear hb ha
      go_enter Try.func8, Try.ntmps8
      go_wp2_with fail
      go_ret2
      exact ⟨rfl, Below.refl _ _⟩
end Go.Proofs.Ytlifldionfoddaa
