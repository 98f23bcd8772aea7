/-
  The document's own buffer (culvertref18): New.
-/
import Derived.Test.YtmmnicnebammhaaRmRef
import Derived.Test.YtmmnicnebammhaaMade
import Derived.Deep.RegionHeld3
namespace Go.Proofs.Ytmmnicnebammhaa
set_option maxRecDepth 10000
open Go.RowKit
set_option linter.unusedSimpArgs false
set_option linter.unusedVariables false

theorem madeR_run (m : Nat) (hm : m ≤ 2147483647) (w : World) :
    (Instr.makeSlice 35 (.int .i64 (m : Int)) (.int .i64 (m : Int))).run Try.prog w = .ok (.slice (some ⟨w.heap.size, 0, none⟩) m m) (w.alloc (.cells (madeCells (Value.bool false).cells m) 4)) := by
  obtain ⟨i0, hi, hz0, hz1, hz2⟩ := info_parts info_boolR
  have h := run_make (P := Try.prog) w 35 4 i0 (.bool false) Try.underlying35 hi hz0 .i64 .i64 (m : Int) (m : Int) (by omega) (by omega) (by rw [hz2]; omega) (by omega)
  rw [hz1] at h
  simpa using h
theorem made_slv {W : World} {T : TypeId} {x : Value} {n i : Nat} (hx : x.cells = #[x]) (h : W.heap[i]? = some (.cells (madeCells #[x] n) T (0, 0))) (hn : n ≤ 16384) : SlV W T 1 (.slice (some ⟨i, 0, none⟩) n n) n (List.replicate n x) := by
  have hl : (madeCells #[x] n).toList = List.replicate n x := toList_madeCells_one _ _
  refine .inr ⟨i, 0, n, rfl, _, h, ?_, by simp, Nat.le_refl _, Nat.le_trans hn (by simp [maxLen]), fun j hj => ?_⟩
  · rw [← Array.length_toList, hl]; simp
  · rw [Nat.zero_add, ← Array.getElem?_toList, hl]
theorem new_is {w W : World} {at_ : Int} {n i j g : Nat} (hn : n ≤ 16384) (hI : W.heap[i]? = some (.cells (madeCells #[.bool false] n) 4 (0, 0))) (hB : W.heap[j]? = some (.cells (madeCells #[.int .u8 0] n) 5 (0, 0)))
    (hg : W.heap[g]? = some (.cells #[.int .u32 at_, .slice (some ⟨i, 0, none⟩) n n, .slice (some ⟨j, 0, none⟩) n n] 37 (0, 0))) (h1 : w.heap.size ≤ i) (h2 : w.heap.size ≤ j) (h3 : w.heap.size ≤ g) (hb : Below w.heap.size w W) :
    BNews RefR at_ (List.replicate n none) w (.returned (.tuple #[.pointer (some ⟨g, 0, none⟩), .int .i64 0])) W := by
  refine ⟨g, fun k => k = i ∨ k = j ∨ k = g, rfl, ⟨_, _, hg, ?_, ?_, .inr (.inr rfl), fun b hb => ?_, fun b hb => ?_, fun k hk => ?_⟩, hb, fun k hk => ?_⟩
  · have := made_slv (x := .bool false) rfl hI hn
    rw [List.length_replicate]
    unfold isV
    rw [List.map_replicate]
    exact this
  · have := made_slv (x := .int .u8 0) rfl hB hn
    rw [List.length_replicate]
    unfold byV
    rw [List.map_replicate]
    exact this
  · have : i = b := by simpa [Value.ownBlock] using hb
    exact .inl this.symm
  · have : j = b := by simpa [Value.ownBlock] using hb
    exact .inr (.inl this.symm)
  · rcases hk with rfl | rfl | rfl
    · exact lt_of_block hI
    · exact lt_of_block hB
    · exact lt_of_block hg
  · rcases hk with rfl | rfl | rfl <;> assumption
theorem three_new (w : World) (o1 o2 o3 : Obj) : (((w.alloc o1).alloc o2).alloc o3).drew.heap[w.heap.size]? = some o1 ∧ (((w.alloc o1).alloc o2).alloc o3).drew.heap[w.heap.size + 1]? = some o2 ∧ (((w.alloc o1).alloc o2).alloc o3).drew.heap[w.heap.size + 1 + 1]? = some o3 ∧ Below w.heap.size w (((w.alloc o1).alloc o2).alloc o3).drew := by
  refine ⟨?_, ?_, ?_, ((((Below.refl _ _).alloc (Nat.le_refl _) _).alloc (by simp) _).alloc (by simp; omega) _).drew⟩
  · show (((w.alloc o1).alloc o2).alloc o3).heap[w.heap.size]? = some o1
    rw [Below.heap_alloc _ _ _ (by simp; omega), Below.heap_alloc _ _ _ (by simp)]
    exact heap_alloc_new w o1
  · show (((w.alloc o1).alloc o2).alloc o3).heap[w.heap.size + 1]? = some o2
    rw [Below.heap_alloc _ _ _ (by simp)]
    simpa using heap_alloc_new (w.alloc o1) o2
  · show (((w.alloc o1).alloc o2).alloc o3).heap[w.heap.size + 1 + 1]? = some o3
    simpa using heap_alloc_new ((w.alloc o1).alloc o2) o3
set_option maxHeartbeats 2000000 in
theorem rnew18_ok (at_ : Int) (n : Nat) (w : World) (hn : n ≤ 16384) : Calls Try.prog 9 #[.int .u32 at_, .int .i64 (n : Int)] w (BNews RefR at_ (List.replicate n none) w) := by
  have m1 := madeR_run n (by omega)
  have m2 := made_run n (by omega)
  have i1 : ¬ (n : Int) < 0 := by omega
  have i2 : ¬ (16384 : Int) < (n : Int) := by omega
  have i3 : ¬ 16384 < n := by omega
  have Hn := Lib.hid hn
  clear hn
  go_enter Try.func9, Try.ntmps9
  go_upto_region 3 with (fail)
  go_region_held3 (fun w' => True) (exact trivial) (fail)
  · go_wp2_with fail
    go_ret2
    obtain ⟨e1, e2, e3, e4⟩ := three_new w (.cells (madeCells #[.bool false] n) 4) (.cells (madeCells #[.int .u8 0] n) 5) (.cells #[.int .u32 at_, .slice (some ⟨w.heap.size, 0, none⟩) n n, .slice (some ⟨w.heap.size + 1, 0, none⟩) n n] 37)
    exact new_is Hn.out e1 e2 e3 (Nat.le_refl _) (by omega) (by omega) e4
  · go_wp2_with fail
    go_ret2
    obtain ⟨e1, e2, e3, e4⟩ := three_new w (.cells (madeCells #[.int .u8 0] n) 5) (.cells (madeCells #[.bool false] n) 4) (.cells #[.int .u32 at_, .slice (some ⟨w.heap.size + 1, 0, none⟩) n n, .slice (some ⟨w.heap.size, 0, none⟩) n n] 37)
    exact new_is Hn.out e2 e1 e3 (by omega) (Nat.le_refl _) (by omega) e4
theorem rnew18_bad (at_ room : Int) (w : World) (h : room < 0 ∨ 16384 < room) : Calls Try.prog 9 #[.int .u32 at_, .int .i64 room] w fun e w' => e = .returned (.tuple #[.pointer none, .int .i64 1]) ∧ Below w.heap.size w w' := by
  by_cases h1 : room < 0
  · clear h
    go_enter Try.func9, Try.ntmps9
    go_wp2_with fail
    go_ret2
    exact ⟨rfl, Below.refl _ _⟩
  · have h2 : 16384 < room := by omega
    clear h
    go_enter Try.func9, Try.ntmps9
    go_wp2_with fail
    go_ret2
    exact ⟨rfl, Below.refl _ _⟩
end Go.Proofs.Ytmmnicnebammhaa
