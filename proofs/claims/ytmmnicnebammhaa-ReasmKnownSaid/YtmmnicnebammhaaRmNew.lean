/-
  A buffer of the program's: New.
-/
import Derived.Test.YtmmnicnebammhaaRmTell
namespace Go.Proofs.Ytmmnicnebammhaa
set_option maxRecDepth 10000
open Go.RowKit
set_option linter.unusedSimpArgs false
set_option linter.unusedVariables false

theorem isB_none (n i : Nat) : isB (List.replicate n none) i = false := by
  unfold isB
  rw [List.getD, List.getElem?_replicate]
  split <;> rfl
theorem new_ok (at_ : Int) (n : Nat) (w : World) (hat : 0 ≤ at_ ∧ at_ < 4294967296) (hn : n ≤ 16384) : Calls Try.prog 8 #[.int .u32 at_, .int .i64 (n : Int)] w (BNews RmAt at_ (List.replicate n none) w) := by
  have hmap := run_makeMap_plain (P := Try.prog) w 57
  obtain ⟨m, em⟩ : ∃ m, w.heap.size = m := ⟨_, rfl⟩
  obtain ⟨w1, ew1⟩ : ∃ w1, w.alloc (.map #[] 0) = w1 := ⟨_, rfl⟩
  have hB1 : Below w.heap.size w w1 := by rw [← ew1]; exact (Below.refl _ _).alloc (Nat.le_refl _) _
  have hm1 : MBP w1 m (fun _ => False) (valR 0 (List.replicate n none)) := by rw [← ew1]; exact MBP.made w _ m em
  have hs1 : w1.heap.size = m + 1 := by rw [← ew1]; simp [em]
  obtain ⟨w2, ew2⟩ : ∃ w2, w1.alloc (.cells #[.pointer none, .int .u32 at_, .int .i64 0, .int .i64 (n : Int), .map (some m)] 59) = w2 := ⟨_, rfl⟩
  have hk2 : w2.heap[m + 1]? = some (.cells #[.pointer none, .int .u32 at_, .int .i64 0, .int .i64 (n : Int), .map (some m)] 59 (0, 0)) := by rw [← ew2, ← hs1]; exact heap_alloc_new w1 _
  have hB2 : Below w1.heap.size w1 w2 := by rw [← ew2]; exact (Below.refl _ _).alloc (Nat.le_refl _) _
  have hB02 : Below w.heap.size w w2 := below_trans hB1 hB2
  have hc0 : w2.cell? ⟨m + 1, 0, none⟩ = some (.pointer none) := by rw [blk_cell hk2]; rfl
  have hf0 := blk_free hk2 0
  obtain ⟨w3, ew3⟩ : ∃ w3, w2.setCell ⟨m + 1, 0, none⟩ (.pointer (some ⟨m + 1, 0, none⟩)) = w3 := ⟨_, rfl⟩
  have HN := Lib.hid (show BNews RmAt at_ (List.replicate n none) w (.returned (.tuple #[.pointer (some ⟨m + 1, 0, none⟩), .int .i64 0])) w3 from by
    have hB3 : But (fun k => k = m + 1) w2 w3 := by rw [← ew3]; exact (But.refl (fun k => k = m + 1) w2).setCell (p := ⟨m + 1, 0, none⟩) rfl _
    have hb3 : Below w.heap.size w w3 := hB02.trans (hB3.below (B := w.heap.size) (fun k hk => by omega) hB02.size)
    have hbox : w3.heap[m + 1]? = some (.cells #[.pointer (some ⟨m + 1, 0, none⟩), .int .u32 at_, .int .i64 0, .int .i64 (n : Int), .map (some m)] 59 (0, 0)) := by rw [← ew3]; exact heap_setCell_at hk2 _ _
    refine ⟨m + 1, fun k => k = m ∨ k = m + 1, rfl, ⟨m, 0, at_, ⟨?_, ?_, hat, ?_, ?_, .inr rfl, .inl rfl, fun k hk => ?_⟩, ?_, by rw [holes_none]; exact Nat.zero_le _⟩, hb3, fun k hk => by omega⟩
    · rw [List.length_replicate, Nat.zero_add]; exact hbox
    · have hm3 := (hm1.but (But.of (S := fun _ => False) hB2) (fun x => x)).but hB3 (by omega)
      refine hm3.congr (fun e => ⟨fun h => h.elim, fun ⟨i, h, _⟩ => ?_⟩) (fun _ _ => rfl)
      rw [isB_none] at h
      cases h
    · rw [List.length_replicate]; omega
    · intro x hx
      have := List.eq_of_mem_replicate hx
      cases this
    · have h1 := lt_of_block hk2
      have h2 := hB3.size
      omega
    · unfold num32; simp; omega)
  have Ew2 := Lib.hid ew2
  have Ew3 := Lib.hid ew3
  have hn0 : ¬ (n : Int) < 0 := by omega
  have hn1 : ¬ (16384 : Int) < (n : Int) := by omega
  have hn2 : ¬ 16384 < n := by omega
  clear hB1 hm1 hk2 hB2 hB02 ew2 ew3 hn hat
  go_enter Try.func8, Try.ntmps8
  go_upto_region 4 with (fail)
  rw [Ew2.out]
  go_upto_region 5 with (fail)
  rw [Ew3.out]
  go_wp2_with fail
  go_ret2
  exact HN.out
theorem new_bad (at_ room : Int) (w : World) (h : room < 0 ∨ 16384 < room) : Calls Try.prog 8 #[.int .u32 at_, .int .i64 room] w fun e w' => e = .returned (.tuple #[.pointer none, .int .i64 1]) ∧ Below w.heap.size w w' := by
  by_cases h1 : room < 0
  · clear h
    go_enter Try.func8, Try.ntmps8
    go_wp2_with fail
    go_ret2
    exact ⟨rfl, Below.refl _ _⟩
  · have h2 : 16384 < room := by omega
    clear h
    go_enter Try.func8, Try.ntmps8
    go_wp2_with fail
    go_ret2
    exact ⟨rfl, Below.refl _ _⟩
end Go.Proofs.Ytmmnicnebammhaa
