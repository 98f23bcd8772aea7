/-
  The contract of package wheel's New.
-/
import Derived.Test.YtlpgabbnldalhaaWhlHang
namespace Go.Proofs.Ytlpgabbnldalhaa
set_option maxRecDepth 10000
open Go.RowKit
set_option linter.unusedSimpArgs false
set_option linter.unusedVariables false

/-- A wheel's cells, all zero. -/
def zeroW : Array Value := #[.pointer none, .int .u64 0, .map none] ++ Array.replicate 64 (.slice none 0 0)
theorem info_zeroW : (Try.prog.info? 60).map (fun i => (i.zero, i.size)) = some (some (.agg zeroW), 67) := by kernel_rfl
theorem zero_wheel (w : World) : (zeroValue 60).run Try.prog w = .ok (.agg zeroW) w := by
  have h := info_zeroW
  cases hi : Try.prog.info? 60 with
  | none => rw [hi] at h; simp at h
  | some i =>
    rw [hi] at h
    simp at h
    simp [zeroValue, typeInfo, hi, h, go_sem]
theorem zeroW_size : zeroW.size = 67 := by simp [zeroW]
theorem zeroW_at {j : Nat} (hj : j < 64) : zeroW[3 + j]? = some (.slice none 0 0) := by
  unfold zeroW
  rw [Array.getElem?_append_right (by simp)]
  simp [hj]
def NewMemW (w : World) (e : Ending) (w' : World) : Prop := ∃ g m C S, e = .returned (.pointer (some ⟨g, 0, none⟩)) ∧ WMem w' S g m C (fun _ => .slice none 0 0) 0 (fun _ => []) (fun _ => False) (fun _ => .int .u64 0) ∧ Below w.heap.size w w' ∧ ∀ k, S k → w.heap.size ≤ k
theorem new_mem (w : World) : Calls Try.prog 8 #[] w (NewMemW w) := by
  have hmap := run_makeMap_plain (P := Try.prog) w 51
  obtain ⟨m, em⟩ : ∃ m, w.heap.size = m := ⟨_, rfl⟩
  obtain ⟨w1, ew1⟩ : ∃ w1, w.alloc (.map #[] 0) = w1 := ⟨_, rfl⟩
  have hB1 : Below w.heap.size w w1 := by rw [← ew1]; exact (Below.refl _ _).alloc (Nat.le_refl _) _
  have hm1 : MUP w1 m (fun _ => False) (fun _ => .int .u64 0) := by rw [← ew1]; exact MUP.made w _ m em
  have hs1 : w1.heap.size = m + 1 := by rw [← ew1]; simp [em]
  have hz := zero_wheel w1
  obtain ⟨Z, eZ⟩ : ∃ Z, zeroW = Z := ⟨_, rfl⟩
  rw [eZ] at hz
  have hZs : Z.size = 67 := by rw [← eZ]; exact zeroW_size
  have hZ1 : Z[1]? = some (.int .u64 0) := by rw [← eZ]; rfl
  have hZj : ∀ j, j < 64 → Z[3 + j]? = some (.slice none 0 0) := fun j hj => by rw [← eZ]; exact zeroW_at hj
  have hZ3 : ¬ Z.size < 3 := by omega
  obtain ⟨C1, eC1⟩ : ∃ C1, Z.setIfInBounds 2 (.map (some m)) = C1 := ⟨_, rfl⟩
  obtain ⟨w2, ew2⟩ : ∃ w2, w1.alloc (.cells C1 60) = w2 := ⟨_, rfl⟩
  have hk2 : w2.heap[m + 1]? = some (.cells C1 60 (0, 0)) := by rw [← ew2, ← hs1]; exact heap_alloc_new w1 _
  have hB2 : Below w1.heap.size w1 w2 := by rw [← ew2]; exact (Below.refl _ _).alloc (Nat.le_refl _) _
  have hB02 : Below w.heap.size w w2 := below_trans hB1 hB2
  have hC0 : C1[0]? = some (.pointer none) := by rw [← eC1, Array.getElem?_setIfInBounds_ne (by omega), ← eZ]; rfl
  have hc0 : w2.cell? ⟨m + 1, 0, none⟩ = some (.pointer none) := by rw [blk_cell hk2]; exact hC0
  have hf0 := blk_free hk2 0
  obtain ⟨w3, ew3⟩ : ∃ w3, w2.setCell ⟨m + 1, 0, none⟩ (.pointer (some ⟨m + 1, 0, none⟩)) = w3 := ⟨_, rfl⟩
  have HN := Lib.hid (show NewMemW w (.returned (.pointer (some ⟨m + 1, 0, none⟩))) w3 from by
    have hB3 : But (fun k => k = m + 1) w2 w3 := by rw [← ew3]; exact (But.refl (fun k => k = m + 1) w2).setCell (p := ⟨m + 1, 0, none⟩) rfl _
    have hb3 : Below w.heap.size w w3 := hB02.trans (hB3.below (B := w.heap.size) (fun k hk => by omega) hB02.size)
    refine ⟨m + 1, m, C1.setIfInBounds 0 (.pointer (some ⟨m + 1, 0, none⟩)), fun k => k = m ∨ k = m + 1, rfl, ?_, hb3, fun k hk => by omega⟩
    have hcs : C1.size = 67 := by rw [← eC1]; simpa using hZs
    refine ⟨by rw [← ew3]; exact heap_setCell_at hk2 _ _, by simpa using hcs, by simp [hcs], ?_, ?_, fun j hj => ?_, ?_, fun j hj => .inl ⟨rfl, rfl, rfl⟩, fun i j b hi hj hb => (by cases hb), .inr rfl, .inl rfl, fun j b hj hb => (by cases hb), fun k hk => ?_⟩
    · rw [Array.getElem?_setIfInBounds_ne (by omega), ← eC1, Array.getElem?_setIfInBounds_ne (by omega)]; exact hZ1
    · rw [Array.getElem?_setIfInBounds_ne (by omega), ← eC1]; simp [hZs]
    · rw [Array.getElem?_setIfInBounds_ne (by omega), ← eC1, Array.getElem?_setIfInBounds_ne (by omega)]; exact hZj j hj
    · exact (hm1.but (But.of (S := fun _ => False) hB2) (fun x => x)).but hB3 (by omega)
    · have h1 := lt_of_block hk2
      have h2 := hB3.size
      omega)
  have Ew2 := Lib.hid ew2
  have Ew3 := Lib.hid ew3
  clear hB1 hm1 hZ1 hZj hk2 hB2 hB02 hC0 ew2 ew3 eZ hZs
  go_enter Try.func8, Try.ntmps8
  go_upto_region 2 with (fail)
  rw [Ew2.out]
  go_upto_region 3 with (fail)
  rw [Ew3.out]
  go_wp2_with fail
  go_ret
  exact HN.out
end Go.Proofs.Ytlpgabbnldalhaa
