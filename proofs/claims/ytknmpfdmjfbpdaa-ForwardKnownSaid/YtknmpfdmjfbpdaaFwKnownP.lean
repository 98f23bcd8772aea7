/-
  Plain facts for ForwardKnown: many forwards in a row; the ends of the pool; the closure that asks them.
-/
import Derived.Test.YtknmpfdmjfbpdaaFwWakes
import Derived.Test.YtknmpfdmjfbpdaaFwAny
import Derived.Test.YtknmpfdmjfbpdaaFwNone
import Derived.Test.YtknmpfdmjfbpdaaFwGoOut
namespace Go.Proofs.Ytknmpfdmjfbpdaa
set_option maxRecDepth 10000
open Go.RowKit
set_option linter.unusedSimpArgs false
set_option linter.unusedVariables false

def fM (i : Nat) : Fw := ⟨6, 2001 + (i : Int), 167772161, 80⟩
def manyF (j : Nat) : FWL := (List.range j).map fM
theorem manyF_succ (j : Nat) : manyF (j + 1) = manyF j ++ [fM j] := by simp [manyF, List.range_succ]
theorem manyF_length (j : Nat) : (manyF j).length = j := by simp [manyF]
theorem manyF_sorted (j : Nat) : (manyF j).Pairwise (fun a b => fwLt a b = true) := by
  unfold manyF
  rw [List.pairwise_map]
  refine List.pairwise_lt_range.imp (fun h => ?_)
  rw [fwLt_iff]
  right
  refine ⟨rfl, ?_⟩
  simp only [fM]
  omega
theorem ok_fM {k : Cfg} (h : Chap k) {i : Nat} (hi : i < 65) : okF k (fM i) := by
  unfold okF mayOne insB fM
  rw [h.ins, h.msk, h.lo, h.hi]
  have h1 : ((2001 : Int) + (i : Int) == 0) = false := by simp; omega
  have h2 : decide ((2001 : Int) + (i : Int) ≤ 2000) = false := by simp; omega
  simp only [h1, h2, Bool.and_false, Bool.not_false]
  decide
theorem manyF_may {k : Cfg} (h : Chap k) : FwMay (okF k) ((manyF 65).drop 1) := by
  refine ⟨by rw [List.length_drop, manyF_length]; omega, fun f hf => ?_, ?_⟩
  · have := List.mem_of_mem_drop hf
    unfold manyF at this
    obtain ⟨i, hi, rfl⟩ := List.mem_map.1 this
    exact ok_fM h (List.mem_range.1 hi)
  · exact ((manyF_sorted 65).imp (fun h => fwLt_ne h)).sublist (List.drop_sublist _ _)
theorem manyF_no {k : Cfg} : ¬ FwMay (okF k) (manyF 65) := fun h => by
  have := h.len
  rw [manyF_length] at this
  omega
theorem manyF_one {k : Cfg} (h : Chap k) : FwMay (okF k) ((manyF 65).take 1) := by
  have e : (manyF 65).take 1 = [fM 0] := by rfl
  rw [e]
  refine ⟨by decide, fun f hf => ?_, List.pairwise_singleton _ _⟩
  rw [List.mem_singleton.1 hf]
  exact ok_fM h (by omega)
theorem manyF_out : fwOut ⟨6, 167772161, 0, 80, 0⟩ 7 ((manyF 65).drop 1) = (⟨6, 7, 0, 2002, 0⟩, true) := by
  have e : fwAll ((manyF 65).drop 1) = (manyF 65).drop 1 := (fwAll_only ((manyF_sorted 65).sublist (List.drop_sublist _ _)) (List.Perm.refl _)).symm
  unfold fwOut
  rw [e]
  rfl
def fEdge (k : Cfg) (p : Int) : Fw := ⟨17, p, k.ins, 1⟩
theorem one_may {k : Cfg} {f : Fw} {b : Bool} (h : mayOne k f = b) : b = true ↔ FwMay (okF k) [f] := by
  constructor
  · rintro rfl
    exact ⟨by simp, fun g hg => by rw [List.mem_singleton.1 hg]; exact h, List.pairwise_singleton _ _⟩
  · intro hm
    rw [← h]
    exact hm.each f (by simp)
theorem edge_is {k : Cfg} (h : Chap k) : mayOne k (fEdge k 999) = true ∧ mayOne k (fEdge k 1000) = false ∧ mayOne k (fEdge k 2000) = false ∧ mayOne k (fEdge k 2001) = true ∧ mayOne k (fEdge k 0) = false ∧ mayOne k ⟨6, 1, k.ins, 0⟩ = false := by
  unfold mayOne insB fEdge
  rw [h.ins, h.msk, h.lo, h.hi]
  decide
theorem none_may (k : Cfg) : FwMay (okF k) [] := ⟨by simp, fun f hf => by simp at hf, List.Pairwise.nil⟩
theorem edge_any (k : Cfg) (s : Nat) (port : Int) (b : Bool) (w : World) (hs : w.heap[s]? = some (.cells #[.int .u32 k.ins, .int .u32 k.msk, k.v2, .int .u16 k.lo, .int .u16 k.hi, k.v5, k.v6, k.v7, k.v8, k.v9, k.va, k.vb, k.vc, k.vd, k.ve, k.vf, k.vg, k.vh, k.vi] 29 (0, 0))) (hb : mayOne k (fEdge k port) = b) :
    Calls Try.prog 24 #[.int .u16 port, .pointer (some ⟨s, 0, none⟩)] w (FwTells (.bool b) w) := by
  have Hs := Lib.hid hs
  have d0 : w.cell? ⟨s, 0, none⟩ = some (.int .u32 k.ins) := blk_cell hs 0
  have HM := Lib.hid (may_any k (some ⟨w.heap.size, 0, none⟩) 1 1 [fEdge k port] b (w.alloc (.cells #[.int .u8 17, .int .u16 port, .int .u32 k.ins, .int .u16 1] 40)) (RdW.lit w [fEdge k port] _ rfl) rfl (by omega) (one_may hb))
  clear hs hb
  go_enter Try.func24, Try.ntmps24
  try simp only []
  repeat (first | go_values | go_skip | ((fail_if_success (with_reducible refine wpList_row 29 (.tmp 1) rfl ?_ ?_ ?_ ?_ ?_ ?_ ?_ ?_ ?_ ?_ ?_ ?_)); (first | go_step | go_upon | go_back)))
  refine wpList_row 29 (.tmp 1) rfl ?hww s _ _ _ _ Hs.out rfl Try.underlying29 rfl (by kernel_rfl) ?_
  case hww => kernel_rfl
  (try simp only [Act.put, List.setIfInBounds_toArray, List.set_cons_zero, List.set_cons_succ])
  go_wp2_with fail
  refine HM.out.mono ?_
  rintro e w1 ⟨rfl, hb1⟩
  have HB := Lib.hid (below_trans ((Below.refl w.heap.size w).alloc (Nat.le_refl _) _) hb1)
  clear hb1 HM
  go_wp2_with fail
  go_ret
  exact ⟨rfl, HB.out⟩
end Go.Proofs.Ytknmpfdmjfbpdaa
