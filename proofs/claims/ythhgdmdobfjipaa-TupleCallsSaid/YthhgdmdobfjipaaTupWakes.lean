/-
  culvertlaw10's wakes: the chapter's rows.
-/
import Derived.Test.YthhgdmdobfjipaaTupOf
import Derived.Test.YthhgdmdobfjipaaTupAny
import Derived.Deep.CutRange
import Derived.RegionTactic
import Derived.BigRegion
namespace Go.Proofs.Ythhgdmdobfjipaa
set_option maxRecDepth 10000
open Go.RowKit
set_option linter.unusedSimpArgs false
set_option linter.unusedVariables false

def wkS : Seg := ⟨5, 80, 0, 0, 0, 0, 0, [], []⟩
def wkS0 : Seg := ⟨0, 0, 0, 0, 0, 0, 0, [], []⟩
def wkP : Pk := ⟨⟨0, 0, false, 0, 6, 167772161, 167772162, []⟩, wkS, ⟨0, 0, []⟩, ⟨0, 0, 0, []⟩⟩
def wkQ : Pk := ⟨⟨0, 0, false, 0, 1, 0, 0, []⟩, wkS0, ⟨0, 0, []⟩, ⟨3, 0, 0, []⟩⟩
def wkO : Pk := ⟨⟨0, 0, false, 0, 47, 0, 0, []⟩, wkS0, ⟨0, 0, []⟩, ⟨0, 0, 0, []⟩⟩
def wkT : Tu := ⟨6, 167772161, 167772162, 5, 80⟩
def wkR : Tu := ⟨6, 167772162, 167772161, 80, 5⟩
def wkE : Tu := ⟨1, 1, 2, 7, 0⟩
def wkF : Tu := ⟨1, 2, 1, 7, 0⟩
set_option maxHeartbeats 4000000 in
theorem tupwake_any (w : World) : Calls Try.prog 16 #[] w (Woke w) := by
  obtain ⟨z, hz⟩ : ∃ z, w.heap.size = z := ⟨_, rfl⟩
  obtain ⟨p, ep⟩ : ∃ p, wkP = p := ⟨_, rfl⟩
  obtain ⟨w1, ew1⟩ : ∃ v, w.alloc (.cells #[.int .u8 0, .int .u16 0, .bool false, .int .u8 0, .int .u8 6, .int .u32 167772161, .int .u32 167772162, .slice none 0 0, .int .u16 5, .int .u16 80, .int .u32 0, .int .u32 0, .int .u8 0, .int .u16 0, .int .u16 0, .slice none 0 0, .slice none 0 0, .int .u16 0, .int .u16 0, .slice none 0 0, .int .u8 0, .int .u8 0, .int .u32 0, .slice none 0 0] 35) = v := ⟨_, rfl⟩
  have hb1 : Below w.heap.size w w1 := by rw [← ew1]; exact (Below.refl _ _).alloc (Nat.le_refl _) _
  have hk1 : w1.heap[z]? = some (.cells #[.int .u8 0, .int .u16 0, .bool false, .int .u8 0, .int .u8 6, .int .u32 167772161, .int .u32 167772162, .slice none 0 0, .int .u16 5, .int .u16 80, .int .u32 0, .int .u32 0, .int .u8 0, .int .u16 0, .int .u16 0, .slice none 0 0, .slice none 0 0, .int .u16 0, .int .u16 0, .slice none 0 0, .int .u8 0, .int .u8 0, .int .u32 0, .slice none 0 0] 35 (0, 0)) := by rw [← ew1, ← hz]; exact heap_alloc_new w _
  have hs1 : w1.heap.size = z + 1 := by rw [← ew1, ← hz]; simp
  obtain ⟨w2, ew2⟩ : ∃ v, w1.alloc (.cells #[.int .u8 6, .int .u32 167772161, .int .u32 167772162, .int .u16 5, .int .u16 80] 37) = v := ⟨_, rfl⟩
  have hb2 : Below w1.heap.size w1 w2 := by rw [← ew2]; exact (Below.refl _ _).alloc (Nat.le_refl _) _
  have hk2 : w2.heap[z + 1]? = some (.cells #[.int .u8 6, .int .u32 167772161, .int .u32 167772162, .int .u16 5, .int .u16 80] 37 (0, 0)) := by rw [← ew2, ← hs1]; exact heap_alloc_new w1 _
  have HB2 := Lib.hid (below_trans hb1 hb2)
  have HK1 := Lib.hid (blk_on hk1 hb2)
  have HK2 := Lib.hid hk2
  have Ew1 := Lib.hid ew1
  have Ew2 := Lib.hid ew2
  have Hs1 := Lib.hid hs1
  have Hz := Lib.hid hz
  clear hz ep hb1 hk1 hs1 hb2 hk2 ew1 ew2
  go_enter Try.func16, Try.ntmps16
  go_upto_region 2 with (refine wp_store_new 35 (.tmp 1) (.tmp 13) rfl rfl w _ _ rfl rfl (by kernel_rfl) rfl (by simp [Value.oneCell']) ?_)
  rw [Ew1.out]
  rw [Hz.out]
  go_upto_region 3 with (fail)
  rw [Ew2.out]
  rw [Hs1.out]
  clear Ew1 Ew2 Hs1
  try simp only []
  repeat (first | (refine wp_load_row 35 (.tmp 1) rfl z _ _ _ _ HK1.out rfl Try.underlying35 rfl (by kernel_rfl) ?_; simp only [Act.put, List.setIfInBounds_toArray, List.set_cons_zero, List.set_cons_succ]) | go_values | go_skip | go_guarded | go_step | go_upon | go_back)
  refine (tof_any wkP PkA.none_ _ wkT true (by decide) rfl rfl).mono ?_
  rintro e w3 ⟨rfl, hb3⟩
  simp only [wkT]
  have HB3 := Lib.hid (below_trans HB2.out hb3)
  have HK3 := Lib.hid (blk_on HK2.out hb3)
  clear hb3 HB2 HK1 HK2
  obtain ⟨q3, eqq3⟩ : ∃ v, w3.heap.size = v := ⟨_, rfl⟩
  obtain ⟨w4, evw4⟩ : ∃ v, w3.alloc (.cells #[.int .u8 6, .int .u32 167772161, .int .u32 167772162, .int .u16 5, .int .u16 80] 37) = v := ⟨_, rfl⟩
  have hbw4 : Below w3.heap.size w3 w4 := by rw [← evw4]; exact (Below.refl _ _).alloc (Nat.le_refl _) _
  have hkw4 : w4.heap[q3]? = some (.cells #[.int .u8 6, .int .u32 167772161, .int .u32 167772162, .int .u16 5, .int .u16 80] 37 (0, 0)) := by rw [← evw4, ← eqq3]; exact heap_alloc_new w3 _
  have Ew4 := Lib.hid evw4
  have Eq3 := Lib.hid eqq3
  have Hw4 := Lib.hid hbw4
  have HKq3 := Lib.hid hkw4
  clear eqq3 evw4 hbw4 hkw4
  go_upto_region 4 with (fail)
  rw [Ew4.out]
  rw [Eq3.out]
  have HB4 := Lib.hid (below_trans HB3.out Hw4.out)
  have HK4 := Lib.hid (blk_on HK3.out Hw4.out)
  clear Ew4 Eq3 Hw4 HB3 HK3
  try simp only []
  repeat (first | fail | go_values | go_skip | go_guarded | go_step | go_upon | go_back)
  refine (tof_any wkQ PkA.none_ _ zeroTu false (by decide) rfl rfl).mono ?_
  rintro e w5 ⟨rfl, hb5⟩
  simp only [zeroTu]
  obtain ⟨q5, eqq5⟩ : ∃ v, w5.heap.size = v := ⟨_, rfl⟩
  obtain ⟨w6, evw6⟩ : ∃ v, w5.alloc (.cells #[.int .u8 0, .int .u32 0, .int .u32 0, .int .u16 0, .int .u16 0] 37) = v := ⟨_, rfl⟩
  have hbw6 : Below w5.heap.size w5 w6 := by rw [← evw6]; exact (Below.refl _ _).alloc (Nat.le_refl _) _
  have hkw6 : w6.heap[q5]? = some (.cells #[.int .u8 0, .int .u32 0, .int .u32 0, .int .u16 0, .int .u16 0] 37 (0, 0)) := by rw [← evw6, ← eqq5]; exact heap_alloc_new w5 _
  have Ew6 := Lib.hid evw6
  have Eq5 := Lib.hid eqq5
  have Hw6 := Lib.hid hbw6
  have HKq5 := Lib.hid hkw6
  clear eqq5 evw6 hbw6 hkw6
  have hb6 := below_trans hb5 Hw6.out
  have HB6 := Lib.hid (below_trans HB4.out hb6)
  have HK6 := Lib.hid (And.intro (blk_on HK4.out hb6) (blk_on HKq3.out hb6))
  clear hb5 hb6 Hw6 HKq5 HB4 HK4 HKq3
  go_upto_region 5 with (fail)
  rw [Ew6.out]
  rw [Eq5.out]
  clear Ew6 Eq5
  try simp only []
  repeat (first | fail | go_values | go_skip | go_guarded | go_step | go_upon | go_back)
  refine (tof_any wkO PkA.none_ _ zeroTu false (by decide) rfl rfl).mono ?_
  rintro e w7 ⟨rfl, hb7⟩
  simp only [zeroTu]
  obtain ⟨q7, eqq7⟩ : ∃ v, w7.heap.size = v := ⟨_, rfl⟩
  obtain ⟨w8, evw8⟩ : ∃ v, w7.alloc (.cells #[.int .u8 0, .int .u32 0, .int .u32 0, .int .u16 0, .int .u16 0] 37) = v := ⟨_, rfl⟩
  have hbw8 : Below w7.heap.size w7 w8 := by rw [← evw8]; exact (Below.refl _ _).alloc (Nat.le_refl _) _
  have hkw8 : w8.heap[q7]? = some (.cells #[.int .u8 0, .int .u32 0, .int .u32 0, .int .u16 0, .int .u16 0] 37 (0, 0)) := by rw [← evw8, ← eqq7]; exact heap_alloc_new w7 _
  have Ew8 := Lib.hid evw8
  have Eq7 := Lib.hid eqq7
  have Hw8 := Lib.hid hbw8
  have HKq7 := Lib.hid hkw8
  clear eqq7 evw8 hbw8 hkw8
  have hb8 := below_trans hb7 Hw8.out
  have HB8 := Lib.hid (below_trans HB6.out hb8)
  have HK8 := Lib.hid (And.intro (blk_on HK6.out.1 hb8) (blk_on HK6.out.2 hb8))
  clear hb7 hb8 Hw8 HKq7 HB6 HK6
  go_upto_region 6 with (fail)
  rw [Ew8.out]
  rw [Eq7.out]
  clear Ew8 Eq7
  obtain ⟨q9, eqq9⟩ : ∃ v, w8.heap.size = v := ⟨_, rfl⟩
  obtain ⟨w9, evw9⟩ : ∃ v, w8.alloc (.cells #[.int .u8 6, .int .u32 167772162, .int .u32 167772161, .int .u16 80, .int .u16 5] 37) = v := ⟨_, rfl⟩
  have hbw9 : Below w8.heap.size w8 w9 := by rw [← evw9]; exact (Below.refl _ _).alloc (Nat.le_refl _) _
  have hkw9 : w9.heap[q9]? = some (.cells #[.int .u8 6, .int .u32 167772162, .int .u32 167772161, .int .u16 80, .int .u16 5] 37 (0, 0)) := by rw [← evw9, ← eqq9]; exact heap_alloc_new w8 _
  have Ew9 := Lib.hid evw9
  have Eq9 := Lib.hid eqq9
  have Hw9 := Lib.hid hbw9
  have HKq9 := Lib.hid hkw9
  clear eqq9 evw9 hbw9 hkw9
  have HB9 := Lib.hid (below_trans HB8.out Hw9.out)
  have HK9 := Lib.hid (And.intro (blk_on HK8.out.1 Hw9.out) (blk_on HK8.out.2 Hw9.out))
  clear Hw9 HB8 HK8
  go_upto_region 7 with (fail)
  rw [Ew9.out]
  rw [Eq9.out]
  clear Ew9 Eq9
  try simp only []
  repeat (first | fail | go_values | go_skip | go_guarded | go_step | go_upon | go_back)
  refine (rev_any wkE _).mono ?_
  rintro e w10 ⟨rfl, hb10⟩
  simp only [show revT wkE = ⟨1, 2, 1, 7, 0⟩ from rfl]
  obtain ⟨q11, eqq11⟩ : ∃ v, w10.heap.size = v := ⟨_, rfl⟩
  obtain ⟨w11, evw11⟩ : ∃ v, w10.alloc (.cells #[.int .u8 1, .int .u32 2, .int .u32 1, .int .u16 7, .int .u16 0] 37) = v := ⟨_, rfl⟩
  have hbw11 : Below w10.heap.size w10 w11 := by rw [← evw11]; exact (Below.refl _ _).alloc (Nat.le_refl _) _
  have hkw11 : w11.heap[q11]? = some (.cells #[.int .u8 1, .int .u32 2, .int .u32 1, .int .u16 7, .int .u16 0] 37 (0, 0)) := by rw [← evw11, ← eqq11]; exact heap_alloc_new w10 _
  have Ew11 := Lib.hid evw11
  have Eq11 := Lib.hid eqq11
  have Hw11 := Lib.hid hbw11
  have HKq11 := Lib.hid hkw11
  clear eqq11 evw11 hbw11 hkw11
  have hb11 := below_trans hb10 Hw11.out
  have HB11 := Lib.hid (below_trans HB9.out hb11)
  have HK11 := Lib.hid (show ∀ w', Below w11.heap.size w11 w' → w'.heap[z + 1]? = some (.cells #[.int .u8 6, .int .u32 167772161, .int .u32 167772162, .int .u16 5, .int .u16 80] 37 (0, 0)) ∧ w'.heap[q3]? = some (.cells #[.int .u8 6, .int .u32 167772161, .int .u32 167772162, .int .u16 5, .int .u16 80] 37 (0, 0)) ∧ w'.heap[q9]? = some (.cells #[.int .u8 6, .int .u32 167772162, .int .u32 167772161, .int .u16 80, .int .u16 5] 37 (0, 0)) ∧ w'.heap[q11]? = some (.cells #[.int .u8 1, .int .u32 2, .int .u32 1, .int .u16 7, .int .u16 0] 37 (0, 0)) from
    fun w' hb => ⟨blk_on (blk_on HK9.out.1 hb11) hb, blk_on (blk_on HK9.out.2 hb11) hb, blk_on (blk_on HKq9.out hb11) hb, blk_on HKq11.out hb⟩)
  clear hb10 hb11 Hw11 HKq11 HKq9 HB9 HK9
  go_upto_region 8 with (fail)
  rw [Ew11.out]
  rw [Eq11.out]
  clear Ew11 Eq11
  have HBd := Lib.hid (Below.drew (Below.refl w11.heap.size w11))
  refine wp_region_held_drew (S := fun w' => w'.heap[z + 1]? = some (.cells #[.int .u8 6, .int .u32 167772161, .int .u32 167772162, .int .u16 5, .int .u16 80] 37 (0, 0)) ∧ w'.heap[q3]? = some (.cells #[.int .u8 6, .int .u32 167772161, .int .u32 167772162, .int .u16 5, .int .u16 80] 37 (0, 0)) ∧ w'.heap[q9]? = some (.cells #[.int .u8 6, .int .u32 167772162, .int .u32 167772161, .int .u16 80, .int .u16 5] 37 (0, 0)) ∧ w'.heap[q11]? = some (.cells #[.int .u8 1, .int .u32 2, .int .u32 1, .int .u16 7, .int .u16 0] 37 (0, 0))) (by kernel_rfl) (HK11.out _ HBd.out) (fun hHeld => ?_)
  obtain ⟨wd, ewd⟩ : ∃ wd, w11.drew = wd := ⟨_, rfl⟩
  rw [ewd] at HBd hHeld ⊢
  clear ewd
  refine wpAnyH_take (i := 0) (oi := { dst := some 36, op := Go.Op.move (Go.Operand.tmp 4), type := 4, pos := "law.go:19", after := #[], guard := none }) (v := ?_) rfl (by kernel_rfl) (by kernel_rfl) (by kernel_rfl) (fun _ _ _ h => h) (Or.inl ⟨by rfl, ?_⟩) (by assumption) ?_
  rotate_left 1
  · intro w' hSw; (go_simp <;> (with_reducible rfl))
  (try simp only [Act.put, List.setIfInBounds_toArray, List.set_cons_zero, List.set_cons_succ])
  refine wpAnyH_take (i := 1) (oi := { dst := some 37, op := Go.Op.move (Go.Operand.tmp 36), type := 4, pos := "law.go:19", after := #[{ on := 0, ground := Go.Ground.data }], guard := none }) (v := ?_) rfl (by kernel_rfl) (by kernel_rfl) (by kernel_rfl) (fun _ _ _ h => h) (Or.inl ⟨by rfl, ?_⟩) (by assumption) ?_
  rotate_left 1
  · intro w' hSw; (go_simp <;> (with_reducible rfl))
  (try simp only [Act.put, List.setIfInBounds_toArray, List.set_cons_zero, List.set_cons_succ])
  refine wpAnyH_take (i := 2) (oi := { dst := some 38, op := Go.Op.load 37 (Go.Operand.tmp 3), type := 37, pos := "law.go:19", after := #[{ on := 1, ground := Go.Ground.guard }], guard := some (1, true) }) (v := .agg #[.int .u8 6, .int .u32 167772161, .int .u32 167772162, .int .u16 5, .int .u16 80]) rfl (by kernel_rfl) (by kernel_rfl) (by kernel_rfl) (fun _ _ _ h => h) (Or.inl ⟨by rfl, fun w' hSw => exec_row 37 (.tmp 3) rfl q3 _ _ _ _ (hSw.2.1) rfl Try.underlying37 rfl (by kernel_rfl)⟩) (by assumption) ?_
  (try simp only [Act.put, List.setIfInBounds_toArray, List.set_cons_zero, List.set_cons_succ])
  refine wpAnyH_take (i := 3) (oi := { dst := some 39, op := Go.Op.load 37 (Go.Operand.tmp 2), type := 37, pos := "law.go:19", after := #[{ on := 1, ground := Go.Ground.guard }], guard := some (1, true) }) (v := .agg #[.int .u8 6, .int .u32 167772161, .int .u32 167772162, .int .u16 5, .int .u16 80]) rfl (by kernel_rfl) (by kernel_rfl) (by kernel_rfl) (fun _ _ _ h => h) (Or.inl ⟨by rfl, fun w' hSw => exec_row 37 (.tmp 2) rfl (z + 1) _ _ _ _ (hSw.1) rfl Try.underlying37 rfl (by kernel_rfl)⟩) (by assumption) ?_
  (try simp only [Act.put, List.setIfInBounds_toArray, List.set_cons_zero, List.set_cons_succ])
  refine wpAnyH_take (i := 4) (oi := { dst := some 40, op := Go.Op.binOp Go.BinOp.eql 37 (Go.Operand.tmp 38) (Go.Operand.tmp 39) 37, type := 4, pos := "law.go:19", after := #[{ on := 2, ground := Go.Ground.data }, { on := 3, ground := Go.Ground.data }, { on := 1, ground := Go.Ground.guard }], guard := some (1, true) }) (v := ?_) rfl (by kernel_rfl) (by kernel_rfl) (by kernel_rfl) (fun _ _ _ h => h) (Or.inl ⟨by rfl, ?_⟩) (by assumption) ?_
  rotate_left 1
  · intro w' hSw; (go_simp <;> (with_reducible rfl))
  (try simp only [Act.put, List.setIfInBounds_toArray, List.set_cons_zero, List.set_cons_succ])
  refine wpAnyH_take (i := 5) (oi := { dst := some 41, op := Go.Op.pick (Go.Operand.tmp 37) (Go.Operand.tmp 40) (Go.Operand.const (Go.Value.bool false)), type := 4, pos := "law.go:19", after := #[{ on := 1, ground := Go.Ground.data }, { on := 4, ground := Go.Ground.data }], guard := none }) (v := ?_) rfl (by kernel_rfl) (by kernel_rfl) (by kernel_rfl) (fun _ _ _ h => h) (Or.inl ⟨by rfl, ?_⟩) (by assumption) ?_
  rotate_left 1
  · intro w' hSw; (go_simp <;> (with_reducible rfl))
  (try simp only [Act.put, List.setIfInBounds_toArray, List.set_cons_zero, List.set_cons_succ])
  refine wpAnyH_take (i := 6) (oi := { dst := some 42, op := Go.Op.move (Go.Operand.tmp 41), type := 4, pos := "law.go:19", after := #[{ on := 5, ground := Go.Ground.data }, { on := 1, ground := Go.Ground.chain }], guard := none }) (v := ?_) rfl (by kernel_rfl) (by kernel_rfl) (by kernel_rfl) (fun _ _ _ h => h) (Or.inl ⟨by rfl, ?_⟩) (by assumption) ?_
  rotate_left 1
  · intro w' hSw; (go_simp <;> (with_reducible rfl))
  (try simp only [Act.put, List.setIfInBounds_toArray, List.set_cons_zero, List.set_cons_succ])
  refine wpAnyH_take (i := 7) (oi := { dst := some 43, op := Go.Op.load 37 (Go.Operand.tmp 3), type := 37, pos := "law.go:19", after := #[{ on := 6, ground := Go.Ground.guard }], guard := some (6, true) }) (v := .agg #[.int .u8 6, .int .u32 167772161, .int .u32 167772162, .int .u16 5, .int .u16 80]) rfl (by kernel_rfl) (by kernel_rfl) (by kernel_rfl) (fun _ _ _ h => h) (Or.inl ⟨by rfl, fun w' hSw => exec_row 37 (.tmp 3) rfl q3 _ _ _ _ (hSw.2.1) rfl Try.underlying37 rfl (by kernel_rfl)⟩) (by assumption) ?_
  (try simp only [Act.put, List.setIfInBounds_toArray, List.set_cons_zero, List.set_cons_succ])
  refine wpAnyH_take (i := 9) (oi := { dst := some 45, op := Go.Op.load 37 (Go.Operand.tmp 9), type := 37, pos := "law.go:19", after := #[{ on := 6, ground := Go.Ground.guard }], guard := some (6, true) }) (v := .agg #[.int .u8 6, .int .u32 167772162, .int .u32 167772161, .int .u16 80, .int .u16 5]) rfl (by kernel_rfl) (by kernel_rfl) (by kernel_rfl) (fun _ _ _ h => h) (Or.inl ⟨by rfl, fun w' hSw => exec_row 37 (.tmp 9) rfl q9 _ _ _ _ (hSw.2.2.1) rfl Try.underlying37 rfl (by kernel_rfl)⟩) (by assumption) ?_
  (try simp only [Act.put, List.setIfInBounds_toArray, List.set_cons_zero, List.set_cons_succ])
  refine wpAnyH_ready (rs := [8]) (by kernel_rfl) (by simp) ?_
  refine AllReadyH.cons (o := { dst := some 44, op := Go.Op.call { callee := Go.Callee.value (Go.Operand.func 9), args := #[Go.Operand.tmp 43], argTypes := #[37] }, type := 37, pos := "law.go:19", after := #[{ on := 7, ground := Go.Ground.data }, { on := 6, ground := Go.Ground.chain }, { on := 6, ground := Go.Ground.guard }], guard := some (6, true) }) rfl (fun K hK => ?_) AllReadyH.nil
  go_simp
  (refine (rev_any wkT _).mono ?_; rintro e w12 ⟨rfl, hb12⟩; simp only [show revT wkT = ⟨6, 167772162, 167772161, 80, 5⟩ from rfl]; have HB12 := Lib.hid (below_trans HBd.out hb12); clear hb12)
  refine hK.out _ _ ?_ (fun hHeld => ?_)
  · exact HK11.out _ HB12.out
  clear hK K
  (try simp only [Act.put, List.setIfInBounds_toArray, List.set_cons_zero, List.set_cons_succ])
  refine wpAnyH_take (i := 10) (oi := { dst := some 46, op := Go.Op.binOp Go.BinOp.eql 37 (Go.Operand.tmp 44) (Go.Operand.tmp 45) 37, type := 4, pos := "law.go:19", after := #[{ on := 8, ground := Go.Ground.data }, { on := 9, ground := Go.Ground.data }, { on := 6, ground := Go.Ground.guard }], guard := some (6, true) }) (v := ?_) rfl (by kernel_rfl) (by kernel_rfl) (by kernel_rfl) (fun _ _ _ h => h) (Or.inl ⟨by rfl, ?_⟩) (by assumption) ?_
  rotate_left 1
  · intro w' hSw; (go_simp <;> (with_reducible rfl))
  (try simp only [Act.put, List.setIfInBounds_toArray, List.set_cons_zero, List.set_cons_succ])
  refine wpAnyH_take (i := 11) (oi := { dst := some 47, op := Go.Op.pick (Go.Operand.tmp 42) (Go.Operand.tmp 46) (Go.Operand.const (Go.Value.bool false)), type := 4, pos := "law.go:19", after := #[{ on := 6, ground := Go.Ground.data }, { on := 10, ground := Go.Ground.data }], guard := none }) (v := ?_) rfl (by kernel_rfl) (by kernel_rfl) (by kernel_rfl) (fun _ _ _ h => h) (Or.inl ⟨by rfl, ?_⟩) (by assumption) ?_
  rotate_left 1
  · intro w' hSw; (go_simp <;> (with_reducible rfl))
  (try simp only [Act.put, List.setIfInBounds_toArray, List.set_cons_zero, List.set_cons_succ])
  refine wpAnyH_take (i := 12) (oi := { dst := some 48, op := Go.Op.move (Go.Operand.tmp 47), type := 4, pos := "law.go:19", after := #[{ on := 11, ground := Go.Ground.data }, { on := 8, ground := Go.Ground.chain }], guard := none }) (v := ?_) rfl (by kernel_rfl) (by kernel_rfl) (by kernel_rfl) (fun _ _ _ h => h) (Or.inl ⟨by rfl, ?_⟩) (by assumption) ?_
  rotate_left 1
  · intro w' hSw; (go_simp <;> (with_reducible rfl))
  (try simp only [Act.put, List.setIfInBounds_toArray, List.set_cons_zero, List.set_cons_succ])
  refine wpAnyH_take (i := 13) (oi := { dst := some 49, op := Go.Op.load 37 (Go.Operand.tmp 10), type := 37, pos := "law.go:19", after := #[{ on := 12, ground := Go.Ground.guard }], guard := some (12, true) }) (v := .agg #[.int .u8 1, .int .u32 2, .int .u32 1, .int .u16 7, .int .u16 0]) rfl (by kernel_rfl) (by kernel_rfl) (by kernel_rfl) (fun _ _ _ h => h) (Or.inl ⟨by rfl, fun w' hSw => exec_row 37 (.tmp 10) rfl q11 _ _ _ _ (hSw.2.2.2) rfl Try.underlying37 rfl (by kernel_rfl)⟩) (by assumption) ?_
  (try simp only [Act.put, List.setIfInBounds_toArray, List.set_cons_zero, List.set_cons_succ])
  refine wpAnyH_take (i := 14) (oi := { dst := some 50, op := Go.Op.build 37 #[(0, Go.Operand.const (Go.Value.int Go.IntKind.u8 1)), (1, Go.Operand.const (Go.Value.int Go.IntKind.u32 2)), (2, Go.Operand.const (Go.Value.int Go.IntKind.u32 1)), (3, Go.Operand.const (Go.Value.int Go.IntKind.u16 7))], type := 37, pos := "law.go:19", after := #[{ on := 12, ground := Go.Ground.guard }], guard := some (12, true) }) (v := ?_) rfl (by kernel_rfl) (by kernel_rfl) (by kernel_rfl) (fun _ _ _ h => h) (Or.inl ⟨by rfl, ?_⟩) (by assumption) ?_
  rotate_left 1
  · intro w' hSw; (go_simp <;> (with_reducible rfl))
  (try simp only [Act.put, List.setIfInBounds_toArray, List.set_cons_zero, List.set_cons_succ])
  refine wpAnyH_take (i := 15) (oi := { dst := some 51, op := Go.Op.binOp Go.BinOp.eql 37 (Go.Operand.tmp 49) (Go.Operand.tmp 50) 37, type := 4, pos := "law.go:19", after := #[{ on := 13, ground := Go.Ground.data }, { on := 14, ground := Go.Ground.data }, { on := 12, ground := Go.Ground.guard }], guard := some (12, true) }) (v := ?_) rfl (by kernel_rfl) (by kernel_rfl) (by kernel_rfl) (fun _ _ _ h => h) (Or.inl ⟨by rfl, ?_⟩) (by assumption) ?_
  rotate_left 1
  · intro w' hSw; (go_simp <;> (with_reducible rfl))
  (try simp only [Act.put, List.setIfInBounds_toArray, List.set_cons_zero, List.set_cons_succ])
  refine wpAnyH_take (i := 16) (oi := { dst := some 52, op := Go.Op.pick (Go.Operand.tmp 48) (Go.Operand.tmp 51) (Go.Operand.const (Go.Value.bool false)), type := 4, pos := "law.go:19", after := #[{ on := 12, ground := Go.Ground.data }, { on := 15, ground := Go.Ground.data }], guard := none }) (v := ?_) rfl (by kernel_rfl) (by kernel_rfl) (by kernel_rfl) (fun _ _ _ h => h) (Or.inl ⟨by rfl, ?_⟩) (by assumption) ?_
  rotate_left 1
  · intro w' hSw; (go_simp <;> (with_reducible rfl))
  (try simp only [Act.put, List.setIfInBounds_toArray, List.set_cons_zero, List.set_cons_succ])
  refine wpAnyH_take (i := 17) (oi := { dst := some 53, op := Go.Op.move (Go.Operand.tmp 52), type := 4, pos := "law.go:19", after := #[{ on := 16, ground := Go.Ground.data }, { on := 12, ground := Go.Ground.chain }], guard := none }) (v := ?_) rfl (by kernel_rfl) (by kernel_rfl) (by kernel_rfl) (fun _ _ _ h => h) (Or.inl ⟨by rfl, ?_⟩) (by assumption) ?_
  rotate_left 1
  · intro w' hSw; (go_simp <;> (with_reducible rfl))
  (try simp only [Act.put, List.setIfInBounds_toArray, List.set_cons_zero, List.set_cons_succ])
  refine wpAnyH_take (i := 18) (oi := { dst := some 54, op := Go.Op.move (Go.Operand.tmp 6), type := 4, pos := "law.go:19", after := #[{ on := 17, ground := Go.Ground.guard }], guard := some (17, true) }) (v := ?_) rfl (by kernel_rfl) (by kernel_rfl) (by kernel_rfl) (fun _ _ _ h => h) (Or.inl ⟨by rfl, ?_⟩) (by assumption) ?_
  rotate_left 1
  · intro w' hSw; (go_simp <;> (with_reducible rfl))
  (try simp only [Act.put, List.setIfInBounds_toArray, List.set_cons_zero, List.set_cons_succ])
  refine wpAnyH_take (i := 19) (oi := { dst := some 55, op := Go.Op.unOp Go.UnOp.not 4 (Go.Operand.tmp 54), type := 4, pos := "law.go:19", after := #[{ on := 18, ground := Go.Ground.data }, { on := 17, ground := Go.Ground.guard }], guard := some (17, true) }) (v := ?_) rfl (by kernel_rfl) (by kernel_rfl) (by kernel_rfl) (fun _ _ _ h => h) (Or.inl ⟨by rfl, ?_⟩) (by assumption) ?_
  rotate_left 1
  · intro w' hSw; (go_simp <;> (with_reducible rfl))
  (try simp only [Act.put, List.setIfInBounds_toArray, List.set_cons_zero, List.set_cons_succ])
  refine wpAnyH_take (i := 20) (oi := { dst := some 56, op := Go.Op.pick (Go.Operand.tmp 53) (Go.Operand.tmp 55) (Go.Operand.const (Go.Value.bool false)), type := 4, pos := "law.go:19", after := #[{ on := 17, ground := Go.Ground.data }, { on := 19, ground := Go.Ground.data }], guard := none }) (v := ?_) rfl (by kernel_rfl) (by kernel_rfl) (by kernel_rfl) (fun _ _ _ h => h) (Or.inl ⟨by rfl, ?_⟩) (by assumption) ?_
  rotate_left 1
  · intro w' hSw; (go_simp <;> (with_reducible rfl))
  (try simp only [Act.put, List.setIfInBounds_toArray, List.set_cons_zero, List.set_cons_succ])
  refine wpAnyH_take (i := 21) (oi := { dst := some 57, op := Go.Op.move (Go.Operand.tmp 56), type := 4, pos := "law.go:19", after := #[{ on := 20, ground := Go.Ground.data }, { on := 17, ground := Go.Ground.chain }], guard := none }) (v := ?_) rfl (by kernel_rfl) (by kernel_rfl) (by kernel_rfl) (fun _ _ _ h => h) (Or.inl ⟨by rfl, ?_⟩) (by assumption) ?_
  rotate_left 1
  · intro w' hSw; (go_simp <;> (with_reducible rfl))
  (try simp only [Act.put, List.setIfInBounds_toArray, List.set_cons_zero, List.set_cons_succ])
  refine wpAnyH_take (i := 22) (oi := { dst := some 58, op := Go.Op.move (Go.Operand.tmp 8), type := 4, pos := "law.go:19", after := #[{ on := 21, ground := Go.Ground.guard }], guard := some (21, true) }) (v := ?_) rfl (by kernel_rfl) (by kernel_rfl) (by kernel_rfl) (fun _ _ _ h => h) (Or.inl ⟨by rfl, ?_⟩) (by assumption) ?_
  rotate_left 1
  · intro w' hSw; (go_simp <;> (with_reducible rfl))
  (try simp only [Act.put, List.setIfInBounds_toArray, List.set_cons_zero, List.set_cons_succ])
  refine wpAnyH_take (i := 23) (oi := { dst := some 59, op := Go.Op.unOp Go.UnOp.not 4 (Go.Operand.tmp 58), type := 4, pos := "law.go:19", after := #[{ on := 22, ground := Go.Ground.data }, { on := 21, ground := Go.Ground.guard }], guard := some (21, true) }) (v := ?_) rfl (by kernel_rfl) (by kernel_rfl) (by kernel_rfl) (fun _ _ _ h => h) (Or.inl ⟨by rfl, ?_⟩) (by assumption) ?_
  rotate_left 1
  · intro w' hSw; (go_simp <;> (with_reducible rfl))
  (try simp only [Act.put, List.setIfInBounds_toArray, List.set_cons_zero, List.set_cons_succ])
  refine wpAnyH_take (i := 24) (oi := { dst := some 60, op := Go.Op.pick (Go.Operand.tmp 57) (Go.Operand.tmp 59) (Go.Operand.const (Go.Value.bool false)), type := 4, pos := "law.go:19", after := #[{ on := 21, ground := Go.Ground.data }, { on := 23, ground := Go.Ground.data }], guard := none }) (v := ?_) rfl (by kernel_rfl) (by kernel_rfl) (by kernel_rfl) (fun _ _ _ h => h) (Or.inl ⟨by rfl, ?_⟩) (by assumption) ?_
  rotate_left 1
  · intro w' hSw; (go_simp <;> (with_reducible rfl))
  (try simp only [Act.put, List.setIfInBounds_toArray, List.set_cons_zero, List.set_cons_succ])
  refine wpAnyH_take (i := 25) (oi := { dst := some 0, op := Go.Op.assign (Go.Operand.tmp 60), type := 4, pos := "law.go:19", after := #[{ on := 24, ground := Go.Ground.data }, { on := 21, ground := Go.Ground.chain }, { on := 0, ground := Go.Ground.phase }, { on := 1, ground := Go.Ground.phase }, { on := 2, ground := Go.Ground.phase }, { on := 3, ground := Go.Ground.phase }, { on := 4, ground := Go.Ground.phase }, { on := 5, ground := Go.Ground.phase }, { on := 6, ground := Go.Ground.phase }, { on := 7, ground := Go.Ground.phase }, { on := 8, ground := Go.Ground.phase }, { on := 9, ground := Go.Ground.phase }, { on := 10, ground := Go.Ground.phase }, { on := 11, ground := Go.Ground.phase }, { on := 12, ground := Go.Ground.phase }, { on := 13, ground := Go.Ground.phase }, { on := 14, ground := Go.Ground.phase }, { on := 15, ground := Go.Ground.phase }, { on := 16, ground := Go.Ground.phase }, { on := 17, ground := Go.Ground.phase }, { on := 18, ground := Go.Ground.phase }, { on := 19, ground := Go.Ground.phase }, { on := 20, ground := Go.Ground.phase }, { on := 21, ground := Go.Ground.phase }, { on := 22, ground := Go.Ground.phase }, { on := 23, ground := Go.Ground.phase }, { on := 24, ground := Go.Ground.phase }], guard := none }) (v := ?_) rfl (by kernel_rfl) (by kernel_rfl) (by kernel_rfl) (fun _ _ _ h => h) (Or.inl ⟨by rfl, ?_⟩) (by assumption) ?_
  rotate_left 1
  · intro w' hSw; (go_simp <;> (with_reducible rfl))
  (try simp only [Act.put, List.setIfInBounds_toArray, List.set_cons_zero, List.set_cons_succ])
  refine wpAnyH_done (by kernel_rfl) ?_ _
  clear hHeld
  go_wp2_with fail
  go_ret
  exact ⟨rfl, below_trans HB11.out HB12.out⟩
end Go.Proofs.Ythhgdmdobfjipaa
