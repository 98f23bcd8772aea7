/-
  TupleKnown holds: the chapter's rows; echoes; all protocols.
-/
import Derived.Test.YthhgdmdobfjipaaTupWakes
import Derived.RegionTactic
import Derived.BigRegion
import Derived.Deep.DeepCutAuto
import Derived.Deep.CutRange
namespace Go.Proofs.Ythhgdmdobfjipaa.tupleKnown
set_option maxRecDepth 10000
open Go.ChangeShapes Go.WideShapes Go.ChangeAt Go.RowKit
set_option linter.unusedVariables false
set_option linter.unusedSimpArgs false

def pkJ (j : Int) : Pk := ⟨⟨0, 0, false, 0, j, 1, 2, []⟩, wkS0, ⟨0, 0, []⟩, ⟨8, 0, 589824, []⟩⟩
def pkA : Pk := ⟨⟨0, 0, false, 0, 1, 1, 2, []⟩, wkS0, ⟨0, 0, []⟩, ⟨8, 0, 589829, []⟩⟩
def pkT : Pk := ⟨⟨0, 0, false, 0, 1, 2, 1, []⟩, wkS0, ⟨0, 0, []⟩, ⟨0, 0, 589830, []⟩⟩
def pkC : Pk := ⟨⟨0, 0, false, 0, 1, 0, 0, []⟩, wkS0, ⟨0, 0, []⟩, ⟨8, 1, 0, []⟩⟩
def tuK : Tu := ⟨6, 16909060, 84281096, 2314, 2828⟩
theorem is_J (j : Int) : isT (pkJ j) = (j == 6 || (j == 17 || j == 1)) := by
  unfold isT pkJ
  rw [Bool.eq_iff_iff]
  simp [echoM]
theorem str_K : (strOfNums (tuB tuK)).toList = [6, 1, 2, 3, 4, 5, 6, 7, 8, 9, 10, 11, 12] := by decide +kernel
theorem num_K : TuNum tuK := ⟨by decide, by decide, by decide, by decide, by decide⟩
set_option maxHeartbeats 4000000 in
theorem walk (W : World) :
    Calls Try.prog 6 #[] W fun e w' => e = .returned (.bool true) ∧ Below W.heap.size W w' := by
  go_enter Try.func6, Try.ntmps6
  go_wp2_with fail
  go_loopg [1] 256 (fun gk i wr => ∃ j : Nat, Hid (gk + j = 256) ∧ j ≤ 256 ∧ i = .int .i64 (j : Int) ∧ Hid (Below W.heap.size W wr))
  case atStart => exact ⟨0, rfl, Nat.zero_le _, rfl, Lib.hid (Below.refl _ _)⟩
  case round =>
    obtain ⟨j, hgk, hj, rfl, HB⟩ := hrel
    by_cases hjn : j < 256
    · have hj8 : IntKind.u8.wrap (j : Int) = (j : Int) := by (simp [IntKind.wrap, IntKind.bits, IntKind.signed] <;> omega)
      have hlt : (j : Int) < 256 := by omega
      obtain ⟨z, hz⟩ : ∃ z, wr.heap.size = z := ⟨_, rfl⟩
      obtain ⟨w1, ew1⟩ : ∃ v, wr.alloc (.cells #[.int .u8 0, .int .u16 0, .bool false, .int .u8 0, .int .u8 (j : Int), .int .u32 1, .int .u32 2, .slice none 0 0, .int .u16 0, .int .u16 0, .int .u32 0, .int .u32 0, .int .u8 0, .int .u16 0, .int .u16 0, .slice none 0 0, .slice none 0 0, .int .u16 0, .int .u16 0, .slice none 0 0, .int .u8 8, .int .u8 0, .int .u32 589824, .slice none 0 0] 35) = v := ⟨_, rfl⟩
      have hb1 : Below wr.heap.size wr w1 := by rw [← ew1]; exact (Below.refl _ _).alloc (Nat.le_refl _) _
      have HK1 := Lib.hid (show w1.heap[z]? = some (.cells #[.int .u8 0, .int .u16 0, .bool false, .int .u8 0, .int .u8 (j : Int), .int .u32 1, .int .u32 2, .slice none 0 0, .int .u16 0, .int .u16 0, .int .u32 0, .int .u32 0, .int .u8 0, .int .u16 0, .int .u16 0, .slice none 0 0, .slice none 0 0, .int .u16 0, .int .u16 0, .slice none 0 0, .int .u8 8, .int .u8 0, .int .u32 589824, .slice none 0 0] 35 (0, 0)) by rw [← ew1, ← hz]; exact heap_alloc_new wr _)
      have HB1 := Lib.hid (HB.out.trans (hb1.mono HB.out.size))
      have Ew1 := Lib.hid ew1
      have Hz := Lib.hid hz
      have Hj := Lib.hid hj
      have Hjn := Lib.hid hjn
      clear hz ew1 hb1 hj hjn
      go_upto_region 5 with (refine wp_store_new 35 (.tmp 2) (.tmp 19) rfl rfl wr _ _ rfl rfl (by kernel_rfl) rfl (by simp [Value.oneCell']) ?_)
      rw [Ew1.out]
      rw [Hz.out]
      clear Ew1 Hz hj8 hlt
      obtain ⟨t, et⟩ : ∃ t, tupT (pkJ j) = t := ⟨_, rfl⟩
      obtain ⟨k, ek⟩ : ∃ k, isT (pkJ j) = k := ⟨_, rfl⟩
      have Hof := Lib.hid (tof_any (pkJ j) PkA.none_ w1 t k (by show (0 : Int) ≤ 589824 ∧ (589824 : Int) < 4294967296; decide) et ek)
      rw [is_J] at ek
      have Hek := Lib.hid ek
      clear et ek
      try simp only []
      repeat (first | (refine wp_load_row 35 (.tmp 2) rfl z _ _ _ _ HK1.out rfl Try.underlying35 rfl (by kernel_rfl) ?_; simp only [Act.put, List.setIfInBounds_toArray, List.set_cons_zero, List.set_cons_succ]) | go_values | go_skip | go_guarded | go_step | go_upon | go_back)
      refine Hof.out.mono ?_
      rintro e w2 ⟨rfl, hb2⟩
      obtain ⟨q3, eqq3⟩ : ∃ v, w2.heap.size = v := ⟨_, rfl⟩
      obtain ⟨w3, evw3⟩ : ∃ v, w2.alloc (.cells #[.int .u8 t.pr, .int .u32 t.sr, .int .u32 t.ds, .int .u16 t.sp, .int .u16 t.dp] 37) = v := ⟨_, rfl⟩
      have hbw3 : Below w2.heap.size w2 w3 := by rw [← evw3]; exact (Below.refl _ _).alloc (Nat.le_refl _) _
      have hkw3 : w3.heap[q3]? = some (.cells #[.int .u8 t.pr, .int .u32 t.sr, .int .u32 t.ds, .int .u16 t.sp, .int .u16 t.dp] 37 (0, 0)) := by rw [← evw3, ← eqq3]; exact heap_alloc_new w2 _
      have Ew3 := Lib.hid evw3
      have Eq3 := Lib.hid eqq3
      have Hw3 := Lib.hid hbw3
      have HKq3 := Lib.hid hkw3
      clear eqq3 evw3 hbw3 hkw3
      have hb3 := below_trans hb2 Hw3.out
      have HB3 := Lib.hid (HB1.out.trans (hb3.mono HB1.out.size))
      clear hb2 hb3 Hw3 HKq3 HK1 HB1 Hof
      go_upto_region 6 with (fail)
      rw [Ew3.out]
      rw [Eq3.out]
      clear Ew3 Eq3
      obtain ⟨g1, h1⟩ : ∃ b, ((j : Int) == 1) = b := ⟨_, rfl⟩
      obtain ⟨g6, h6⟩ : ∃ b, ((j : Int) == 6) = b := ⟨_, rfl⟩
      obtain ⟨g17, h17⟩ : ∃ b, ((j : Int) == 17) = b := ⟨_, rfl⟩
      have hek := Hek.out
      rw [h1, h6, h17] at hek
      clear Hek
      subst hek
      cases g1 with
      | true =>
        cases g6 with
        | true => exact absurd ((beq_iff_eq.1 h1).symm.trans (beq_iff_eq.1 h6)) (by decide)
        | false =>
          cases g17 with
          | true => exact absurd ((beq_iff_eq.1 h1).symm.trans (beq_iff_eq.1 h17)) (by decide)
          | false =>
            have hjn := Hjn.out
            have hwr : IntKind.i64.wrap ((j : Int) + 1) = (j : Int) + 1 := IntWalk.i64_in _ (by omega)
            go_wp2_with fail
            go_roundg (gk - 1)
            case measure => have := hgk.out; have := Hjn.out; omega
            case rel => exact ⟨j + 1, by have := hgk.out; have := Hjn.out; show gk - 1 + (j + 1) = _; omega, by have := Hjn.out; omega, by have := Hjn.out; go_num, HB3⟩
      | false =>
        cases g6 with
        | true =>
          cases g17 with
          | true => exact absurd ((beq_iff_eq.1 h6).symm.trans (beq_iff_eq.1 h17)) (by decide)
          | false =>
            have hjn := Hjn.out
            have hwr : IntKind.i64.wrap ((j : Int) + 1) = (j : Int) + 1 := IntWalk.i64_in _ (by omega)
            go_wp2_with fail
            go_roundg (gk - 1)
            case measure => have := hgk.out; have := Hjn.out; omega
            case rel => exact ⟨j + 1, by have := hgk.out; have := Hjn.out; show gk - 1 + (j + 1) = _; omega, by have := Hjn.out; omega, by have := Hjn.out; go_num, HB3⟩
        | false =>
          cases g17 with
          | true =>
            have hjn := Hjn.out
            have hwr : IntKind.i64.wrap ((j : Int) + 1) = (j : Int) + 1 := IntWalk.i64_in _ (by omega)
            go_wp2_with fail
            go_roundg (gk - 1)
            case measure => have := hgk.out; have := Hjn.out; omega
            case rel => exact ⟨j + 1, by have := hgk.out; have := Hjn.out; show gk - 1 + (j + 1) = _; omega, by have := Hjn.out; omega, by have := Hjn.out; go_num, HB3⟩
          | false =>
            have hjn := Hjn.out
            have hwr : IntKind.i64.wrap ((j : Int) + 1) = (j : Int) + 1 := IntWalk.i64_in _ (by omega)
            go_wp2_with fail
            go_roundg (gk - 1)
            case measure => have := hgk.out; have := Hjn.out; omega
            case rel => exact ⟨j + 1, by have := hgk.out; have := Hjn.out; show gk - 1 + (j + 1) = _; omega, by have := Hjn.out; omega, by have := Hjn.out; go_num, HB3⟩
    · obtain rfl : j = 256 := by omega
      clear hgk hjn hj
      go_upto_region 8 with (fail)
      try simp only []
      repeat (first | fail | go_values | go_skip | go_guarded | go_step | go_upon | go_back)
      refine (tof_any pkA PkA.none_ _ ⟨1, 1, 2, 9, 0⟩ true (by decide) rfl rfl).mono ?_
      rintro e w1 ⟨rfl, hb1⟩
      simp only []
      obtain ⟨q5, eqq5⟩ : ∃ v, w1.heap.size = v := ⟨_, rfl⟩
      obtain ⟨w2, evw2⟩ : ∃ v, w1.alloc (.cells #[.int .u8 1, .int .u32 1, .int .u32 2, .int .u16 9, .int .u16 0] 37) = v := ⟨_, rfl⟩
      have hbw2 : Below w1.heap.size w1 w2 := by rw [← evw2]; exact (Below.refl _ _).alloc (Nat.le_refl _) _
      have hkw2 : w2.heap[q5]? = some (.cells #[.int .u8 1, .int .u32 1, .int .u32 2, .int .u16 9, .int .u16 0] 37 (0, 0)) := by rw [← evw2, ← eqq5]; exact heap_alloc_new w1 _
      have Ew2 := Lib.hid evw2
      have Eq5 := Lib.hid eqq5
      have Hw2 := Lib.hid hbw2
      have HKq5 := Lib.hid hkw2
      clear eqq5 evw2 hbw2 hkw2
      have hb2 := below_trans hb1 Hw2.out
      have HB2 := Lib.hid (HB.out.trans (hb2.mono HB.out.size))
      clear hb1 hb2 Hw2 HB
      go_upto_region 9 with (fail)
      rw [Ew2.out]
      rw [Eq5.out]
      clear Ew2 Eq5
      try simp only []
      repeat (first | fail | go_values | go_skip | go_guarded | go_step | go_upon | go_back)
      refine (tof_any pkT PkA.none_ _ ⟨1, 2, 1, 9, 0⟩ true (by decide) rfl rfl).mono ?_
      rintro e w3 ⟨rfl, hb3⟩
      simp only []
      obtain ⟨q7, eqq7⟩ : ∃ v, w3.heap.size = v := ⟨_, rfl⟩
      obtain ⟨w4, evw4⟩ : ∃ v, w3.alloc (.cells #[.int .u8 1, .int .u32 2, .int .u32 1, .int .u16 9, .int .u16 0] 37) = v := ⟨_, rfl⟩
      have hbw4 : Below w3.heap.size w3 w4 := by rw [← evw4]; exact (Below.refl _ _).alloc (Nat.le_refl _) _
      have hkw4 : w4.heap[q7]? = some (.cells #[.int .u8 1, .int .u32 2, .int .u32 1, .int .u16 9, .int .u16 0] 37 (0, 0)) := by rw [← evw4, ← eqq7]; exact heap_alloc_new w3 _
      have Ew4 := Lib.hid evw4
      have Eq7 := Lib.hid eqq7
      have Hw4 := Lib.hid hbw4
      have HKq7 := Lib.hid hkw4
      clear eqq7 evw4 hbw4 hkw4
      have hb4 := below_trans hb3 Hw4.out
      have HB4 := Lib.hid (HB2.out.trans (hb4.mono HB2.out.size))
      have HKa := Lib.hid (blk_on HKq5.out hb4)
      clear hb3 hb4 Hw4 HB2 HKq5
      go_upto_region 10 with (fail)
      rw [Ew4.out]
      rw [Eq7.out]
      clear Ew4 Eq7
      try simp only []
      repeat (first | fail | go_values | go_skip | go_guarded | go_step | go_upon | go_back)
      refine (tof_any pkC PkA.none_ _ zeroTu false (by decide) rfl rfl).mono ?_
      rintro e w5 ⟨rfl, hb5⟩
      simp only [zeroTu]
      obtain ⟨q9, eqq9⟩ : ∃ v, w5.heap.size = v := ⟨_, rfl⟩
      obtain ⟨w6, evw6⟩ : ∃ v, w5.alloc (.cells #[.int .u8 0, .int .u32 0, .int .u32 0, .int .u16 0, .int .u16 0] 37) = v := ⟨_, rfl⟩
      have hbw6 : Below w5.heap.size w5 w6 := by rw [← evw6]; exact (Below.refl _ _).alloc (Nat.le_refl _) _
      have hkw6 : w6.heap[q9]? = some (.cells #[.int .u8 0, .int .u32 0, .int .u32 0, .int .u16 0, .int .u16 0] 37 (0, 0)) := by rw [← evw6, ← eqq9]; exact heap_alloc_new w5 _
      have Ew6 := Lib.hid evw6
      have Eq9 := Lib.hid eqq9
      have Hw6 := Lib.hid hbw6
      have HKq9 := Lib.hid hkw6
      clear eqq9 evw6 hbw6 hkw6
      have hb6 := below_trans hb5 Hw6.out
      have HB6 := Lib.hid (HB4.out.trans (hb6.mono HB4.out.size))
      have HS := Lib.hid (show ∀ w', Below w6.heap.size w6 w' → (w'.heap[q5]? = some (.cells #[.int .u8 1, .int .u32 1, .int .u32 2, .int .u16 9, .int .u16 0] 37 (0, 0)) ∧ w'.heap[q7]? = some (.cells #[.int .u8 1, .int .u32 2, .int .u32 1, .int .u16 9, .int .u16 0] 37 (0, 0))) ∧ (w'.cell? ⟨q5, 3, none⟩ = some (.int .u16 9) ∧ w'.cell? ⟨q5, 4, none⟩ = some (.int .u16 0)) from fun w' hb => by
        have h1 := blk_on (blk_on HKa.out hb6) hb
        exact ⟨⟨h1, blk_on (blk_on HKq7.out hb6) hb⟩, ⟨by rw [blk_cell h1]; rfl, by rw [blk_cell h1]; rfl⟩⟩)
      clear hb5 hb6 Hw6 HB4 HKa HKq7 HKq9
      go_upto_region 11 with (fail)
      rw [Ew6.out]
      rw [Eq9.out]
      clear Ew6 Eq9
      obtain ⟨L, eL⟩ : ∃ L, tuB tuK = L := ⟨_, rfl⟩
      have hstr := str_K
      rw [eL] at hstr
      have HeL := Lib.hid eL
      have HLb := Lib.hid (show ∀ n ∈ L, 0 ≤ n ∧ n < 256 by rw [← eL]; exact tuB_byte num_K)
      clear eL
      have HBd := Lib.hid (Below.drew (Below.refl w6.heap.size w6))
      refine wp_region_held_drew (S := fun w' => (w'.heap[q5]? = some (.cells #[.int .u8 1, .int .u32 1, .int .u32 2, .int .u16 9, .int .u16 0] 37 (0, 0)) ∧ w'.heap[q7]? = some (.cells #[.int .u8 1, .int .u32 2, .int .u32 1, .int .u16 9, .int .u16 0] 37 (0, 0))) ∧ (w'.cell? ⟨q5, 3, none⟩ = some (.int .u16 9) ∧ w'.cell? ⟨q5, 4, none⟩ = some (.int .u16 0))) (by kernel_rfl) (HS.out _ HBd.out) (fun hHeld => ?_)
      obtain ⟨wd, ewd⟩ : ∃ wd, w6.drew = wd := ⟨_, rfl⟩
      rw [ewd] at HBd hHeld ⊢
      clear ewd
      refine wpAnyH_take (i := 0) (oi := { dst := some 58, op := Go.Op.move (Go.Operand.tmp 6), type := 4, pos := "outright.go:53", after := #[], guard := none }) (v := ?_) rfl (by kernel_rfl) (by kernel_rfl) (by kernel_rfl) (fun _ _ _ h => h) (Or.inl ⟨by rfl, ?_⟩) (by assumption) ?_
      rotate_left 1
      · intro w' hSw; (go_simp <;> (with_reducible rfl))
      (try simp only [Act.put, List.setIfInBounds_toArray, List.set_cons_zero, List.set_cons_succ])
      refine wpAnyH_take (i := 1) (oi := { dst := some 59, op := Go.Op.move (Go.Operand.tmp 58), type := 4, pos := "outright.go:53", after := #[{ on := 0, ground := Go.Ground.data }], guard := none }) (v := ?_) rfl (by kernel_rfl) (by kernel_rfl) (by kernel_rfl) (fun _ _ _ h => h) (Or.inl ⟨by rfl, ?_⟩) (by assumption) ?_
      rotate_left 1
      · intro w' hSw; (go_simp <;> (with_reducible rfl))
      (try simp only [Act.put, List.setIfInBounds_toArray, List.set_cons_zero, List.set_cons_succ])
      refine wpAnyH_take (i := 2) (oi := { dst := some 60, op := Go.Op.move (Go.Operand.tmp 8), type := 4, pos := "outright.go:53", after := #[{ on := 1, ground := Go.Ground.guard }], guard := some (1, true) }) (v := ?_) rfl (by kernel_rfl) (by kernel_rfl) (by kernel_rfl) (fun _ _ _ h => h) (Or.inl ⟨by rfl, ?_⟩) (by assumption) ?_
      rotate_left 1
      · intro w' hSw; (go_simp <;> (with_reducible rfl))
      (try simp only [Act.put, List.setIfInBounds_toArray, List.set_cons_zero, List.set_cons_succ])
      refine wpAnyH_take (i := 3) (oi := { dst := some 61, op := Go.Op.pick (Go.Operand.tmp 59) (Go.Operand.tmp 60) (Go.Operand.const (Go.Value.bool false)), type := 4, pos := "outright.go:53", after := #[{ on := 1, ground := Go.Ground.data }, { on := 2, ground := Go.Ground.data }], guard := none }) (v := ?_) rfl (by kernel_rfl) (by kernel_rfl) (by kernel_rfl) (fun _ _ _ h => h) (Or.inl ⟨by rfl, ?_⟩) (by assumption) ?_
      rotate_left 1
      · intro w' hSw; (go_simp <;> (with_reducible rfl))
      (try simp only [Act.put, List.setIfInBounds_toArray, List.set_cons_zero, List.set_cons_succ])
      refine wpAnyH_take (i := 4) (oi := { dst := some 62, op := Go.Op.move (Go.Operand.tmp 61), type := 4, pos := "outright.go:53", after := #[{ on := 3, ground := Go.Ground.data }, { on := 1, ground := Go.Ground.chain }], guard := none }) (v := ?_) rfl (by kernel_rfl) (by kernel_rfl) (by kernel_rfl) (fun _ _ _ h => h) (Or.inl ⟨by rfl, ?_⟩) (by assumption) ?_
      rotate_left 1
      · intro w' hSw; (go_simp <;> (with_reducible rfl))
      (try simp only [Act.put, List.setIfInBounds_toArray, List.set_cons_zero, List.set_cons_succ])
      refine wpAnyH_take (i := 5) (oi := { dst := some 63, op := Go.Op.move (Go.Operand.tmp 10), type := 4, pos := "outright.go:53", after := #[{ on := 4, ground := Go.Ground.guard }], guard := some (4, true) }) (v := ?_) rfl (by kernel_rfl) (by kernel_rfl) (by kernel_rfl) (fun _ _ _ h => h) (Or.inl ⟨by rfl, ?_⟩) (by assumption) ?_
      rotate_left 1
      · intro w' hSw; (go_simp <;> (with_reducible rfl))
      (try simp only [Act.put, List.setIfInBounds_toArray, List.set_cons_zero, List.set_cons_succ])
      refine wpAnyH_take (i := 6) (oi := { dst := some 64, op := Go.Op.unOp Go.UnOp.not 4 (Go.Operand.tmp 63), type := 4, pos := "outright.go:53", after := #[{ on := 5, ground := Go.Ground.data }, { on := 4, ground := Go.Ground.guard }], guard := some (4, true) }) (v := ?_) rfl (by kernel_rfl) (by kernel_rfl) (by kernel_rfl) (fun _ _ _ h => h) (Or.inl ⟨by rfl, ?_⟩) (by assumption) ?_
      rotate_left 1
      · intro w' hSw; (go_simp <;> (with_reducible rfl))
      (try simp only [Act.put, List.setIfInBounds_toArray, List.set_cons_zero, List.set_cons_succ])
      refine wpAnyH_take (i := 7) (oi := { dst := some 65, op := Go.Op.pick (Go.Operand.tmp 62) (Go.Operand.tmp 64) (Go.Operand.const (Go.Value.bool false)), type := 4, pos := "outright.go:53", after := #[{ on := 4, ground := Go.Ground.data }, { on := 6, ground := Go.Ground.data }], guard := none }) (v := ?_) rfl (by kernel_rfl) (by kernel_rfl) (by kernel_rfl) (fun _ _ _ h => h) (Or.inl ⟨by rfl, ?_⟩) (by assumption) ?_
      rotate_left 1
      · intro w' hSw; (go_simp <;> (with_reducible rfl))
      (try simp only [Act.put, List.setIfInBounds_toArray, List.set_cons_zero, List.set_cons_succ])
      refine wpAnyH_take (i := 8) (oi := { dst := some 66, op := Go.Op.move (Go.Operand.tmp 65), type := 4, pos := "outright.go:53", after := #[{ on := 7, ground := Go.Ground.data }, { on := 4, ground := Go.Ground.chain }], guard := none }) (v := ?_) rfl (by kernel_rfl) (by kernel_rfl) (by kernel_rfl) (fun _ _ _ h => h) (Or.inl ⟨by rfl, ?_⟩) (by assumption) ?_
      rotate_left 1
      · intro w' hSw; (go_simp <;> (with_reducible rfl))
      (try simp only [Act.put, List.setIfInBounds_toArray, List.set_cons_zero, List.set_cons_succ])
      refine wpAnyH_take (i := 9) (oi := { dst := some 67, op := Go.Op.load 37 (Go.Operand.tmp 5), type := 37, pos := "outright.go:53", after := #[{ on := 8, ground := Go.Ground.guard }], guard := some (8, true) }) (v := .agg #[.int .u8 1, .int .u32 1, .int .u32 2, .int .u16 9, .int .u16 0]) rfl (by kernel_rfl) (by kernel_rfl) (by kernel_rfl) (fun _ _ _ h => h) (Or.inl ⟨by rfl, fun w' hSw => exec_row 37 (.tmp 5) rfl q5 _ _ _ _ (hSw.1.1) rfl Try.underlying37 rfl (by kernel_rfl)⟩) (by assumption) ?_
      (try simp only [Act.put, List.setIfInBounds_toArray, List.set_cons_zero, List.set_cons_succ])
      refine wpAnyH_take (i := 11) (oi := { dst := some 69, op := Go.Op.load 37 (Go.Operand.tmp 7), type := 37, pos := "outright.go:53", after := #[{ on := 8, ground := Go.Ground.guard }], guard := some (8, true) }) (v := .agg #[.int .u8 1, .int .u32 2, .int .u32 1, .int .u16 9, .int .u16 0]) rfl (by kernel_rfl) (by kernel_rfl) (by kernel_rfl) (fun _ _ _ h => h) (Or.inl ⟨by rfl, fun w' hSw => exec_row 37 (.tmp 7) rfl q7 _ _ _ _ (hSw.1.2) rfl Try.underlying37 rfl (by kernel_rfl)⟩) (by assumption) ?_
      (try simp only [Act.put, List.setIfInBounds_toArray, List.set_cons_zero, List.set_cons_succ])
      refine wpAnyH_ready (rs := [10]) (by kernel_rfl) (by simp) ?_
      refine AllReadyH.cons (o := { dst := some 68, op := Go.Op.call { callee := Go.Callee.value (Go.Operand.func 9), args := #[Go.Operand.tmp 67], argTypes := #[37] }, type := 37, pos := "outright.go:53", after := #[{ on := 9, ground := Go.Ground.data }, { on := 8, ground := Go.Ground.chain }, { on := 8, ground := Go.Ground.guard }], guard := some (8, true) }) rfl (fun K hK => ?_) AllReadyH.nil
      go_simp
      (refine (rev_any ⟨1, 1, 2, 9, 0⟩ _).mono ?_; rintro e w10 ⟨rfl, hb⟩; simp only [show revT ⟨1, 1, 2, 9, 0⟩ = ⟨1, 2, 1, 9, 0⟩ from rfl]; have HC10 := Lib.hid (below_trans HBd.out hb); clear hb)
      refine hK.out _ _ ?_ (fun hHeld => ?_)
      · exact HS.out _ HC10.out
      clear hK K
      (try simp only [Act.put, List.setIfInBounds_toArray, List.set_cons_zero, List.set_cons_succ])
      refine wpAnyH_take (i := 12) (oi := { dst := some 70, op := Go.Op.binOp Go.BinOp.eql 37 (Go.Operand.tmp 68) (Go.Operand.tmp 69) 37, type := 4, pos := "outright.go:53", after := #[{ on := 10, ground := Go.Ground.data }, { on := 11, ground := Go.Ground.data }, { on := 8, ground := Go.Ground.guard }], guard := some (8, true) }) (v := ?_) rfl (by kernel_rfl) (by kernel_rfl) (by kernel_rfl) (fun _ _ _ h => h) (Or.inl ⟨by rfl, ?_⟩) (by assumption) ?_
      rotate_left 1
      · intro w' hSw; (go_simp <;> (with_reducible rfl))
      (try simp only [Act.put, List.setIfInBounds_toArray, List.set_cons_zero, List.set_cons_succ])
      refine wpAnyH_take (i := 13) (oi := { dst := some 71, op := Go.Op.pick (Go.Operand.tmp 66) (Go.Operand.tmp 70) (Go.Operand.const (Go.Value.bool false)), type := 4, pos := "outright.go:53", after := #[{ on := 8, ground := Go.Ground.data }, { on := 12, ground := Go.Ground.data }], guard := none }) (v := ?_) rfl (by kernel_rfl) (by kernel_rfl) (by kernel_rfl) (fun _ _ _ h => h) (Or.inl ⟨by rfl, ?_⟩) (by assumption) ?_
      rotate_left 1
      · intro w' hSw; (go_simp <;> (with_reducible rfl))
      (try simp only [Act.put, List.setIfInBounds_toArray, List.set_cons_zero, List.set_cons_succ])
      refine wpAnyH_take (i := 14) (oi := { dst := some 72, op := Go.Op.move (Go.Operand.tmp 71), type := 4, pos := "outright.go:53", after := #[{ on := 13, ground := Go.Ground.data }, { on := 10, ground := Go.Ground.chain }], guard := none }) (v := ?_) rfl (by kernel_rfl) (by kernel_rfl) (by kernel_rfl) (fun _ _ _ h => h) (Or.inl ⟨by rfl, ?_⟩) (by assumption) ?_
      rotate_left 1
      · intro w' hSw; (go_simp <;> (with_reducible rfl))
      (try simp only [Act.put, List.setIfInBounds_toArray, List.set_cons_zero, List.set_cons_succ])
      refine wpAnyH_take (i := 15) (oi := { dst := some 73, op := Go.Op.fieldAddr 37 (Go.Operand.tmp 5) 3, type := 0, pos := "outright.go:53", after := #[{ on := 14, ground := Go.Ground.guard }], guard := some (14, true) }) (v := ?_) rfl (by kernel_rfl) (by kernel_rfl) (by kernel_rfl) (fun _ _ _ h => h) (Or.inl ⟨by rfl, ?_⟩) (by assumption) ?_
      rotate_left 1
      · intro w' hSw; (go_simp <;> (with_reducible rfl))
      (try simp only [Act.put, List.setIfInBounds_toArray, List.set_cons_zero, List.set_cons_succ])
      refine wpAnyH_take (i := 16) (oi := { dst := some 74, op := Go.Op.load 22 (Go.Operand.tmp 73), type := 22, pos := "outright.go:53", after := #[{ on := 15, ground := Go.Ground.data }, { on := 14, ground := Go.Ground.guard }], guard := some (14, true) }) (v := ?_) rfl (by kernel_rfl) (by kernel_rfl) (by kernel_rfl) (fun _ _ _ h => h) (Or.inl ⟨by rfl, ?_⟩) (by assumption) ?_
      rotate_left 1
      · intro w' hSw; (go_simp <;> (with_reducible rfl))
      (try simp only [Act.put, List.setIfInBounds_toArray, List.set_cons_zero, List.set_cons_succ])
      refine wpAnyH_take (i := 17) (oi := { dst := some 75, op := Go.Op.binOp Go.BinOp.eql 22 (Go.Operand.tmp 74) (Go.Operand.const (Go.Value.int Go.IntKind.u16 9)) 22, type := 4, pos := "outright.go:53", after := #[{ on := 16, ground := Go.Ground.data }, { on := 14, ground := Go.Ground.guard }], guard := some (14, true) }) (v := ?_) rfl (by kernel_rfl) (by kernel_rfl) (by kernel_rfl) (fun _ _ _ h => h) (Or.inl ⟨by rfl, ?_⟩) (by assumption) ?_
      rotate_left 1
      · intro w' hSw; (go_simp <;> (with_reducible rfl))
      (try simp only [Act.put, List.setIfInBounds_toArray, List.set_cons_zero, List.set_cons_succ])
      refine wpAnyH_take (i := 18) (oi := { dst := some 76, op := Go.Op.pick (Go.Operand.tmp 72) (Go.Operand.tmp 75) (Go.Operand.const (Go.Value.bool false)), type := 4, pos := "outright.go:53", after := #[{ on := 14, ground := Go.Ground.data }, { on := 17, ground := Go.Ground.data }], guard := none }) (v := ?_) rfl (by kernel_rfl) (by kernel_rfl) (by kernel_rfl) (fun _ _ _ h => h) (Or.inl ⟨by rfl, ?_⟩) (by assumption) ?_
      rotate_left 1
      · intro w' hSw; (go_simp <;> (with_reducible rfl))
      (try simp only [Act.put, List.setIfInBounds_toArray, List.set_cons_zero, List.set_cons_succ])
      refine wpAnyH_take (i := 19) (oi := { dst := some 77, op := Go.Op.move (Go.Operand.tmp 76), type := 4, pos := "outright.go:53", after := #[{ on := 18, ground := Go.Ground.data }, { on := 14, ground := Go.Ground.chain }], guard := none }) (v := ?_) rfl (by kernel_rfl) (by kernel_rfl) (by kernel_rfl) (fun _ _ _ h => h) (Or.inl ⟨by rfl, ?_⟩) (by assumption) ?_
      rotate_left 1
      · intro w' hSw; (go_simp <;> (with_reducible rfl))
      (try simp only [Act.put, List.setIfInBounds_toArray, List.set_cons_zero, List.set_cons_succ])
      refine wpAnyH_take (i := 20) (oi := { dst := some 78, op := Go.Op.fieldAddr 37 (Go.Operand.tmp 5) 4, type := 0, pos := "outright.go:53", after := #[{ on := 19, ground := Go.Ground.guard }], guard := some (19, true) }) (v := ?_) rfl (by kernel_rfl) (by kernel_rfl) (by kernel_rfl) (fun _ _ _ h => h) (Or.inl ⟨by rfl, ?_⟩) (by assumption) ?_
      rotate_left 1
      · intro w' hSw; (go_simp <;> (with_reducible rfl))
      (try simp only [Act.put, List.setIfInBounds_toArray, List.set_cons_zero, List.set_cons_succ])
      refine wpAnyH_take (i := 21) (oi := { dst := some 79, op := Go.Op.load 22 (Go.Operand.tmp 78), type := 22, pos := "outright.go:53", after := #[{ on := 20, ground := Go.Ground.data }, { on := 19, ground := Go.Ground.guard }], guard := some (19, true) }) (v := ?_) rfl (by kernel_rfl) (by kernel_rfl) (by kernel_rfl) (fun _ _ _ h => h) (Or.inl ⟨by rfl, ?_⟩) (by assumption) ?_
      rotate_left 1
      · intro w' hSw; (go_simp <;> (with_reducible rfl))
      (try simp only [Act.put, List.setIfInBounds_toArray, List.set_cons_zero, List.set_cons_succ])
      refine wpAnyH_take (i := 22) (oi := { dst := some 80, op := Go.Op.binOp Go.BinOp.eql 22 (Go.Operand.tmp 79) (Go.Operand.const (Go.Value.int Go.IntKind.u16 0)) 22, type := 4, pos := "outright.go:53", after := #[{ on := 21, ground := Go.Ground.data }, { on := 19, ground := Go.Ground.guard }], guard := some (19, true) }) (v := ?_) rfl (by kernel_rfl) (by kernel_rfl) (by kernel_rfl) (fun _ _ _ h => h) (Or.inl ⟨by rfl, ?_⟩) (by assumption) ?_
      rotate_left 1
      · intro w' hSw; (go_simp <;> (with_reducible rfl))
      (try simp only [Act.put, List.setIfInBounds_toArray, List.set_cons_zero, List.set_cons_succ])
      refine wpAnyH_take (i := 23) (oi := { dst := some 81, op := Go.Op.pick (Go.Operand.tmp 77) (Go.Operand.tmp 80) (Go.Operand.const (Go.Value.bool false)), type := 4, pos := "outright.go:53", after := #[{ on := 19, ground := Go.Ground.data }, { on := 22, ground := Go.Ground.data }], guard := none }) (v := ?_) rfl (by kernel_rfl) (by kernel_rfl) (by kernel_rfl) (fun _ _ _ h => h) (Or.inl ⟨by rfl, ?_⟩) (by assumption) ?_
      rotate_left 1
      · intro w' hSw; (go_simp <;> (with_reducible rfl))
      (try simp only [Act.put, List.setIfInBounds_toArray, List.set_cons_zero, List.set_cons_succ])
      refine wpAnyH_take (i := 24) (oi := { dst := some 82, op := Go.Op.move (Go.Operand.tmp 81), type := 4, pos := "outright.go:53", after := #[{ on := 23, ground := Go.Ground.data }, { on := 19, ground := Go.Ground.chain }], guard := none }) (v := ?_) rfl (by kernel_rfl) (by kernel_rfl) (by kernel_rfl) (fun _ _ _ h => h) (Or.inl ⟨by rfl, ?_⟩) (by assumption) ?_
      rotate_left 1
      · intro w' hSw; (go_simp <;> (with_reducible rfl))
      (try simp only [Act.put, List.setIfInBounds_toArray, List.set_cons_zero, List.set_cons_succ])
      refine wpAnyH_take (i := 25) (oi := { dst := some 83, op := Go.Op.build 37 #[], type := 37, pos := "outright.go:53", after := #[{ on := 24, ground := Go.Ground.guard }], guard := some (24, true) }) (v := ?_) rfl (by kernel_rfl) (by kernel_rfl) (by kernel_rfl) (fun _ _ _ h => h) (Or.inl ⟨by rfl, ?_⟩) (by assumption) ?_
      rotate_left 1
      · intro w' hSw; (go_simp <;> (with_reducible rfl))
      (try simp only [Act.put, List.setIfInBounds_toArray, List.set_cons_zero, List.set_cons_succ])
      refine wpAnyH_ready (rs := [26]) (by kernel_rfl) (by simp) ?_
      refine AllReadyH.cons (o := { dst := some 84, op := Go.Op.call { callee := Go.Callee.value (Go.Operand.func 13), args := #[Go.Operand.tmp 83], argTypes := #[37] }, type := 4, pos := "outright.go:53", after := #[{ on := 25, ground := Go.Ground.data }, { on := 24, ground := Go.Ground.chain }, { on := 24, ground := Go.Ground.guard }], guard := some (24, true) }) rfl (fun K hK => ?_) AllReadyH.nil
      go_simp
      (refine (none_any zeroTu _ true rfl).mono ?_; rintro e w26 ⟨rfl, hb⟩; have HC26 := Lib.hid (below_trans HC10.out hb); clear hb)
      refine hK.out _ _ ?_ (fun hHeld => ?_)
      · exact HS.out _ HC26.out
      clear hK K
      (try simp only [Act.put, List.setIfInBounds_toArray, List.set_cons_zero, List.set_cons_succ])
      refine wpAnyH_take (i := 27) (oi := { dst := some 85, op := Go.Op.pick (Go.Operand.tmp 82) (Go.Operand.tmp 84) (Go.Operand.const (Go.Value.bool false)), type := 4, pos := "outright.go:53", after := #[{ on := 24, ground := Go.Ground.data }, { on := 26, ground := Go.Ground.data }], guard := none }) (v := ?_) rfl (by kernel_rfl) (by kernel_rfl) (by kernel_rfl) (fun _ _ _ h => h) (Or.inl ⟨by rfl, ?_⟩) (by assumption) ?_
      rotate_left 1
      · intro w' hSw; (go_simp <;> (with_reducible rfl))
      (try simp only [Act.put, List.setIfInBounds_toArray, List.set_cons_zero, List.set_cons_succ])
      refine wpAnyH_take (i := 28) (oi := { dst := some 86, op := Go.Op.move (Go.Operand.tmp 85), type := 4, pos := "outright.go:53", after := #[{ on := 27, ground := Go.Ground.data }, { on := 26, ground := Go.Ground.chain }], guard := none }) (v := ?_) rfl (by kernel_rfl) (by kernel_rfl) (by kernel_rfl) (fun _ _ _ h => h) (Or.inl ⟨by rfl, ?_⟩) (by assumption) ?_
      rotate_left 1
      · intro w' hSw; (go_simp <;> (with_reducible rfl))
      (try simp only [Act.put, List.setIfInBounds_toArray, List.set_cons_zero, List.set_cons_succ])
      refine wpAnyH_take (i := 29) (oi := { dst := some 87, op := Go.Op.build 37 #[(4, Go.Operand.const (Go.Value.int Go.IntKind.u16 1))], type := 37, pos := "outright.go:53", after := #[{ on := 28, ground := Go.Ground.guard }], guard := some (28, true) }) (v := ?_) rfl (by kernel_rfl) (by kernel_rfl) (by kernel_rfl) (fun _ _ _ h => h) (Or.inl ⟨by rfl, ?_⟩) (by assumption) ?_
      rotate_left 1
      · intro w' hSw; (go_simp <;> (with_reducible rfl))
      (try simp only [Act.put, List.setIfInBounds_toArray, List.set_cons_zero, List.set_cons_succ])
      refine wpAnyH_ready (rs := [30]) (by kernel_rfl) (by simp) ?_
      refine AllReadyH.cons (o := { dst := some 88, op := Go.Op.call { callee := Go.Callee.value (Go.Operand.func 13), args := #[Go.Operand.tmp 87], argTypes := #[37] }, type := 4, pos := "outright.go:53", after := #[{ on := 29, ground := Go.Ground.data }, { on := 28, ground := Go.Ground.chain }, { on := 28, ground := Go.Ground.guard }], guard := some (28, true) }) rfl (fun K hK => ?_) AllReadyH.nil
      go_simp
      (refine (none_any ⟨0, 0, 0, 0, 1⟩ _ false rfl).mono ?_; rintro e w30 ⟨rfl, hb⟩; have HC30 := Lib.hid (below_trans HC26.out hb); clear hb)
      refine hK.out _ _ ?_ (fun hHeld => ?_)
      · exact HS.out _ HC30.out
      clear hK K
      (try simp only [Act.put, List.setIfInBounds_toArray, List.set_cons_zero, List.set_cons_succ])
      refine wpAnyH_take (i := 31) (oi := { dst := some 89, op := Go.Op.unOp Go.UnOp.not 4 (Go.Operand.tmp 88), type := 4, pos := "outright.go:53", after := #[{ on := 30, ground := Go.Ground.data }, { on := 28, ground := Go.Ground.guard }], guard := some (28, true) }) (v := ?_) rfl (by kernel_rfl) (by kernel_rfl) (by kernel_rfl) (fun _ _ _ h => h) (Or.inl ⟨by rfl, ?_⟩) (by assumption) ?_
      rotate_left 1
      · intro w' hSw; (go_simp <;> (with_reducible rfl))
      (try simp only [Act.put, List.setIfInBounds_toArray, List.set_cons_zero, List.set_cons_succ])
      refine wpAnyH_take (i := 32) (oi := { dst := some 90, op := Go.Op.pick (Go.Operand.tmp 86) (Go.Operand.tmp 89) (Go.Operand.const (Go.Value.bool false)), type := 4, pos := "outright.go:53", after := #[{ on := 28, ground := Go.Ground.data }, { on := 31, ground := Go.Ground.data }], guard := none }) (v := ?_) rfl (by kernel_rfl) (by kernel_rfl) (by kernel_rfl) (fun _ _ _ h => h) (Or.inl ⟨by rfl, ?_⟩) (by assumption) ?_
      rotate_left 1
      · intro w' hSw; (go_simp <;> (with_reducible rfl))
      (try simp only [Act.put, List.setIfInBounds_toArray, List.set_cons_zero, List.set_cons_succ])
      refine wpAnyH_take (i := 33) (oi := { dst := some 91, op := Go.Op.move (Go.Operand.tmp 90), type := 4, pos := "outright.go:53", after := #[{ on := 32, ground := Go.Ground.data }, { on := 30, ground := Go.Ground.chain }], guard := none }) (v := ?_) rfl (by kernel_rfl) (by kernel_rfl) (by kernel_rfl) (fun _ _ _ h => h) (Or.inl ⟨by rfl, ?_⟩) (by assumption) ?_
      rotate_left 1
      · intro w' hSw; (go_simp <;> (with_reducible rfl))
      (try simp only [Act.put, List.setIfInBounds_toArray, List.set_cons_zero, List.set_cons_succ])
      refine wpAnyH_take (i := 34) (oi := { dst := some 92, op := Go.Op.build 37 #[(0, Go.Operand.const (Go.Value.int Go.IntKind.u8 6)), (1, Go.Operand.const (Go.Value.int Go.IntKind.u32 16909060)), (2, Go.Operand.const (Go.Value.int Go.IntKind.u32 84281096)), (3, Go.Operand.const (Go.Value.int Go.IntKind.u16 2314)), (4, Go.Operand.const (Go.Value.int Go.IntKind.u16 2828))], type := 37, pos := "outright.go:53", after := #[{ on := 33, ground := Go.Ground.guard }], guard := some (33, true) }) (v := ?_) rfl (by kernel_rfl) (by kernel_rfl) (by kernel_rfl) (fun _ _ _ h => h) (Or.inl ⟨by rfl, ?_⟩) (by assumption) ?_
      rotate_left 1
      · intro w' hSw; (go_simp <;> (with_reducible rfl))
      (try simp only [Act.put, List.setIfInBounds_toArray, List.set_cons_zero, List.set_cons_succ])
      refine wpAnyH_ready (rs := [35]) (by kernel_rfl) (by simp) ?_
      refine AllReadyH.cons (o := { dst := some 93, op := Go.Op.call { callee := Go.Callee.value (Go.Operand.func 14), args := #[Go.Operand.tmp 92], argTypes := #[37] }, type := 24, pos := "outright.go:53", after := #[{ on := 34, ground := Go.Ground.data }, { on := 33, ground := Go.Ground.chain }, { on := 33, ground := Go.Ground.guard }], guard := some (33, true) }) rfl (fun K hK => ?_) AllReadyH.nil
      go_simp
      (refine (tbytes_any tuK _ num_K).mono ?_; rw [HeL.out]; rintro e w35 ⟨A3, c3, rfl, -, -, ho3, hb⟩; have HR3 := Lib.hid (ho3.rd HLb.out); have HC35 := Lib.hid (below_trans HC30.out hb); clear ho3 hb)
      refine hK.out _ _ ?_ (fun hHeld => ?_)
      · exact HS.out _ HC35.out
      clear hK K
      (try simp only [Act.put, List.setIfInBounds_toArray, List.set_cons_zero, List.set_cons_succ])
      refine anyH_mono (S' := fun w' => ((w'.heap[q5]? = some (.cells #[.int .u8 1, .int .u32 1, .int .u32 2, .int .u16 9, .int .u16 0] 37 (0, 0)) ∧ w'.heap[q7]? = some (.cells #[.int .u8 1, .int .u32 2, .int .u32 1, .int .u16 9, .int .u16 0] 37 (0, 0))) ∧ (w'.cell? ⟨q5, 3, none⟩ = some (.int .u16 9) ∧ w'.cell? ⟨q5, 4, none⟩ = some (.int .u16 0))) ∧ Rd w' A3 13 L) (fun _ h => h.1) _ _ _ _ ?_
      have hHeld := And.intro hHeld HR3.out
      refine wpAnyH_take (i := 36) (oi := { dst := some 94, op := Go.Op.convert 24 9 (Go.Operand.tmp 93), type := 9, pos := "outright.go:53", after := #[{ on := 35, ground := Go.Ground.data }, { on := 33, ground := Go.Ground.guard }], guard := some (33, true) }) (v := .string (strOfNums L)) rfl (by kernel_rfl) (by kernel_rfl) (by kernel_rfl) (fun _ _ _ h => h) (Or.inl ⟨by rfl, ?_⟩) (by assumption) ?_
      · intro w' hSw; have hcv := conv_rd hSw.2 c3; (go_simp <;> (with_reducible rfl))
      (try simp only [Act.put, List.setIfInBounds_toArray, List.set_cons_zero, List.set_cons_succ])
      refine wpAnyH_take (i := 37) (oi := { dst := some 95, op := Go.Op.binOp Go.BinOp.eql 9 (Go.Operand.tmp 94) (Go.Operand.const (Go.Value.string { data := #[6, 1, 2, 3, 4, 5, 6, 7, 8, 9, 10, 11, 12] })) 9, type := 4, pos := "outright.go:53", after := #[{ on := 36, ground := Go.Ground.data }, { on := 33, ground := Go.Ground.guard }], guard := some (33, true) }) (v := ?_) rfl (by kernel_rfl) (by kernel_rfl) (by kernel_rfl) (fun _ _ _ h => h) (Or.inl ⟨by rfl, ?_⟩) (by assumption) ?_
      rotate_left 1
      · intro w' hSw; (go_simp <;> (with_reducible rfl))
      (try simp only [Act.put, List.setIfInBounds_toArray, List.set_cons_zero, List.set_cons_succ])
      refine wpAnyH_take (i := 38) (oi := { dst := some 96, op := Go.Op.pick (Go.Operand.tmp 91) (Go.Operand.tmp 95) (Go.Operand.const (Go.Value.bool false)), type := 4, pos := "outright.go:53", after := #[{ on := 33, ground := Go.Ground.data }, { on := 37, ground := Go.Ground.data }], guard := none }) (v := ?_) rfl (by kernel_rfl) (by kernel_rfl) (by kernel_rfl) (fun _ _ _ h => h) (Or.inl ⟨by rfl, ?_⟩) (by assumption) ?_
      rotate_left 1
      · intro w' hSw; (go_simp <;> (with_reducible rfl))
      (try simp only [Act.put, List.setIfInBounds_toArray, List.set_cons_zero, List.set_cons_succ])
      refine wpAnyH_take (i := 39) (oi := { dst := some 97, op := Go.Op.move (Go.Operand.tmp 96), type := 4, pos := "outright.go:53", after := #[{ on := 38, ground := Go.Ground.data }, { on := 35, ground := Go.Ground.chain }], guard := none }) (v := ?_) rfl (by kernel_rfl) (by kernel_rfl) (by kernel_rfl) (fun _ _ _ h => h) (Or.inl ⟨by rfl, ?_⟩) (by assumption) ?_
      rotate_left 1
      · intro w' hSw; (go_simp <;> (with_reducible rfl))
      (try simp only [Act.put, List.setIfInBounds_toArray, List.set_cons_zero, List.set_cons_succ])
      refine wpAnyH_ready (rs := [40]) (by kernel_rfl) (by simp) ?_
      refine AllReadyH.cons (o := { dst := some 98, op := Go.Op.call { callee := Go.Callee.value (Go.Operand.func 16), args := #[], argTypes := #[] }, type := 4, pos := "outright.go:53", after := #[{ on := 39, ground := Go.Ground.chain }, { on := 39, ground := Go.Ground.guard }], guard := some (39, true) }) rfl (fun K hK => ?_) AllReadyH.nil
      go_simp
      (refine (tupwake_any _).mono ?_; rintro e w40 ⟨rfl, hb⟩; have HC40 := Lib.hid (below_trans HC35.out hb); have HR4 := Lib.hid (HR3.out.below hb); clear hb)
      refine hK.out _ _ ?_ (fun hHeld => ?_)
      · exact ⟨HS.out _ HC40.out, HR4.out⟩
      clear hK K
      (try simp only [Act.put, List.setIfInBounds_toArray, List.set_cons_zero, List.set_cons_succ])
      refine wpAnyH_take (i := 41) (oi := { dst := some 99, op := Go.Op.pick (Go.Operand.tmp 97) (Go.Operand.tmp 98) (Go.Operand.const (Go.Value.bool false)), type := 4, pos := "outright.go:53", after := #[{ on := 39, ground := Go.Ground.data }, { on := 40, ground := Go.Ground.data }], guard := none }) (v := ?_) rfl (by kernel_rfl) (by kernel_rfl) (by kernel_rfl) (fun _ _ _ h => h) (Or.inl ⟨by rfl, ?_⟩) (by assumption) ?_
      rotate_left 1
      · intro w' hSw; (go_simp <;> (with_reducible rfl))
      (try simp only [Act.put, List.setIfInBounds_toArray, List.set_cons_zero, List.set_cons_succ])
      refine wpAnyH_take (i := 42) (oi := { dst := some 0, op := Go.Op.assign (Go.Operand.tmp 99), type := 4, pos := "outright.go:53", after := #[{ on := 41, ground := Go.Ground.data }, { on := 40, ground := Go.Ground.chain }, { on := 0, ground := Go.Ground.phase }, { on := 1, ground := Go.Ground.phase }, { on := 2, ground := Go.Ground.phase }, { on := 3, ground := Go.Ground.phase }, { on := 4, ground := Go.Ground.phase }, { on := 5, ground := Go.Ground.phase }, { on := 6, ground := Go.Ground.phase }, { on := 7, ground := Go.Ground.phase }, { on := 8, ground := Go.Ground.phase }, { on := 9, ground := Go.Ground.phase }, { on := 10, ground := Go.Ground.phase }, { on := 11, ground := Go.Ground.phase }, { on := 12, ground := Go.Ground.phase }, { on := 13, ground := Go.Ground.phase }, { on := 14, ground := Go.Ground.phase }, { on := 15, ground := Go.Ground.phase }, { on := 16, ground := Go.Ground.phase }, { on := 17, ground := Go.Ground.phase }, { on := 18, ground := Go.Ground.phase }, { on := 19, ground := Go.Ground.phase }, { on := 20, ground := Go.Ground.phase }, { on := 21, ground := Go.Ground.phase }, { on := 22, ground := Go.Ground.phase }, { on := 23, ground := Go.Ground.phase }, { on := 24, ground := Go.Ground.phase }, { on := 25, ground := Go.Ground.phase }, { on := 26, ground := Go.Ground.phase }, { on := 27, ground := Go.Ground.phase }, { on := 28, ground := Go.Ground.phase }, { on := 29, ground := Go.Ground.phase }, { on := 30, ground := Go.Ground.phase }, { on := 31, ground := Go.Ground.phase }, { on := 32, ground := Go.Ground.phase }, { on := 33, ground := Go.Ground.phase }, { on := 34, ground := Go.Ground.phase }, { on := 35, ground := Go.Ground.phase }, { on := 36, ground := Go.Ground.phase }, { on := 37, ground := Go.Ground.phase }, { on := 38, ground := Go.Ground.phase }, { on := 39, ground := Go.Ground.phase }, { on := 40, ground := Go.Ground.phase }, { on := 41, ground := Go.Ground.phase }], guard := none }) (v := ?_) rfl (by kernel_rfl) (by kernel_rfl) (by kernel_rfl) (fun _ _ _ h => h) (Or.inl ⟨by rfl, ?_⟩) (by assumption) ?_
      rotate_left 1
      · intro w' hSw; (go_simp <;> (with_reducible rfl))
      (try simp only [Act.put, List.setIfInBounds_toArray, List.set_cons_zero, List.set_cons_succ])
      refine wpAnyH_done (by kernel_rfl) ?_ _
      clear hHeld
      have HBz := Lib.hid (HB6.out.trans (HC40.out.mono HB6.out.size))
      go_wp2_with fail
      go_ret
      exact ⟨rfl, HBz.out⟩
theorem own : ownKnob Try.prog.godebug = none := by kernel_rfl
theorem laidOut : laidOutB Try.prog = true := by kernel_rfl

set_option maxRecDepth 100000 in
theorem lifted (os : Os) (started : os.Started) (H : Type) (enc : TypeId × Value → H) :
    ReturnsInHanded {} Try.checked os 6 .any (Rows.tupleKnownSpec.pre6 enc Try.prog Try.f6 Rows.tupleKnownRow.domain false) (Rows.tupleKnownSpec.post enc Try.prog Try.f6 false true false false) := by
  refine returnsInHanded_of_change (C := Try.checked) own started (by kernel_rfl) Try.func6
    (ChangeSpec.witness6 (enc := enc) (C := Try.checked) false ⟨#[], #[], []⟩ 8 (by kernel_rfl) (by kernel_rfl) (by kernel_rfl) (by kernel_rfl)) ?_
  intro W base args ds gs before hval0 hW hcnd _
  have hval : ∀ (j : Nat) t v, Try.f6.params[j]? = some t → args[j]? = some v → Value.okWide Try.prog W .any base t v := hval0
  have hW' := hW
  obtain ⟨p, q, hA0, hV, rfl, hfz, hnd⟩ := hW
  have hA : DataW.TrodAll enc Try.prog W 0 (fun _ => true) true Try.f6.params.toList args.toList ds p := hA0
  rw [Try.params6] at hA hval
  obtain ⟨rfl, rfl, rfl⟩ := trodAll_none hA
  obtain ⟨rfl, rfl⟩ := trodVars_none hV
  clear hA0 hval0
  refine (walk W ).mono fun e W' ⟨he, bel⟩ => ?_
  subst he
  exact ⟨_, rfl, _, _, _, [], _, [], hW', trodAll_mk1 (shut_bool Try.underlying4 _), trodAll_mk0, rfl, bel.frame _, fun h => by cases h⟩

theorem over : Rows.tupleKnownRow.holds Try.pinned (OpenSpec.ofChange Rows.tupleKnownSpec) :=
  OpenClaim.holds_of_wide 6 Try.f6 rfl rfl rfl rfl rfl rfl rfl ⟨rfl, rfl, rfl, rfl, rfl⟩ rfl rfl rfl rfl rfl (by kernel_rfl) Try.func6 (by kernel_rfl)
    (of_decide_eq_true (by kernel_rfl)) (by unfold Func.isWrapper; first | (rw [if_pos (by decide +kernel)]; kernel_rfl) | (rw [if_neg (by decide +kernel)]; exact ⟨rfl, rfl⟩))
    (fun os started H enc _ => lifted os started H enc)

/-- The statement. -/
theorem proved : Rows.TupleKnownSaid := over
#print axioms proved
end Go.Proofs.Ythhgdmdobfjipaa.tupleKnown
