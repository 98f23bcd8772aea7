/-
  ForwardKnown holds: the chapter's rows, the limits, no table.
-/
import Derived.Test.YtknmpfdmjfbpdaaFwKnownP
import Derived.Test.YtknmpfdmjfbpdaaFwBackP
import Derived.Test.YtknmpfdmjfbpdaaFwLessP
import Derived.RegionTactic
import Derived.Deep.DeepCutAuto
import Derived.Deep.CutRange
import Derived.BigRegion
namespace Go.Proofs.Ytknmpfdmjfbpdaa.forwardKnown
set_option maxRecDepth 10000
open Go.ChangeShapes Go.WideShapes Go.ChangeAt Go.RowKit
set_option linter.unusedVariables false
set_option linter.unusedSimpArgs false

def x0 : Tu := ⟨6, 0, 1, 0, 2⟩
theorem tu_neq (t : Tu) (w : World) : (binOp .neq 31 (.agg #[.int .u8 t.pr, .int .u32 t.sr, .int .u32 t.ds, .int .u16 t.sp, .int .u16 t.dp]) (.agg #[.int .u8 t.pr, .int .u32 t.sr, .int .u32 t.ds, .int .u16 t.sp, .int .u16 t.dp])).run Try.prog w = .ok (.bool false) w := by
  have h := run_neq_struct (P := Try.prog) w 31 #[.int .u8 t.pr, .int .u32 t.sr, .int .u32 t.ds, .int .u16 t.sp, .int .u16 t.dp] #[.int .u8 t.pr, .int .u32 t.sr, .int .u32 t.ds, .int .u16 t.sp, .int .u16 t.dp]
  rw [run_neq_struct, run_equalIn_struct w 9999 31 _ _ (by kernel_rfl) (by kernel_rfl)]
  go_simp
set_option maxHeartbeats 2000000 in
theorem walk (w : World) : Calls Try.prog 6 #[] w (fun e w' => e = .returned (.bool true) ∧ Below w.heap.size w w') := by
  go_enter Try.func6, Try.ntmps6
  have HBw := Lib.hid (Below.refl w.heap.size w)
  go_wp2_with fail
  refine (find_nil 6 80 w).mono ?_
  rintro e w1 ⟨rfl, hb1⟩
  have HBw1 := Lib.hid hb1
  clear hb1
  obtain ⟨q1, eqq1⟩ : ∃ v, w1.heap.size = v := ⟨_, rfl⟩
  obtain ⟨w2, evw2⟩ : ∃ v, w1.alloc (.cells #[.int .u8 0, .int .u16 0, .int .u32 0, .int .u16 0] 40) = v := ⟨_, rfl⟩
  have hbw2 : Below w1.heap.size w1 w2 := by rw [← evw2]; exact (Below.refl _ _).alloc (Nat.le_refl _) _
  have hkw2 : w2.heap[q1]? = some (.cells #[.int .u8 0, .int .u16 0, .int .u32 0, .int .u16 0] 40 (0, 0)) := by rw [← evw2, ← eqq1]; exact heap_alloc_new w1 _
  have Ew2 := Lib.hid evw2
  have Eq1 := Lib.hid eqq1
  have Hw2 := Lib.hid hbw2
  have HKq1 := Lib.hid hkw2
  clear eqq1 evw2 hbw2 hkw2
  have HBw2 := Lib.hid (below_trans HBw1.out Hw2.out)
  obtain ⟨q2, eqq2⟩ : ∃ v, w2.heap.size = v := ⟨_, rfl⟩
  obtain ⟨w3, evw3⟩ : ∃ v, w2.alloc (.cells #[.int .u8 6, .int .u32 0, .int .u32 1, .int .u16 0, .int .u16 2] 31) = v := ⟨_, rfl⟩
  have hbw3 : Below w2.heap.size w2 w3 := by rw [← evw3]; exact (Below.refl _ _).alloc (Nat.le_refl _) _
  have hkw3 : w3.heap[q2]? = some (.cells #[.int .u8 6, .int .u32 0, .int .u32 1, .int .u16 0, .int .u16 2] 31 (0, 0)) := by rw [← evw3, ← eqq2]; exact heap_alloc_new w2 _
  have Ew3 := Lib.hid evw3
  have Eq2 := Lib.hid eqq2
  have Hw3 := Lib.hid hbw3
  have HKq2 := Lib.hid hkw3
  clear eqq2 evw3 hbw3 hkw3
  have HBw3 := Lib.hid (below_trans HBw2.out Hw3.out)
  go_upto_region 3 with (fail)
  rw [Ew2.out]
  try rw [Eq1.out]
  go_upto_region 4 with (fail)
  rw [Ew3.out]
  try rw [Eq2.out]
  obtain ⟨a0, a1, a2, a3, a4⟩ := cells5 HKq2.out
  have HIn := Lib.hid (show Calls Try.prog 15 #[.pointer none, .agg #[.int .u8 6, .int .u32 0, .int .u32 1, .int .u16 0, .int .u16 2]] w3 (FwTells (.tuple #[.agg #[.int .u8 6, .int .u32 0, .int .u32 1, .int .u16 0, .int .u16 2], .bool false]) w3) from inward_nil x0 w3)
  go_wp2_with fail
  refine HIn.out.mono ?_
  rintro e w4 ⟨rfl, hb4⟩
  have HBw4 := Lib.hid (below_trans HBw3.out hb4)
  have HKq2' := Lib.hid (blk_on HKq2.out hb4)
  clear hb4 a0 a1 a2 a3 a4 HIn
  obtain ⟨q3, eqq3⟩ : ∃ v, w4.heap.size = v := ⟨_, rfl⟩
  obtain ⟨w5, evw5⟩ : ∃ v, w4.alloc (.cells #[.int .u8 6, .int .u32 0, .int .u32 1, .int .u16 0, .int .u16 2] 31) = v := ⟨_, rfl⟩
  have hbw5 : Below w4.heap.size w4 w5 := by rw [← evw5]; exact (Below.refl _ _).alloc (Nat.le_refl _) _
  have hkw5 : w5.heap[q3]? = some (.cells #[.int .u8 6, .int .u32 0, .int .u32 1, .int .u16 0, .int .u16 2] 31 (0, 0)) := by rw [← evw5, ← eqq3]; exact heap_alloc_new w4 _
  have Ew5 := Lib.hid evw5
  have Eq3 := Lib.hid eqq3
  have Hw5 := Lib.hid hbw5
  have HKq3 := Lib.hid hkw5
  clear eqq3 evw5 hbw5 hkw5
  have HBw5 := Lib.hid (below_trans HBw4.out Hw5.out)
  go_upto_region 5 with (fail)
  rw [Ew5.out]
  try rw [Eq3.out]
  obtain ⟨a0, a1, a2, a3, a4⟩ := cells5 (blk_on HKq2'.out Hw5.out)
  have HOu := Lib.hid (show Calls Try.prog 17 #[.pointer none, .agg #[.int .u8 6, .int .u32 0, .int .u32 1, .int .u16 0, .int .u16 2], .int .u32 9] w5 (FwTells (.tuple #[.agg #[.int .u8 6, .int .u32 0, .int .u32 1, .int .u16 0, .int .u16 2], .bool false]) w5) from outward_nil x0 9 w5)
  go_wp2_with fail
  refine HOu.out.mono ?_
  rintro e w6 ⟨rfl, hb6⟩
  have HBw6 := Lib.hid (below_trans HBw5.out hb6)
  have HK2 := Lib.hid (blk_on HKq2'.out (below_trans Hw5.out hb6))
  have HK3 := Lib.hid (blk_on HKq3.out hb6)
  clear hb6 a0 a1 a2 a3 a4 HOu
  obtain ⟨q4, eqq4⟩ : ∃ v, w6.heap.size = v := ⟨_, rfl⟩
  obtain ⟨w7, evw7⟩ : ∃ v, w6.alloc (.cells #[.int .u8 6, .int .u32 0, .int .u32 1, .int .u16 0, .int .u16 2] 31) = v := ⟨_, rfl⟩
  have hbw7 : Below w6.heap.size w6 w7 := by rw [← evw7]; exact (Below.refl _ _).alloc (Nat.le_refl _) _
  have hkw7 : w7.heap[q4]? = some (.cells #[.int .u8 6, .int .u32 0, .int .u32 1, .int .u16 0, .int .u16 2] 31 (0, 0)) := by rw [← evw7, ← eqq4]; exact heap_alloc_new w6 _
  have Ew7 := Lib.hid evw7
  have Eq4 := Lib.hid eqq4
  have Hw7 := Lib.hid hbw7
  have HKq4 := Lib.hid hkw7
  clear eqq4 evw7 hbw7 hkw7
  have HBw7 := Lib.hid (below_trans HBw6.out Hw7.out)
  go_upto_region 6 with (fail)
  rw [Ew7.out]
  try rw [Eq4.out]
  obtain ⟨a0, a1, a2, a3, a4⟩ := cells5 (blk_on HK2.out Hw7.out)
  obtain ⟨b0, b1, b2, b3, b4⟩ := cells5 (blk_on HK3.out Hw7.out)
  obtain ⟨d0, d1, d2, d3, d4⟩ := cells5 HKq4.out
  have heq : ∀ W, (binOp .neq 31 (.agg #[.int .u8 6, .int .u32 0, .int .u32 1, .int .u16 0, .int .u16 2]) (.agg #[.int .u8 6, .int .u32 0, .int .u32 1, .int .u16 0, .int .u16 2])).run Try.prog W = .ok (.bool false) W := fun W => tu_neq x0 W
  go_wp2_with fail
  refine (all_nil w7).mono ?_
  rintro e w8 ⟨rfl, hb8⟩
  have HBw8 := Lib.hid (below_trans HBw7.out hb8)
  clear hb8 a0 a1 a2 a3 a4 b0 b1 b2 b3 b4 d0 d1 d2 d3 d4 heq
  go_wp2_with fail
  refine (config14_any w8).mono ?_
  rintro e w9 ⟨k, rfl, hch, hb9⟩
  have Hch := Lib.hid hch
  obtain ⟨s, es⟩ : ∃ s, w9.heap.size = s := ⟨_, rfl⟩
  obtain ⟨w10, ew10⟩ : ∃ v, w9.alloc (.cells #[.int .u32 k.ins, .int .u32 k.msk, k.v2, .int .u16 k.lo, .int .u16 k.hi, k.v5, k.v6, k.v7, k.v8, k.v9, k.va, k.vb, k.vc, k.vd, k.ve, k.vf, k.vg, k.vh, k.vi] 29) = v := ⟨_, rfl⟩
  have hb10 : Below w9.heap.size w9 w10 := by rw [← ew10]; exact (Below.refl _ _).alloc (Nat.le_refl _) _
  have hks : w10.heap[s]? = some (.cells #[.int .u32 k.ins, .int .u32 k.msk, k.v2, .int .u16 k.lo, .int .u16 k.hi, k.v5, k.v6, k.v7, k.v8, k.v9, k.va, k.vb, k.vc, k.vd, k.ve, k.vf, k.vg, k.vh, k.vi] 29 (0, 0)) := by rw [← ew10, ← es]; exact heap_alloc_new w9 _
  have HBw10 := Lib.hid (below_trans (below_trans HBw8.out hb9) hb10)
  have HSk := Lib.hid hks
  have Ew10 := Lib.hid ew10
  have Es := Lib.hid es
  clear hch es ew10 hb10 hks hb9
  try simp only []
  repeat (first | go_values | go_skip | ((fail_if_success (with_reducible refine wpList_new (.tmp 9) (.tmp 59) rfl ?_ ?_ ?_ ?_ ?_ ?_ ?_ ?_ ?_)); (first | go_step | go_upon | go_back)))
  refine wpList_new (.tmp 9) (.tmp 59) rfl rfl ?hww _ rfl rfl (by kernel_rfl) rfl Hch.out.one ?_
  case hww => kernel_rfl
  rw [Ew10.out]
  try rw [Es.out]
  go_wp2_with fail
  go_loopg [10, 11] 65 (fun gk o i wr => ∃ (j : Nat) (B : Option Addr) (d : Nat), Hid (gk + j = 65) ∧ j ≤ 65 ∧ i = .int .i64 (j : Int) ∧ o = .slice B j d ∧ Hid (SlV wr 40 4 (.slice B j d) j (flatW4 (manyF j))) ∧ Hid (∀ b, (Value.slice B j d).ownBlock = some b → w10.heap.size ≤ b) ∧ Hid (Below w10.heap.size w10 wr))
  case atStart => exact ⟨0, none, 0, rfl, Nat.zero_le _, rfl, rfl, Lib.hid (.inl ⟨rfl, rfl, rfl⟩), Lib.hid (fun b hb => by cases hb), Lib.hid (Below.refl _ _)⟩
  case round =>
    obtain ⟨j, B, d, hgk, hj, rfl, rfl, hs, hown, hB⟩ := hrel
    by_cases hjn : j < 65
    · have i0 : (j : Int) ≤ 64 := by omega
      have i1 : j ≤ 64 := by omega
      have g1 : decide ((j : Int) ≤ 64) = true := decide_eq_true i0
      have g2 : decide (j ≤ 64) = true := decide_eq_true i1
      have hw1 : wrap64 (2001 + (j : Int)) = 2001 + (j : Int) := IntWalk.wrap64_in _ (by omega)
      have hw2 : IntKind.u16.wrap (2001 + (j : Int)) = 2001 + (j : Int) := by rw [IntKind.wrap_u16]; omega
      obtain ⟨y, ey⟩ : ∃ y, wr.heap.size = y := ⟨_, rfl⟩
      obtain ⟨wl, ewl⟩ : ∃ v, wr.alloc (.cells #[.int .u8 6, .int .u16 (2001 + (j : Int)), .int .u32 167772161, .int .u16 80] 40) = v := ⟨_, rfl⟩
      have hba : But (fun _ => False) wr wl := by rw [← ewl]; exact (But.refl _ _).alloc _
      have hlit : RdW wl (some ⟨y, 0, none⟩) [fM j] := by rw [← ewl]; exact RdW.lit wr [fM j] y ey
      obtain ⟨B2, d2, w2', hr2, hs2, hbut, ho2⟩ := fw_app wl B j d (manyF j) (hs.out.but hba (fun _ _ h => h)) (some ⟨y, 0, none⟩) 1 1 [fM j] hlit rfl (fun e => by cases e) (by omega)
      rw [← manyF_succ] at hs2
      have Hr2 := Lib.hid hr2
      have HS2 := Lib.hid hs2
      have HO2 := Lib.hid (show ∀ b, (Value.slice B2 (j + 1) d2).ownBlock = some b → w10.heap.size ≤ b from fun b hb => by
        have h1 := hB.out.size
        have h2 := hba.size
        rcases ho2 with h | h
        · rw [h] at hb; exact hown.out b hb
        · rw [h] at hb; injection hb with hb; omega)
      have HB2 := Lib.hid (show Below w10.heap.size w10 w2' from (hB.out.trans (hba.below (fun _ h => h.elim) hB.out.size)).trans (hbut.below (fun g hg => hown.out g hg) (by have := hB.out.size; have := hba.size; omega)))
      have Hjn := Lib.hid hjn
      have Ewl := Lib.hid ewl
      have Ey := Lib.hid ey
      clear hba hlit hr2 hs2 hbut ho2
      go_wp2_with (at_builtin; refine wpList_appX rfl (.tmp 64) (.tmp 69) _ _ rfl rfl _ _ _ w2' rfl rfl Hr2.out ?_)
      go_roundg (gk - 1)
      case measure => have := hgk.out; have := Hjn.out; omega
      case rel => exact ⟨j + 1, B2, d2, by have := hgk.out; have := Hjn.out; show gk - 1 + (j + 1) = _; omega, by have := Hjn.out; omega, by go_num, rfl, HS2, HO2, HB2⟩
    · obtain rfl : j = 65 := by omega
      have g1 : decide ((65 : Int) ≤ 64) = false := rfl
      obtain ⟨hB0, hnd⟩ : (B = none → d = 0) ∧ 65 ≤ d := by
        rcases hs.out with ⟨e, en, _⟩ | ⟨g, o, c', e, C, hg, hC, hl, hnc, hr⟩
        · cases en
        · injection e with e1 e2 e3
          exact ⟨fun e => (by rw [e1] at e; cases e), by omega⟩
      obtain ⟨A3, c3, hcutA, hn3, -, hrd3⟩ := rw_to B 65 d 1 hB0 (by omega) hnd
      obtain ⟨A4, c4, hcutB, hn4, hrd4⟩ := rw_from B 65 d 1 hB0 (by omega) hnd
      have hcut1 : ∀ W : World, (Instr.slice 27 (.slice B 65 d) none (some (.int .i64 1)) none).run Try.prog W = .ok (.slice A3 1 c3) W := hcutA
      have hcut2 : ∀ W : World, (Instr.slice 27 (.slice B 65 d) (some (.int .i64 1)) none none).run Try.prog W = .ok (.slice A4 64 c4) W := hcutB
      have hrB : RdW wr B (manyF 65) := RdW.of hs.out (manyF_length 65)
      have HS := Lib.hid (show ∀ W, Below wr.heap.size wr W → W.heap[s]? = some (.cells #[.int .u32 k.ins, .int .u32 k.msk, k.v2, .int .u16 k.lo, .int .u16 k.hi, k.v5, k.v6, k.v7, k.v8, k.v9, k.va, k.vb, k.vc, k.vd, k.ve, k.vf, k.vg, k.vh, k.vi] 29 (0, 0)) ∧ RdW W B (manyF 65) ∧ RdW W A3 ((manyF 65).take 1) ∧ RdW W A4 ((manyF 65).drop 1) from fun W hW => ⟨blk_on HSk.out (below_trans hB.out hW), hrB.below hW, hrd3 W _ (hrB.below hW), hrd4 W _ (hrB.below hW) (manyF_length 65)⟩)
      have HBr := Lib.hid (below_trans HBw10.out hB.out)
      have Hl4 := Lib.hid (show ((manyF 65).drop 1).length = 64 by rw [List.length_drop, manyF_length])
      clear hcutA hcutB hn3 hrd3 hn4 hrd4 hrB hB0 hnd hs hown hB hgk hj
      go_upto_region 16 with (fail)
      refine wp_region_held_drew (S := fun W => W.heap[s]? = some (.cells #[.int .u32 k.ins, .int .u32 k.msk, k.v2, .int .u16 k.lo, .int .u16 k.hi, k.v5, k.v6, k.v7, k.v8, k.v9, k.va, k.vb, k.vc, k.vd, k.ve, k.vf, k.vg, k.vh, k.vi] 29 (0, 0))) (by kernel_rfl) (HS.out _ (Below.refl _ _).drew).1 (fun hHeld => ?_)
      obtain ⟨wd, ewd⟩ : ∃ wd, wr.drew = wd := ⟨_, rfl⟩
      have HBd := Lib.hid (show Below wr.heap.size wr wd by rw [← ewd]; exact (Below.refl _ _).drew)
      rw [ewd] at hHeld ⊢
      clear ewd
      have HNew := Lib.hid (new_ok k A4 64 c4 _ wd (HS.out _ HBd.out).2.2.2 Hl4.out (by omega) (manyF_may Hch.out))
      refine wpAnyH_take (i := 0) (oi := { dst := some 75, op := Go.Op.load 29 (Go.Operand.tmp 9), type := 29, pos := "outright.go:87", after := #[], guard := none }) (v := .agg #[.int .u32 k.ins, .int .u32 k.msk, k.v2, .int .u16 k.lo, .int .u16 k.hi, k.v5, k.v6, k.v7, k.v8, k.v9, k.va, k.vb, k.vc, k.vd, k.ve, k.vf, k.vg, k.vh, k.vi]) rfl (by kernel_rfl) (by kernel_rfl) (by kernel_rfl) (fun _ _ _ h => h) (Or.inl ⟨by rfl, fun w' hSw => exec_row 29 (.tmp 9) rfl s _ _ _ _ (hSw) rfl Try.underlying29 rfl (by kernel_rfl)⟩) (by assumption) ?_
      (try simp only [Act.put, List.setIfInBounds_toArray, List.set_cons_zero, List.set_cons_succ])
      refine wpAnyH_take (i := 1) (oi := { dst := some 76, op := Go.Op.move (Go.Operand.tmp 10), type := 27, pos := "outright.go:87", after := #[], guard := none }) (v := ?_) rfl (by kernel_rfl) (by kernel_rfl) (by kernel_rfl) (fun _ _ _ h => h) (Or.inl ⟨by rfl, ?_⟩) (by assumption) ?_
      rotate_left 1
      · intro w' hSw; (go_simp <;> (with_reducible rfl))
      (try simp only [Act.put, List.setIfInBounds_toArray, List.set_cons_zero, List.set_cons_succ])
      refine wpAnyH_take (i := 2) (oi := { dst := some 77, op := Go.Op.slice 27 (Go.Operand.tmp 76) (some (Go.Operand.const (Go.Value.int Go.IntKind.i64 1))) none none, type := 27, pos := "outright.go:87", after := #[{ on := 1, ground := Go.Ground.data }], guard := none }) (v := ?_) rfl (by kernel_rfl) (by kernel_rfl) (by kernel_rfl) (fun _ _ _ h => h) (Or.inl ⟨by rfl, ?_⟩) (by assumption) ?_
      rotate_left 1
      · intro w' hSw; (go_simp <;> (with_reducible rfl))
      (try simp only [Act.put, List.setIfInBounds_toArray, List.set_cons_zero, List.set_cons_succ])
      refine wpAnyH_ready (rs := [3]) (by kernel_rfl) (by simp) ?_
      refine AllReadyH.cons (o := { dst := some 78, op := Go.Op.call { callee := Go.Callee.value (Go.Operand.func 8), args := #[Go.Operand.tmp 75, Go.Operand.tmp 77], argTypes := #[29, 27] }, type := 35, pos := "outright.go:87", after := #[{ on := 0, ground := Go.Ground.data }, { on := 2, ground := Go.Ground.data }], guard := none }) rfl (fun K hK => ?_) AllReadyH.nil
      go_simp
      (refine HNew.out.mono ?_; rintro e w11 ⟨g, S, rfl, hmem, hS, hb⟩; have HBw11 := Lib.hid (below_trans HBd.out hb); have HMem := Lib.hid hmem; clear hb hmem hS)
      refine hK.out _ _ ?_ (fun hHeld => ?_)
      · exact (HS.out _ HBw11.out).1
      clear hK K
      (try simp only [Act.put, List.setIfInBounds_toArray, List.set_cons_zero, List.set_cons_succ])
      refine wpAnyH_take (i := 4) (oi := { dst := some 74, op := Go.Op.move (Go.Operand.tmp 78), type := 35, pos := "outright.go:87", after := #[{ on := 3, ground := Go.Ground.data }], guard := none }) (v := ?_) rfl (by kernel_rfl) (by kernel_rfl) (by kernel_rfl) (fun _ _ _ h => h) (Or.inl ⟨by rfl, ?_⟩) (by assumption) ?_
      rotate_left 1
      · intro w' hSw; (go_simp <;> (with_reducible rfl))
      (try simp only [Act.put, List.setIfInBounds_toArray, List.set_cons_zero, List.set_cons_succ])
      refine wpAnyH_take (i := 5) (oi := { dst := some 79, op := Go.Op.extract (Go.Operand.tmp 74) 0, type := 33, pos := "outright.go:87", after := #[{ on := 4, ground := Go.Ground.data }], guard := none }) (v := ?_) rfl (by kernel_rfl) (by kernel_rfl) (by kernel_rfl) (fun _ _ _ h => h) (Or.inl ⟨by rfl, ?_⟩) (by assumption) ?_
      rotate_left 1
      · intro w' hSw; (go_simp <;> (with_reducible rfl))
      (try simp only [Act.put, List.setIfInBounds_toArray, List.set_cons_zero, List.set_cons_succ])
      refine wpAnyH_take (i := 6) (oi := { dst := some 80, op := Go.Op.extract (Go.Operand.tmp 74) 1, type := 34, pos := "outright.go:87", after := #[{ on := 4, ground := Go.Ground.data }, { on := 7, ground := Go.Ground.gcOnly Go.Departure.lateStores }], guard := none }) (v := ?_) rfl (by kernel_rfl) (by kernel_rfl) (by kernel_rfl) (fun _ _ _ h => h) (Or.inl ⟨by rfl, ?_⟩) (by assumption) ?_
      rotate_left 1
      · intro w' hSw; (go_simp <;> (with_reducible rfl))
      (try simp only [Act.put, List.setIfInBounds_toArray, List.set_cons_zero, List.set_cons_succ])
      refine wpAnyH_take (i := 7) (oi := { dst := some 14, op := Go.Op.assign (Go.Operand.tmp 79), type := 33, pos := "outright.go:87", after := #[{ on := 5, ground := Go.Ground.data }, { on := 3, ground := Go.Ground.chain }, { on := 0, ground := Go.Ground.phase }, { on := 1, ground := Go.Ground.phase }, { on := 2, ground := Go.Ground.phase }, { on := 3, ground := Go.Ground.phase }, { on := 4, ground := Go.Ground.phase }, { on := 5, ground := Go.Ground.phase }, { on := 6, ground := Go.Ground.textOnly Go.Departure.lateStores }], guard := none }) (v := ?_) rfl (by kernel_rfl) (by kernel_rfl) (by kernel_rfl) (fun _ _ _ h => h) (Or.inl ⟨by rfl, ?_⟩) (by assumption) ?_
      rotate_left 1
      · intro w' hSw; (go_simp <;> (with_reducible rfl))
      (try simp only [Act.put, List.setIfInBounds_toArray, List.set_cons_zero, List.set_cons_succ])
      refine wpAnyH_take (i := 8) (oi := { dst := some 15, op := Go.Op.assign (Go.Operand.tmp 80), type := 34, pos := "outright.go:87", after := #[{ on := 6, ground := Go.Ground.data }, { on := 7, ground := Go.Ground.chain }, { on := 0, ground := Go.Ground.phase }, { on := 1, ground := Go.Ground.phase }, { on := 2, ground := Go.Ground.phase }, { on := 3, ground := Go.Ground.phase }, { on := 4, ground := Go.Ground.phase }, { on := 5, ground := Go.Ground.phase }, { on := 6, ground := Go.Ground.phase }, { on := 7, ground := Go.Ground.phase }], guard := none }) (v := ?_) rfl (by kernel_rfl) (by kernel_rfl) (by kernel_rfl) (fun _ _ _ h => h) (Or.inl ⟨by rfl, ?_⟩) (by assumption) ?_
      rotate_left 1
      · intro w' hSw; (go_simp <;> (with_reducible rfl))
      (try simp only [Act.put, List.setIfInBounds_toArray, List.set_cons_zero, List.set_cons_succ])
      refine wpAnyH_done (by kernel_rfl) ?_ _
      clear hHeld HNew
      have HOu := Lib.hid (show Calls Try.prog 17 #[.pointer (some ⟨g, 0, none⟩), .agg #[.int .u8 6, .int .u32 167772161, .int .u32 0, .int .u16 80, .int .u16 0], .int .u32 7] w11 (FwTells (.tuple #[.agg #[.int .u8 6, .int .u32 7, .int .u32 0, .int .u16 2002, .int .u16 0], .bool true]) w11) from outward_at S g _ ⟨6, 167772161, 0, 80, 0⟩ ⟨6, 7, 0, 2002, 0⟩ 7 true w11 HMem.out (by rw [Hl4.out]; omega) manyF_out)
      go_wp2_with fail
      refine HOu.out.mono ?_
      rintro e w12 ⟨rfl, hb⟩
      have HBw12 := Lib.hid (below_trans HBw11.out hb)
      clear hb
      obtain ⟨q5, eqq5⟩ : ∃ v, w12.heap.size = v := ⟨_, rfl⟩
      obtain ⟨w13, evw13⟩ : ∃ v, w12.alloc (.cells #[.int .u8 6, .int .u32 7, .int .u32 0, .int .u16 2002, .int .u16 0] 31) = v := ⟨_, rfl⟩
      have hbw13 : Below w12.heap.size w12 w13 := by rw [← evw13]; exact (Below.refl _ _).alloc (Nat.le_refl _) _
      have hkw13 : w13.heap[q5]? = some (.cells #[.int .u8 6, .int .u32 7, .int .u32 0, .int .u16 2002, .int .u16 0] 31 (0, 0)) := by rw [← evw13, ← eqq5]; exact heap_alloc_new w12 _
      have Ew13 := Lib.hid evw13
      have Eq5 := Lib.hid eqq5
      have Hw13 := Lib.hid hbw13
      have HKq5 := Lib.hid hkw13
      clear eqq5 evw13 hbw13 hkw13
      have HBw13 := Lib.hid (below_trans HBw12.out Hw13.out)
      go_upto_region 18 with (fail)
      rw [Ew13.out]
      try rw [Eq5.out]
      dsimp only [List.append] at *
      try simp only []
      repeat (first | go_values | go_skip | ((fail_if_success (with_reducible refine wpList_row 29 (.tmp 9) rfl ?_ ?_ ?_ ?_ ?_ ?_ ?_ ?_ ?_ ?_ ?_ ?_)); (first | go_step | go_upon | go_back)))
      refine wpList_row 29 (.tmp 9) rfl ?hww s _ _ _ _ (HS.out _ HBw13.out).1 rfl Try.underlying29 rfl (by kernel_rfl) ?_
      case hww => kernel_rfl
      (try simp only [Act.put, List.setIfInBounds_toArray, List.set_cons_zero, List.set_cons_succ])
      try simp only []
      repeat (first | go_values | go_skip | go_guarded | go_step | go_upon | go_back)
      refine (may_any k B 65 d (manyF 65) false w13 (HS.out _ HBw13.out).2.1 (manyF_length 65) (by omega) ⟨fun h => (by cases h), fun h => absurd h manyF_no⟩).mono ?_
      rintro e w14 ⟨rfl, hb⟩
      have HBw14 := Lib.hid (below_trans HBw13.out hb)
      obtain ⟨a0, a1, a2, a3, a4⟩ := cells5 (blk_on HKq5.out hb)
      clear hb
      try simp only []
      repeat (first | go_values | go_skip | ((fail_if_success (with_reducible refine wpList_row 29 (.tmp 9) rfl ?_ ?_ ?_ ?_ ?_ ?_ ?_ ?_ ?_ ?_ ?_ ?_)); (first | go_step | go_upon | go_back)))
      refine wpList_row 29 (.tmp 9) rfl ?hww s _ _ _ _ (HS.out _ HBw14.out).1 rfl Try.underlying29 rfl (by kernel_rfl) ?_
      case hww => kernel_rfl
      (try simp only [Act.put, List.setIfInBounds_toArray, List.set_cons_zero, List.set_cons_succ])
      try simp only []
      repeat (first | go_values | go_skip | go_guarded | go_step | go_upon | go_back)
      refine (may_any k A3 1 c3 _ true w14 (HS.out _ HBw14.out).2.2.1 (by rw [List.length_take, manyF_length]; rfl) (by omega) ⟨fun _ => manyF_one Hch.out, fun _ => rfl⟩).mono ?_
      rintro e w15 ⟨rfl, hb⟩
      have HBw15 := Lib.hid (below_trans HBw14.out hb)
      clear hb
      clear a0 a1 a2 a3 a4
      try simp only []
      repeat (first | go_values | go_skip | go_guarded | go_step | go_upon | go_back)
      refine (edge_any k s 999 true _ (HS.out _ HBw15.out).1 (edge_is Hch.out).1).mono ?_
      rintro e w16 ⟨rfl, hb⟩
      have HBw16 := Lib.hid (below_trans HBw15.out hb)
      clear hb
      try simp only []
      repeat (first | go_values | go_skip | go_guarded | go_step | go_upon | go_back)
      refine (edge_any k s 1000 false _ (HS.out _ HBw16.out).1 (edge_is Hch.out).2.1).mono ?_
      rintro e w17 ⟨rfl, hb⟩
      have HBw17 := Lib.hid (below_trans HBw16.out hb)
      clear hb
      try simp only []
      repeat (first | go_values | go_skip | go_guarded | go_step | go_upon | go_back)
      refine (edge_any k s 2000 false _ (HS.out _ HBw17.out).1 (edge_is Hch.out).2.2.1).mono ?_
      rintro e w18 ⟨rfl, hb⟩
      have HBw18 := Lib.hid (below_trans HBw17.out hb)
      clear hb
      try simp only []
      repeat (first | go_values | go_skip | go_guarded | go_step | go_upon | go_back)
      refine (edge_any k s 2001 true _ (HS.out _ HBw18.out).1 (edge_is Hch.out).2.2.2.1).mono ?_
      rintro e w19 ⟨rfl, hb⟩
      have HBw19 := Lib.hid (below_trans HBw18.out hb)
      clear hb
      try simp only []
      repeat (first | go_values | go_skip | go_guarded | go_step | go_upon | go_back)
      refine (edge_any k s 0 false _ (HS.out _ HBw19.out).1 (edge_is Hch.out).2.2.2.2.1).mono ?_
      rintro e w20 ⟨rfl, hb⟩
      have HBw20 := Lib.hid (below_trans HBw19.out hb)
      clear hb
      try simp only []
      repeat (first | go_values | go_skip | ((fail_if_success (with_reducible refine wpList_row 29 (.tmp 9) rfl ?_ ?_ ?_ ?_ ?_ ?_ ?_ ?_ ?_ ?_ ?_ ?_)); (first | go_step | go_upon | go_back)))
      refine wpList_row 29 (.tmp 9) rfl ?hww s _ _ _ _ (HS.out _ HBw20.out).1 rfl Try.underlying29 rfl (by kernel_rfl) ?_
      case hww => kernel_rfl
      (try simp only [Act.put, List.setIfInBounds_toArray, List.set_cons_zero, List.set_cons_succ])
      have d0 : w20.cell? ⟨s, 0, none⟩ = some (.int .u32 k.ins) := blk_cell (HS.out _ HBw20.out).1 0
      try simp only []
      repeat (first | go_values | go_skip | go_guarded | go_step | go_upon | go_back)
      refine (may_any k (some ⟨w20.heap.size, 0, none⟩) 1 1 [⟨6, 1, k.ins, 0⟩] false (w20.alloc (.cells #[.int .u8 6, .int .u16 1, .int .u32 k.ins, .int .u16 0] 40)) (RdW.lit w20 [⟨6, 1, k.ins, 0⟩] _ rfl) rfl (by omega) (one_may (edge_is Hch.out).2.2.2.2.2)).mono ?_
      rintro e w21 ⟨rfl, hb⟩
      have HBw21 := Lib.hid (below_trans HBw20.out (below_trans ((Below.refl w20.heap.size w20).alloc (Nat.le_refl _) _) hb))
      clear hb d0
      try simp only []
      repeat (first | go_values | go_skip | ((fail_if_success (with_reducible refine wpList_row 29 (.tmp 9) rfl ?_ ?_ ?_ ?_ ?_ ?_ ?_ ?_ ?_ ?_ ?_ ?_)); (first | go_step | go_upon | go_back)))
      refine wpList_row 29 (.tmp 9) rfl ?hww s _ _ _ _ (HS.out _ HBw21.out).1 rfl Try.underlying29 rfl (by kernel_rfl) ?_
      case hww => kernel_rfl
      (try simp only [Act.put, List.setIfInBounds_toArray, List.set_cons_zero, List.set_cons_succ])
      try simp only []
      repeat (first | go_values | go_skip | go_guarded | go_step | go_upon | go_back)
      refine (may_any k none 0 0 [] true w21 (RdW.nil _ _) rfl (by omega) ⟨fun _ => none_may k, fun _ => rfl⟩).mono ?_
      rintro e w22 ⟨rfl, hb⟩
      have HBw22 := Lib.hid (below_trans HBw21.out hb)
      clear hb
      try simp only []
      repeat (first | go_values | go_skip | go_guarded | go_step | go_upon | go_back)
      refine (inside_any ⟨0, 0, 0, 0, .int .u32 0, .int .u64 0, .int .i64 0, .slice none 0 0, .int .i64 0, .int .u16 0, .int .i64 0, .bool false, .int .u64 0, .slice none 0 0, .slice none 0 0, .int .u64 0, .int .i64 0, .int .u64 0, .int .u64 0⟩ 5 true w22 (by decide)).mono ?_
      rintro e w23 ⟨rfl, hb⟩
      have HBw23 := Lib.hid (below_trans HBw22.out hb)
      clear hb
      try simp only []
      repeat (first | go_values | go_skip | go_guarded | go_step | go_upon | go_back)
      refine (wakes14_any w23).mono ?_
      rintro e w24 ⟨rfl, hb⟩
      have HBw24 := Lib.hid (below_trans HBw23.out hb)
      clear hb
      try simp only []
      repeat (first | go_values | go_skip | go_guarded | go_step | go_upon | go_back)
      go_ret
      exact ⟨rfl, below_trans HBr.out HBw24.out⟩
theorem own : ownKnob Try.prog.godebug = none := by kernel_rfl
theorem laidOut : laidOutB Try.prog = true := by kernel_rfl

set_option maxRecDepth 100000 in
theorem lifted (os : Os) (started : os.Started) (H : Type) (enc : TypeId × Value → H) :
    ReturnsInHanded {} Try.checked os 6 .any (Rows.forwardKnownSpec.pre6 enc Try.prog Try.f6 Rows.forwardKnownRow.domain false) (Rows.forwardKnownSpec.post enc Try.prog Try.f6 false true false false) := by
  refine returnsInHanded_of_change (C := Try.checked) own started (by kernel_rfl) Try.func6
    (ChangeSpec.witness6 (enc := enc) (C := Try.checked) false ⟨#[], #[], []⟩ 8 (by kernel_rfl) (by kernel_rfl) (by kernel_rfl) (by kernel_rfl)) ?_
  intro W base args ds gs before hval0 hW hcnd _
  have hval : ∀ (j : Nat) t v, Try.f6.params[j]? = some t → args[j]? = some v → Value.okWide Try.prog W .any base t v := hval0
  have hW' := hW
  obtain ⟨p, q, hA0, hV, rfl, hfz, hnd⟩ := hW
  have hA : DataW.TrodAll enc Try.prog W 0 (fun _ => true) true Try.f6.params.toList args.toList ds p := hA0
  rw [Try.params6] at hA hval
  obtain ⟨rfl, rfl, rfl⟩ := trodAll_none hA
  obtain ⟨rfl, rfl⟩ := trodVars_none hV
  clear hA0 hval0
  refine (walk W ).mono fun e W' ⟨he, bel⟩ => ?_
  subst he
  exact ⟨_, rfl, _, _, _, [], _, [], hW', trodAll_mk1 (shut_bool Try.underlying4 _), trodAll_mk0, rfl, bel.frame _, fun h => by cases h⟩

theorem over : Rows.forwardKnownRow.holds Try.pinned (OpenSpec.ofChange Rows.forwardKnownSpec) :=
  OpenClaim.holds_of_wide 6 Try.f6 rfl rfl rfl rfl rfl rfl rfl ⟨rfl, rfl, rfl, rfl, rfl⟩ rfl rfl rfl rfl rfl (by kernel_rfl) Try.func6 (by kernel_rfl)
    (of_decide_eq_true (by kernel_rfl)) (by unfold Func.isWrapper; first | (rw [if_pos (by decide +kernel)]; kernel_rfl) | (rw [if_neg (by decide +kernel)]; exact ⟨rfl, rfl⟩))
    (fun os started H enc _ => lifted os started H enc)

/-- The statement. -/
theorem proved : Rows.ForwardKnownSaid := over
#print axioms proved
end Go.Proofs.Ytknmpfdmjfbpdaa.forwardKnown
