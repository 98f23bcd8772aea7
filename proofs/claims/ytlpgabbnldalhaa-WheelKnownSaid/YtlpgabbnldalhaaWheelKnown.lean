/-
  WheelKnown holds: no wheel, one that New did not make, the limits, the chapter's rows.
-/
import Derived.Test.YtlpgabbnldalhaaWhlNone
import Derived.Test.YtlpgabbnldalhaaWhWakes
import Derived.Deep.CutRange
import Derived.RegionTactic
namespace Go.Proofs.Ytlpgabbnldalhaa.wheelKnown
set_option maxRecDepth 10000
open Go.ChangeShapes Go.WideShapes Go.ChangeAt Go.RowKit
set_option linter.unusedVariables false
set_option linter.unusedSimpArgs false
set_option maxHeartbeats 2000000 in
theorem walk (w : World) : Calls Try.prog 7 #[] w fun e w' => e = .returned (.bool true) ∧ Below w.heap.size w w' := by
  obtain ⟨L1, e1⟩ : ∃ s, setA 1 1099511627776 [] = s := ⟨_, rfl⟩
  obtain ⟨L2, e2⟩ : ∃ s, setA 2 64 L1 = s := ⟨_, rfl⟩
  obtain ⟨L3, e3⟩ : ∃ s, setA 3 128 L2 = s := ⟨_, rfl⟩
  obtain ⟨L4, e4⟩ : ∃ s, setA 4 0 L3 = s := ⟨_, rfl⟩
  obtain ⟨L5, e5⟩ : ∃ s, tickA 0 0 L4 = s := ⟨_, rfl⟩
  obtain ⟨L6, e6⟩ : ∃ s, tickA 0 64 L5 = s := ⟨_, rfl⟩
  obtain ⟨L7, e7⟩ : ∃ s, setA 3 64 L6 = s := ⟨_, rfl⟩
  obtain ⟨L8, e8⟩ : ∃ s, tickA 64 64 L7 = s := ⟨_, rfl⟩
  obtain ⟨L9, e9⟩ : ∃ s, tickA 64 1099511627776 L8 = s := ⟨_, rfl⟩
  obtain ⟨L10, e10⟩ : ∃ s, setA 1 0 L9 = s := ⟨_, rfl⟩
  obtain ⟨L11, e11⟩ : ∃ s, tickA 1099511627776 1099511627776 L10 = s := ⟨_, rfl⟩
  have V : (L1.length ≤ 1000000 ∧ L2.length ≤ 1000000 ∧ L3.length ≤ 1000000 ∧ L4.length ≤ 1000000 ∧ L5.length ≤ 1000000 ∧ L6.length ≤ 1000000 ∧ L7.length ≤ 1000000 ∧ L8.length ≤ 1000000 ∧ L9.length ≤ 1000000 ∧ L10.length ≤ 1000000) ∧ L9.length = 0 ∧
      (decide (tickE 0 0 = 0) && decide (tickL 0 0 L4 = [4])) = true ∧ (decide (tickE 0 64 = 0) && decide (tickL 0 64 L5 = [2])) = true ∧ (decide (tickE 64 64 = 0) && decide (tickL 64 64 L7 = [3])) = true ∧ (decide (tickE 64 1099511627776 = 0) && decide (tickL 64 1099511627776 L8 = [1])) = true ∧ (decide (tickE 1099511627776 1099511627776 = 0) && decide (tickL 1099511627776 1099511627776 L10 = [1])) = true ∧ tickL 0 1099511627777 L4 = [] ∧ tickA 0 1099511627777 L4 = L4 ∧ setA 1 1099511627777 [] = [] := by
    subst e1; subst e2; subst e3; subst e4; subst e5; subst e6; subst e7; subst e8; subst e9; subst e10
    decide +kernel
  obtain ⟨⟨n1, n2, n3, n4, n5, n6, n7, n8, n9, n10⟩, v0, v1, v2, v3, v4, v5, v6, v7, v8⟩ := V
  have F := face
  have T0 := Lib.hid (fun w g B h hB => set_own F B g 0 1 1099511627777 1 [] [] w h hB (by simp) (by decide) (by decide) (by decide) v8)
  have T1 := Lib.hid (fun w g B h hB => set_own F B g 0 1 1099511627776 0 [] L1 w h hB (by simp) (by decide) (by decide) (by decide) e1)
  have T2 := Lib.hid (fun w g B h hB => set_own F B g 0 2 64 0 L1 L2 w h hB n1 (by decide) (by decide) (by decide) e2)
  have T3 := Lib.hid (fun w g B h hB => set_own F B g 0 3 128 0 L2 L3 w h hB n2 (by decide) (by decide) (by decide) e3)
  have T4 := Lib.hid (fun w g B h hB => set_own F B g 0 4 0 0 L3 L4 w h hB n3 (by decide) (by decide) (by decide) e4)
  have T5 := Lib.hid (fun w g B h hB => tick_own F B g 0 1099511627777 0 1 L4 L4 [] w h hB n4 (by decide) (by decide) (by decide) v7 v6)
  have T6 := Lib.hid (fun w g B z h hB hz => told_lit F B g z 0 0 0 L4 L5 [4] true w hz h hB n4 (by decide) (by decide) e5 (by simp [maxLen]) v1)
  have T7 := Lib.hid (fun w g B z h hB hz => told_lit F B g z 0 64 64 L5 L6 [2] true w hz h hB n5 (by decide) (by decide) e6 (by simp [maxLen]) v2)
  have T8 := Lib.hid (fun w g B h hB => set_own F B g 64 3 64 0 L6 L7 w h hB n6 (by decide) (by decide) (by decide) e7)
  have T9 := Lib.hid (fun w g B z h hB hz => told_lit F B g z 64 64 64 L7 L8 [3] true w hz h hB n7 (by decide) (by decide) e8 (by simp [maxLen]) v3)
  have T10 := Lib.hid (fun w g B z h hB hz => told_lit F B g z 64 1099511627776 1099511627776 L8 L9 [1] true w hz h hB n8 (by decide) (by decide) e9 (by simp [maxLen]) v4)
  have T11 := Lib.hid (fun w g B h hB => len_own F B g 1099511627776 L9 0 w h hB n9 v0)
  have T12 := Lib.hid (fun w g B h hB => set_own F B g 1099511627776 1 0 0 L9 L10 w h hB n9 (by decide) (by decide) (by decide) e10)
  have T13 := Lib.hid (fun w g B z h hB hz => told_lit F B g z 1099511627776 1099511627776 1099511627776 L10 L11 [1] true w hz h hB n10 (by decide) (by decide) e11 (by simp [maxLen]) v5)
  clear e1 e2 e3 e4 e5 e6 e7 e8 e9 e10 e11 n1 n2 n3 n4 n5 n6 n7 n8 n9 n10 v0 v1 v2 v3 v4 v5 v6 v7 v8
  have HF := Lib.hid F
  clear F
  have hz := fun W => zero_wheel W
  obtain ⟨Z, eZ⟩ : ∃ Z, zeroW = Z := ⟨_, rfl⟩
  rw [eZ] at hz
  have hZ0 : Z[0]? = some (.pointer none) := by rw [← eZ]; rfl
  obtain ⟨z, ez⟩ : ∃ z, w.heap.size = z := ⟨_, rfl⟩
  obtain ⟨w0, ew0⟩ : ∃ w0, w.alloc (.cells Z 60) = w0 := ⟨_, rfl⟩
  have Hz0 := Lib.hid (show ZeroW w0 z from by
    have hk : w0.heap[z]? = some (.cells Z 60 (0, 0)) := by rw [← ew0, ← ez]; exact heap_alloc_new w _
    exact (blk_cell hk 0).trans hZ0)
  have HB0 := Lib.hid (show Below w.heap.size w w0 by rw [← ew0]; exact (Below.refl _ _).alloc (Nat.le_refl _) _)
  have Ew0 := Lib.hid ew0
  have Ez := Lib.hid ez
  clear eZ hZ0 ew0 ez
  go_enter Try.func7, Try.ntmps7
  go_upto_region 3 with (fail)
  rw [Ew0.out, Ez.out]
  clear hz
  go_wp2_with fail
  refine (ntick 0 w0).mono ?_
  rintro e w1 ⟨rfl, rfl⟩
  go_wp2_with fail
  refine (zat z 1 w0 Hz0.out).mono ?_
  rintro e w1 ⟨rfl, rfl⟩
  go_wp2_with fail
  refine (znext z w0 Hz0.out).mono ?_
  rintro e w1 ⟨rfl, rfl⟩
  go_wp2_with fail
  refine (nset 1 1 w0).mono ?_
  rintro e w1 ⟨rfl, rfl⟩
  go_wp2_with fail
  refine (zstop z 1 w0 Hz0.out).mono ?_
  rintro e w1 ⟨rfl, rfl⟩
  go_wp2_with fail
  refine (nnow w0).mono ?_
  rintro e w1 ⟨rfl, rfl⟩
  go_wp2_with fail
  refine (znow z w0 Hz0.out).mono ?_
  rintro e w1 ⟨rfl, rfl⟩
  go_wp2_with fail
  refine (nlen w0).mono ?_
  rintro e w1 ⟨rfl, rfl⟩
  go_wp2_with fail
  refine (zlen z w0 Hz0.out).mono ?_
  rintro e w1 ⟨rfl, rfl⟩
  go_wp2_with fail
  refine (zcopy z w0 Hz0.out).mono ?_
  rintro e w1 ⟨rfl, rfl⟩
  go_wp2_with fail
  refine (new_ownW HF.out w0).mono ?_
  rintro e w1 ⟨g, rfl, hp, hb⟩
  have HP := Lib.hid hp
  have HB := Lib.hid hb
  have HS := Lib.hid hb.size
  clear hp hb
  go_wp2_with fail
  refine (T0.out _ _ _ HP.out HS.out).mono ?_
  rintro e w2 ⟨rfl, hp, hb⟩
  have HP2 := Lib.hid hp
  have HB2 := Lib.hid (HB.out.trans hb)
  have HS2 := Lib.hid (Nat.le_trans HS.out hb.size)
  clear hp hb HP HB HS
  have HP := HP2
  have HB := HB2
  have HS := HS2
  clear HP2 HB2 HS2
  go_wp2_with fail
  refine (T1.out _ _ _ HP.out HS.out).mono ?_
  rintro e w3 ⟨rfl, hp, hb⟩
  have HP2 := Lib.hid hp
  have HB2 := Lib.hid (HB.out.trans hb)
  have HS2 := Lib.hid (Nat.le_trans HS.out hb.size)
  clear hp hb HP HB HS
  have HP := HP2
  have HB := HB2
  have HS := HS2
  clear HP2 HB2 HS2
  go_wp2_with fail
  refine (T2.out _ _ _ HP.out HS.out).mono ?_
  rintro e w4 ⟨rfl, hp, hb⟩
  have HP2 := Lib.hid hp
  have HB2 := Lib.hid (HB.out.trans hb)
  have HS2 := Lib.hid (Nat.le_trans HS.out hb.size)
  clear hp hb HP HB HS
  have HP := HP2
  have HB := HB2
  have HS := HS2
  clear HP2 HB2 HS2
  go_wp2_with fail
  refine (T3.out _ _ _ HP.out HS.out).mono ?_
  rintro e w5 ⟨rfl, hp, hb⟩
  have HP2 := Lib.hid hp
  have HB2 := Lib.hid (HB.out.trans hb)
  have HS2 := Lib.hid (Nat.le_trans HS.out hb.size)
  clear hp hb HP HB HS
  have HP := HP2
  have HB := HB2
  have HS := HS2
  clear HP2 HB2 HS2
  go_wp2_with fail
  refine (T4.out _ _ _ HP.out HS.out).mono ?_
  rintro e w6 ⟨rfl, hp, hb⟩
  have HP2 := Lib.hid hp
  have HB2 := Lib.hid (HB.out.trans hb)
  have HS2 := Lib.hid (Nat.le_trans HS.out hb.size)
  clear hp hb HP HB HS
  have HP := HP2
  have HB := HB2
  have HS := HS2
  clear HP2 HB2 HS2
  go_wp2_with fail
  refine (T5.out _ _ _ HP.out HS.out).mono ?_
  rintro e w7 ⟨v, rfl, hl, hp, hb, -⟩
  clear hl
  have HP2 := Lib.hid hp
  have HB2 := Lib.hid (HB.out.trans hb)
  have HS2 := Lib.hid (Nat.le_trans HS.out hb.size)
  clear hp hb HP HB HS
  have HP := HP2
  have HB := HB2
  have HS := HS2
  clear HP2 HB2 HS2
  go_wp2_with fail
  obtain ⟨z, hz⟩ : ∃ z, w7.heap.size = z := ⟨_, rfl⟩
  have hsub := T6.out _ _ _ z HP.out HS.out hz
  simp only [hz]
  refine Calls.mono hsub ?_
  clear hsub
  rintro e w8 ⟨rfl, hp, hb⟩
  clear hz
  have HP2 := Lib.hid hp
  have HB2 := Lib.hid (HB.out.trans hb)
  have HS2 := Lib.hid (Nat.le_trans HS.out (show w7.heap.size ≤ w8.heap.size from hb.size))
  clear hp hb HP HB HS
  have HP := HP2
  have HB := HB2
  have HS := HS2
  clear HP2 HB2 HS2
  go_wp2_with fail
  obtain ⟨z, hz⟩ : ∃ z, w8.heap.size = z := ⟨_, rfl⟩
  have hsub := T7.out _ _ _ z HP.out HS.out hz
  simp only [hz]
  refine Calls.mono hsub ?_
  clear hsub
  rintro e w9 ⟨rfl, hp, hb⟩
  clear hz
  have HP2 := Lib.hid hp
  have HB2 := Lib.hid (HB.out.trans hb)
  have HS2 := Lib.hid (Nat.le_trans HS.out (show w8.heap.size ≤ w9.heap.size from hb.size))
  clear hp hb HP HB HS
  have HP := HP2
  have HB := HB2
  have HS := HS2
  clear HP2 HB2 HS2
  go_wp2_with fail
  refine (T8.out _ _ _ HP.out HS.out).mono ?_
  rintro e w10 ⟨rfl, hp, hb⟩
  have HP2 := Lib.hid hp
  have HB2 := Lib.hid (HB.out.trans hb)
  have HS2 := Lib.hid (Nat.le_trans HS.out hb.size)
  clear hp hb HP HB HS
  have HP := HP2
  have HB := HB2
  have HS := HS2
  clear HP2 HB2 HS2
  go_wp2_with fail
  obtain ⟨z, hz⟩ : ∃ z, w10.heap.size = z := ⟨_, rfl⟩
  have hsub := T9.out _ _ _ z HP.out HS.out hz
  simp only [hz]
  refine Calls.mono hsub ?_
  clear hsub
  rintro e w11 ⟨rfl, hp, hb⟩
  clear hz
  have HP2 := Lib.hid hp
  have HB2 := Lib.hid (HB.out.trans hb)
  have HS2 := Lib.hid (Nat.le_trans HS.out (show w10.heap.size ≤ w11.heap.size from hb.size))
  clear hp hb HP HB HS
  have HP := HP2
  have HB := HB2
  have HS := HS2
  clear HP2 HB2 HS2
  go_wp2_with fail
  obtain ⟨z, hz⟩ : ∃ z, w11.heap.size = z := ⟨_, rfl⟩
  have hsub := T10.out _ _ _ z HP.out HS.out hz
  simp only [hz]
  refine Calls.mono hsub ?_
  clear hsub
  rintro e w12 ⟨rfl, hp, hb⟩
  clear hz
  have HP2 := Lib.hid hp
  have HB2 := Lib.hid (HB.out.trans hb)
  have HS2 := Lib.hid (Nat.le_trans HS.out (show w11.heap.size ≤ w12.heap.size from hb.size))
  clear hp hb HP HB HS
  have HP := HP2
  have HB := HB2
  have HS := HS2
  clear HP2 HB2 HS2
  go_wp2_with fail
  refine (T11.out _ _ _ HP.out HS.out).mono ?_
  rintro e w13 ⟨rfl, hp, hb⟩
  have HP2 := Lib.hid hp
  have HB2 := Lib.hid (HB.out.trans hb)
  have HS2 := Lib.hid (Nat.le_trans HS.out hb.size)
  clear hp hb HP HB HS
  have HP := HP2
  have HB := HB2
  have HS := HS2
  clear HP2 HB2 HS2
  go_wp2_with fail
  refine (T12.out _ _ _ HP.out HS.out).mono ?_
  rintro e w14 ⟨rfl, hp, hb⟩
  have HP2 := Lib.hid hp
  have HB2 := Lib.hid (HB.out.trans hb)
  have HS2 := Lib.hid (Nat.le_trans HS.out hb.size)
  clear hp hb HP HB HS
  have HP := HP2
  have HB := HB2
  have HS := HS2
  clear HP2 HB2 HS2
  go_wp2_with fail
  obtain ⟨z, hz⟩ : ∃ z, w14.heap.size = z := ⟨_, rfl⟩
  have hsub := T13.out _ _ _ z HP.out HS.out hz
  simp only [hz]
  refine Calls.mono hsub ?_
  clear hsub
  rintro e w15 ⟨rfl, hp, hb⟩
  clear hz
  have HP2 := Lib.hid hp
  have HB2 := Lib.hid (HB.out.trans hb)
  have HS2 := Lib.hid (Nat.le_trans HS.out (show w14.heap.size ≤ w15.heap.size from hb.size))
  clear hp hb HP HB HS
  have HP := HP2
  have HB := HB2
  have HS := HS2
  clear HP2 HB2 HS2
  go_wp2_with fail
  refine (whwake_any HF.out _).mono ?_
  rintro e w16 ⟨rfl, hb⟩
  have HB16 := Lib.hid (below_trans HB0.out (HB.out.trans (hb.mono HB.out.size)))
  clear hb
  go_wp2_with fail
  go_ret
  exact ⟨rfl, HB16.out⟩
theorem own : ownKnob Try.prog.godebug = none := by kernel_rfl
theorem laidOut : laidOutB Try.prog = true := by kernel_rfl

set_option maxRecDepth 100000 in
theorem lifted (os : Os) (started : os.Started) (H : Type) (enc : TypeId × Value → H) :
    ReturnsInHanded {} Try.checked os 7 .any (Rows.wheelKnownSpec.pre6 enc Try.prog Try.f7 Rows.wheelKnownRow.domain false) (Rows.wheelKnownSpec.post enc Try.prog Try.f7 false true false false) := by
  refine returnsInHanded_of_change (C := Try.checked) own started (by kernel_rfl) Try.func7
    (ChangeSpec.witness6 (enc := enc) (C := Try.checked) false ⟨#[], #[], []⟩ 8 (by kernel_rfl) (by kernel_rfl) (by kernel_rfl) (by kernel_rfl)) ?_
  intro W base args ds gs before hval0 hW hcnd _
  have hval : ∀ (j : Nat) t v, Try.f7.params[j]? = some t → args[j]? = some v → Value.okWide Try.prog W .any base t v := hval0
  have hW' := hW
  obtain ⟨p, q, hA0, hV, rfl, hfz, hnd⟩ := hW
  have hA : DataW.TrodAll enc Try.prog W 0 (fun _ => true) true Try.f7.params.toList args.toList ds p := hA0
  rw [Try.params7] at hA hval
  obtain ⟨rfl, rfl, rfl⟩ := trodAll_none hA
  obtain ⟨rfl, rfl⟩ := trodVars_none hV
  clear hA0 hval0
  refine (walk W ).mono fun e W' ⟨he, bel⟩ => ?_
  subst he
  exact ⟨_, rfl, _, _, _, [], _, [], hW', trodAll_mk1 (shut_bool Try.underlying4 _), trodAll_mk0, rfl, bel.frame _, fun h => by cases h⟩

theorem over : Rows.wheelKnownRow.holds Try.pinned (OpenSpec.ofChange Rows.wheelKnownSpec) :=
  OpenClaim.holds_of_wide 7 Try.f7 rfl rfl rfl rfl rfl rfl rfl ⟨rfl, rfl, rfl, rfl, rfl⟩ rfl rfl rfl rfl rfl (by kernel_rfl) Try.func7 (by kernel_rfl)
    (of_decide_eq_true (by kernel_rfl)) (by unfold Func.isWrapper; first | (rw [if_pos (by decide +kernel)]; kernel_rfl) | (rw [if_neg (by decide +kernel)]; exact ⟨rfl, rfl⟩))
    (fun os started H enc _ => lifted os started H enc)

/-- The statement. -/
theorem proved : Rows.WheelKnownSaid := over
#print axioms proved
end Go.Proofs.Ytlpgabbnldalhaa.wheelKnown
