/-
  TableKnown holds: the chapter's rows, the limits, no table, one that New did not make.
-/
import Derived.Test.YtnhlbohdlnjaaaaTbNone
import Derived.Deep.CutRange
import Derived.RegionTactic
namespace Go.Proofs.Ytnhlbohdlnjaaaa.tableKnown
set_option maxRecDepth 10000
open Go.ChangeShapes Go.WideShapes Go.ChangeAt Go.RowKit
set_option linter.unusedVariables false
set_option linter.unusedSimpArgs false
set_option maxHeartbeats 4000000 in
theorem walk (w : World) : Calls Try.prog 7 #[] w fun e w' => e = .returned (.bool true) ∧ Below w.heap.size w w' := by
  obtain ⟨L1, e1⟩ : ∃ L : TL, [⟨1, ofT 1, ofT 5, true⟩] = L := ⟨_, rfl⟩
  obtain ⟨L2, e2⟩ : ∃ L : TL, [⟨1, ofT 1, ofT 5, true⟩, ⟨2, ofT 2, ofT 0, true⟩] = L := ⟨_, rfl⟩
  obtain ⟨L3, e3⟩ : ∃ L : TL, [⟨1, ofT 1, ofT 5, true⟩, ⟨2, ofT 2, ofT 6, true⟩] = L := ⟨_, rfl⟩
  obtain ⟨L4, e4⟩ : ∃ L : TL, [⟨1, ofT 1, ofT 0, true⟩, ⟨2, ofT 2, ofT 6, true⟩] = L := ⟨_, rfl⟩
  obtain ⟨L5, e5⟩ : ∃ L : TL, [⟨1, ofT 1, ofT 0, true⟩, ⟨2, ofT 2, ofT 5, true⟩] = L := ⟨_, rfl⟩
  have v1 : addF 3 0 (ofT 0) (ofT 5) [] = ((0, 0, 1), [], 0) := by kernel_rfl
  have v2 : addF 3 0 (ofT 1) (ofT 5) [] = ((1, 0, 0), L1, 1) := by subst e1; kernel_rfl
  have v3 : addF 3 1 (ofT 2) (ofT 5) L1 = ((0, 0, 9), L1, 1) := by subst e1; kernel_rfl
  have v4 : addF 3 1 (ofT 2) (ofT 0) L1 = ((2, 0, 0), L2, 2) := by subst e1; subst e2; kernel_rfl
  have v5 : leadR 2 (ofT 5) L2 = (9, L2) := by subst e2; kernel_rfl
  have v6 : leadR 2 (ofT 6) L2 = (0, L3) := by subst e2; subst e3; kernel_rfl
  have v7 : leadR 1 (ofT 0) L3 = (0, L4) := by subst e3; subst e4; kernel_rfl
  have v8 : leadR 2 (ofT 5) L4 = (0, L5) := by subst e4; subst e5; kernel_rfl
  have v9 : idOf (outF (ofT 6) L5) = 0 ∧ isOf (outF (ofT 6) L5) = false := by subst e5; exact ⟨by kernel_rfl, by kernel_rfl⟩
  have v10 : idOf (outF (ofT 0) L5) = 0 ∧ isOf (outF (ofT 0) L5) = false := by subst e5; exact ⟨by kernel_rfl, by kernel_rfl⟩
  have v11 : idOf (innF (ofT 0) L5) = 0 ∧ isOf (innF (ofT 0) L5) = false := by subst e5; exact ⟨by kernel_rfl, by kernel_rfl⟩
  have v12 : dropR 9 L5 = (6, L5) := by subst e5; kernel_rfl
  obtain ⟨B, eB⟩ : ∃ B, w.heap.size = B := ⟨_, rfl⟩
  have EB := Lib.hid eB
  clear e1 e2 e3 e4 e5 eB
  go_enter Try.func7, Try.ntmps7
  go_wp2_with fail
  refine (awake_any w).mono ?_
  rintro e w0 ⟨rfl, hb⟩
  have HB0 := Lib.hid hb
  clear hb
  go_wp2_with fail
  refine (new_bad 0 w0 (by omega)).mono ?_
  rintro e w1 ⟨rfl, rfl⟩
  go_wp2_with fail
  refine (new_bad 1025 w0 (by omega)).mono ?_
  rintro e w1 ⟨rfl, rfl⟩
  have Hn := Lib.hid (new_own13 3 w0 (by omega))
  go_wp2_with fail
  refine Hn.out.mono ?_
  rintro e w1 ⟨g, rfl, hp, hb⟩
  have HP := Lib.hid (show TOwn B w1 g 3 0 [] from hp.mono (by rw [← EB.out]; exact HB0.out.size))
  have HB := Lib.hid (show Below B w w1 by rw [← EB.out]; exact below_trans HB0.out hb)
  have HS := Lib.hid (show B ≤ w1.heap.size by have := hb.size; have := HB0.out.size; have := EB.out; omega)
  have T1 := Lib.hid (fun W h hB => add_own B g 3 0 [] W h hB (ofT 0) (ofT 5) _ _ _ _ _ (by omega) v1)
  have T2 := Lib.hid (fun W h hB => add_own B g 3 0 [] W h hB (ofT 1) (ofT 5) _ _ _ _ _ (by omega) v2)
  have T3 := Lib.hid (fun W h hB => add_own B g 3 1 L1 W h hB (ofT 2) (ofT 5) _ _ _ _ _ (by omega) v3)
  have T4 := Lib.hid (fun W h hB => add_own B g 3 1 L1 W h hB (ofT 2) (ofT 0) _ _ _ _ _ (by omega) v4)
  have T5 := Lib.hid (fun W h hB => lead_own B g 3 2 L2 W h hB 2 _ (ofT 5) _ v5)
  have T6 := Lib.hid (fun W h hB => lead_own B g 3 2 L2 W h hB 2 _ (ofT 6) _ v6)
  have T7 := Lib.hid (fun W h hB => lead_own B g 3 2 L3 W h hB 1 _ (ofT 0) _ v7)
  have T8 := Lib.hid (fun W h hB => lead_own B g 3 2 L4 W h hB 2 _ (ofT 5) _ v8)
  have T9 := Lib.hid (fun W h hB => outer_own B g 3 2 L5 W h hB (ofT 6) _ _ v9.1 v9.2)
  have T10 := Lib.hid (fun W h hB => outer_own B g 3 2 L5 W h hB (ofT 0) _ _ v10.1 v10.2)
  have T11 := Lib.hid (fun W h hB => inner_own B g 3 2 L5 W h hB (ofT 0) _ _ v11.1 v11.2)
  have T12 := Lib.hid (fun W h hB => drop_own B g 3 2 L5 W h hB 9 _ _ v12)
  clear v1 v2 v3 v4 v5 v6 v7 v8 v9 v10 v11 v12 hp hb Hn HB0
  go_wp2_with fail
  refine (of_any _ _).mono ?_
  rintro e w2 ⟨rfl, hb⟩
  have hp := HP.out.below hb
  have hb := hb.mono HS.out
  have HP2 := Lib.hid hp
  have HB2 := Lib.hid (HB.out.trans hb)
  have HS2 := Lib.hid (Nat.le_trans HS.out hb.size)
  clear hp hb HP HB HS
  have HP := HP2
  have HB := HB2
  have HS := HS2
  clear HP2 HB2 HS2
  go_wp2_with fail
  refine (of_any _ _).mono ?_
  rintro e w3 ⟨rfl, hb⟩
  have hp := HP.out.below hb
  have hb := hb.mono HS.out
  have HP2 := Lib.hid hp
  have HB2 := Lib.hid (HB.out.trans hb)
  have HS2 := Lib.hid (Nat.le_trans HS.out hb.size)
  clear hp hb HP HB HS
  have HP := HP2
  have HB := HB2
  have HS := HS2
  clear HP2 HB2 HS2
  go_wp2_with fail
  refine (T1.out _ HP.out HS.out).mono ?_
  rintro e w4 ⟨rfl, hp, hb⟩
  have HP2 := Lib.hid hp
  have HB2 := Lib.hid (HB.out.trans hb)
  have HS2 := Lib.hid (Nat.le_trans HS.out hb.size)
  clear hp hb HP HB HS
  have HP := HP2
  have HB := HB2
  have HS := HS2
  clear HP2 HB2 HS2
  go_wp2_with fail
  refine (of_any _ _).mono ?_
  rintro e w5 ⟨rfl, hb⟩
  have hp := HP.out.below hb
  have hb := hb.mono HS.out
  have HP2 := Lib.hid hp
  have HB2 := Lib.hid (HB.out.trans hb)
  have HS2 := Lib.hid (Nat.le_trans HS.out hb.size)
  clear hp hb HP HB HS
  have HP := HP2
  have HB := HB2
  have HS := HS2
  clear HP2 HB2 HS2
  go_wp2_with fail
  refine (of_any _ _).mono ?_
  rintro e w6 ⟨rfl, hb⟩
  have hp := HP.out.below hb
  have hb := hb.mono HS.out
  have HP2 := Lib.hid hp
  have HB2 := Lib.hid (HB.out.trans hb)
  have HS2 := Lib.hid (Nat.le_trans HS.out hb.size)
  clear hp hb HP HB HS
  have HP := HP2
  have HB := HB2
  have HS := HS2
  clear HP2 HB2 HS2
  go_wp2_with fail
  refine (T2.out _ HP.out HS.out).mono ?_
  rintro e w7 ⟨rfl, hp, hb⟩
  have HP2 := Lib.hid hp
  have HB2 := Lib.hid (HB.out.trans hb)
  have HS2 := Lib.hid (Nat.le_trans HS.out hb.size)
  clear hp hb HP HB HS
  have HP := HP2
  have HB := HB2
  have HS := HS2
  clear HP2 HB2 HS2
  go_wp2_with fail
  refine (of_any _ _).mono ?_
  rintro e w8 ⟨rfl, hb⟩
  have hp := HP.out.below hb
  have hb := hb.mono HS.out
  have HP2 := Lib.hid hp
  have HB2 := Lib.hid (HB.out.trans hb)
  have HS2 := Lib.hid (Nat.le_trans HS.out hb.size)
  clear hp hb HP HB HS
  have HP := HP2
  have HB := HB2
  have HS := HS2
  clear HP2 HB2 HS2
  go_wp2_with fail
  refine (of_any _ _).mono ?_
  rintro e w9 ⟨rfl, hb⟩
  have hp := HP.out.below hb
  have hb := hb.mono HS.out
  have HP2 := Lib.hid hp
  have HB2 := Lib.hid (HB.out.trans hb)
  have HS2 := Lib.hid (Nat.le_trans HS.out hb.size)
  clear hp hb HP HB HS
  have HP := HP2
  have HB := HB2
  have HS := HS2
  clear HP2 HB2 HS2
  go_wp2_with fail
  refine (T3.out _ HP.out HS.out).mono ?_
  rintro e w10 ⟨rfl, hp, hb⟩
  have HP2 := Lib.hid hp
  have HB2 := Lib.hid (HB.out.trans hb)
  have HS2 := Lib.hid (Nat.le_trans HS.out hb.size)
  clear hp hb HP HB HS
  have HP := HP2
  have HB := HB2
  have HS := HS2
  clear HP2 HB2 HS2
  go_wp2_with fail
  refine (of_any _ _).mono ?_
  rintro e w11 ⟨rfl, hb⟩
  have hp := HP.out.below hb
  have hb := hb.mono HS.out
  have HP2 := Lib.hid hp
  have HB2 := Lib.hid (HB.out.trans hb)
  have HS2 := Lib.hid (Nat.le_trans HS.out hb.size)
  clear hp hb HP HB HS
  have HP := HP2
  have HB := HB2
  have HS := HS2
  clear HP2 HB2 HS2
  go_wp2_with fail
  refine (of_any _ _).mono ?_
  rintro e w12 ⟨rfl, hb⟩
  have hp := HP.out.below hb
  have hb := hb.mono HS.out
  have HP2 := Lib.hid hp
  have HB2 := Lib.hid (HB.out.trans hb)
  have HS2 := Lib.hid (Nat.le_trans HS.out hb.size)
  clear hp hb HP HB HS
  have HP := HP2
  have HB := HB2
  have HS := HS2
  clear HP2 HB2 HS2
  go_wp2_with fail
  refine (T4.out _ HP.out HS.out).mono ?_
  rintro e w13 ⟨rfl, hp, hb⟩
  have HP2 := Lib.hid hp
  have HB2 := Lib.hid (HB.out.trans hb)
  have HS2 := Lib.hid (Nat.le_trans HS.out hb.size)
  clear hp hb HP HB HS
  have HP := HP2
  have HB := HB2
  have HS := HS2
  clear HP2 HB2 HS2
  go_wp2_with fail
  refine (of_any _ _).mono ?_
  rintro e w14 ⟨rfl, hb⟩
  have hp := HP.out.below hb
  have hb := hb.mono HS.out
  have HP2 := Lib.hid hp
  have HB2 := Lib.hid (HB.out.trans hb)
  have HS2 := Lib.hid (Nat.le_trans HS.out hb.size)
  clear hp hb HP HB HS
  have HP := HP2
  have HB := HB2
  have HS := HS2
  clear HP2 HB2 HS2
  go_wp2_with fail
  refine (T5.out _ HP.out HS.out).mono ?_
  rintro e w15 ⟨rfl, hp, hb⟩
  have HP2 := Lib.hid hp
  have HB2 := Lib.hid (HB.out.trans hb)
  have HS2 := Lib.hid (Nat.le_trans HS.out hb.size)
  clear hp hb HP HB HS
  have HP := HP2
  have HB := HB2
  have HS := HS2
  clear HP2 HB2 HS2
  go_wp2_with fail
  refine (of_any _ _).mono ?_
  rintro e w16 ⟨rfl, hb⟩
  have hp := HP.out.below hb
  have hb := hb.mono HS.out
  have HP2 := Lib.hid hp
  have HB2 := Lib.hid (HB.out.trans hb)
  have HS2 := Lib.hid (Nat.le_trans HS.out hb.size)
  clear hp hb HP HB HS
  have HP := HP2
  have HB := HB2
  have HS := HS2
  clear HP2 HB2 HS2
  go_wp2_with fail
  refine (T6.out _ HP.out HS.out).mono ?_
  rintro e w17 ⟨rfl, hp, hb⟩
  have HP2 := Lib.hid hp
  have HB2 := Lib.hid (HB.out.trans hb)
  have HS2 := Lib.hid (Nat.le_trans HS.out hb.size)
  clear hp hb HP HB HS
  have HP := HP2
  have HB := HB2
  have HS := HS2
  clear HP2 HB2 HS2
  go_wp2_with fail
  refine (of_any _ _).mono ?_
  rintro e w18 ⟨rfl, hb⟩
  have hp := HP.out.below hb
  have hb := hb.mono HS.out
  have HP2 := Lib.hid hp
  have HB2 := Lib.hid (HB.out.trans hb)
  have HS2 := Lib.hid (Nat.le_trans HS.out hb.size)
  clear hp hb HP HB HS
  have HP := HP2
  have HB := HB2
  have HS := HS2
  clear HP2 HB2 HS2
  go_wp2_with fail
  refine (T7.out _ HP.out HS.out).mono ?_
  rintro e w19 ⟨rfl, hp, hb⟩
  have HP2 := Lib.hid hp
  have HB2 := Lib.hid (HB.out.trans hb)
  have HS2 := Lib.hid (Nat.le_trans HS.out hb.size)
  clear hp hb HP HB HS
  have HP := HP2
  have HB := HB2
  have HS := HS2
  clear HP2 HB2 HS2
  go_wp2_with fail
  refine (of_any _ _).mono ?_
  rintro e w20 ⟨rfl, hb⟩
  have hp := HP.out.below hb
  have hb := hb.mono HS.out
  have HP2 := Lib.hid hp
  have HB2 := Lib.hid (HB.out.trans hb)
  have HS2 := Lib.hid (Nat.le_trans HS.out hb.size)
  clear hp hb HP HB HS
  have HP := HP2
  have HB := HB2
  have HS := HS2
  clear HP2 HB2 HS2
  go_wp2_with fail
  refine (T8.out _ HP.out HS.out).mono ?_
  rintro e w21 ⟨rfl, hp, hb⟩
  have HP2 := Lib.hid hp
  have HB2 := Lib.hid (HB.out.trans hb)
  have HS2 := Lib.hid (Nat.le_trans HS.out hb.size)
  clear hp hb HP HB HS
  have HP := HP2
  have HB := HB2
  have HS := HS2
  clear HP2 HB2 HS2
  go_wp2_with fail
  refine (of_any _ _).mono ?_
  rintro e w22 ⟨rfl, hb⟩
  have hp := HP.out.below hb
  have hb := hb.mono HS.out
  have HP2 := Lib.hid hp
  have HB2 := Lib.hid (HB.out.trans hb)
  have HS2 := Lib.hid (Nat.le_trans HS.out hb.size)
  clear hp hb HP HB HS
  have HP := HP2
  have HB := HB2
  have HS := HS2
  clear HP2 HB2 HS2
  go_wp2_with fail
  refine (T9.out _ HP.out HS.out).mono ?_
  rintro e w23 ⟨rfl, hp, hb⟩
  have HP2 := Lib.hid hp
  have HB2 := Lib.hid (HB.out.trans hb)
  have HS2 := Lib.hid (Nat.le_trans HS.out hb.size)
  clear hp hb HP HB HS
  have HP := HP2
  have HB := HB2
  have HS := HS2
  clear HP2 HB2 HS2
  go_wp2_with fail
  refine (of_any _ _).mono ?_
  rintro e w24 ⟨rfl, hb⟩
  have hp := HP.out.below hb
  have hb := hb.mono HS.out
  have HP2 := Lib.hid hp
  have HB2 := Lib.hid (HB.out.trans hb)
  have HS2 := Lib.hid (Nat.le_trans HS.out hb.size)
  clear hp hb HP HB HS
  have HP := HP2
  have HB := HB2
  have HS := HS2
  clear HP2 HB2 HS2
  go_wp2_with fail
  refine (T10.out _ HP.out HS.out).mono ?_
  rintro e w25 ⟨rfl, hp, hb⟩
  have HP2 := Lib.hid hp
  have HB2 := Lib.hid (HB.out.trans hb)
  have HS2 := Lib.hid (Nat.le_trans HS.out hb.size)
  clear hp hb HP HB HS
  have HP := HP2
  have HB := HB2
  have HS := HS2
  clear HP2 HB2 HS2
  go_wp2_with fail
  refine (of_any _ _).mono ?_
  rintro e w26 ⟨rfl, hb⟩
  have hp := HP.out.below hb
  have hb := hb.mono HS.out
  have HP2 := Lib.hid hp
  have HB2 := Lib.hid (HB.out.trans hb)
  have HS2 := Lib.hid (Nat.le_trans HS.out hb.size)
  clear hp hb HP HB HS
  have HP := HP2
  have HB := HB2
  have HS := HS2
  clear HP2 HB2 HS2
  go_wp2_with fail
  refine (T11.out _ HP.out HS.out).mono ?_
  rintro e w27 ⟨rfl, hp, hb⟩
  have HP2 := Lib.hid hp
  have HB2 := Lib.hid (HB.out.trans hb)
  have HS2 := Lib.hid (Nat.le_trans HS.out hb.size)
  clear hp hb HP HB HS
  have HP := HP2
  have HB := HB2
  have HS := HS2
  clear HP2 HB2 HS2
  go_wp2_with fail
  refine (of_any _ _).mono ?_
  rintro e w28 ⟨rfl, hb⟩
  have hp := HP.out.below hb
  have hb := hb.mono HS.out
  have HP2 := Lib.hid hp
  have HB2 := Lib.hid (HB.out.trans hb)
  have HS2 := Lib.hid (Nat.le_trans HS.out hb.size)
  clear hp hb HP HB HS
  have HP := HP2
  have HB := HB2
  have HS := HS2
  clear HP2 HB2 HS2
  go_wp2_with fail
  refine (of_any _ _).mono ?_
  rintro e w29 ⟨rfl, hb⟩
  have hp := HP.out.below hb
  have hb := hb.mono HS.out
  have HP2 := Lib.hid hp
  have HB2 := Lib.hid (HB.out.trans hb)
  have HS2 := Lib.hid (Nat.le_trans HS.out hb.size)
  clear hp hb HP HB HS
  have HP := HP2
  have HB := HB2
  have HS := HS2
  clear HP2 HB2 HS2
  go_wp2_with fail
  refine (add_nil (ofT 1) (ofT 1) w29).mono ?_
  rintro e w30 ⟨rfl, hb⟩
  have hp := HP.out.below hb
  have hb := hb.mono HS.out
  have HP2 := Lib.hid hp
  have HB2 := Lib.hid (HB.out.trans hb)
  have HS2 := Lib.hid (Nat.le_trans HS.out hb.size)
  clear hp hb HP HB HS
  have HP := HP2
  have HB := HB2
  have HS := HS2
  clear HP2 HB2 HS2
  go_wp2_with fail
  refine (flow_nil 1 w30).mono ?_
  rintro e w31 ⟨rfl, hb⟩
  have hp := HP.out.below hb
  have hb := hb.mono HS.out
  have HP2 := Lib.hid hp
  have HB2 := Lib.hid (HB.out.trans hb)
  have HS2 := Lib.hid (Nat.le_trans HS.out hb.size)
  clear hp hb HP HB HS
  have HP := HP2
  have HB := HB2
  have HS := HS2
  clear HP2 HB2 HS2
  rw [fl_arr]
  simp only [f0, zT]
  obtain ⟨w32, ew32⟩ : ∃ v, w31.alloc (.cells #[.int .u64 0, .int .u8 0, .int .u32 0, .int .u32 0, .int .u16 0, .int .u16 0, .int .u8 0, .int .u32 0, .int .u32 0, .int .u16 0, .int .u16 0, .bool false] 51) = v := ⟨_, rfl⟩
  have hb : Below w31.heap.size w31 w32 := by rw [← ew32]; exact (Below.refl _ _).alloc (Nat.le_refl _) _
  have hp := HP.out.below hb
  have hb := hb.mono HS.out
  have HP2 := Lib.hid hp
  have HB2 := Lib.hid (HB.out.trans hb)
  have HS2 := Lib.hid (Nat.le_trans HS.out hb.size)
  clear hp hb HP HB HS
  have HP := HP2
  have HB := HB2
  have HS := HS2
  clear HP2 HB2 HS2
  have E32 := Lib.hid ew32
  clear ew32
  go_upto_region 22 with (fail)
  rw [E32.out]
  clear E32
  dsimp only [List.append] at *
  (try simp only []); repeat (first | go_values | go_skip | go_guarded | go_step | go_upon | go_back)
  refine (T12.out _ HP.out HS.out).mono ?_
  rintro e w33 ⟨rfl, hp, hb⟩
  have HP2 := Lib.hid hp
  have HB2 := Lib.hid (HB.out.trans hb)
  have HS2 := Lib.hid (Nat.le_trans HS.out hb.size)
  clear hp hb HP HB HS
  have HP := HP2
  have HB := HB2
  have HS := HS2
  clear HP2 HB2 HS2
  (try simp only []); repeat (first | go_values | go_skip | go_guarded | go_step | go_upon | go_back)
  refine (of_any _ _).mono ?_
  rintro e w34 ⟨rfl, hb⟩
  have hp := HP.out.below hb
  have hb := hb.mono HS.out
  have HP2 := Lib.hid hp
  have HB2 := Lib.hid (HB.out.trans hb)
  have HS2 := Lib.hid (Nat.le_trans HS.out hb.size)
  clear hp hb HP HB HS
  have HP := HP2
  have HB := HB2
  have HS := HS2
  clear HP2 HB2 HS2
  (try simp only []); repeat (first | go_values | go_skip | go_guarded | go_step | go_upon | go_back)
  refine (lead_nil 1 (ofT 1) w34).mono ?_
  rintro e w35 ⟨rfl, hb⟩
  have hp := HP.out.below hb
  have hb := hb.mono HS.out
  have HP2 := Lib.hid hp
  have HB2 := Lib.hid (HB.out.trans hb)
  have HS2 := Lib.hid (Nat.le_trans HS.out hb.size)
  clear hp hb HP HB HS
  have HP := HP2
  have HB := HB2
  have HS := HS2
  clear HP2 HB2 HS2
  (try simp only []); repeat (first | go_values | go_skip | go_guarded | go_step | go_upon | go_back)
  refine (len_nil w35).mono ?_
  rintro e w36 ⟨rfl, rfl⟩
  (try simp only []); repeat (first | go_values | go_skip | go_guarded | go_step | go_upon | go_back)
  refine (all_nil w35).mono ?_
  rintro e w36 ⟨rfl, rfl⟩
  (try simp only []); repeat (first | go_values | go_skip | go_guarded | go_step | go_upon | go_back)
  refine (copy_nil w35).mono ?_
  rintro e w36 ⟨rfl, rfl⟩
  obtain ⟨z, ez⟩ : ∃ z, w35.heap.size = z := ⟨_, rfl⟩
  obtain ⟨w36, ew36⟩ : ∃ v, w35.alloc (.cells #[.pointer none, .int .i64 0, .int .u64 0, .map none, .map none, .slice none 0 0] 72) = v := ⟨_, rfl⟩
  have hb : Below w35.heap.size w35 w36 := by rw [← ew36]; exact (Below.refl _ _).alloc (Nat.le_refl _) _
  have hk : w36.heap[z]? = some (.cells #[.pointer none, .int .i64 0, .int .u64 0, .map none, .map none, .slice none 0 0] 72 (0, 0)) := by rw [← ew36, ← ez]; exact heap_alloc_new w35 _
  have HZ := Lib.hid (drop_zero 1 z w36 ⟨lt_of_block hk, blk_cell hk 0⟩)
  have hp := HP.out.below hb
  have hb := hb.mono HS.out
  have HP2 := Lib.hid hp
  have HB2 := Lib.hid (HB.out.trans hb)
  have HS2 := Lib.hid (Nat.le_trans HS.out hb.size)
  clear hp hb HP HB HS
  have HP := HP2
  have HB := HB2
  have HS := HS2
  clear HP2 HB2 HS2
  have E36 := Lib.hid ew36
  have Ez := Lib.hid ez
  clear ew36 ez hk
  (try simp only []); repeat (first | go_values | go_skip | go_guarded | go_step | go_upon | go_back)
  rw [E36.out, Ez.out]
  refine HZ.out.mono ?_
  rintro e w37 ⟨rfl, hb⟩
  have HBf := Lib.hid (show Below w.heap.size w w37 by rw [EB.out]; exact HB.out.trans (hb.mono HS.out))
  clear hb
  (try simp only []); repeat (first | go_values | go_skip | go_guarded | go_step | go_upon | go_back)
  go_wp2_with fail
  go_ret
  exact ⟨rfl, HBf.out⟩
theorem own : ownKnob Try.prog.godebug = none := by kernel_rfl
theorem laidOut : laidOutB Try.prog = true := by kernel_rfl

set_option maxRecDepth 100000 in
theorem lifted (os : Os) (started : os.Started) (H : Type) (enc : TypeId × Value → H) :
    ReturnsInHanded {} Try.checked os 7 .any (Rows.tableKnownSpec.pre6 enc Try.prog Try.f7 Rows.tableKnownRow.domain false) (Rows.tableKnownSpec.post enc Try.prog Try.f7 false true false false) := by
  refine returnsInHanded_of_change (C := Try.checked) own started (by kernel_rfl) Try.func7
    (ChangeSpec.witness6 (enc := enc) (C := Try.checked) false ⟨#[], #[], []⟩ 8 (by kernel_rfl) (by kernel_rfl) (by kernel_rfl) (by kernel_rfl)) ?_
  intro W base args ds gs before hval0 hW hcnd _
  have hval : ∀ (j : Nat) t v, Try.f7.params[j]? = some t → args[j]? = some v → Value.okWide Try.prog W .any base t v := hval0
  have hW' := hW
  obtain ⟨p, q, hA0, hV, rfl, hfz, hnd⟩ := hW
  have hA : DataW.TrodAll enc Try.prog W 0 (fun _ => true) true Try.f7.params.toList args.toList ds p := hA0
  rw [Try.params7] at hA hval
  obtain ⟨rfl, rfl, rfl⟩ := trodAll_none hA
  obtain ⟨rfl, rfl⟩ := trodVars_none hV
  clear hA0 hval0
  refine (walk W ).mono fun e W' ⟨he, bel⟩ => ?_
  subst he
  exact ⟨_, rfl, _, _, _, [], _, [], hW', trodAll_mk1 (shut_bool Try.underlying4 _), trodAll_mk0, rfl, bel.frame _, fun h => by cases h⟩

theorem over : Rows.tableKnownRow.holds Try.pinned (OpenSpec.ofChange Rows.tableKnownSpec) :=
  OpenClaim.holds_of_wide 7 Try.f7 rfl rfl rfl rfl rfl rfl rfl ⟨rfl, rfl, rfl, rfl, rfl⟩ rfl rfl rfl rfl rfl (by kernel_rfl) Try.func7 (by kernel_rfl)
    (of_decide_eq_true (by kernel_rfl)) (by unfold Func.isWrapper; first | (rw [if_pos (by decide +kernel)]; kernel_rfl) | (rw [if_neg (by decide +kernel)]; exact ⟨rfl, rfl⟩))
    (fun os started H enc _ => lifted os started H enc)

/-- The statement. -/
theorem proved : Rows.TableKnownSaid := over
#print axioms proved
end Go.Proofs.Ytnhlbohdlnjaaaa.tableKnown
