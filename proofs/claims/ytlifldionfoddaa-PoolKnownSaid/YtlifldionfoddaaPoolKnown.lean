/-
  PoolKnown holds: the chapter's examples, ends, and what a pool that New did not make answers (closed).
-/
import Derived.Test.YtlifldionfoddaaPoolWakes
import Derived.Deep.CutRange
import Derived.BigRegion
namespace Go.Proofs.Ytlifldionfoddaa.poolKnown
set_option maxRecDepth 10000
open Go.ChangeShapes Go.WideShapes Go.ChangeAt Go.RowKit
set_option linter.unusedVariables false
set_option linter.unusedSimpArgs false

set_option maxHeartbeats 2000000 in
theorem walk (w : World) : Calls Try.prog 6 #[] w fun e w' => e = .returned (.bool true) ∧ Below w.heap.size w w' := by
  obtain ⟨s0, e0⟩ : ∃ s, newA 65535 65535 5 = s := ⟨_, rfl⟩
  obtain ⟨s1, e1⟩ : ∃ s, takeA s0 10 = s := ⟨_, rfl⟩
  obtain ⟨s2, e2⟩ : ∃ s, takeA s1 1099511627777 = s := ⟨_, rfl⟩
  obtain ⟨s3, e3⟩ : ∃ s, giveA s2 65535 3 = s := ⟨_, rfl⟩
  obtain ⟨s4, e4⟩ : ∃ s, freeA s3 14 = s := ⟨_, rfl⟩
  obtain ⟨s5, e5⟩ : ∃ s, freeA s4 15 = s := ⟨_, rfl⟩
  have V := Lib.hid (show ((takeP s0 10 = 65535 ∧ takeE s0 10 = 0) ∧ (takeP s1 1099511627777 = 0 ∧ takeE s1 1099511627777 = 1)) ∧ (giveE s2 65535 3 = 0 ∧ freeN s3 14 = 0 ∧ freeN s4 15 = 1 ∧ freeN s5 0 = 1) by
    subst e0; subst e1; subst e2; subst e3; subst e4; subst e5
    decide +kernel)
  have T1 := Lib.hid (fun w g B h hB => take_own B g s0 s1 10 65535 0 w h hB (by decide) V.out.1.1.1 V.out.1.1.2 e1)
  have T2 := Lib.hid (fun w g B h hB => take_own B g s1 s2 1099511627777 0 1 w h hB (by decide) V.out.1.2.1 V.out.1.2.2 e2)
  have T3 := Lib.hid (fun w g B h hB => give_own B g s2 s3 65535 3 0 w h hB (by decide) (by decide) V.out.2.1 e3)
  have T4 := Lib.hid (fun w g B h hB => free_own B g s3 s4 14 0 w h hB (by decide) V.out.2.2.1 e4)
  have T5 := Lib.hid (fun w g B h hB => free_own B g s4 s5 15 1 w h hB (by decide) V.out.2.2.2.1 e5)
  have T6 := Lib.hid (fun w g B h hB => free_own B g s5 (freeA s5 0) 0 1 w h hB (by decide) V.out.2.2.2.2 rfl)
  have T0 := Lib.hid (fun w => new_own 65535 65535 5 s0 w (by decide) (by decide) (by decide) (by decide) e0)
  clear e0 e1 e2 e3 e4 e5 V
  have HB := Lib.hid (Below.refl w.heap.size w)
  go_enter Try.func6, Try.ntmps6
  go_wp2_with fail
  refine (poolwake_any _).mono ?_
  rintro e w1 ⟨rfl, hb⟩
  have HB2 := Lib.hid (HB.out.trans (hb.mono HB.out.size))
  clear hb HB
  have HB := HB2
  clear HB2
  go_wp2_with fail
  refine (new_bad 0 5 1 _ (by decide) (by decide) (by decide) (by decide)).mono ?_
  rintro e w2 ⟨rfl, hb⟩
  have HB2 := Lib.hid (HB.out.trans (hb.mono HB.out.size))
  clear hb HB
  have HB := HB2
  clear HB2
  go_wp2_with fail
  refine (new_bad 6 5 1 _ (by decide) (by decide) (by decide) (by decide)).mono ?_
  rintro e w3 ⟨rfl, hb⟩
  have HB2 := Lib.hid (HB.out.trans (hb.mono HB.out.size))
  clear hb HB
  have HB := HB2
  clear HB2
  go_wp2_with fail
  refine (new_bad 5 5 1099511627777 _ (by decide) (by decide) (by decide) (by decide)).mono ?_
  rintro e w4 ⟨rfl, hb⟩
  have HB2 := Lib.hid (HB.out.trans (hb.mono HB.out.size))
  clear hb HB
  have HB := HB2
  clear HB2
  go_wp2_with fail
  refine (T0.out _).mono ?_
  rintro e w5 ⟨g, rfl, hp, hb⟩
  obtain ⟨B, eB⟩ : ∃ B, w4.heap.size = B := ⟨_, rfl⟩
  have hwB : w.heap.size ≤ B := by rw [← eB]; exact HB.out.size
  rw [eB] at hp hb
  have HP := Lib.hid hp
  have HS := Lib.hid (show B ≤ w5.heap.size by rw [← eB]; exact hb.size)
  have HB2 := Lib.hid (HB.out.trans (hb.mono hwB))
  clear hp hb HB eB T0
  have HB := HB2
  clear HB2
  go_wp2_with fail
  refine (T1.out _ _ _ HP.out HS.out).mono ?_
  rintro e w6 ⟨rfl, hp, hb⟩
  have HP2 := Lib.hid hp
  have HB2 := Lib.hid (HB.out.trans (hb.mono hwB))
  have HS2 := Lib.hid (Nat.le_trans HS.out hb.size)
  clear hp hb HP HB HS
  have HP := HP2
  have HB := HB2
  have HS := HS2
  clear HP2 HB2 HS2
  go_wp2_with fail
  refine (T2.out _ _ _ HP.out HS.out).mono ?_
  rintro e w7 ⟨rfl, hp, hb⟩
  have HP2 := Lib.hid hp
  have HB2 := Lib.hid (HB.out.trans (hb.mono hwB))
  have HS2 := Lib.hid (Nat.le_trans HS.out hb.size)
  clear hp hb HP HB HS
  have HP := HP2
  have HB := HB2
  have HS := HS2
  clear HP2 HB2 HS2
  go_wp2_with fail
  refine (T3.out _ _ _ HP.out HS.out).mono ?_
  rintro e w8 ⟨rfl, hp, hb⟩
  have HP2 := Lib.hid hp
  have HB2 := Lib.hid (HB.out.trans (hb.mono hwB))
  have HS2 := Lib.hid (Nat.le_trans HS.out hb.size)
  clear hp hb HP HB HS
  have HP := HP2
  have HB := HB2
  have HS := HS2
  clear HP2 HB2 HS2
  go_wp2_with fail
  refine (T4.out _ _ _ HP.out HS.out).mono ?_
  rintro e w9 ⟨rfl, hp, hb⟩
  have HP2 := Lib.hid hp
  have HB2 := Lib.hid (HB.out.trans (hb.mono hwB))
  have HS2 := Lib.hid (Nat.le_trans HS.out hb.size)
  clear hp hb HP HB HS
  have HP := HP2
  have HB := HB2
  have HS := HS2
  clear HP2 HB2 HS2
  go_wp2_with fail
  refine (T5.out _ _ _ HP.out HS.out).mono ?_
  rintro e w10 ⟨rfl, hp, hb⟩
  have HP2 := Lib.hid hp
  have HB2 := Lib.hid (HB.out.trans (hb.mono hwB))
  have HS2 := Lib.hid (Nat.le_trans HS.out hb.size)
  clear hp hb HP HB HS
  have HP := HP2
  have HB := HB2
  have HS := HS2
  clear HP2 HB2 HS2
  go_wp2_with fail
  refine (take_nil 0 _).mono ?_
  rintro e w11 ⟨rfl, hb⟩
  have HB2 := Lib.hid (HB.out.trans (hb.mono HB.out.size))
  have HP2 := Lib.hid (HP.out.below hb)
  have HS2 := Lib.hid (Nat.le_trans HS.out hb.size)
  clear hb HB HP HS
  have HB := HB2
  have HP := HP2
  have HS := HS2
  clear HB2 HP2 HS2
  go_upto_region 16 with (fail)
  dsimp only [List.append] at *
  try simp only []
  repeat (first | go_values | go_skip | go_guarded | go_step | go_upon | go_back)
  refine (T6.out _ _ _ HP.out HS.out).mono ?_
  rintro e w12 ⟨rfl, hp, hb⟩
  have HP2 := Lib.hid hp
  have HB2 := Lib.hid (HB.out.trans (hb.mono hwB))
  have HS2 := Lib.hid (Nat.le_trans HS.out hb.size)
  clear hp hb HP HB HS
  have HP := HP2
  have HB := HB2
  have HS := HS2
  clear HP2 HB2 HS2
  try simp only []
  repeat (first | go_values | go_skip | go_guarded | go_step | go_upon | go_back)
  refine (give_nil 1 0 _).mono ?_
  rintro e w13 ⟨rfl, hb⟩
  have HB2 := Lib.hid (HB.out.trans (hb.mono HB.out.size))
  clear hb HB
  have HB := HB2
  clear HB2
  try simp only []
  repeat (first | go_values | go_skip | go_guarded | go_step | go_upon | go_back)
  refine (taken_nil 1 _).mono ?_
  rintro e w14 ⟨rfl, hb⟩
  have HB2 := Lib.hid (HB.out.trans (hb.mono HB.out.size))
  clear hb HB
  have HB := HB2
  clear HB2
  try simp only []
  repeat (first | go_values | go_skip | go_guarded | go_step | go_upon | go_back)
  refine (count_nil _).mono ?_
  rintro e w15 ⟨rfl, hb⟩
  have HB2 := Lib.hid (HB.out.trans (hb.mono HB.out.size))
  clear hb HB
  have HB := HB2
  clear HB2
  try simp only []
  repeat (first | go_values | go_skip | go_guarded | go_step | go_upon | go_back)
  refine (free_nil 0 _).mono ?_
  rintro e w16 ⟨rfl, hb⟩
  have HB2 := Lib.hid (HB.out.trans (hb.mono HB.out.size))
  clear hb HB
  have HB := HB2
  clear HB2
  try simp only []
  repeat (first | go_values | go_skip | go_guarded | go_step | go_upon | go_back)
  refine (copy_nil _).mono ?_
  rintro e w17 ⟨rfl, hb⟩
  have HB2 := Lib.hid (HB.out.trans (hb.mono HB.out.size))
  clear hb HB
  have HB := HB2
  clear HB2
  try simp only []
  repeat (first | go_values | go_skip | go_guarded | go_step | go_upon | go_back)
  have HBn := Lib.hid (HB.out.alloc HB.out.size (.cells #[.pointer none, .int .u16 0, .int .u64 0, .int .u64 0, .slice none 0 0, .int .i64 0, .int .i64 0, .int .i64 0, .map none, .slice none 0 0] 52))
  refine (give_zero w17.heap.size 1 0 _ (by rw [blk_cell (heap_alloc_new w17 _)]; rfl)).mono ?_
  rintro e w18 ⟨rfl, hb⟩
  have HBz := Lib.hid (HBn.out.trans (hb.mono HBn.out.size))
  clear hb HBn HB
  try simp only []
  repeat (first | go_values | go_skip | go_guarded | go_step | go_upon | go_back)
  go_wp2_with fail
  go_ret
  exact ⟨rfl, HBz.out⟩
theorem own : ownKnob Try.prog.godebug = none := by kernel_rfl
theorem laidOut : laidOutB Try.prog = true := by kernel_rfl

set_option maxRecDepth 100000 in
theorem lifted (os : Os) (started : os.Started) (H : Type) (enc : TypeId × Value → H) :
    ReturnsInHanded {} Try.checked os 6 .any (Rows.poolKnownSpec.pre6 enc Try.prog Try.f6 Rows.poolKnownRow.domain false) (Rows.poolKnownSpec.post enc Try.prog Try.f6 false true false false) := by
  refine returnsInHanded_of_change (C := Try.checked) own started (by kernel_rfl) Try.func6
    (ChangeSpec.witness6 (enc := enc) (C := Try.checked) false ⟨#[], #[], []⟩ 8 (by kernel_rfl) (by kernel_rfl) (by kernel_rfl) (by kernel_rfl)) ?_
  intro W base args ds gs before hval0 hW hcnd _
  have hval : ∀ (j : Nat) t v, Try.f6.params[j]? = some t → args[j]? = some v → Value.okWide Try.prog W .any base t v := hval0
  have hW' := hW
  obtain ⟨p, q, hA0, hV, rfl, hfz, hnd⟩ := hW
  have hA : DataW.TrodAll enc Try.prog W 0 (fun _ => true) true Try.f6.params.toList args.toList ds p := hA0
  rw [Try.params6] at hA hval
  obtain ⟨rfl, rfl, rfl⟩ := trodAll_none hA
  obtain ⟨rfl, rfl⟩ := trodVars_none hV
  clear hA0 hval0
  refine (walk W ).mono fun e W' ⟨he, bel⟩ => ?_
  subst he
  exact ⟨_, rfl, _, _, _, [], _, [], hW', trodAll_mk1 (shut_bool Try.underlying4 _), trodAll_mk0, rfl, bel.frame _, fun h => by cases h⟩

theorem over : Rows.poolKnownRow.holds Try.pinned (OpenSpec.ofChange Rows.poolKnownSpec) :=
  OpenClaim.holds_of_wide 6 Try.f6 rfl rfl rfl rfl rfl rfl rfl ⟨rfl, rfl, rfl, rfl, rfl⟩ rfl rfl rfl rfl rfl (by kernel_rfl) Try.func6 (by kernel_rfl)
    (of_decide_eq_true (by kernel_rfl)) (by unfold Func.isWrapper; first | (rw [if_pos (by decide +kernel)]; kernel_rfl) | (rw [if_neg (by decide +kernel)]; exact ⟨rfl, rfl⟩))
    (fun os started H enc _ => lifted os started H enc)

/-- The statement. -/
theorem proved : Rows.PoolKnownSaid := over
#print axioms proved
end Go.Proofs.Ytlifldionfoddaa.poolKnown
