/-
  UdpKnown holds: the document's examples; ends. A closed statement: no condition.
-/
import Derived.Test.YtoblllgefmajiaaUdpLaw
import Derived.Test.YtoblllgefmajiaaMade
import Derived.RegionTactic
import Derived.BigRegion
namespace Go.Proofs.Ytoblllgefmajiaa.udpKnown
set_option maxRecDepth 10000
open Go.ChangeShapes Go.WideShapes Go.ChangeAt Go.RowKit
set_option linter.unusedVariables false
set_option linter.unusedSimpArgs false

theorem k_short7 : errU 0 0 [0, 1, 0, 2, 0, 8, 255] = 4 := by decide +kernel
theorem k_short0 : errU 0 0 [] = 4 := by decide +kernel
theorem k_long : errU 1 2 (List.replicate 1481 0) = 3 := by unfold errU; rw [if_pos (by simp)]
theorem k_ones : ∃ L : List Int, dgB 4294967295 4294967295 ⟨65535, 65500, [0, 2]⟩ = L ∧ L.length = 10 ∧ (L.getD 6 0 ≠ 0) := ⟨_, rfl, by decide +kernel, by decide +kernel⟩
theorem num_z : DgNum ⟨0, 0, List.replicate 1472 0⟩ := ⟨by simp, by simp⟩

set_option maxHeartbeats 4000000 in
theorem walk (w : World) :
    Calls Try.prog 14 #[] w fun e w' => e = .returned (.bool true) ∧ Below w.heap.size w w' := by
  obtain ⟨C1472, e1472, k1472⟩ : ∃ C1472, madeCells #[Value.int .u8 0] 1472 = C1472 ∧ ∀ w, (Instr.makeSlice 25 (.int .i64 1472) (.int .i64 1472)).run Try.prog w = .ok (.slice (some ⟨w.heap.size, 0, none⟩) 1472 1472) (w.alloc (.cells C1472 5)) := ⟨_, rfl, fun w => made_run 1472 (by omega) w⟩
  have R1472 := Lib.hid (show ∀ (v : World) (g : Nat), v.heap.size = g → Rd (v.alloc (.cells C1472 5)) (some ⟨g, 0, none⟩) 1472 (List.replicate 1472 0) from fun v g hg => by rw [← e1472]; exact made_lit v g hg 1472)
  clear e1472
  obtain ⟨C1473, e1473, k1473⟩ : ∃ C1473, madeCells #[Value.int .u8 0] 1473 = C1473 ∧ ∀ w, (Instr.makeSlice 25 (.int .i64 1473) (.int .i64 1473)).run Try.prog w = .ok (.slice (some ⟨w.heap.size, 0, none⟩) 1473 1473) (w.alloc (.cells C1473 5)) := ⟨_, rfl, fun w => made_run 1473 (by omega) w⟩
  have R1473 := Lib.hid (show ∀ (v : World) (g : Nat), v.heap.size = g → Rd (v.alloc (.cells C1473 5)) (some ⟨g, 0, none⟩) 1473 (List.replicate 1473 0) from fun v g hg => by rw [← e1473]; exact made_lit v g hg 1473)
  clear e1473
  obtain ⟨C1481, e1481, k1481⟩ : ∃ C1481, madeCells #[Value.int .u8 0] 1481 = C1481 ∧ ∀ w, (Instr.makeSlice 25 (.int .i64 1481) (.int .i64 1481)).run Try.prog w = .ok (.slice (some ⟨w.heap.size, 0, none⟩) 1481 1481) (w.alloc (.cells C1481 5)) := ⟨_, rfl, fun w => made_run 1481 (by omega) w⟩
  have R1481 := Lib.hid (show ∀ (v : World) (g : Nat), v.heap.size = g → Rd (v.alloc (.cells C1481 5)) (some ⟨g, 0, none⟩) 1481 (List.replicate 1481 0) from fun v g hg => by rw [← e1481]; exact made_lit v g hg 1481)
  clear e1481
  obtain ⟨LX, eLX, nLX, xLX⟩ := k_ones
  go_enter Try.func14, Try.ntmps14
  go_wp2_with fail
  refine (uput_told 1 2 0 0 (List.replicate 1472 0) (some ⟨w.heap.size, 0, none⟩) 1472 1472 1480 _ _ num_z (by simp [maxLen]) (R1472.out w _ rfl) (by omega) rfl rfl).mono ?_
  rintro e w1 ⟨A1, c1, rfl, k1, m1, ho1, hb1⟩
  have Hb := Lib.hid (on_alloc hb1)
  clear ho1 hb1 k1472 R1472
  go_wp2_with fail
  refine (uput_bad 1 2 0 0 (some ⟨w1.heap.size, 0, none⟩) 1473 1473 _ (by omega)).mono ?_
  rintro e w2 ⟨rfl, hb2⟩
  have Hb := Lib.hid (below_trans Hb.out (on_alloc hb2))
  clear hb2 k1473 R1473
  go_wp2_with fail
  obtain ⟨v2, ev⟩ : ∃ v, w2 = v := ⟨_, rfl⟩
  rw [ev] at Hb ⊢
  clear ev
  refine (uparse_x 1 2 (some ⟨v2.heap.size, 0, none⟩) 1481 1481 (List.replicate 1481 0) 3 _ (by simp [maxLen]) (R1481.out v2 _ rfl) k_long).mono ?_
  rintro e w3 ⟨a3, b3, A3, n3, m3, rfl, hb3⟩
  have hb' := below_trans (on_alloc hb3) ((Below.refl w3.heap.size w3).alloc (Nat.le_refl _) (.cells #[.int .u16 a3, .int .u16 b3, .slice A3 n3 m3] 57))
  have Hb := Lib.hid (below_trans Hb.out hb')
  clear hb3 hb'
  go_wp2_with fail
  have hv3 := Lib.hid (show (w3.alloc (.cells #[.int .u16 a3, .int .u16 b3, .slice A3 n3 m3] 57)).heap.size = w3.heap.size + 1 by simp)
  obtain ⟨v3, ev⟩ : ∃ v, w3.alloc (.cells #[.int .u16 a3, .int .u16 b3, .slice A3 n3 m3] 57) = v := ⟨_, rfl⟩
  rw [ev] at Hb hv3 ⊢
  clear ev
  clear k1481 R1481
  refine (uparse_x 0 0 (some ⟨w3.heap.size + 1, 0, none⟩) 7 7 [0, 1, 0, 2, 0, 8, 255] 4 _ (by simp [maxLen]) (Rd.const_ v3 (w3.heap.size + 1) hv3.out [0, 1, 0, 2, 0, 8, 255] 5 (0, 0) (by decide)) k_short7).mono ?_
  rintro e w4 ⟨a4, b4, A4, n4, m4, rfl, hb4⟩
  have hb' := below_trans (on_alloc hb4) ((Below.refl w4.heap.size w4).alloc (Nat.le_refl _) (.cells #[.int .u16 a4, .int .u16 b4, .slice A4 n4 m4] 57))
  have Hb := Lib.hid (below_trans Hb.out hb')
  clear hb4 hb'
  go_wp2_with fail
  have hv4 := Lib.hid (show (w4.alloc (.cells #[.int .u16 a4, .int .u16 b4, .slice A4 n4 m4] 57)).heap.size = w4.heap.size + 1 by simp)
  obtain ⟨v4, ev⟩ : ∃ v, w4.alloc (.cells #[.int .u16 a4, .int .u16 b4, .slice A4 n4 m4] 57) = v := ⟨_, rfl⟩
  rw [ev] at Hb hv4 ⊢
  clear ev
  refine (uparse_x 0 0 none 0 0 [] 4 _ (by simp [maxLen]) (Rd.nil _ _) k_short0).mono ?_
  rintro e w5 ⟨a5, b5, A5, n5, m5, rfl, hb5⟩
  have hb' := below_trans (id hb5) ((Below.refl w5.heap.size w5).alloc (Nat.le_refl _) (.cells #[.int .u16 a5, .int .u16 b5, .slice A5 n5 m5] 57))
  have Hb := Lib.hid (below_trans Hb.out hb')
  clear hb5 hb'
  go_wp2_with fail
  have hv5 := Lib.hid (show (w5.alloc (.cells #[.int .u16 a5, .int .u16 b5, .slice A5 n5 m5] 57)).heap.size = w5.heap.size + 1 by simp)
  obtain ⟨v5, ev⟩ : ∃ v, w5.alloc (.cells #[.int .u16 a5, .int .u16 b5, .slice A5 n5 m5] 57) = v := ⟨_, rfl⟩
  rw [ev] at Hb hv5 ⊢
  clear ev
  refine (uput_told 4294967295 4294967295 65535 65500 [0, 2] (some ⟨w5.heap.size + 1, 0, none⟩) 2 2 10 LX _ ⟨by decide, by decide⟩ (by simp [maxLen]) (Rd.const_ v5 (w5.heap.size + 1) hv5.out [0, 2] 5 (0, 0) (by decide)) (by omega) rfl eLX).mono ?_
  rintro e w6 ⟨A6, c6, rfl, k6, m6, ho6, hb6⟩
  have Hb := Lib.hid (below_trans Hb.out (on_alloc hb6))
  obtain ⟨g6, rfl, hg6, -⟩ := ho6.addr (by omega)
  have Ho6 := Lib.hid ho6
  clear hb6 ho6
  go_wp2_with fail
  refine (uawake_any _).mono ?_
  rintro e w7 ⟨rfl, hb7⟩
  have Ho6 := Lib.hid (Ho6.out.on hb7)
  have Hb := Lib.hid (below_trans Hb.out hb7)
  have hc7 := Ho6.out.cell 6 (by omega)
  have hx7 : (LX.getD 6 0 != 0) = true := by simpa using xLX
  clear hb7 xLX
  obtain ⟨y, ey⟩ : ∃ y, LX.getD 6 0 = y := ⟨_, rfl⟩
  rw [ey] at hc7 hx7
  clear ey
  go_wp2_with fail
  go_ret
  exact ⟨rfl, Hb.out⟩
theorem own : ownKnob Try.prog.godebug = none := by kernel_rfl
theorem laidOut : laidOutB Try.prog = true := by kernel_rfl

set_option maxRecDepth 100000 in
theorem lifted (os : Os) (started : os.Started) (H : Type) (enc : TypeId × Value → H) :
    ReturnsInHanded {} Try.checked os 14 .any (Rows.udpKnownSpec.pre6 enc Try.prog Try.f14 Rows.udpKnownRow.domain false) (Rows.udpKnownSpec.post enc Try.prog Try.f14 false true false false) := by
  refine returnsInHanded_of_change (C := Try.checked) own started (by kernel_rfl) Try.func14
    (ChangeSpec.witness6 (enc := enc) (C := Try.checked) false ⟨#[], #[], []⟩ 8 (by kernel_rfl) (by kernel_rfl) (by kernel_rfl) (by kernel_rfl)) ?_
  intro W base args ds gs before hval0 hW hcnd _
  have hval : ∀ (j : Nat) t v, Try.f14.params[j]? = some t → args[j]? = some v → Value.okWide Try.prog W .any base t v := hval0
  have hW' := hW
  obtain ⟨p, q, hA0, hV, rfl, hfz, hnd⟩ := hW
  have hA : DataW.TrodAll enc Try.prog W 0 (fun _ => true) true Try.f14.params.toList args.toList ds p := hA0
  rw [Try.params14] at hA hval
  obtain ⟨rfl, rfl, rfl⟩ := trodAll_none hA
  obtain ⟨rfl, rfl⟩ := trodVars_none hV
  clear hA0 hval0
  refine (walk W ).mono fun e W' ⟨he, bel⟩ => ?_
  subst he
  exact ⟨_, rfl, _, _, _, [], _, [], hW', trodAll_mk1 (shut_bool Try.underlying4 _), trodAll_mk0, rfl, bel.frame _, fun h => by cases h⟩

theorem over : Rows.udpKnownRow.holds Try.pinned (OpenSpec.ofChange Rows.udpKnownSpec) :=
  OpenClaim.holds_of_wide 14 Try.f14 rfl rfl rfl rfl rfl rfl rfl ⟨rfl, rfl, rfl, rfl, rfl⟩ rfl rfl rfl rfl rfl (by kernel_rfl) Try.func14 (by kernel_rfl)
    (of_decide_eq_true (by kernel_rfl)) (by unfold Func.isWrapper; first | (rw [if_pos (by decide +kernel)]; kernel_rfl) | (rw [if_neg (by decide +kernel)]; exact ⟨rfl, rfl⟩))
    (fun os started H enc _ => lifted os started H enc)

/-- The statement. -/
theorem proved : Rows.UdpKnownSaid := over
#print axioms proved
end Go.Proofs.Ytoblllgefmajiaa.udpKnown
