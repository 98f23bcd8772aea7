/-
  IcmpKnown holds: the chapter's rows, limits, all types. (A closed statement.)
-/
import Derived.Test.YtcdflpfgjodeaaaIcmpLaw
import Derived.Test.YtcdflpfgjodeaaaIcmpCount
import Derived.RegionTactic
import Derived.BigRegion
import Derived.Deep.LoopGhost
import Derived.LoopTactic
import Derived.Deep.CutRange
import Derived.DeepKeys
namespace Go.Proofs.Ytcdflpfgjodeaaa.icmpKnown
set_option maxRecDepth 10000
open Go.ChangeShapes Go.WideShapes Go.ChangeAt Go.RowKit
set_option linter.unusedVariables false
set_option linter.unusedSimpArgs false

def cntV (t c : Nat) : Array Value := #[.int .i64 (totN 0 t + rowN 0 t c), .int .i64 (totN 1 t + rowN 1 t c), .int .i64 (totN 2 t + rowN 2 t c), .int .i64 (totN 3 t + rowN 3 t c)]
def cntO (t c : Nat) : Obj := .cells (cntV t c) 51 (0, 0)
theorem num0 (Z : List Int) : MsgNum ⟨0, 0, 0, Z⟩ := ⟨⟨by simp, by simp⟩, ⟨by simp, by simp⟩, ⟨by simp, by simp⟩⟩
theorem cnt_next (t : Nat) : cntO t 256 = cntO (t + 1) 0 := by simp [cntO, cntV, totN, rowN]
theorem cnt_step {w : World} {z t c k : Nat} {x : Int} (h : w.heap[z]? = some (cntO t c)) (hk : k < 4) (hx : sortM (t : Int) (c : Int) = (k : Int)) :
    w.cell? ⟨z, k, none⟩ = some (.int .i64 (totN k t + rowN k t c)) ∧ w.frozen? ⟨z, k, none⟩ = false ∧ (w.setCell ⟨z, k, none⟩ (.int .i64 (totN k t + rowN k t c + 1))).heap[z]? = some (cntO t (c + 1)) := by
  unfold cntO at h ⊢
  have h0 : k = 0 ∨ k = 1 ∨ k = 2 ∨ k = 3 := by omega
  refine ⟨?_, blk_free h k, ?_⟩
  · rw [blk_cell h]
    rcases h0 with rfl | rfl | rfl | rfl <;> simp [cntV]
  · rw [setCell_block h]
    rcases h0 with rfl | rfl | rfl | rfl <;> simp [cntV, rowN, hx] <;> omega

theorem info_slice9 : (Try.prog.info? 23).map (fun i => (i.size, i.zero)) = some (1, some (.slice none 0 0)) := by kernel_rfl
theorem field3_msg (a b c d : Value) (w : World) : (Instr.field 25 (.agg #[a, b, c, d]) 3).run Try.prog w = .ok d w := by
  have h := info_slice9
  cases hi : Try.prog.info? 23 with
  | none => rw [hi] at h; simp at h
  | some i =>
    rw [hi] at h
    simp at h
    simp [Instr.field, run_underlying Try.underlying25, part, isAgg, run_underlying Try.underlying23, sizeOf, typeInfo, hi, h, Result.andThen, asAgg, go_sem]
def endV : Value := .agg #[.int .i64 64766, .int .i64 1, .int .i64 1, .int .i64 768]
theorem lits4 : Try.prog.keyLits 2 51 endV.cells.toList = some [.int .i64 64766, .int .i64 1, .int .i64 1, .int .i64 768] := by kernel_rfl
theorem same4 (w : World) : (Op.equalIn 10000 51 (.agg #[.int .i64 64766, .int .i64 1, .int .i64 1, .int .i64 768]) (.agg #[.int .i64 64766, .int .i64 1, .int .i64 1, .int .i64 768])).run Try.prog w = .ok true w := by
  obtain ⟨r, hr, hi⟩ := run_equalIn_deep (P := Try.prog) 9998 2 51 (by kernel_rfl) w 2 2 endV endV _ _ (by kernel_rfl) (by kernel_rfl) lits4 lits4
  rw [hi.2 rfl] at hr
  exact hr
set_option maxHeartbeats 8000000 in
theorem walk (w : World) : Calls Try.prog 6 #[] w fun e w' => e = .returned (.bool true) ∧ Below w.heap.size w w' := by
  obtain ⟨z, hz⟩ : ∃ z, w.heap.size = z := ⟨_, rfl⟩
  obtain ⟨W0, e0⟩ : ∃ w0, w.alloc (.cells #[.int .i64 0, .int .i64 0, .int .i64 0, .int .i64 0] 51) = w0 := ⟨_, rfl⟩
  have E0 := Lib.hid e0
  have K0 := Lib.hid (show W0.heap[z]? = some (cntO 0 0) by rw [← e0, ← hz]; exact heap_alloc_new w _)
  have HbW := Lib.hid (show Below w.heap.size w W0 by rw [← e0]; exact (Below.refl _ _).alloc (Nat.le_refl _) _)
  have Hz := Lib.hid hz
  clear e0 hz
  go_enter Try.func6, Try.ntmps6
  go_upto_region 2 with (fail)
  rw [E0.out]
  try rw [Hz.out]
  go_wp2_with fail
  go_loopg [2] 256 (fun gk i wr => ∃ t : Nat, Hid (gk + t = 256) ∧ t ≤ 256 ∧ i = .int .i64 (t : Int) ∧ Hid (wr.heap[z]? = some (cntO t 0)) ∧ Hid (Below w.heap.size w wr))
  case atStart => exact ⟨0, rfl, by omega, rfl, K0, HbW⟩
  case round =>
    obtain ⟨t, hgk, ht, rfl, hk, hb⟩ := hrel
    by_cases ht3 : t < 256
    · have hti : (t : Int) < 256 := by omega
      have hwt : IntKind.u8.wrap (t : Int) = (t : Int) := by (simp [IntKind.wrap, IntKind.bits, IntKind.signed] <;> omega)
      obtain rfl : gk = 256 - t := by have := hgk.out; omega
      clear hgk ht
      go_wp2_with fail
      go_loopg [3] 256 (fun gk2 i wr2 => ∃ c : Nat, Hid (gk2 + c = 256) ∧ c ≤ 256 ∧ i = .int .i64 (c : Int) ∧ Hid (wr2.heap[z]? = some (cntO t c)) ∧ Hid (Below w.heap.size w wr2))
      case atStart => exact ⟨0, rfl, by omega, rfl, hk, hb⟩
      case round =>
        clear hk hb
        obtain ⟨c, hgc, hc, rfl, hk, hb⟩ := hrel
        by_cases hc3 : c < 256
        · have hci : (c : Int) < 256 := by omega
          have hwc : IntKind.u8.wrap (c : Int) = (c : Int) := by (simp [IntKind.wrap, IntKind.bits, IntKind.signed] <;> omega)
          obtain ⟨k, ek, hk4⟩ : ∃ k : Nat, sortM (t : Int) (c : Int) = (k : Int) ∧ k < 4 := by
            rcases sortM_bd (t : Int) (c : Int) with h | h | h | h
            · exact ⟨0, h, by omega⟩
            · exact ⟨1, h, by omega⟩
            · exact ⟨2, h, by omega⟩
            · exact ⟨3, h, by omega⟩
          have Ek := Lib.hid ek
          go_wp2_with fail
          refine (sort8_any (t : Int) (c : Int) 0 none 0 0 (k : Int) _ ek).mono ?_
          rintro e w3 ⟨rfl, hb3⟩
          have hk3 := blk_on hk.out hb3
          have Hb := Lib.hid (hb.out.trans (hb3.mono hb.out.size))
          obtain ⟨hc1, hf1, hs1⟩ := cnt_step (x := 0) hk3 hk4 ek
          have hb1 := rowN_bd k t c
          have hb2 := totN_bd k t
          obtain ⟨V, eV⟩ : ∃ V, totN k t + rowN k t c = V := ⟨_, rfl⟩
          rw [eV] at hc1 hs1
          have hV : 0 ≤ V ∧ V ≤ 65536 + 256 := by omega
          have hV0 := hV.1
          have hV1 := hV.2
          have Hs := Lib.hid hs1
          have Hb2 := Lib.hid (Hb.out.setCell (p := ⟨z, k, none⟩) (by have := Hz.out; simp; omega) (.int .i64 (V + 1)))
          have hk0 : ¬ (k : Int) < 0 := by omega
          have hk5 : ¬ (3 : Int) < (k : Int) := by omega
          have hk6 : (k : Int) < 4 := by omega
          clear hb3 hk3 hs1 hb1 hb2 eV hV ek hk hb
          go_wp2_with fail
          go_roundg (gk - 1)
          case measure => have := hgc.out; omega
          case rel => exact ⟨c + 1, by have := hgc.out; show gk - 1 + (c + 1) = _; omega, by omega, by go_num, Hs, Hb2⟩
        · obtain rfl : c = 256 := by omega
          have hk2 := hk.out
          rw [cnt_next] at hk2
          have Hk2 := Lib.hid hk2
          clear hk2 hk
          go_wp2_with fail
          go_roundg (256 - (t + 1))
          case measure => omega
          case rel => exact ⟨t + 1, (show 256 - (t + 1) + (t + 1) = 256 by omega), by omega, by go_num, Hk2, hb⟩
    · obtain rfl : t = 256 := by omega
      have hk2 := hk.out
      unfold cntO cntV at hk2
      rw [tot0, tot1, tot2, tot3] at hk2
      simp only [rowN, Int.add_zero] at hk2
      have Hk := Lib.hid hk2
      clear hk hk2 hgk ht ht3
      obtain ⟨C1472, hmk1472, hrd1472⟩ : ∃ C, (∀ w, (Instr.makeSlice 23 (.int .i64 1472) (.int .i64 1472)).run Try.prog w = .ok (.slice (some ⟨w.heap.size, 0, none⟩) 1472 1472) (w.alloc (.cells C 5))) ∧ ∀ (w : World) (g : Nat), w.heap.size = g → Rd (w.alloc (.cells C 5)) (some ⟨g, 0, none⟩) 1472 (List.replicate 1472 0) := ⟨madeCells (Value.int .u8 0).cells 1472, fun w => made_run 1472 (by omega) w, fun w g h => made_nums w g h 1472⟩
      have HR1472 := Lib.hid hrd1472
      clear hrd1472
      obtain ⟨C1473, hmk1473, hrd1473⟩ : ∃ C, (∀ w, (Instr.makeSlice 23 (.int .i64 1473) (.int .i64 1473)).run Try.prog w = .ok (.slice (some ⟨w.heap.size, 0, none⟩) 1473 1473) (w.alloc (.cells C 5))) ∧ ∀ (w : World) (g : Nat), w.heap.size = g → Rd (w.alloc (.cells C 5)) (some ⟨g, 0, none⟩) 1473 (List.replicate 1473 0) := ⟨madeCells (Value.int .u8 0).cells 1473, fun w => made_run 1473 (by omega) w, fun w g h => made_nums w g h 1473⟩
      have HR1473 := Lib.hid hrd1473
      clear hrd1473
      obtain ⟨C1481, hmk1481, hrd1481⟩ : ∃ C, (∀ w, (Instr.makeSlice 23 (.int .i64 1481) (.int .i64 1481)).run Try.prog w = .ok (.slice (some ⟨w.heap.size, 0, none⟩) 1481 1481) (w.alloc (.cells C 5))) ∧ ∀ (w : World) (g : Nat), w.heap.size = g → Rd (w.alloc (.cells C 5)) (some ⟨g, 0, none⟩) 1481 (List.replicate 1481 0) := ⟨madeCells (Value.int .u8 0).cells 1481, fun w => made_run 1481 (by omega) w, fun w g h => made_nums w g h 1481⟩
      have HR1481 := Lib.hid hrd1481
      clear hrd1481
      obtain ⟨C69, hmk69, hrd69⟩ : ∃ C, (∀ w, (Instr.makeSlice 23 (.int .i64 69) (.int .i64 69)).run Try.prog w = .ok (.slice (some ⟨w.heap.size, 0, none⟩) 69 69) (w.alloc (.cells C 5))) ∧ ∀ (w : World) (g : Nat), w.heap.size = g → Rd (w.alloc (.cells C 5)) (some ⟨g, 0, none⟩) 69 (List.replicate 69 0) := ⟨madeCells (Value.int .u8 0).cells 69, fun w => made_run 69 (by omega) w, fun w g h => made_nums w g h 69⟩
      have HR69 := Lib.hid hrd69
      clear hrd69
      have hz0 : ∀ x ∈ List.replicate 1472 (0 : Int), 0 ≤ x ∧ x < 256 := fun x hx => by rw [List.eq_of_mem_replicate hx]; omega
      obtain ⟨Z, eZ⟩ : ∃ Z, List.replicate 1472 (0 : Int) = Z := ⟨_, rfl⟩
      have hZl : Z.length = 1472 := by rw [← eZ]; simp
      rw [eZ] at HR1472 hz0
      obtain ⟨L, eL⟩ : ∃ L, msgB ⟨0, 0, 0, Z⟩ = L := ⟨_, rfl⟩
      have hLl : L.length = 1480 := by rw [← eL, msgB_len]; simp [hZl]
      have HL := Lib.hid hLl
      have EL := Lib.hid eL
      have HZl := Lib.hid hZl
      clear eZ hz0 hZl eL hLl
      go_wp2_with fail
      refine (put8_any ⟨0, 0, 0, Z⟩ (some ⟨wr.heap.size, 0, none⟩) 1472 1472 _ L 1480 0 (num0 Z) (by simp [maxLen]) (HR1472.out wr _ rfl) (by unfold errP; rw [if_neg (by rw [HZl.out]; omega)]) (by unfold toldM; rw [if_neg (by rw [HZl.out]; omega)]; exact EL.out) HL.out).mono ?_
      rintro e w3 ⟨A3, c3, rfl, -, -, -, hb3⟩
      have hb3 := on_alloc hb3
      have Hk := Lib.hid (blk_on Hk.out hb3)
      have Hb := Lib.hid (hb.out.trans (hb3.mono hb.out.size))
      clear hb3
      go_wp2_with fail
      refine (put8_bad 0 0 0 (some ⟨w3.heap.size, 0, none⟩) 1473 1473 _ (by omega)).mono ?_
      rintro e w4 ⟨A4, c4, rfl, -, -, -, hb4⟩
      have hb4 := on_alloc hb4
      have Hk := Lib.hid (blk_on Hk.out hb4)
      have Hb := Lib.hid (Hb.out.trans (hb4.mono Hb.out.size))
      clear hb4
      go_wp2_with fail
      refine (parse8_long (some ⟨w4.heap.size, 0, none⟩) 1481 1481 _ (by omega)).mono ?_
      rintro e w5 ⟨rfl, hb5⟩
      have hb5 := (on_alloc hb5).alloc (on_alloc hb5).size (.cells #[.int .u8 0, .int .u8 0, .int .u32 0, .slice none 0 0] 25)
      have Hk := Lib.hid (blk_on Hk.out hb5)
      have Hb := Lib.hid (Hb.out.trans (hb5.mono Hb.out.size))
      clear hb5
      go_upto_region 15 with (fail)
      obtain ⟨v5, e5⟩ : ∃ v, w5.alloc (.cells #[.int .u8 0, .int .u8 0, .int .u32 0, .slice none 0 0] 25) = v := ⟨_, rfl⟩
      try rw [e5]
      rw [e5] at Hk Hb
      clear e5
      go_wp2_with fail
      refine (over8_any (some ⟨v5.heap.size, 0, none⟩) 69 69 (List.replicate 69 0) 68 _ (HR69.out v5 _ rfl) (by simp [maxLen]) (by omega)).mono ?_
      rintro e w6 ⟨A6, c6, rfl, -, -, -, hb6⟩
      have hba := (Below.refl w6.heap.size w6).alloc (Nat.le_refl _) (.cells #[.int .u8 11, .int .u8 0, .int .u32 0, .slice A6 68 c6] 25)
      have hkx := heap_alloc_new w6 (.cells #[.int .u8 11, .int .u8 0, .int .u32 0, .slice A6 68 c6] 25)
      have hb6 := below_trans (on_alloc hb6) hba
      have Hk := Lib.hid (blk_on Hk.out hb6)
      have Hb := Lib.hid (Hb.out.trans (hb6.mono Hb.out.size))
      clear hb6 hba
      go_upto_region 16 with (fail)
      obtain ⟨v6, e6⟩ : ∃ v, w6.alloc (.cells #[.int .u8 11, .int .u8 0, .int .u32 0, .slice A6 68 c6] 25) = v := ⟨_, rfl⟩
      try rw [e6]
      rw [e6] at Hk Hb hkx
      clear e6
      obtain ⟨q0, q1, q2, q3⟩ := cells4 Hk.out
      obtain ⟨x0, x1, x2, x3⟩ := cells4 hkx
      clear hkx
      have heq := fun W => same4 W
      have hfd := field3_msg
      go_wp2_with fail
      refine (over8_any none 0 0 [] 0 _ (Rd.nil _ _) (by simp [maxLen]) (by omega)).mono ?_
      rintro e w7 ⟨A7, c7, rfl, -, -, -, hb7⟩
      have Hb := Lib.hid (Hb.out.trans (hb7.mono Hb.out.size))
      clear hb7 q0 q1 q2 q3 x0 x1 x2 x3
      go_wp2_with fail
      refine (wakes_any _).mono ?_
      rintro e w8 ⟨rfl, hb8⟩
      have Hb := Lib.hid (Hb.out.trans (hb8.mono Hb.out.size))
      clear hb8
      go_wp2_with fail
      go_ret
      exact ⟨rfl, Hb.out⟩
theorem own : ownKnob Try.prog.godebug = none := by kernel_rfl
theorem laidOut : laidOutB Try.prog = true := by kernel_rfl

set_option maxRecDepth 100000 in
theorem lifted (os : Os) (started : os.Started) (H : Type) (enc : TypeId × Value → H) :
    ReturnsInHanded {} Try.checked os 6 .any (Rows.icmpKnownSpec.pre6 enc Try.prog Try.f6 Rows.icmpKnownRow.domain false) (Rows.icmpKnownSpec.post enc Try.prog Try.f6 false true false false) := by
  refine returnsInHanded_of_change (C := Try.checked) own started (by kernel_rfl) Try.func6
    (ChangeSpec.witness6 (enc := enc) (C := Try.checked) false ⟨#[], #[], []⟩ 8 (by kernel_rfl) (by kernel_rfl) (by kernel_rfl) (by kernel_rfl)) ?_
  intro W base args ds gs before hval0 hW hcnd _
  have hval : ∀ (j : Nat) t v, Try.f6.params[j]? = some t → args[j]? = some v → Value.okWide Try.prog W .any base t v := hval0
  have hW' := hW
  obtain ⟨p, q, hA0, hV, rfl, hfz, hnd⟩ := hW
  have hA : DataW.TrodAll enc Try.prog W 0 (fun _ => true) true Try.f6.params.toList args.toList ds p := hA0
  rw [Try.params6] at hA hval
  obtain ⟨rfl, rfl, rfl⟩ := trodAll_none hA
  obtain ⟨rfl, rfl⟩ := trodVars_none hV
  clear hA0 hval0
  refine (walk W ).mono fun e W' ⟨he, bel⟩ => ?_
  subst he
  exact ⟨_, rfl, _, _, _, [], _, [], hW', trodAll_mk1 (shut_bool Try.underlying4 _), trodAll_mk0, rfl, bel.frame _, fun h => by cases h⟩

theorem over : Rows.icmpKnownRow.holds Try.pinned (OpenSpec.ofChange Rows.icmpKnownSpec) :=
  OpenClaim.holds_of_wide 6 Try.f6 rfl rfl rfl rfl rfl rfl rfl ⟨rfl, rfl, rfl, rfl, rfl⟩ rfl rfl rfl rfl rfl (by kernel_rfl) Try.func6 (by kernel_rfl)
    (of_decide_eq_true (by kernel_rfl)) (by unfold Func.isWrapper; first | (rw [if_pos (by decide +kernel)]; kernel_rfl) | (rw [if_neg (by decide +kernel)]; exact ⟨rfl, rfl⟩))
    (fun os started H enc _ => lifted os started H enc)

/-- The statement. -/
theorem proved : Rows.IcmpKnownSaid := over
#print axioms proved
end Go.Proofs.Ytcdflpfgjodeaaa.icmpKnown
