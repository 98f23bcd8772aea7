/-
  ForwardCalls holds: each call of forward tells what the document tells, of any configuration, any list of at most 70, any tuple; what the caller turns afterwards changes no table.
-/
import Derived.Test.YtknmpfdmjfbpdaaFwBackP
import Derived.Test.YtknmpfdmjfbpdaaFwWakes
import Derived.Test.YtknmpfdmjfbpdaaFwOpen
import Derived.Test.YtknmpfdmjfbpdaaFwAny
import Derived.Test.YtknmpfdmjfbpdaaFwInw
import Derived.Test.YtknmpfdmjfbpdaaFwRefMay
import Derived.Test.YtknmpfdmjfbpdaaFwRefOut
import Derived.Test.YtknmpfdmjfbpdaaFwGoIn
import Derived.Test.YtknmpfdmjfbpdaaFwGoOut
import Derived.RegionTactic
import Derived.Deep.DeepCutAuto
import Derived.Deep.CutRange
import Derived.BigRegion
namespace Go.Proofs.Ytknmpfdmjfbpdaa.forwardCalls
set_option maxRecDepth 10000
open Go.ChangeShapes Go.WideShapes Go.ChangeAt Go.RowKit
set_option linter.unusedVariables false
set_option linter.unusedSimpArgs false

set_option maxHeartbeats 2000000 in
theorem walk (w : World) (v0 : Value) (k0 : CfgAt w v0) (v1 : Value) (k1 : FwsAt w v1) (v2 : Value) (k2 : TuAt w v2) (outer : Int) (w3 : (Lit.int .u32 outer).wf = true) :
    Calls Try.prog 3 #[v0, v1, v2, .int .u32 outer] w (fun e w' => e = .returned (.bool true) ∧ Below w.heap.size w w') := by
  obtain ⟨k, rfl⟩ := k0
  obtain ⟨A, n, c, L, rfl, hnc, hcm, hn, hr, hnil⟩ := k1
  obtain ⟨x, rfl⟩ := k2
  clear w3
  obtain ⟨w0, ew⟩ : ∃ w0, (w.alloc (.cells #[.int .u32 k.ins, .int .u32 k.msk, k.v2, .int .u16 k.lo, .int .u16 k.hi, k.v5, k.v6, k.v7, k.v8, k.v9, k.va, k.vb, k.vc, k.vd, k.ve, k.vf, k.vg, k.vh, k.vi] 29)).alloc (.cells #[.int .u8 x.pr, .int .u32 x.sr, .int .u32 x.ds, .int .u16 x.sp, .int .u16 x.dp] 31) = w0 := ⟨_, rfl⟩
  obtain ⟨z, hz⟩ : ∃ z, w.heap.size = z := ⟨_, rfl⟩
  have hb0 : Below w.heap.size w w0 := by rw [← ew]; exact ((Below.refl _ _).alloc (Nat.le_refl _) _).alloc (by simp) _
  have hk0 : w0.heap[z]? = some (.cells #[.int .u32 k.ins, .int .u32 k.msk, k.v2, .int .u16 k.lo, .int .u16 k.hi, k.v5, k.v6, k.v7, k.v8, k.v9, k.va, k.vb, k.vc, k.vd, k.ve, k.vf, k.vg, k.vh, k.vi] 29 (0, 0)) := by rw [← ew, Below.heap_alloc _ _ _ (by simp [hz]), ← hz]; exact heap_alloc_new w _
  have hk1 : w0.heap[z + 1]? = some (.cells #[.int .u8 x.pr, .int .u32 x.sr, .int .u32 x.ds, .int .u16 x.sp, .int .u16 x.dp] 31 (0, 0)) := by
    rw [← ew, ← hz]; simpa using heap_alloc_new (w.alloc (.cells #[.int .u32 k.ins, .int .u32 k.msk, k.v2, .int .u16 k.lo, .int .u16 k.hi, k.v5, k.v6, k.v7, k.v8, k.v9, k.va, k.vb, k.vc, k.vd, k.ve, k.vf, k.vg, k.vh, k.vi] 29)) (.cells #[.int .u8 x.pr, .int .u32 x.sr, .int .u32 x.ds, .int .u16 x.sp, .int .u16 x.dp] 31)
  have hr0 := hr.below hb0
  have HX := Lib.hid (show ∀ W, Below w0.heap.size w0 W → W.heap[z]? = some (.cells #[.int .u32 k.ins, .int .u32 k.msk, k.v2, .int .u16 k.lo, .int .u16 k.hi, k.v5, k.v6, k.v7, k.v8, k.v9, k.va, k.vb, k.vc, k.vd, k.ve, k.vf, k.vg, k.vh, k.vi] 29 (0, 0)) ∧ W.heap[z + 1]? = some (.cells #[.int .u8 x.pr, .int .u32 x.sr, .int .u32 x.ds, .int .u16 x.sp, .int .u16 x.dp] 31 (0, 0)) ∧ RdW W A L from fun W hW => ⟨blk_on hk0 hW, blk_on hk1 hW, hr0.below hW⟩)
  have Hn := Lib.hid hn
  have Hb0 := Lib.hid hb0
  have Ew := Lib.hid ew
  have Hz := Lib.hid hz
  by_cases hbig : 70 < n
  · have g1 : (70 : Int) < (n : Int) := by omega
    clear hr hr0 hnil hnc hcm hn hb0 hk0 hk1 ew hz hbig
    go_enter Try.func3, Try.ntmps3
    go_upto_region 1 with (fail)
    rw [Ew.out]
    try rw [Hz.out]
    go_wp2_with fail
    refine (wakes14_any _).mono ?_
    rintro e w1 ⟨rfl, hb1⟩
    have HB1 := Lib.hid (below_trans Hb0.out hb1)
    clear hb1
    go_wp2_with fail
    go_ret
    exact ⟨rfl, HB1.out⟩
  · have g1 : ¬ (70 : Int) < (n : Int) := by omega
    have Hn70 := Lib.hid (show n ≤ 70 by omega)
    obtain ⟨B, d, w1, hrun, hs1, hbut, hown⟩ := fw_app w0 none 0 0 [] (.inl ⟨rfl, rfl, rfl⟩) A n c L hr0 hn hnil (by omega)
    rw [Nat.zero_add] at hrun hs1 hown
    rw [List.nil_append] at hs1
    have Hrun := Lib.hid hrun
    have HS1 := Lib.hid hs1
    have HB1 := Lib.hid (show Below w0.heap.size w0 w1 from hbut.below (fun k hk => by cases hk) (Nat.le_refl _))
    have Hown := Lib.hid (show ∀ b, (Value.slice B n d).ownBlock = some b → w0.heap.size ≤ b ∧ b < w1.heap.size from fun b hb => by
      refine ⟨?_, hs1.lt hb⟩
      rcases hown with h1 | h1
      · rw [hb] at h1; cases h1
      · rw [hb] at h1; injection h1 with h1; omega)
    clear hr hr0 hnil hnc hcm hn hb0 hk0 hk1 ew hz hbig hrun hs1 hbut hown
    go_enter Try.func3, Try.ntmps3
    go_upto_region 1 with (fail)
    rw [Ew.out]
    try rw [Hz.out]
    go_upto_region 4 with (at_builtin; refine wpList_appX rfl (.const (.slice none 0 0)) (.tmp 32) _ _ rfl rfl _ _ _ w1 rfl rfl Hrun.out ?_)
    try simp only []
    repeat (first | go_values | go_skip | ((fail_if_success (with_reducible refine wpList_row 29 (.tmp 4) rfl ?_ ?_ ?_ ?_ ?_ ?_ ?_ ?_ ?_ ?_ ?_ ?_)); (first | go_step | go_upon | go_back)))
    refine wpList_row 29 (.tmp 4) rfl ?hww z _ _ _ _ (HX.out _ HB1.out).1 rfl Try.underlying29 rfl (by kernel_rfl) ?_
    case hww => kernel_rfl
    (try simp only [Act.put, List.setIfInBounds_toArray, List.set_cons_zero, List.set_cons_succ])
    go_wp2_with fail
    by_cases hmay : FwMay (okF k) L
    · have HMay := Lib.hid hmay
      refine (new_ok k B n d L w1 (RdW.of HS1.out Hn.out) Hn.out (by have := Hn70.out; omega) hmay).mono ?_
      rintro e w2 ⟨g, S, rfl, hmem, hS, hb2⟩
      have HX2 := Lib.hid (show ∀ W, Below w2.heap.size w2 W → W.heap[z]? = some (.cells #[.int .u32 k.ins, .int .u32 k.msk, k.v2, .int .u16 k.lo, .int .u16 k.hi, k.v5, k.v6, k.v7, k.v8, k.v9, k.va, k.vb, k.vc, k.vd, k.ve, k.vf, k.vg, k.vh, k.vi] 29 (0, 0)) ∧ W.heap[z + 1]? = some (.cells #[.int .u8 x.pr, .int .u32 x.sr, .int .u32 x.ds, .int .u16 x.sp, .int .u16 x.dp] 31 (0, 0)) ∧ RdW W A L from fun W hW => HX.out W (below_trans (below_trans HB1.out hb2) hW))
      have HMem := Lib.hid hmem
      have HSge := Lib.hid hS
      have HB2 := Lib.hid (below_trans HB1.out hb2)
      have Hb2 := Lib.hid hb2
      clear hmay hmem hS hb2
      go_upto_region 5 with (fail)
      have HSS := Lib.hid (show ∀ W, Below w2.heap.size w2 W → W.heap[z]? = some (.cells #[.int .u32 k.ins, .int .u32 k.msk, k.v2, .int .u16 k.lo, .int .u16 k.hi, k.v5, k.v6, k.v7, k.v8, k.v9, k.va, k.vb, k.vc, k.vd, k.ve, k.vf, k.vg, k.vh, k.vi] 29 (0, 0)) ∧ W.cell? ⟨z + 1, 1, none⟩ = some (.int .u32 x.sr) from fun W hW => ⟨(HX2.out W hW).1, (cells5 (HX2.out W hW).2.1).2.1⟩)
      go_cut [65] (fun v wx => v = .bool false ∧ Hid (Below w2.heap.size w2 wx))
      case first =>
        refine wp_region_noPanic ?_
        refine wp_region_held_drew (S := fun W => W.heap[z]? = some (.cells #[.int .u32 k.ins, .int .u32 k.msk, k.v2, .int .u16 k.lo, .int .u16 k.hi, k.v5, k.v6, k.v7, k.v8, k.v9, k.va, k.vb, k.vc, k.vd, k.ve, k.vf, k.vg, k.vh, k.vi] 29 (0, 0)) ∧ W.cell? ⟨z + 1, 1, none⟩ = some (.int .u32 x.sr)) (by kernel_rfl) (HSS.out _ (Below.refl _ _).drew) (fun hHeld => ?_)
        obtain ⟨wd, ewd⟩ : ∃ wd, w2.drew = wd := ⟨_, rfl⟩
        have HBu := Lib.hid (show Below w2.heap.size w2 wd by rw [← ewd]; exact (Below.refl _ _).drew)
        rw [ewd] at hHeld ⊢
        clear ewd
        obtain ⟨iv, eiv⟩ : ∃ iv, insB k x.sr = iv := ⟨_, rfl⟩
        have Hiv := Lib.hid eiv
        clear eiv
        have Hbm := Lib.hid (show true = true ↔ FwMay (okF k) L from ⟨fun _ => HMay.out, fun _ => rfl⟩)
        cases iv with
        | true =>
          refine wpAnyH_take (i := 0) (oi := { dst := some 40, op := Go.Op.move (Go.Operand.tmp 11), type := 34, pos := "law.go:32", after := #[], guard := none }) (v := ?_) rfl (by kernel_rfl) (by kernel_rfl) (by kernel_rfl) (fun _ _ _ h => h) (Or.inl ⟨by rfl, ?_⟩) (by assumption) ?_
          rotate_left 1
          · intro w' hSw; (go_simp <;> (with_reducible rfl))
          (try simp only [Act.put, List.setIfInBounds_toArray, List.set_cons_zero, List.set_cons_succ])
          refine wpAnyH_take (i := 1) (oi := { dst := some 41, op := Go.Op.binOp Go.BinOp.eql 34 (Go.Operand.tmp 40) (Go.Operand.const (Go.Value.int Go.IntKind.i64 0)) 34, type := 4, pos := "law.go:32", after := #[{ on := 0, ground := Go.Ground.data }], guard := none }) (v := ?_) rfl (by kernel_rfl) (by kernel_rfl) (by kernel_rfl) (fun _ _ _ h => h) (Or.inl ⟨by rfl, ?_⟩) (by assumption) ?_
          rotate_left 1
          · intro w' hSw; (go_simp <;> (with_reducible rfl))
          (try simp only [Act.put, List.setIfInBounds_toArray, List.set_cons_zero, List.set_cons_succ])
          refine wpAnyH_take (i := 2) (oi := { dst := some 42, op := Go.Op.load 29 (Go.Operand.tmp 4), type := 29, pos := "law.go:32", after := #[], guard := none }) (v := .agg #[.int .u32 k.ins, .int .u32 k.msk, k.v2, .int .u16 k.lo, .int .u16 k.hi, k.v5, k.v6, k.v7, k.v8, k.v9, k.va, k.vb, k.vc, k.vd, k.ve, k.vf, k.vg, k.vh, k.vi]) rfl (by kernel_rfl) (by kernel_rfl) (by kernel_rfl) (fun _ _ _ h => h) (Or.inl ⟨by rfl, fun w' hSw => exec_row 29 (.tmp 4) rfl z _ _ _ _ (hSw.1) rfl Try.underlying29 rfl (by kernel_rfl)⟩) (by assumption) ?_
          (try simp only [Act.put, List.setIfInBounds_toArray, List.set_cons_zero, List.set_cons_succ])
          refine wpAnyH_take (i := 3) (oi := { dst := some 43, op := Go.Op.move (Go.Operand.tmp 1), type := 27, pos := "law.go:32", after := #[], guard := none }) (v := ?_) rfl (by kernel_rfl) (by kernel_rfl) (by kernel_rfl) (fun _ _ _ h => h) (Or.inl ⟨by rfl, ?_⟩) (by assumption) ?_
          rotate_left 1
          · intro w' hSw; (go_simp <;> (with_reducible rfl))
          (try simp only [Act.put, List.setIfInBounds_toArray, List.set_cons_zero, List.set_cons_succ])
          refine wpAnyH_ready (rs := [4]) (by kernel_rfl) (by simp) ?_
          refine AllReadyH.cons (o := { dst := some 44, op := Go.Op.call { callee := Go.Callee.value (Go.Operand.func 9), args := #[Go.Operand.tmp 42, Go.Operand.tmp 43], argTypes := #[29, 27] }, type := 4, pos := "law.go:32", after := #[{ on := 2, ground := Go.Ground.data }, { on := 3, ground := Go.Ground.data }], guard := none }) rfl (fun K hK => ?_) AllReadyH.nil
          go_simp
          (refine (rmay14_any k A n c L _ _ (HX2.out _ HBu.out).2.2 Hn.out (by have := Hn70.out; omega) Hbm.out).mono ?_; rintro e u1 ⟨rfl, hb⟩; have HBu := Lib.hid (below_trans HBu.out hb); clear hb)
          refine hK.out _ _ ?_ (fun hHeld => ?_)
          · exact HSS.out _ HBu.out
          clear hK K
          (try simp only [Act.put, List.setIfInBounds_toArray, List.set_cons_zero, List.set_cons_succ])
          refine wpAnyH_take (i := 5) (oi := { dst := some 45, op := Go.Op.binOp Go.BinOp.neq 4 (Go.Operand.tmp 41) (Go.Operand.tmp 44) 4, type := 4, pos := "law.go:32", after := #[{ on := 1, ground := Go.Ground.data }, { on := 4, ground := Go.Ground.data }], guard := none }) (v := ?_) rfl (by kernel_rfl) (by kernel_rfl) (by kernel_rfl) (fun _ _ _ h => h) (Or.inl ⟨by rfl, ?_⟩) (by assumption) ?_
          rotate_left 1
          · intro w' hSw; (go_simp <;> (with_reducible rfl))
          (try simp only [Act.put, List.setIfInBounds_toArray, List.set_cons_zero, List.set_cons_succ])
          refine wpAnyH_take (i := 6) (oi := { dst := some 46, op := Go.Op.move (Go.Operand.tmp 45), type := 4, pos := "law.go:32", after := #[{ on := 5, ground := Go.Ground.data }, { on := 4, ground := Go.Ground.chain }], guard := none }) (v := ?_) rfl (by kernel_rfl) (by kernel_rfl) (by kernel_rfl) (fun _ _ _ h => h) (Or.inl ⟨by rfl, ?_⟩) (by assumption) ?_
          rotate_left 1
          · intro w' hSw; (go_simp <;> (with_reducible rfl))
          (try simp only [Act.put, List.setIfInBounds_toArray, List.set_cons_zero, List.set_cons_succ])
          refine wpAnyH_take (i := 7) (oi := { dst := some 47, op := Go.Op.load 29 (Go.Operand.tmp 4), type := 29, pos := "law.go:32", after := #[{ on := 6, ground := Go.Ground.guard }], guard := some (6, false) }) (v := .agg #[.int .u32 k.ins, .int .u32 k.msk, k.v2, .int .u16 k.lo, .int .u16 k.hi, k.v5, k.v6, k.v7, k.v8, k.v9, k.va, k.vb, k.vc, k.vd, k.ve, k.vf, k.vg, k.vh, k.vi]) rfl (by kernel_rfl) (by kernel_rfl) (by kernel_rfl) (fun _ _ _ h => h) (Or.inl ⟨by rfl, fun w' hSw => exec_row 29 (.tmp 4) rfl z _ _ _ _ (hSw.1) rfl Try.underlying29 rfl (by kernel_rfl)⟩) (by assumption) ?_
          (try simp only [Act.put, List.setIfInBounds_toArray, List.set_cons_zero, List.set_cons_succ])
          refine wpAnyH_take (i := 8) (oi := { dst := some 48, op := Go.Op.move (Go.Operand.tmp 1), type := 27, pos := "law.go:32", after := #[{ on := 6, ground := Go.Ground.guard }], guard := some (6, false) }) (v := ?_) rfl (by kernel_rfl) (by kernel_rfl) (by kernel_rfl) (fun _ _ _ h => h) (Or.inl ⟨by rfl, ?_⟩) (by assumption) ?_
          rotate_left 1
          · intro w' hSw; (go_simp <;> (with_reducible rfl))
          (try simp only [Act.put, List.setIfInBounds_toArray, List.set_cons_zero, List.set_cons_succ])
          refine wpAnyH_take (i := 10) (oi := { dst := some 50, op := Go.Op.load 29 (Go.Operand.tmp 4), type := 29, pos := "law.go:32", after := #[{ on := 6, ground := Go.Ground.guard }], guard := some (6, false) }) (v := .agg #[.int .u32 k.ins, .int .u32 k.msk, k.v2, .int .u16 k.lo, .int .u16 k.hi, k.v5, k.v6, k.v7, k.v8, k.v9, k.va, k.vb, k.vc, k.vd, k.ve, k.vf, k.vg, k.vh, k.vi]) rfl (by kernel_rfl) (by kernel_rfl) (by kernel_rfl) (fun _ _ _ h => h) (Or.inl ⟨by rfl, fun w' hSw => exec_row 29 (.tmp 4) rfl z _ _ _ _ (hSw.1) rfl Try.underlying29 rfl (by kernel_rfl)⟩) (by assumption) ?_
          (try simp only [Act.put, List.setIfInBounds_toArray, List.set_cons_zero, List.set_cons_succ])
          refine wpAnyH_take (i := 11) (oi := { dst := some 51, op := Go.Op.move (Go.Operand.tmp 1), type := 27, pos := "law.go:32", after := #[{ on := 6, ground := Go.Ground.guard }], guard := some (6, false) }) (v := ?_) rfl (by kernel_rfl) (by kernel_rfl) (by kernel_rfl) (fun _ _ _ h => h) (Or.inl ⟨by rfl, ?_⟩) (by assumption) ?_
          rotate_left 1
          · intro w' hSw; (go_simp <;> (with_reducible rfl))
          (try simp only [Act.put, List.setIfInBounds_toArray, List.set_cons_zero, List.set_cons_succ])
          refine wpAnyH_ready (rs := [9]) (by kernel_rfl) (by simp) ?_
          refine AllReadyH.cons (o := { dst := some 49, op := Go.Op.call { callee := Go.Callee.value (Go.Operand.func 10), args := #[Go.Operand.tmp 47, Go.Operand.tmp 48], argTypes := #[29, 27] }, type := 4, pos := "law.go:32", after := #[{ on := 7, ground := Go.Ground.data }, { on := 8, ground := Go.Ground.data }, { on := 6, ground := Go.Ground.chain }, { on := 6, ground := Go.Ground.guard }], guard := some (6, false) }) rfl (fun K hK => ?_) AllReadyH.nil
          go_simp
          (refine (may_any k A n c L _ _ (HX2.out _ HBu.out).2.2 Hn.out (by have := Hn70.out; omega) Hbm.out).mono ?_; rintro e u2 ⟨rfl, hb⟩; have HBu := Lib.hid (below_trans HBu.out hb); clear hb)
          refine hK.out _ _ ?_ (fun hHeld => ?_)
          · exact HSS.out _ HBu.out
          clear hK K
          (try simp only [Act.put, List.setIfInBounds_toArray, List.set_cons_zero, List.set_cons_succ])
          refine wpAnyH_ready (rs := [12]) (by kernel_rfl) (by simp) ?_
          refine AllReadyH.cons (o := { dst := some 52, op := Go.Op.call { callee := Go.Callee.value (Go.Operand.func 9), args := #[Go.Operand.tmp 50, Go.Operand.tmp 51], argTypes := #[29, 27] }, type := 4, pos := "law.go:32", after := #[{ on := 10, ground := Go.Ground.data }, { on := 11, ground := Go.Ground.data }, { on := 9, ground := Go.Ground.chain }, { on := 6, ground := Go.Ground.guard }], guard := some (6, false) }) rfl (fun K hK => ?_) AllReadyH.nil
          go_simp
          (refine (rmay14_any k A n c L _ _ (HX2.out _ HBu.out).2.2 Hn.out (by have := Hn70.out; omega) Hbm.out).mono ?_; rintro e u3 ⟨rfl, hb⟩; have HBu := Lib.hid (below_trans HBu.out hb); clear hb)
          refine hK.out _ _ ?_ (fun hHeld => ?_)
          · exact HSS.out _ HBu.out
          clear hK K
          (try simp only [Act.put, List.setIfInBounds_toArray, List.set_cons_zero, List.set_cons_succ])
          refine wpAnyH_take (i := 13) (oi := { dst := some 53, op := Go.Op.binOp Go.BinOp.neq 4 (Go.Operand.tmp 49) (Go.Operand.tmp 52) 4, type := 4, pos := "law.go:32", after := #[{ on := 9, ground := Go.Ground.data }, { on := 12, ground := Go.Ground.data }, { on := 6, ground := Go.Ground.guard }], guard := some (6, false) }) (v := ?_) rfl (by kernel_rfl) (by kernel_rfl) (by kernel_rfl) (fun _ _ _ h => h) (Or.inl ⟨by rfl, ?_⟩) (by assumption) ?_
          rotate_left 1
          · intro w' hSw; (go_simp <;> (with_reducible rfl))
          (try simp only [Act.put, List.setIfInBounds_toArray, List.set_cons_zero, List.set_cons_succ])
          refine wpAnyH_take (i := 14) (oi := { dst := some 54, op := Go.Op.pick (Go.Operand.tmp 46) (Go.Operand.const (Go.Value.bool true)) (Go.Operand.tmp 53), type := 4, pos := "law.go:32", after := #[{ on := 6, ground := Go.Ground.data }, { on := 13, ground := Go.Ground.data }], guard := none }) (v := ?_) rfl (by kernel_rfl) (by kernel_rfl) (by kernel_rfl) (fun _ _ _ h => h) (Or.inl ⟨by rfl, ?_⟩) (by assumption) ?_
          rotate_left 1
          · intro w' hSw; (go_simp <;> (with_reducible rfl))
          (try simp only [Act.put, List.setIfInBounds_toArray, List.set_cons_zero, List.set_cons_succ])
          refine wpAnyH_take (i := 15) (oi := { dst := some 55, op := Go.Op.move (Go.Operand.tmp 54), type := 4, pos := "law.go:32", after := #[{ on := 14, ground := Go.Ground.data }, { on := 12, ground := Go.Ground.chain }], guard := none }) (v := ?_) rfl (by kernel_rfl) (by kernel_rfl) (by kernel_rfl) (fun _ _ _ h => h) (Or.inl ⟨by rfl, ?_⟩) (by assumption) ?_
          rotate_left 1
          · intro w' hSw; (go_simp <;> (with_reducible rfl))
          (try simp only [Act.put, List.setIfInBounds_toArray, List.set_cons_zero, List.set_cons_succ])
          refine wpAnyH_take (i := 16) (oi := { dst := some 56, op := Go.Op.load 29 (Go.Operand.tmp 4), type := 29, pos := "law.go:32", after := #[{ on := 15, ground := Go.Ground.guard }], guard := some (15, false) }) (v := .agg #[.int .u32 k.ins, .int .u32 k.msk, k.v2, .int .u16 k.lo, .int .u16 k.hi, k.v5, k.v6, k.v7, k.v8, k.v9, k.va, k.vb, k.vc, k.vd, k.ve, k.vf, k.vg, k.vh, k.vi]) rfl (by kernel_rfl) (by kernel_rfl) (by kernel_rfl) (fun _ _ _ h => h) (Or.inl ⟨by rfl, fun w' hSw => exec_row 29 (.tmp 4) rfl z _ _ _ _ (hSw.1) rfl Try.underlying29 rfl (by kernel_rfl)⟩) (by assumption) ?_
          (try simp only [Act.put, List.setIfInBounds_toArray, List.set_cons_zero, List.set_cons_succ])
          refine wpAnyH_take (i := 17) (oi := { dst := some 57, op := Go.Op.fieldAddr 31 (Go.Operand.tmp 6) 1, type := 0, pos := "law.go:32", after := #[{ on := 15, ground := Go.Ground.guard }], guard := some (15, false) }) (v := ?_) rfl (by kernel_rfl) (by kernel_rfl) (by kernel_rfl) (fun _ _ _ h => h) (Or.inl ⟨by rfl, ?_⟩) (by assumption) ?_
          rotate_left 1
          · intro w' hSw; (go_simp <;> (with_reducible rfl))
          (try simp only [Act.put, List.setIfInBounds_toArray, List.set_cons_zero, List.set_cons_succ])
          refine wpAnyH_take (i := 18) (oi := { dst := some 58, op := Go.Op.load 22 (Go.Operand.tmp 57), type := 22, pos := "law.go:32", after := #[{ on := 17, ground := Go.Ground.data }, { on := 15, ground := Go.Ground.guard }], guard := some (15, false) }) (v := ?_) rfl (by kernel_rfl) (by kernel_rfl) (by kernel_rfl) (fun _ _ _ h => h) (Or.inl ⟨by rfl, ?_⟩) (by assumption) ?_
          rotate_left 1
          · intro w' hSw; (go_simp <;> (with_reducible rfl))
          (try simp only [Act.put, List.setIfInBounds_toArray, List.set_cons_zero, List.set_cons_succ])
          refine wpAnyH_take (i := 20) (oi := { dst := some 60, op := Go.Op.load 29 (Go.Operand.tmp 4), type := 29, pos := "law.go:32", after := #[{ on := 15, ground := Go.Ground.guard }], guard := some (15, false) }) (v := .agg #[.int .u32 k.ins, .int .u32 k.msk, k.v2, .int .u16 k.lo, .int .u16 k.hi, k.v5, k.v6, k.v7, k.v8, k.v9, k.va, k.vb, k.vc, k.vd, k.ve, k.vf, k.vg, k.vh, k.vi]) rfl (by kernel_rfl) (by kernel_rfl) (by kernel_rfl) (fun _ _ _ h => h) (Or.inl ⟨by rfl, fun w' hSw => exec_row 29 (.tmp 4) rfl z _ _ _ _ (hSw.1) rfl Try.underlying29 rfl (by kernel_rfl)⟩) (by assumption) ?_
          (try simp only [Act.put, List.setIfInBounds_toArray, List.set_cons_zero, List.set_cons_succ])
          refine wpAnyH_take (i := 21) (oi := { dst := some 61, op := Go.Op.fieldAddr 31 (Go.Operand.tmp 6) 1, type := 0, pos := "law.go:32", after := #[{ on := 15, ground := Go.Ground.guard }], guard := some (15, false) }) (v := ?_) rfl (by kernel_rfl) (by kernel_rfl) (by kernel_rfl) (fun _ _ _ h => h) (Or.inl ⟨by rfl, ?_⟩) (by assumption) ?_
          rotate_left 1
          · intro w' hSw; (go_simp <;> (with_reducible rfl))
          (try simp only [Act.put, List.setIfInBounds_toArray, List.set_cons_zero, List.set_cons_succ])
          refine wpAnyH_take (i := 22) (oi := { dst := some 62, op := Go.Op.load 22 (Go.Operand.tmp 61), type := 22, pos := "law.go:32", after := #[{ on := 21, ground := Go.Ground.data }, { on := 15, ground := Go.Ground.guard }], guard := some (15, false) }) (v := ?_) rfl (by kernel_rfl) (by kernel_rfl) (by kernel_rfl) (fun _ _ _ h => h) (Or.inl ⟨by rfl, ?_⟩) (by assumption) ?_
          rotate_left 1
          · intro w' hSw; (go_simp <;> (with_reducible rfl))
          (try simp only [Act.put, List.setIfInBounds_toArray, List.set_cons_zero, List.set_cons_succ])
          refine wpAnyH_ready (rs := [19]) (by kernel_rfl) (by simp) ?_
          refine AllReadyH.cons (o := { dst := some 59, op := Go.Op.call { callee := Go.Callee.value (Go.Operand.func 11), args := #[Go.Operand.tmp 56, Go.Operand.tmp 58], argTypes := #[29, 22] }, type := 4, pos := "law.go:32", after := #[{ on := 16, ground := Go.Ground.data }, { on := 18, ground := Go.Ground.data }, { on := 15, ground := Go.Ground.chain }, { on := 15, ground := Go.Ground.guard }], guard := some (15, false) }) rfl (fun K hK => ?_) AllReadyH.nil
          go_simp
          (refine (inside_any k x.sr _ _ Hiv.out).mono ?_; rintro e u4 ⟨rfl, hb⟩; have HBu := Lib.hid (below_trans HBu.out hb); clear hb)
          refine hK.out _ _ ?_ (fun hHeld => ?_)
          · exact HSS.out _ HBu.out
          clear hK K
          (try simp only [Act.put, List.setIfInBounds_toArray, List.set_cons_zero, List.set_cons_succ])
          refine wpAnyH_ready (rs := [23]) (by kernel_rfl) (by simp) ?_
          refine AllReadyH.cons (o := { dst := some 63, op := Go.Op.call { callee := Go.Callee.value (Go.Operand.func 12), args := #[Go.Operand.tmp 60, Go.Operand.tmp 62], argTypes := #[29, 22] }, type := 4, pos := "law.go:32", after := #[{ on := 20, ground := Go.Ground.data }, { on := 22, ground := Go.Ground.data }, { on := 19, ground := Go.Ground.chain }, { on := 15, ground := Go.Ground.guard }], guard := some (15, false) }) rfl (fun K hK => ?_) AllReadyH.nil
          go_simp
          (refine (rinside14_any k x.sr _ _ Hiv.out).mono ?_; rintro e u5 ⟨rfl, hb⟩; have HBu := Lib.hid (below_trans HBu.out hb); clear hb)
          refine hK.out _ _ ?_ (fun hHeld => ?_)
          · exact HSS.out _ HBu.out
          clear hK K
          (try simp only [Act.put, List.setIfInBounds_toArray, List.set_cons_zero, List.set_cons_succ])
          refine wpAnyH_take (i := 24) (oi := { dst := some 64, op := Go.Op.binOp Go.BinOp.neq 4 (Go.Operand.tmp 59) (Go.Operand.tmp 63) 4, type := 4, pos := "law.go:32", after := #[{ on := 19, ground := Go.Ground.data }, { on := 23, ground := Go.Ground.data }, { on := 15, ground := Go.Ground.guard }], guard := some (15, false) }) (v := ?_) rfl (by kernel_rfl) (by kernel_rfl) (by kernel_rfl) (fun _ _ _ h => h) (Or.inl ⟨by rfl, ?_⟩) (by assumption) ?_
          rotate_left 1
          · intro w' hSw; (go_simp <;> (with_reducible rfl))
          (try simp only [Act.put, List.setIfInBounds_toArray, List.set_cons_zero, List.set_cons_succ])
          refine wpAnyH_take (i := 25) (oi := { dst := some 65, op := Go.Op.pick (Go.Operand.tmp 55) (Go.Operand.const (Go.Value.bool true)) (Go.Operand.tmp 64), type := 4, pos := "law.go:32", after := #[{ on := 15, ground := Go.Ground.data }, { on := 24, ground := Go.Ground.data }], guard := none }) (v := ?_) rfl (by kernel_rfl) (by kernel_rfl) (by kernel_rfl) (fun _ _ _ h => h) (Or.inl ⟨by rfl, ?_⟩) (by assumption) ?_
          rotate_left 1
          · intro w' hSw; (go_simp <;> (with_reducible rfl))
          (try simp only [Act.put, List.setIfInBounds_toArray, List.set_cons_zero, List.set_cons_succ])
          refine wpAnyH_done (by kernel_rfl) ?_ _
          refine NoPanic.normal ?_
          clear hHeld
          go_wp2_with fail
          go_meet
          exact ⟨rfl, HBu⟩
        | false =>
          refine wpAnyH_take (i := 0) (oi := { dst := some 40, op := Go.Op.move (Go.Operand.tmp 11), type := 34, pos := "law.go:32", after := #[], guard := none }) (v := ?_) rfl (by kernel_rfl) (by kernel_rfl) (by kernel_rfl) (fun _ _ _ h => h) (Or.inl ⟨by rfl, ?_⟩) (by assumption) ?_
          rotate_left 1
          · intro w' hSw; (go_simp <;> (with_reducible rfl))
          (try simp only [Act.put, List.setIfInBounds_toArray, List.set_cons_zero, List.set_cons_succ])
          refine wpAnyH_take (i := 1) (oi := { dst := some 41, op := Go.Op.binOp Go.BinOp.eql 34 (Go.Operand.tmp 40) (Go.Operand.const (Go.Value.int Go.IntKind.i64 0)) 34, type := 4, pos := "law.go:32", after := #[{ on := 0, ground := Go.Ground.data }], guard := none }) (v := ?_) rfl (by kernel_rfl) (by kernel_rfl) (by kernel_rfl) (fun _ _ _ h => h) (Or.inl ⟨by rfl, ?_⟩) (by assumption) ?_
          rotate_left 1
          · intro w' hSw; (go_simp <;> (with_reducible rfl))
          (try simp only [Act.put, List.setIfInBounds_toArray, List.set_cons_zero, List.set_cons_succ])
          refine wpAnyH_take (i := 2) (oi := { dst := some 42, op := Go.Op.load 29 (Go.Operand.tmp 4), type := 29, pos := "law.go:32", after := #[], guard := none }) (v := .agg #[.int .u32 k.ins, .int .u32 k.msk, k.v2, .int .u16 k.lo, .int .u16 k.hi, k.v5, k.v6, k.v7, k.v8, k.v9, k.va, k.vb, k.vc, k.vd, k.ve, k.vf, k.vg, k.vh, k.vi]) rfl (by kernel_rfl) (by kernel_rfl) (by kernel_rfl) (fun _ _ _ h => h) (Or.inl ⟨by rfl, fun w' hSw => exec_row 29 (.tmp 4) rfl z _ _ _ _ (hSw.1) rfl Try.underlying29 rfl (by kernel_rfl)⟩) (by assumption) ?_
          (try simp only [Act.put, List.setIfInBounds_toArray, List.set_cons_zero, List.set_cons_succ])
          refine wpAnyH_take (i := 3) (oi := { dst := some 43, op := Go.Op.move (Go.Operand.tmp 1), type := 27, pos := "law.go:32", after := #[], guard := none }) (v := ?_) rfl (by kernel_rfl) (by kernel_rfl) (by kernel_rfl) (fun _ _ _ h => h) (Or.inl ⟨by rfl, ?_⟩) (by assumption) ?_
          rotate_left 1
          · intro w' hSw; (go_simp <;> (with_reducible rfl))
          (try simp only [Act.put, List.setIfInBounds_toArray, List.set_cons_zero, List.set_cons_succ])
          refine wpAnyH_ready (rs := [4]) (by kernel_rfl) (by simp) ?_
          refine AllReadyH.cons (o := { dst := some 44, op := Go.Op.call { callee := Go.Callee.value (Go.Operand.func 9), args := #[Go.Operand.tmp 42, Go.Operand.tmp 43], argTypes := #[29, 27] }, type := 4, pos := "law.go:32", after := #[{ on := 2, ground := Go.Ground.data }, { on := 3, ground := Go.Ground.data }], guard := none }) rfl (fun K hK => ?_) AllReadyH.nil
          go_simp
          (refine (rmay14_any k A n c L _ _ (HX2.out _ HBu.out).2.2 Hn.out (by have := Hn70.out; omega) Hbm.out).mono ?_; rintro e u1 ⟨rfl, hb⟩; have HBu := Lib.hid (below_trans HBu.out hb); clear hb)
          refine hK.out _ _ ?_ (fun hHeld => ?_)
          · exact HSS.out _ HBu.out
          clear hK K
          (try simp only [Act.put, List.setIfInBounds_toArray, List.set_cons_zero, List.set_cons_succ])
          refine wpAnyH_take (i := 5) (oi := { dst := some 45, op := Go.Op.binOp Go.BinOp.neq 4 (Go.Operand.tmp 41) (Go.Operand.tmp 44) 4, type := 4, pos := "law.go:32", after := #[{ on := 1, ground := Go.Ground.data }, { on := 4, ground := Go.Ground.data }], guard := none }) (v := ?_) rfl (by kernel_rfl) (by kernel_rfl) (by kernel_rfl) (fun _ _ _ h => h) (Or.inl ⟨by rfl, ?_⟩) (by assumption) ?_
          rotate_left 1
          · intro w' hSw; (go_simp <;> (with_reducible rfl))
          (try simp only [Act.put, List.setIfInBounds_toArray, List.set_cons_zero, List.set_cons_succ])
          refine wpAnyH_take (i := 6) (oi := { dst := some 46, op := Go.Op.move (Go.Operand.tmp 45), type := 4, pos := "law.go:32", after := #[{ on := 5, ground := Go.Ground.data }, { on := 4, ground := Go.Ground.chain }], guard := none }) (v := ?_) rfl (by kernel_rfl) (by kernel_rfl) (by kernel_rfl) (fun _ _ _ h => h) (Or.inl ⟨by rfl, ?_⟩) (by assumption) ?_
          rotate_left 1
          · intro w' hSw; (go_simp <;> (with_reducible rfl))
          (try simp only [Act.put, List.setIfInBounds_toArray, List.set_cons_zero, List.set_cons_succ])
          refine wpAnyH_take (i := 7) (oi := { dst := some 47, op := Go.Op.load 29 (Go.Operand.tmp 4), type := 29, pos := "law.go:32", after := #[{ on := 6, ground := Go.Ground.guard }], guard := some (6, false) }) (v := .agg #[.int .u32 k.ins, .int .u32 k.msk, k.v2, .int .u16 k.lo, .int .u16 k.hi, k.v5, k.v6, k.v7, k.v8, k.v9, k.va, k.vb, k.vc, k.vd, k.ve, k.vf, k.vg, k.vh, k.vi]) rfl (by kernel_rfl) (by kernel_rfl) (by kernel_rfl) (fun _ _ _ h => h) (Or.inl ⟨by rfl, fun w' hSw => exec_row 29 (.tmp 4) rfl z _ _ _ _ (hSw.1) rfl Try.underlying29 rfl (by kernel_rfl)⟩) (by assumption) ?_
          (try simp only [Act.put, List.setIfInBounds_toArray, List.set_cons_zero, List.set_cons_succ])
          refine wpAnyH_take (i := 8) (oi := { dst := some 48, op := Go.Op.move (Go.Operand.tmp 1), type := 27, pos := "law.go:32", after := #[{ on := 6, ground := Go.Ground.guard }], guard := some (6, false) }) (v := ?_) rfl (by kernel_rfl) (by kernel_rfl) (by kernel_rfl) (fun _ _ _ h => h) (Or.inl ⟨by rfl, ?_⟩) (by assumption) ?_
          rotate_left 1
          · intro w' hSw; (go_simp <;> (with_reducible rfl))
          (try simp only [Act.put, List.setIfInBounds_toArray, List.set_cons_zero, List.set_cons_succ])
          refine wpAnyH_take (i := 10) (oi := { dst := some 50, op := Go.Op.load 29 (Go.Operand.tmp 4), type := 29, pos := "law.go:32", after := #[{ on := 6, ground := Go.Ground.guard }], guard := some (6, false) }) (v := .agg #[.int .u32 k.ins, .int .u32 k.msk, k.v2, .int .u16 k.lo, .int .u16 k.hi, k.v5, k.v6, k.v7, k.v8, k.v9, k.va, k.vb, k.vc, k.vd, k.ve, k.vf, k.vg, k.vh, k.vi]) rfl (by kernel_rfl) (by kernel_rfl) (by kernel_rfl) (fun _ _ _ h => h) (Or.inl ⟨by rfl, fun w' hSw => exec_row 29 (.tmp 4) rfl z _ _ _ _ (hSw.1) rfl Try.underlying29 rfl (by kernel_rfl)⟩) (by assumption) ?_
          (try simp only [Act.put, List.setIfInBounds_toArray, List.set_cons_zero, List.set_cons_succ])
          refine wpAnyH_take (i := 11) (oi := { dst := some 51, op := Go.Op.move (Go.Operand.tmp 1), type := 27, pos := "law.go:32", after := #[{ on := 6, ground := Go.Ground.guard }], guard := some (6, false) }) (v := ?_) rfl (by kernel_rfl) (by kernel_rfl) (by kernel_rfl) (fun _ _ _ h => h) (Or.inl ⟨by rfl, ?_⟩) (by assumption) ?_
          rotate_left 1
          · intro w' hSw; (go_simp <;> (with_reducible rfl))
          (try simp only [Act.put, List.setIfInBounds_toArray, List.set_cons_zero, List.set_cons_succ])
          refine wpAnyH_ready (rs := [9]) (by kernel_rfl) (by simp) ?_
          refine AllReadyH.cons (o := { dst := some 49, op := Go.Op.call { callee := Go.Callee.value (Go.Operand.func 10), args := #[Go.Operand.tmp 47, Go.Operand.tmp 48], argTypes := #[29, 27] }, type := 4, pos := "law.go:32", after := #[{ on := 7, ground := Go.Ground.data }, { on := 8, ground := Go.Ground.data }, { on := 6, ground := Go.Ground.chain }, { on := 6, ground := Go.Ground.guard }], guard := some (6, false) }) rfl (fun K hK => ?_) AllReadyH.nil
          go_simp
          (refine (may_any k A n c L _ _ (HX2.out _ HBu.out).2.2 Hn.out (by have := Hn70.out; omega) Hbm.out).mono ?_; rintro e u2 ⟨rfl, hb⟩; have HBu := Lib.hid (below_trans HBu.out hb); clear hb)
          refine hK.out _ _ ?_ (fun hHeld => ?_)
          · exact HSS.out _ HBu.out
          clear hK K
          (try simp only [Act.put, List.setIfInBounds_toArray, List.set_cons_zero, List.set_cons_succ])
          refine wpAnyH_ready (rs := [12]) (by kernel_rfl) (by simp) ?_
          refine AllReadyH.cons (o := { dst := some 52, op := Go.Op.call { callee := Go.Callee.value (Go.Operand.func 9), args := #[Go.Operand.tmp 50, Go.Operand.tmp 51], argTypes := #[29, 27] }, type := 4, pos := "law.go:32", after := #[{ on := 10, ground := Go.Ground.data }, { on := 11, ground := Go.Ground.data }, { on := 9, ground := Go.Ground.chain }, { on := 6, ground := Go.Ground.guard }], guard := some (6, false) }) rfl (fun K hK => ?_) AllReadyH.nil
          go_simp
          (refine (rmay14_any k A n c L _ _ (HX2.out _ HBu.out).2.2 Hn.out (by have := Hn70.out; omega) Hbm.out).mono ?_; rintro e u3 ⟨rfl, hb⟩; have HBu := Lib.hid (below_trans HBu.out hb); clear hb)
          refine hK.out _ _ ?_ (fun hHeld => ?_)
          · exact HSS.out _ HBu.out
          clear hK K
          (try simp only [Act.put, List.setIfInBounds_toArray, List.set_cons_zero, List.set_cons_succ])
          refine wpAnyH_take (i := 13) (oi := { dst := some 53, op := Go.Op.binOp Go.BinOp.neq 4 (Go.Operand.tmp 49) (Go.Operand.tmp 52) 4, type := 4, pos := "law.go:32", after := #[{ on := 9, ground := Go.Ground.data }, { on := 12, ground := Go.Ground.data }, { on := 6, ground := Go.Ground.guard }], guard := some (6, false) }) (v := ?_) rfl (by kernel_rfl) (by kernel_rfl) (by kernel_rfl) (fun _ _ _ h => h) (Or.inl ⟨by rfl, ?_⟩) (by assumption) ?_
          rotate_left 1
          · intro w' hSw; (go_simp <;> (with_reducible rfl))
          (try simp only [Act.put, List.setIfInBounds_toArray, List.set_cons_zero, List.set_cons_succ])
          refine wpAnyH_take (i := 14) (oi := { dst := some 54, op := Go.Op.pick (Go.Operand.tmp 46) (Go.Operand.const (Go.Value.bool true)) (Go.Operand.tmp 53), type := 4, pos := "law.go:32", after := #[{ on := 6, ground := Go.Ground.data }, { on := 13, ground := Go.Ground.data }], guard := none }) (v := ?_) rfl (by kernel_rfl) (by kernel_rfl) (by kernel_rfl) (fun _ _ _ h => h) (Or.inl ⟨by rfl, ?_⟩) (by assumption) ?_
          rotate_left 1
          · intro w' hSw; (go_simp <;> (with_reducible rfl))
          (try simp only [Act.put, List.setIfInBounds_toArray, List.set_cons_zero, List.set_cons_succ])
          refine wpAnyH_take (i := 15) (oi := { dst := some 55, op := Go.Op.move (Go.Operand.tmp 54), type := 4, pos := "law.go:32", after := #[{ on := 14, ground := Go.Ground.data }, { on := 12, ground := Go.Ground.chain }], guard := none }) (v := ?_) rfl (by kernel_rfl) (by kernel_rfl) (by kernel_rfl) (fun _ _ _ h => h) (Or.inl ⟨by rfl, ?_⟩) (by assumption) ?_
          rotate_left 1
          · intro w' hSw; (go_simp <;> (with_reducible rfl))
          (try simp only [Act.put, List.setIfInBounds_toArray, List.set_cons_zero, List.set_cons_succ])
          refine wpAnyH_take (i := 16) (oi := { dst := some 56, op := Go.Op.load 29 (Go.Operand.tmp 4), type := 29, pos := "law.go:32", after := #[{ on := 15, ground := Go.Ground.guard }], guard := some (15, false) }) (v := .agg #[.int .u32 k.ins, .int .u32 k.msk, k.v2, .int .u16 k.lo, .int .u16 k.hi, k.v5, k.v6, k.v7, k.v8, k.v9, k.va, k.vb, k.vc, k.vd, k.ve, k.vf, k.vg, k.vh, k.vi]) rfl (by kernel_rfl) (by kernel_rfl) (by kernel_rfl) (fun _ _ _ h => h) (Or.inl ⟨by rfl, fun w' hSw => exec_row 29 (.tmp 4) rfl z _ _ _ _ (hSw.1) rfl Try.underlying29 rfl (by kernel_rfl)⟩) (by assumption) ?_
          (try simp only [Act.put, List.setIfInBounds_toArray, List.set_cons_zero, List.set_cons_succ])
          refine wpAnyH_take (i := 17) (oi := { dst := some 57, op := Go.Op.fieldAddr 31 (Go.Operand.tmp 6) 1, type := 0, pos := "law.go:32", after := #[{ on := 15, ground := Go.Ground.guard }], guard := some (15, false) }) (v := ?_) rfl (by kernel_rfl) (by kernel_rfl) (by kernel_rfl) (fun _ _ _ h => h) (Or.inl ⟨by rfl, ?_⟩) (by assumption) ?_
          rotate_left 1
          · intro w' hSw; (go_simp <;> (with_reducible rfl))
          (try simp only [Act.put, List.setIfInBounds_toArray, List.set_cons_zero, List.set_cons_succ])
          refine wpAnyH_take (i := 18) (oi := { dst := some 58, op := Go.Op.load 22 (Go.Operand.tmp 57), type := 22, pos := "law.go:32", after := #[{ on := 17, ground := Go.Ground.data }, { on := 15, ground := Go.Ground.guard }], guard := some (15, false) }) (v := ?_) rfl (by kernel_rfl) (by kernel_rfl) (by kernel_rfl) (fun _ _ _ h => h) (Or.inl ⟨by rfl, ?_⟩) (by assumption) ?_
          rotate_left 1
          · intro w' hSw; (go_simp <;> (with_reducible rfl))
          (try simp only [Act.put, List.setIfInBounds_toArray, List.set_cons_zero, List.set_cons_succ])
          refine wpAnyH_take (i := 20) (oi := { dst := some 60, op := Go.Op.load 29 (Go.Operand.tmp 4), type := 29, pos := "law.go:32", after := #[{ on := 15, ground := Go.Ground.guard }], guard := some (15, false) }) (v := .agg #[.int .u32 k.ins, .int .u32 k.msk, k.v2, .int .u16 k.lo, .int .u16 k.hi, k.v5, k.v6, k.v7, k.v8, k.v9, k.va, k.vb, k.vc, k.vd, k.ve, k.vf, k.vg, k.vh, k.vi]) rfl (by kernel_rfl) (by kernel_rfl) (by kernel_rfl) (fun _ _ _ h => h) (Or.inl ⟨by rfl, fun w' hSw => exec_row 29 (.tmp 4) rfl z _ _ _ _ (hSw.1) rfl Try.underlying29 rfl (by kernel_rfl)⟩) (by assumption) ?_
          (try simp only [Act.put, List.setIfInBounds_toArray, List.set_cons_zero, List.set_cons_succ])
          refine wpAnyH_take (i := 21) (oi := { dst := some 61, op := Go.Op.fieldAddr 31 (Go.Operand.tmp 6) 1, type := 0, pos := "law.go:32", after := #[{ on := 15, ground := Go.Ground.guard }], guard := some (15, false) }) (v := ?_) rfl (by kernel_rfl) (by kernel_rfl) (by kernel_rfl) (fun _ _ _ h => h) (Or.inl ⟨by rfl, ?_⟩) (by assumption) ?_
          rotate_left 1
          · intro w' hSw; (go_simp <;> (with_reducible rfl))
          (try simp only [Act.put, List.setIfInBounds_toArray, List.set_cons_zero, List.set_cons_succ])
          refine wpAnyH_take (i := 22) (oi := { dst := some 62, op := Go.Op.load 22 (Go.Operand.tmp 61), type := 22, pos := "law.go:32", after := #[{ on := 21, ground := Go.Ground.data }, { on := 15, ground := Go.Ground.guard }], guard := some (15, false) }) (v := ?_) rfl (by kernel_rfl) (by kernel_rfl) (by kernel_rfl) (fun _ _ _ h => h) (Or.inl ⟨by rfl, ?_⟩) (by assumption) ?_
          rotate_left 1
          · intro w' hSw; (go_simp <;> (with_reducible rfl))
          (try simp only [Act.put, List.setIfInBounds_toArray, List.set_cons_zero, List.set_cons_succ])
          refine wpAnyH_ready (rs := [19]) (by kernel_rfl) (by simp) ?_
          refine AllReadyH.cons (o := { dst := some 59, op := Go.Op.call { callee := Go.Callee.value (Go.Operand.func 11), args := #[Go.Operand.tmp 56, Go.Operand.tmp 58], argTypes := #[29, 22] }, type := 4, pos := "law.go:32", after := #[{ on := 16, ground := Go.Ground.data }, { on := 18, ground := Go.Ground.data }, { on := 15, ground := Go.Ground.chain }, { on := 15, ground := Go.Ground.guard }], guard := some (15, false) }) rfl (fun K hK => ?_) AllReadyH.nil
          go_simp
          (refine (inside_any k x.sr _ _ Hiv.out).mono ?_; rintro e u4 ⟨rfl, hb⟩; have HBu := Lib.hid (below_trans HBu.out hb); clear hb)
          refine hK.out _ _ ?_ (fun hHeld => ?_)
          · exact HSS.out _ HBu.out
          clear hK K
          (try simp only [Act.put, List.setIfInBounds_toArray, List.set_cons_zero, List.set_cons_succ])
          refine wpAnyH_ready (rs := [23]) (by kernel_rfl) (by simp) ?_
          refine AllReadyH.cons (o := { dst := some 63, op := Go.Op.call { callee := Go.Callee.value (Go.Operand.func 12), args := #[Go.Operand.tmp 60, Go.Operand.tmp 62], argTypes := #[29, 22] }, type := 4, pos := "law.go:32", after := #[{ on := 20, ground := Go.Ground.data }, { on := 22, ground := Go.Ground.data }, { on := 19, ground := Go.Ground.chain }, { on := 15, ground := Go.Ground.guard }], guard := some (15, false) }) rfl (fun K hK => ?_) AllReadyH.nil
          go_simp
          (refine (rinside14_any k x.sr _ _ Hiv.out).mono ?_; rintro e u5 ⟨rfl, hb⟩; have HBu := Lib.hid (below_trans HBu.out hb); clear hb)
          refine hK.out _ _ ?_ (fun hHeld => ?_)
          · exact HSS.out _ HBu.out
          clear hK K
          (try simp only [Act.put, List.setIfInBounds_toArray, List.set_cons_zero, List.set_cons_succ])
          refine wpAnyH_take (i := 24) (oi := { dst := some 64, op := Go.Op.binOp Go.BinOp.neq 4 (Go.Operand.tmp 59) (Go.Operand.tmp 63) 4, type := 4, pos := "law.go:32", after := #[{ on := 19, ground := Go.Ground.data }, { on := 23, ground := Go.Ground.data }, { on := 15, ground := Go.Ground.guard }], guard := some (15, false) }) (v := ?_) rfl (by kernel_rfl) (by kernel_rfl) (by kernel_rfl) (fun _ _ _ h => h) (Or.inl ⟨by rfl, ?_⟩) (by assumption) ?_
          rotate_left 1
          · intro w' hSw; (go_simp <;> (with_reducible rfl))
          (try simp only [Act.put, List.setIfInBounds_toArray, List.set_cons_zero, List.set_cons_succ])
          refine wpAnyH_take (i := 25) (oi := { dst := some 65, op := Go.Op.pick (Go.Operand.tmp 55) (Go.Operand.const (Go.Value.bool true)) (Go.Operand.tmp 64), type := 4, pos := "law.go:32", after := #[{ on := 15, ground := Go.Ground.data }, { on := 24, ground := Go.Ground.data }], guard := none }) (v := ?_) rfl (by kernel_rfl) (by kernel_rfl) (by kernel_rfl) (fun _ _ _ h => h) (Or.inl ⟨by rfl, ?_⟩) (by assumption) ?_
          rotate_left 1
          · intro w' hSw; (go_simp <;> (with_reducible rfl))
          (try simp only [Act.put, List.setIfInBounds_toArray, List.set_cons_zero, List.set_cons_succ])
          refine wpAnyH_done (by kernel_rfl) ?_ _
          refine NoPanic.normal ?_
          clear hHeld
          go_wp2_with fail
          go_meet
          exact ⟨rfl, HBu⟩
      case rest =>
      obtain ⟨rfl, HB5⟩ := hcut
      have HP := Lib.hid (show 0 < n → ∃ gB oB, B = some ⟨gB, oB, none⟩ ∧ w0.heap.size ≤ gB ∧ ¬ S gB ∧ AnyW wc gB oB n from fun h0 => by
        obtain ⟨gB, oB, eB, hany⟩ := AnyW.of HS1.out Hn.out h0
        obtain ⟨h1, h2⟩ := Hown.out gB (by rw [eB]; rfl)
        exact ⟨gB, oB, eB, h1, fun hs => by have := HSge.out gB hs; omega, hany.but (But.of (S := fun _ => False) (below_trans Hb2.out HB5.out)) (fun h => h)⟩)
      have HMemc := Lib.hid (HMem.out.below HB5.out)
      have HBc := Lib.hid (below_trans HB2.out HB5.out)
      clear HX2 HMem HSge HB2 Hb2 HS1 HB1 Hrun Hown HB5
      go_wp2_with fail
      go_loopg [12] n (fun gk i wr => ∃ (j : Nat), Hid (gk + j = n) ∧ j ≤ n ∧ i = .int .i64 (j : Int) ∧ Hid (0 < n → ∃ gB oB, B = some ⟨gB, oB, none⟩ ∧ w0.heap.size ≤ gB ∧ ¬ S gB ∧ AnyW wr gB oB n) ∧ Hid (FwMem wr S g L) ∧ Hid (Below w0.heap.size w0 wr))
      case atStart => exact ⟨0, rfl, Nat.zero_le _, rfl, HP, HMemc, HBc⟩
      case round =>
        obtain ⟨j, hgk, hj, rfl, hP, hM, hB⟩ := hrel
        by_cases hjn : j < n
        · obtain ⟨gB, oB, eB, hge, hnS, hany⟩ := hP.out (by omega)
          obtain ⟨f, hidx, hfl, hfr⟩ := hany.index d hjn
          rw [← eB] at hidx
          have Hany := Lib.hid hany
          obtain ⟨c0, c1, c2', c3⟩ := hfl
          have i0 : (0 : Int) ≤ (j : Int) := by omega
          have i1 : (j : Int) < (n : Int) := by omega
          have Hjn := Lib.hid hjn
          have Hge := Lib.hid hge
          have HnS := Lib.hid hnS
          have HeB := Lib.hid eB
          clear hany hge hnS c0 c1 c2' eB
          go_wp2_with fail
          go_roundg (gk - 1)
          case measure => have := hgk.out; have := Hjn.out; omega
          case rel => exact ⟨j + 1, by have := hgk.out; have := Hjn.out; show gk - 1 + (j + 1) = _; omega, by have := Hjn.out; omega, by go_num, Lib.hid (fun _ => ⟨gB, oB, HeB.out, Hge.out, HnS.out, Hany.out.set3 Hjn.out _⟩), Lib.hid (hM.out.but ((But.refl (fun k => k = gB) wr).setCell (p := ⟨gB, _, none⟩) rfl _) (fun k hk e => HnS.out (e ▸ hk))), Lib.hid (set_below hB.out Hge.out _)⟩
        · obtain rfl : n = j := by omega
          obtain ⟨wl, ewl⟩ : ∃ v, v = wr := ⟨_, rfl⟩
          subst ewl
          have HT := Lib.hid (show ∀ W, Below wl.heap.size wl W → W.heap[z + 1]? = some (.cells #[.int .u8 x.pr, .int .u32 x.sr, .int .u32 x.ds, .int .u16 x.sp, .int .u16 x.dp] 31 (0, 0)) ∧ FwMem W S g L ∧ RdW W A L from fun W hW => ⟨(HX.out W (below_trans hB.out hW)).2.1, hM.out.below hW, (HX.out W (below_trans hB.out hW)).2.2⟩)
          have HBwl := Lib.hid (Below.refl wl.heap.size wl)
          obtain ⟨f, ef⟩ : ∃ f, fwOf (fwFind x.pr x.dp L) = f := ⟨_, rfl⟩
          obtain ⟨is_, ei⟩ : ∃ i, fwIs (fwFind x.pr x.dp L) = i := ⟨_, rfl⟩
          obtain ⟨⟨y, b⟩, ey⟩ : ∃ p, fwInw x L = p := ⟨_, rfl⟩
          obtain ⟨⟨u, c'⟩, eu⟩ : ∃ p, fwOut x outer L = p := ⟨_, rfl⟩
          have Hef := Lib.hid ef
          have Hei := Lib.hid ei
          have Hey := Lib.hid ey
          have Heu := Lib.hid eu
          have Hal := Lib.hid (show (fwAll L).length = n by rw [(fwAll_perm L).length_eq]; exact Hn.out)
          have HBl := Lib.hid (below_trans Hb0.out hB.out)
          clear hP hM hB hgk hj ef ei ey eu HX HP HMemc HBc
          obtain ⟨a0, a1, a2, a3, a4⟩ := cells5 (HT.out _ HBwl.out).1
          have HC := Lib.hid (find_at S g L x.pr x.dp wl (HT.out _ HBwl.out).2.1 f is_ Hef.out Hei.out)
          go_wp2_with fail
          refine HC.out.mono ?_
          rintro e x1 ⟨rfl, hb⟩
          have HBx1 := Lib.hid (below_trans HBwl.out hb)
          have Hsx1 := Lib.hid hb
          clear hb HC a0 a1 a2 a3 a4
          obtain ⟨q1, eqq1⟩ : ∃ v, x1.heap.size = v := ⟨_, rfl⟩
          obtain ⟨y1, evy1⟩ : ∃ v, x1.alloc (.cells #[.int .u8 f.pr, .int .u16 f.po, .int .u32 f.ad, .int .u16 f.tp] 40) = v := ⟨_, rfl⟩
          have hby1 : Below x1.heap.size x1 y1 := by rw [← evy1]; exact (Below.refl _ _).alloc (Nat.le_refl _) _
          have hky1 : y1.heap[q1]? = some (.cells #[.int .u8 f.pr, .int .u16 f.po, .int .u32 f.ad, .int .u16 f.tp] 40 (0, 0)) := by rw [← evy1, ← eqq1]; exact heap_alloc_new x1 _
          have Ey1 := Lib.hid evy1
          have Eq1 := Lib.hid eqq1
          have Hy1 := Lib.hid hby1
          have HKq1 := Lib.hid hky1
          clear eqq1 evy1 hby1 hky1
          have HBy1 := Lib.hid (below_trans HBx1.out Hy1.out)
          have HFq1 := Lib.hid (show ∀ W, Below y1.heap.size y1 W → W.heap[q1]? = some (.cells #[.int .u8 f.pr, .int .u16 f.po, .int .u32 f.ad, .int .u16 f.tp] 40 (0, 0)) from fun W hW => blk_on HKq1.out hW)
          have Gy1 := Lib.hid (below_trans Hsx1.out Hy1.out)
          go_upto_region 14 with (fail)
          rw [Ey1.out]
          try rw [Eq1.out]
          obtain ⟨a0, a1, a2, a3, a4⟩ := cells5 (HT.out _ HBy1.out).1
          have HC := Lib.hid (rfind14_any A n c L x.pr x.dp y1 (HT.out _ HBy1.out).2.2 Hn.out (by have := Hn70.out; omega) f is_ Hef.out Hei.out)
          go_wp2_with fail
          refine HC.out.mono ?_
          rintro e x2 ⟨rfl, hb⟩
          have HBx2 := Lib.hid (below_trans HBy1.out hb)
          have Hsx2 := Lib.hid hb
          clear hb HC a0 a1 a2 a3 a4
          obtain ⟨q2, eqq2⟩ : ∃ v, x2.heap.size = v := ⟨_, rfl⟩
          obtain ⟨y2, evy2⟩ : ∃ v, x2.alloc (.cells #[.int .u8 f.pr, .int .u16 f.po, .int .u32 f.ad, .int .u16 f.tp] 40) = v := ⟨_, rfl⟩
          have hby2 : Below x2.heap.size x2 y2 := by rw [← evy2]; exact (Below.refl _ _).alloc (Nat.le_refl _) _
          have hky2 : y2.heap[q2]? = some (.cells #[.int .u8 f.pr, .int .u16 f.po, .int .u32 f.ad, .int .u16 f.tp] 40 (0, 0)) := by rw [← evy2, ← eqq2]; exact heap_alloc_new x2 _
          have Ey2 := Lib.hid evy2
          have Eq2 := Lib.hid eqq2
          have Hy2 := Lib.hid hby2
          have HKq2 := Lib.hid hky2
          clear eqq2 evy2 hby2 hky2
          have HBy2 := Lib.hid (below_trans HBx2.out Hy2.out)
          have HFq2 := Lib.hid (show ∀ W, Below y2.heap.size y2 W → W.heap[q2]? = some (.cells #[.int .u8 f.pr, .int .u16 f.po, .int .u32 f.ad, .int .u16 f.tp] 40 (0, 0)) from fun W hW => blk_on HKq2.out hW)
          have Gy2 := Lib.hid (below_trans Hsx2.out Hy2.out)
          go_upto_region 15 with (fail)
          rw [Ey2.out]
          try rw [Eq2.out]
          obtain ⟨a0, a1, a2, a3, a4⟩ := cells5 (HT.out _ HBy2.out).1
          have HC := Lib.hid (inward_at S g L x y b y2 (HT.out _ HBy2.out).2.1 Hey.out)
          go_wp2_with fail
          refine HC.out.mono ?_
          rintro e x3 ⟨rfl, hb⟩
          have HBx3 := Lib.hid (below_trans HBy2.out hb)
          have Hsx3 := Lib.hid hb
          clear hb HC a0 a1 a2 a3 a4
          obtain ⟨q3, eqq3⟩ : ∃ v, x3.heap.size = v := ⟨_, rfl⟩
          obtain ⟨y3, evy3⟩ : ∃ v, x3.alloc (.cells #[.int .u8 y.pr, .int .u32 y.sr, .int .u32 y.ds, .int .u16 y.sp, .int .u16 y.dp] 31) = v := ⟨_, rfl⟩
          have hby3 : Below x3.heap.size x3 y3 := by rw [← evy3]; exact (Below.refl _ _).alloc (Nat.le_refl _) _
          have hky3 : y3.heap[q3]? = some (.cells #[.int .u8 y.pr, .int .u32 y.sr, .int .u32 y.ds, .int .u16 y.sp, .int .u16 y.dp] 31 (0, 0)) := by rw [← evy3, ← eqq3]; exact heap_alloc_new x3 _
          have Ey3 := Lib.hid evy3
          have Eq3 := Lib.hid eqq3
          have Hy3 := Lib.hid hby3
          have HKq3 := Lib.hid hky3
          clear eqq3 evy3 hby3 hky3
          have HBy3 := Lib.hid (below_trans HBx3.out Hy3.out)
          have HFq3 := Lib.hid (show ∀ W, Below y3.heap.size y3 W → W.heap[q3]? = some (.cells #[.int .u8 y.pr, .int .u32 y.sr, .int .u32 y.ds, .int .u16 y.sp, .int .u16 y.dp] 31 (0, 0)) from fun W hW => blk_on HKq3.out hW)
          have Gy3 := Lib.hid (below_trans Hsx3.out Hy3.out)
          go_upto_region 16 with (fail)
          rw [Ey3.out]
          try rw [Eq3.out]
          obtain ⟨a0, a1, a2, a3, a4⟩ := cells5 (HT.out _ HBy3.out).1
          have HC := Lib.hid (rinward14_any A n c L x y b y3 (HT.out _ HBy3.out).2.2 Hn.out (by have := Hn70.out; omega) Hey.out)
          go_wp2_with fail
          refine HC.out.mono ?_
          rintro e x4 ⟨rfl, hb⟩
          have HBx4 := Lib.hid (below_trans HBy3.out hb)
          have Hsx4 := Lib.hid hb
          clear hb HC a0 a1 a2 a3 a4
          obtain ⟨q4, eqq4⟩ : ∃ v, x4.heap.size = v := ⟨_, rfl⟩
          obtain ⟨y4, evy4⟩ : ∃ v, x4.alloc (.cells #[.int .u8 y.pr, .int .u32 y.sr, .int .u32 y.ds, .int .u16 y.sp, .int .u16 y.dp] 31) = v := ⟨_, rfl⟩
          have hby4 : Below x4.heap.size x4 y4 := by rw [← evy4]; exact (Below.refl _ _).alloc (Nat.le_refl _) _
          have hky4 : y4.heap[q4]? = some (.cells #[.int .u8 y.pr, .int .u32 y.sr, .int .u32 y.ds, .int .u16 y.sp, .int .u16 y.dp] 31 (0, 0)) := by rw [← evy4, ← eqq4]; exact heap_alloc_new x4 _
          have Ey4 := Lib.hid evy4
          have Eq4 := Lib.hid eqq4
          have Hy4 := Lib.hid hby4
          have HKq4 := Lib.hid hky4
          clear eqq4 evy4 hby4 hky4
          have HBy4 := Lib.hid (below_trans HBx4.out Hy4.out)
          have HFq4 := Lib.hid (show ∀ W, Below y4.heap.size y4 W → W.heap[q4]? = some (.cells #[.int .u8 y.pr, .int .u32 y.sr, .int .u32 y.ds, .int .u16 y.sp, .int .u16 y.dp] 31 (0, 0)) from fun W hW => blk_on HKq4.out hW)
          have Gy4 := Lib.hid (below_trans Hsx4.out Hy4.out)
          go_upto_region 17 with (fail)
          rw [Ey4.out]
          try rw [Eq4.out]
          obtain ⟨a0, a1, a2, a3, a4⟩ := cells5 (HT.out _ HBy4.out).1
          have HC := Lib.hid (outward_at S g L x u outer c' y4 (HT.out _ HBy4.out).2.1 (by have := Hn70.out; have := Hn.out; omega) Heu.out)
          go_wp2_with fail
          refine HC.out.mono ?_
          rintro e x5 ⟨rfl, hb⟩
          have HBx5 := Lib.hid (below_trans HBy4.out hb)
          have Hsx5 := Lib.hid hb
          clear hb HC a0 a1 a2 a3 a4
          obtain ⟨q5, eqq5⟩ : ∃ v, x5.heap.size = v := ⟨_, rfl⟩
          obtain ⟨y5, evy5⟩ : ∃ v, x5.alloc (.cells #[.int .u8 u.pr, .int .u32 u.sr, .int .u32 u.ds, .int .u16 u.sp, .int .u16 u.dp] 31) = v := ⟨_, rfl⟩
          have hby5 : Below x5.heap.size x5 y5 := by rw [← evy5]; exact (Below.refl _ _).alloc (Nat.le_refl _) _
          have hky5 : y5.heap[q5]? = some (.cells #[.int .u8 u.pr, .int .u32 u.sr, .int .u32 u.ds, .int .u16 u.sp, .int .u16 u.dp] 31 (0, 0)) := by rw [← evy5, ← eqq5]; exact heap_alloc_new x5 _
          have Ey5 := Lib.hid evy5
          have Eq5 := Lib.hid eqq5
          have Hy5 := Lib.hid hby5
          have HKq5 := Lib.hid hky5
          clear eqq5 evy5 hby5 hky5
          have HBy5 := Lib.hid (below_trans HBx5.out Hy5.out)
          have HFq5 := Lib.hid (show ∀ W, Below y5.heap.size y5 W → W.heap[q5]? = some (.cells #[.int .u8 u.pr, .int .u32 u.sr, .int .u32 u.ds, .int .u16 u.sp, .int .u16 u.dp] 31 (0, 0)) from fun W hW => blk_on HKq5.out hW)
          have Gy5 := Lib.hid (below_trans Hsx5.out Hy5.out)
          go_upto_region 18 with (fail)
          rw [Ey5.out]
          try rw [Eq5.out]
          obtain ⟨a0, a1, a2, a3, a4⟩ := cells5 (HT.out _ HBy5.out).1
          have HC := Lib.hid (rout14_any A n c L x u outer c' y5 (HT.out _ HBy5.out).2.2 Hn.out (by have := Hn70.out; omega) Heu.out)
          go_wp2_with fail
          refine HC.out.mono ?_
          rintro e x6 ⟨rfl, hb⟩
          have HBx6 := Lib.hid (below_trans HBy5.out hb)
          have Hsx6 := Lib.hid hb
          clear hb HC a0 a1 a2 a3 a4
          obtain ⟨q6, eqq6⟩ : ∃ v, x6.heap.size = v := ⟨_, rfl⟩
          obtain ⟨y6, evy6⟩ : ∃ v, x6.alloc (.cells #[.int .u8 u.pr, .int .u32 u.sr, .int .u32 u.ds, .int .u16 u.sp, .int .u16 u.dp] 31) = v := ⟨_, rfl⟩
          have hby6 : Below x6.heap.size x6 y6 := by rw [← evy6]; exact (Below.refl _ _).alloc (Nat.le_refl _) _
          have hky6 : y6.heap[q6]? = some (.cells #[.int .u8 u.pr, .int .u32 u.sr, .int .u32 u.ds, .int .u16 u.sp, .int .u16 u.dp] 31 (0, 0)) := by rw [← evy6, ← eqq6]; exact heap_alloc_new x6 _
          have Ey6 := Lib.hid evy6
          have Eq6 := Lib.hid eqq6
          have Hy6 := Lib.hid hby6
          have HKq6 := Lib.hid hky6
          clear eqq6 evy6 hby6 hky6
          have HBy6 := Lib.hid (below_trans HBx6.out Hy6.out)
          have HFq6 := Lib.hid (show ∀ W, Below y6.heap.size y6 W → W.heap[q6]? = some (.cells #[.int .u8 u.pr, .int .u32 u.sr, .int .u32 u.ds, .int .u16 u.sp, .int .u16 u.dp] 31 (0, 0)) from fun W hW => blk_on HKq6.out hW)
          have Gy6 := Lib.hid (below_trans Hsx6.out Hy6.out)
          go_upto_region 19 with (fail)
          rw [Ey6.out]
          try rw [Eq6.out]
          have HC := Lib.hid (all_at S g L y6 (HT.out _ HBy6.out).2.1 (by have := Hn70.out; have := Hn.out; omega))
          go_wp2_with fail
          refine HC.out.mono ?_
          rintro e w9 ⟨A9, c9, rfl, hs9, hown9, hb9⟩
          rw [Hal.out] at hs9 hown9 ⊢
          have HS9 := Lib.hid hs9
          have HO9 := Lib.hid (show ∀ b, (Value.slice A9 n c9).ownBlock = some b → wl.heap.size ≤ b from fun b hb => by have := hown9 b hb; have := HBy6.out.size; omega)
          have HBw9 := Lib.hid (below_trans HBy6.out hb9)
          have t5 := below_trans Gy6.out hb9
          have t4 := below_trans Gy5.out t5
          have t3 := below_trans Gy4.out t4
          have t2 := below_trans Gy3.out t3
          have t1 := below_trans Gy2.out t2
          obtain ⟨a0, a1, a2, a3⟩ := cells44 (HFq1.out w9 t1)
          obtain ⟨b0, b1, b2, b3⟩ := cells44 (HFq2.out w9 t2)
          obtain ⟨d0, d1, d2, d3, d4⟩ := cells5 (HFq3.out w9 t3)
          obtain ⟨e0, e1, e2, e3, e4⟩ := cells5 (HFq4.out w9 t4)
          obtain ⟨g0, g1', g2, g3, g4⟩ := cells5 (HFq5.out w9 t5)
          obtain ⟨h0, h1, h2, h3, h4⟩ := cells5 (HFq6.out w9 hb9)
          have heq1 := fw_eql f f
          rw [decide_eq_true rfl] at heq1
          have heq2 := tu_eql y y
          rw [tuSame_self] at heq2
          have heq3 := tu_eql u u
          rw [tuSame_self] at heq3
          have HC2 := Lib.hid (rall14_any A n c L w9 (HT.out _ HBw9.out).2.2 Hn.out (by have := Hn70.out; omega))
          clear t1 t2 t3 t4 t5 hs9 hown9 hb9 HC HFq1 HFq2 HFq3 HFq4 HFq5 HFq6 HKq1 HKq2 HKq3 HKq4 HKq5 HKq6 Gy1 Gy2 Gy3 Gy4 Gy5 Gy6
          go_wp2_with fail
          refine HC2.out.mono ?_
          rintro e w10 ⟨A10, c10, rfl, hs10, hown10, hb10⟩
          rw [Hal.out] at hs10 hown10 ⊢
          have HBw10 := Lib.hid (below_trans HBw9.out hb10)
          have HS9' := HS9.out.but (But.of (S := fun _ => False) hb10) (fun _ _ h => h)
          have HC3 := Lib.hid (rsame14_any A9 A10 n n c9 c10 (fwAll L) (fwAll L) w10 (RdW.of HS9' Hal.out) (RdW.of hs10 Hal.out) Hal.out Hal.out (by have := Hn70.out; omega) true (decide_eq_true rfl))
          have HQ := Lib.hid (show 0 < n → ∃ gB oB, A9 = some ⟨gB, oB, none⟩ ∧ wl.heap.size ≤ gB ∧ AnyW w10 gB oB n from fun h0 => by
            obtain ⟨gB, oB, eB, hany⟩ := AnyW.of HS9' Hal.out h0
            exact ⟨gB, oB, eB, HO9.out gB (by rw [eB]; rfl), hany⟩)
          clear HS9' hs10 hown10 hb10 HC2 a0 a1 a2 a3 b0 b1 b2 b3 d0 d1 d2 d3 d4 e0 e1 e2 e3 e4 g0 g1' g2 g3 g4 h0 h1 h2 h3 h4 heq1 heq2 heq3
          go_wp2_with fail
          refine HC3.out.mono ?_
          rintro e w11 ⟨rfl, m11, ew11⟩
          have HQ11 := Lib.hid (show 0 < n → ∃ gB oB, A9 = some ⟨gB, oB, none⟩ ∧ wl.heap.size ≤ gB ∧ AnyW w11 gB oB n from fun h0 => by
            obtain ⟨gB, oB, eB, hge, ⟨⟨C, hC⟩, hat⟩⟩ := HQ.out h0
            exact ⟨gB, oB, eB, hge, ⟨C, by rw [ew11]; exact hC⟩, fun i hi => by obtain ⟨f', hf'⟩ := hat i hi; exact ⟨f', hf'.of (fun i => by rw [ew11]; rfl)⟩⟩)
          have HBw11 := Lib.hid (show Below wl.heap.size wl w11 by rw [ew11]; have h := HBw10.out; exact ⟨h.os, h.tape, h.output, h.size, h.block⟩)
          clear ew11 HQ HC3
          go_wp2_with fail
          go_loopg [27] n (fun gk i wr => ∃ (j : Nat), Hid (gk + j = n) ∧ j ≤ n ∧ i = .int .i64 (j : Int) ∧ Hid (0 < n → ∃ gB oB, A9 = some ⟨gB, oB, none⟩ ∧ wl.heap.size ≤ gB ∧ AnyW wr gB oB n) ∧ Hid (Below wl.heap.size wl wr))
          case atStart => exact ⟨0, rfl, Nat.zero_le _, rfl, HQ11, HBw11⟩
          case round =>
            obtain ⟨j, hgk, hj, rfl, hP, hB⟩ := hrel
            by_cases hjn : j < n
            · obtain ⟨gB, oB, eB, hge, hany⟩ := hP.out (by omega)
              obtain ⟨f', hidx, hfl, hfr⟩ := hany.index c9 hjn
              rw [← eB] at hidx
              have Hany := Lib.hid hany
              obtain ⟨c0, c1, c2', c3⟩ := hfl
              have i0 : (0 : Int) ≤ (j : Int) := by omega
              have i1 : (j : Int) < (n : Int) := by omega
              have Hjn := Lib.hid hjn
              have Hge := Lib.hid hge
              have HeB := Lib.hid eB
              clear hany hge c0 c1 c3 eB
              go_wp2_with fail
              go_roundg (gk - 1)
              case measure => have := hgk.out; have := Hjn.out; omega
              case rel => exact ⟨j + 1, by have := hgk.out; have := Hjn.out; show gk - 1 + (j + 1) = _; omega, by have := Hjn.out; omega, by go_num, Lib.hid (fun _ => ⟨gB, oB, HeB.out, Hge.out, Hany.out.set2 Hjn.out _⟩), Lib.hid (set_below hB.out Hge.out _)⟩
            · obtain rfl : n = j := by omega
              have HC4 := Lib.hid (all_at S g L wr (HT.out _ hB.out).2.1 (by have := Hn70.out; have := Hn.out; omega))
              go_wp2_with fail
              refine HC4.out.mono ?_
              rintro e w12 ⟨A12, c12, rfl, hs12, hown12, hb12⟩
              rw [Hal.out] at hs12 hown12 ⊢
              have HS12 := Lib.hid hs12
              have HBw12 := Lib.hid (below_trans hB.out hb12)
              have HC5 := Lib.hid (rall14_any A n c L w12 (HT.out _ HBw12.out).2.2 Hn.out (by have := Hn70.out; omega))
              clear hs12 hown12 hb12 HC4
              go_wp2_with fail
              refine HC5.out.mono ?_
              rintro e w13 ⟨A13, c13, rfl, hs13, hown13, hb13⟩
              rw [Hal.out] at hs13 hown13 ⊢
              have HBw13 := Lib.hid (below_trans HBw12.out hb13)
              have HC6 := Lib.hid (rsame14_any A12 A13 n n c12 c13 (fwAll L) (fwAll L) w13 (RdW.of (HS12.out.but (But.of (S := fun _ => False) hb13) (fun _ _ h => h)) Hal.out) (RdW.of hs13 Hal.out) Hal.out Hal.out (by have := Hn70.out; omega) true (decide_eq_true rfl))
              clear hs13 hown13 hb13 HC5
              go_wp2_with fail
              refine HC6.out.mono ?_
              rintro e w14 ⟨rfl, m14, ew14⟩
              have HBw14 := Lib.hid (show Below wl.heap.size wl w14 by rw [ew14]; have h := HBw13.out; exact ⟨h.os, h.tape, h.output, h.size, h.block⟩)
              clear ew14 HC6
              go_wp2_with fail
              refine (wakes14_any _).mono ?_
              rintro e w15 ⟨rfl, hb15⟩
              have HBe := Lib.hid (below_trans HBl.out (below_trans HBw14.out hb15))
              clear hb15
              go_wp2_with fail
              go_ret
              exact ⟨rfl, HBe.out⟩
    · have HMay := Lib.hid hmay
      refine (new_bad k B n d L w1 (RdW.of HS1.out Hn.out) Hn.out (by have := Hn70.out; omega) hmay).mono ?_
      rintro e w2 ⟨rfl, hb2⟩
      have HX2 := Lib.hid (show ∀ W, Below w2.heap.size w2 W → W.heap[z]? = some (.cells #[.int .u32 k.ins, .int .u32 k.msk, k.v2, .int .u16 k.lo, .int .u16 k.hi, k.v5, k.v6, k.v7, k.v8, k.v9, k.va, k.vb, k.vc, k.vd, k.ve, k.vf, k.vg, k.vh, k.vi] 29 (0, 0)) ∧ W.heap[z + 1]? = some (.cells #[.int .u8 x.pr, .int .u32 x.sr, .int .u32 x.ds, .int .u16 x.sp, .int .u16 x.dp] 31 (0, 0)) ∧ RdW W A L from fun W hW => HX.out W (below_trans (below_trans HB1.out hb2) hW))
      have HB2 := Lib.hid (below_trans HB1.out hb2)
      clear hmay hb2
      go_upto_region 5 with (fail)
      have HSS := Lib.hid (show ∀ W, Below w2.heap.size w2 W → W.heap[z]? = some (.cells #[.int .u32 k.ins, .int .u32 k.msk, k.v2, .int .u16 k.lo, .int .u16 k.hi, k.v5, k.v6, k.v7, k.v8, k.v9, k.va, k.vb, k.vc, k.vd, k.ve, k.vf, k.vg, k.vh, k.vi] 29 (0, 0)) ∧ W.cell? ⟨z + 1, 1, none⟩ = some (.int .u32 x.sr) from fun W hW => ⟨(HX2.out W hW).1, (cells5 (HX2.out W hW).2.1).2.1⟩)
      go_cut [65] (fun v wx => v = .bool false ∧ Hid (Below w2.heap.size w2 wx))
      case first =>
        refine wp_region_noPanic ?_
        refine wp_region_held_drew (S := fun W => W.heap[z]? = some (.cells #[.int .u32 k.ins, .int .u32 k.msk, k.v2, .int .u16 k.lo, .int .u16 k.hi, k.v5, k.v6, k.v7, k.v8, k.v9, k.va, k.vb, k.vc, k.vd, k.ve, k.vf, k.vg, k.vh, k.vi] 29 (0, 0)) ∧ W.cell? ⟨z + 1, 1, none⟩ = some (.int .u32 x.sr)) (by kernel_rfl) (HSS.out _ (Below.refl _ _).drew) (fun hHeld => ?_)
        obtain ⟨wd, ewd⟩ : ∃ wd, w2.drew = wd := ⟨_, rfl⟩
        have HBu := Lib.hid (show Below w2.heap.size w2 wd by rw [← ewd]; exact (Below.refl _ _).drew)
        rw [ewd] at hHeld ⊢
        clear ewd
        obtain ⟨iv, eiv⟩ : ∃ iv, insB k x.sr = iv := ⟨_, rfl⟩
        have Hiv := Lib.hid eiv
        clear eiv
        have Hbm := Lib.hid (show false = true ↔ FwMay (okF k) L from ⟨fun h => (by cases h), fun h => absurd h HMay.out⟩)
        cases iv with
        | true =>
          refine wpAnyH_take (i := 0) (oi := { dst := some 40, op := Go.Op.move (Go.Operand.tmp 11), type := 34, pos := "law.go:32", after := #[], guard := none }) (v := ?_) rfl (by kernel_rfl) (by kernel_rfl) (by kernel_rfl) (fun _ _ _ h => h) (Or.inl ⟨by rfl, ?_⟩) (by assumption) ?_
          rotate_left 1
          · intro w' hSw; (go_simp <;> (with_reducible rfl))
          (try simp only [Act.put, List.setIfInBounds_toArray, List.set_cons_zero, List.set_cons_succ])
          refine wpAnyH_take (i := 1) (oi := { dst := some 41, op := Go.Op.binOp Go.BinOp.eql 34 (Go.Operand.tmp 40) (Go.Operand.const (Go.Value.int Go.IntKind.i64 0)) 34, type := 4, pos := "law.go:32", after := #[{ on := 0, ground := Go.Ground.data }], guard := none }) (v := ?_) rfl (by kernel_rfl) (by kernel_rfl) (by kernel_rfl) (fun _ _ _ h => h) (Or.inl ⟨by rfl, ?_⟩) (by assumption) ?_
          rotate_left 1
          · intro w' hSw; (go_simp <;> (with_reducible rfl))
          (try simp only [Act.put, List.setIfInBounds_toArray, List.set_cons_zero, List.set_cons_succ])
          refine wpAnyH_take (i := 2) (oi := { dst := some 42, op := Go.Op.load 29 (Go.Operand.tmp 4), type := 29, pos := "law.go:32", after := #[], guard := none }) (v := .agg #[.int .u32 k.ins, .int .u32 k.msk, k.v2, .int .u16 k.lo, .int .u16 k.hi, k.v5, k.v6, k.v7, k.v8, k.v9, k.va, k.vb, k.vc, k.vd, k.ve, k.vf, k.vg, k.vh, k.vi]) rfl (by kernel_rfl) (by kernel_rfl) (by kernel_rfl) (fun _ _ _ h => h) (Or.inl ⟨by rfl, fun w' hSw => exec_row 29 (.tmp 4) rfl z _ _ _ _ (hSw.1) rfl Try.underlying29 rfl (by kernel_rfl)⟩) (by assumption) ?_
          (try simp only [Act.put, List.setIfInBounds_toArray, List.set_cons_zero, List.set_cons_succ])
          refine wpAnyH_take (i := 3) (oi := { dst := some 43, op := Go.Op.move (Go.Operand.tmp 1), type := 27, pos := "law.go:32", after := #[], guard := none }) (v := ?_) rfl (by kernel_rfl) (by kernel_rfl) (by kernel_rfl) (fun _ _ _ h => h) (Or.inl ⟨by rfl, ?_⟩) (by assumption) ?_
          rotate_left 1
          · intro w' hSw; (go_simp <;> (with_reducible rfl))
          (try simp only [Act.put, List.setIfInBounds_toArray, List.set_cons_zero, List.set_cons_succ])
          refine wpAnyH_ready (rs := [4]) (by kernel_rfl) (by simp) ?_
          refine AllReadyH.cons (o := { dst := some 44, op := Go.Op.call { callee := Go.Callee.value (Go.Operand.func 9), args := #[Go.Operand.tmp 42, Go.Operand.tmp 43], argTypes := #[29, 27] }, type := 4, pos := "law.go:32", after := #[{ on := 2, ground := Go.Ground.data }, { on := 3, ground := Go.Ground.data }], guard := none }) rfl (fun K hK => ?_) AllReadyH.nil
          go_simp
          (refine (rmay14_any k A n c L _ _ (HX2.out _ HBu.out).2.2 Hn.out (by have := Hn70.out; omega) Hbm.out).mono ?_; rintro e u1 ⟨rfl, hb⟩; have HBu := Lib.hid (below_trans HBu.out hb); clear hb)
          refine hK.out _ _ ?_ (fun hHeld => ?_)
          · exact HSS.out _ HBu.out
          clear hK K
          (try simp only [Act.put, List.setIfInBounds_toArray, List.set_cons_zero, List.set_cons_succ])
          refine wpAnyH_take (i := 5) (oi := { dst := some 45, op := Go.Op.binOp Go.BinOp.neq 4 (Go.Operand.tmp 41) (Go.Operand.tmp 44) 4, type := 4, pos := "law.go:32", after := #[{ on := 1, ground := Go.Ground.data }, { on := 4, ground := Go.Ground.data }], guard := none }) (v := ?_) rfl (by kernel_rfl) (by kernel_rfl) (by kernel_rfl) (fun _ _ _ h => h) (Or.inl ⟨by rfl, ?_⟩) (by assumption) ?_
          rotate_left 1
          · intro w' hSw; (go_simp <;> (with_reducible rfl))
          (try simp only [Act.put, List.setIfInBounds_toArray, List.set_cons_zero, List.set_cons_succ])
          refine wpAnyH_take (i := 6) (oi := { dst := some 46, op := Go.Op.move (Go.Operand.tmp 45), type := 4, pos := "law.go:32", after := #[{ on := 5, ground := Go.Ground.data }, { on := 4, ground := Go.Ground.chain }], guard := none }) (v := ?_) rfl (by kernel_rfl) (by kernel_rfl) (by kernel_rfl) (fun _ _ _ h => h) (Or.inl ⟨by rfl, ?_⟩) (by assumption) ?_
          rotate_left 1
          · intro w' hSw; (go_simp <;> (with_reducible rfl))
          (try simp only [Act.put, List.setIfInBounds_toArray, List.set_cons_zero, List.set_cons_succ])
          refine wpAnyH_take (i := 7) (oi := { dst := some 47, op := Go.Op.load 29 (Go.Operand.tmp 4), type := 29, pos := "law.go:32", after := #[{ on := 6, ground := Go.Ground.guard }], guard := some (6, false) }) (v := .agg #[.int .u32 k.ins, .int .u32 k.msk, k.v2, .int .u16 k.lo, .int .u16 k.hi, k.v5, k.v6, k.v7, k.v8, k.v9, k.va, k.vb, k.vc, k.vd, k.ve, k.vf, k.vg, k.vh, k.vi]) rfl (by kernel_rfl) (by kernel_rfl) (by kernel_rfl) (fun _ _ _ h => h) (Or.inl ⟨by rfl, fun w' hSw => exec_row 29 (.tmp 4) rfl z _ _ _ _ (hSw.1) rfl Try.underlying29 rfl (by kernel_rfl)⟩) (by assumption) ?_
          (try simp only [Act.put, List.setIfInBounds_toArray, List.set_cons_zero, List.set_cons_succ])
          refine wpAnyH_take (i := 8) (oi := { dst := some 48, op := Go.Op.move (Go.Operand.tmp 1), type := 27, pos := "law.go:32", after := #[{ on := 6, ground := Go.Ground.guard }], guard := some (6, false) }) (v := ?_) rfl (by kernel_rfl) (by kernel_rfl) (by kernel_rfl) (fun _ _ _ h => h) (Or.inl ⟨by rfl, ?_⟩) (by assumption) ?_
          rotate_left 1
          · intro w' hSw; (go_simp <;> (with_reducible rfl))
          (try simp only [Act.put, List.setIfInBounds_toArray, List.set_cons_zero, List.set_cons_succ])
          refine wpAnyH_take (i := 10) (oi := { dst := some 50, op := Go.Op.load 29 (Go.Operand.tmp 4), type := 29, pos := "law.go:32", after := #[{ on := 6, ground := Go.Ground.guard }], guard := some (6, false) }) (v := .agg #[.int .u32 k.ins, .int .u32 k.msk, k.v2, .int .u16 k.lo, .int .u16 k.hi, k.v5, k.v6, k.v7, k.v8, k.v9, k.va, k.vb, k.vc, k.vd, k.ve, k.vf, k.vg, k.vh, k.vi]) rfl (by kernel_rfl) (by kernel_rfl) (by kernel_rfl) (fun _ _ _ h => h) (Or.inl ⟨by rfl, fun w' hSw => exec_row 29 (.tmp 4) rfl z _ _ _ _ (hSw.1) rfl Try.underlying29 rfl (by kernel_rfl)⟩) (by assumption) ?_
          (try simp only [Act.put, List.setIfInBounds_toArray, List.set_cons_zero, List.set_cons_succ])
          refine wpAnyH_take (i := 11) (oi := { dst := some 51, op := Go.Op.move (Go.Operand.tmp 1), type := 27, pos := "law.go:32", after := #[{ on := 6, ground := Go.Ground.guard }], guard := some (6, false) }) (v := ?_) rfl (by kernel_rfl) (by kernel_rfl) (by kernel_rfl) (fun _ _ _ h => h) (Or.inl ⟨by rfl, ?_⟩) (by assumption) ?_
          rotate_left 1
          · intro w' hSw; (go_simp <;> (with_reducible rfl))
          (try simp only [Act.put, List.setIfInBounds_toArray, List.set_cons_zero, List.set_cons_succ])
          refine wpAnyH_ready (rs := [9]) (by kernel_rfl) (by simp) ?_
          refine AllReadyH.cons (o := { dst := some 49, op := Go.Op.call { callee := Go.Callee.value (Go.Operand.func 10), args := #[Go.Operand.tmp 47, Go.Operand.tmp 48], argTypes := #[29, 27] }, type := 4, pos := "law.go:32", after := #[{ on := 7, ground := Go.Ground.data }, { on := 8, ground := Go.Ground.data }, { on := 6, ground := Go.Ground.chain }, { on := 6, ground := Go.Ground.guard }], guard := some (6, false) }) rfl (fun K hK => ?_) AllReadyH.nil
          go_simp
          (refine (may_any k A n c L _ _ (HX2.out _ HBu.out).2.2 Hn.out (by have := Hn70.out; omega) Hbm.out).mono ?_; rintro e u2 ⟨rfl, hb⟩; have HBu := Lib.hid (below_trans HBu.out hb); clear hb)
          refine hK.out _ _ ?_ (fun hHeld => ?_)
          · exact HSS.out _ HBu.out
          clear hK K
          (try simp only [Act.put, List.setIfInBounds_toArray, List.set_cons_zero, List.set_cons_succ])
          refine wpAnyH_ready (rs := [12]) (by kernel_rfl) (by simp) ?_
          refine AllReadyH.cons (o := { dst := some 52, op := Go.Op.call { callee := Go.Callee.value (Go.Operand.func 9), args := #[Go.Operand.tmp 50, Go.Operand.tmp 51], argTypes := #[29, 27] }, type := 4, pos := "law.go:32", after := #[{ on := 10, ground := Go.Ground.data }, { on := 11, ground := Go.Ground.data }, { on := 9, ground := Go.Ground.chain }, { on := 6, ground := Go.Ground.guard }], guard := some (6, false) }) rfl (fun K hK => ?_) AllReadyH.nil
          go_simp
          (refine (rmay14_any k A n c L _ _ (HX2.out _ HBu.out).2.2 Hn.out (by have := Hn70.out; omega) Hbm.out).mono ?_; rintro e u3 ⟨rfl, hb⟩; have HBu := Lib.hid (below_trans HBu.out hb); clear hb)
          refine hK.out _ _ ?_ (fun hHeld => ?_)
          · exact HSS.out _ HBu.out
          clear hK K
          (try simp only [Act.put, List.setIfInBounds_toArray, List.set_cons_zero, List.set_cons_succ])
          refine wpAnyH_take (i := 13) (oi := { dst := some 53, op := Go.Op.binOp Go.BinOp.neq 4 (Go.Operand.tmp 49) (Go.Operand.tmp 52) 4, type := 4, pos := "law.go:32", after := #[{ on := 9, ground := Go.Ground.data }, { on := 12, ground := Go.Ground.data }, { on := 6, ground := Go.Ground.guard }], guard := some (6, false) }) (v := ?_) rfl (by kernel_rfl) (by kernel_rfl) (by kernel_rfl) (fun _ _ _ h => h) (Or.inl ⟨by rfl, ?_⟩) (by assumption) ?_
          rotate_left 1
          · intro w' hSw; (go_simp <;> (with_reducible rfl))
          (try simp only [Act.put, List.setIfInBounds_toArray, List.set_cons_zero, List.set_cons_succ])
          refine wpAnyH_take (i := 14) (oi := { dst := some 54, op := Go.Op.pick (Go.Operand.tmp 46) (Go.Operand.const (Go.Value.bool true)) (Go.Operand.tmp 53), type := 4, pos := "law.go:32", after := #[{ on := 6, ground := Go.Ground.data }, { on := 13, ground := Go.Ground.data }], guard := none }) (v := ?_) rfl (by kernel_rfl) (by kernel_rfl) (by kernel_rfl) (fun _ _ _ h => h) (Or.inl ⟨by rfl, ?_⟩) (by assumption) ?_
          rotate_left 1
          · intro w' hSw; (go_simp <;> (with_reducible rfl))
          (try simp only [Act.put, List.setIfInBounds_toArray, List.set_cons_zero, List.set_cons_succ])
          refine wpAnyH_take (i := 15) (oi := { dst := some 55, op := Go.Op.move (Go.Operand.tmp 54), type := 4, pos := "law.go:32", after := #[{ on := 14, ground := Go.Ground.data }, { on := 12, ground := Go.Ground.chain }], guard := none }) (v := ?_) rfl (by kernel_rfl) (by kernel_rfl) (by kernel_rfl) (fun _ _ _ h => h) (Or.inl ⟨by rfl, ?_⟩) (by assumption) ?_
          rotate_left 1
          · intro w' hSw; (go_simp <;> (with_reducible rfl))
          (try simp only [Act.put, List.setIfInBounds_toArray, List.set_cons_zero, List.set_cons_succ])
          refine wpAnyH_take (i := 16) (oi := { dst := some 56, op := Go.Op.load 29 (Go.Operand.tmp 4), type := 29, pos := "law.go:32", after := #[{ on := 15, ground := Go.Ground.guard }], guard := some (15, false) }) (v := .agg #[.int .u32 k.ins, .int .u32 k.msk, k.v2, .int .u16 k.lo, .int .u16 k.hi, k.v5, k.v6, k.v7, k.v8, k.v9, k.va, k.vb, k.vc, k.vd, k.ve, k.vf, k.vg, k.vh, k.vi]) rfl (by kernel_rfl) (by kernel_rfl) (by kernel_rfl) (fun _ _ _ h => h) (Or.inl ⟨by rfl, fun w' hSw => exec_row 29 (.tmp 4) rfl z _ _ _ _ (hSw.1) rfl Try.underlying29 rfl (by kernel_rfl)⟩) (by assumption) ?_
          (try simp only [Act.put, List.setIfInBounds_toArray, List.set_cons_zero, List.set_cons_succ])
          refine wpAnyH_take (i := 17) (oi := { dst := some 57, op := Go.Op.fieldAddr 31 (Go.Operand.tmp 6) 1, type := 0, pos := "law.go:32", after := #[{ on := 15, ground := Go.Ground.guard }], guard := some (15, false) }) (v := ?_) rfl (by kernel_rfl) (by kernel_rfl) (by kernel_rfl) (fun _ _ _ h => h) (Or.inl ⟨by rfl, ?_⟩) (by assumption) ?_
          rotate_left 1
          · intro w' hSw; (go_simp <;> (with_reducible rfl))
          (try simp only [Act.put, List.setIfInBounds_toArray, List.set_cons_zero, List.set_cons_succ])
          refine wpAnyH_take (i := 18) (oi := { dst := some 58, op := Go.Op.load 22 (Go.Operand.tmp 57), type := 22, pos := "law.go:32", after := #[{ on := 17, ground := Go.Ground.data }, { on := 15, ground := Go.Ground.guard }], guard := some (15, false) }) (v := ?_) rfl (by kernel_rfl) (by kernel_rfl) (by kernel_rfl) (fun _ _ _ h => h) (Or.inl ⟨by rfl, ?_⟩) (by assumption) ?_
          rotate_left 1
          · intro w' hSw; (go_simp <;> (with_reducible rfl))
          (try simp only [Act.put, List.setIfInBounds_toArray, List.set_cons_zero, List.set_cons_succ])
          refine wpAnyH_take (i := 20) (oi := { dst := some 60, op := Go.Op.load 29 (Go.Operand.tmp 4), type := 29, pos := "law.go:32", after := #[{ on := 15, ground := Go.Ground.guard }], guard := some (15, false) }) (v := .agg #[.int .u32 k.ins, .int .u32 k.msk, k.v2, .int .u16 k.lo, .int .u16 k.hi, k.v5, k.v6, k.v7, k.v8, k.v9, k.va, k.vb, k.vc, k.vd, k.ve, k.vf, k.vg, k.vh, k.vi]) rfl (by kernel_rfl) (by kernel_rfl) (by kernel_rfl) (fun _ _ _ h => h) (Or.inl ⟨by rfl, fun w' hSw => exec_row 29 (.tmp 4) rfl z _ _ _ _ (hSw.1) rfl Try.underlying29 rfl (by kernel_rfl)⟩) (by assumption) ?_
          (try simp only [Act.put, List.setIfInBounds_toArray, List.set_cons_zero, List.set_cons_succ])
          refine wpAnyH_take (i := 21) (oi := { dst := some 61, op := Go.Op.fieldAddr 31 (Go.Operand.tmp 6) 1, type := 0, pos := "law.go:32", after := #[{ on := 15, ground := Go.Ground.guard }], guard := some (15, false) }) (v := ?_) rfl (by kernel_rfl) (by kernel_rfl) (by kernel_rfl) (fun _ _ _ h => h) (Or.inl ⟨by rfl, ?_⟩) (by assumption) ?_
          rotate_left 1
          · intro w' hSw; (go_simp <;> (with_reducible rfl))
          (try simp only [Act.put, List.setIfInBounds_toArray, List.set_cons_zero, List.set_cons_succ])
          refine wpAnyH_take (i := 22) (oi := { dst := some 62, op := Go.Op.load 22 (Go.Operand.tmp 61), type := 22, pos := "law.go:32", after := #[{ on := 21, ground := Go.Ground.data }, { on := 15, ground := Go.Ground.guard }], guard := some (15, false) }) (v := ?_) rfl (by kernel_rfl) (by kernel_rfl) (by kernel_rfl) (fun _ _ _ h => h) (Or.inl ⟨by rfl, ?_⟩) (by assumption) ?_
          rotate_left 1
          · intro w' hSw; (go_simp <;> (with_reducible rfl))
          (try simp only [Act.put, List.setIfInBounds_toArray, List.set_cons_zero, List.set_cons_succ])
          refine wpAnyH_ready (rs := [19]) (by kernel_rfl) (by simp) ?_
          refine AllReadyH.cons (o := { dst := some 59, op := Go.Op.call { callee := Go.Callee.value (Go.Operand.func 11), args := #[Go.Operand.tmp 56, Go.Operand.tmp 58], argTypes := #[29, 22] }, type := 4, pos := "law.go:32", after := #[{ on := 16, ground := Go.Ground.data }, { on := 18, ground := Go.Ground.data }, { on := 15, ground := Go.Ground.chain }, { on := 15, ground := Go.Ground.guard }], guard := some (15, false) }) rfl (fun K hK => ?_) AllReadyH.nil
          go_simp
          (refine (inside_any k x.sr _ _ Hiv.out).mono ?_; rintro e u4 ⟨rfl, hb⟩; have HBu := Lib.hid (below_trans HBu.out hb); clear hb)
          refine hK.out _ _ ?_ (fun hHeld => ?_)
          · exact HSS.out _ HBu.out
          clear hK K
          (try simp only [Act.put, List.setIfInBounds_toArray, List.set_cons_zero, List.set_cons_succ])
          refine wpAnyH_ready (rs := [23]) (by kernel_rfl) (by simp) ?_
          refine AllReadyH.cons (o := { dst := some 63, op := Go.Op.call { callee := Go.Callee.value (Go.Operand.func 12), args := #[Go.Operand.tmp 60, Go.Operand.tmp 62], argTypes := #[29, 22] }, type := 4, pos := "law.go:32", after := #[{ on := 20, ground := Go.Ground.data }, { on := 22, ground := Go.Ground.data }, { on := 19, ground := Go.Ground.chain }, { on := 15, ground := Go.Ground.guard }], guard := some (15, false) }) rfl (fun K hK => ?_) AllReadyH.nil
          go_simp
          (refine (rinside14_any k x.sr _ _ Hiv.out).mono ?_; rintro e u5 ⟨rfl, hb⟩; have HBu := Lib.hid (below_trans HBu.out hb); clear hb)
          refine hK.out _ _ ?_ (fun hHeld => ?_)
          · exact HSS.out _ HBu.out
          clear hK K
          (try simp only [Act.put, List.setIfInBounds_toArray, List.set_cons_zero, List.set_cons_succ])
          refine wpAnyH_take (i := 24) (oi := { dst := some 64, op := Go.Op.binOp Go.BinOp.neq 4 (Go.Operand.tmp 59) (Go.Operand.tmp 63) 4, type := 4, pos := "law.go:32", after := #[{ on := 19, ground := Go.Ground.data }, { on := 23, ground := Go.Ground.data }, { on := 15, ground := Go.Ground.guard }], guard := some (15, false) }) (v := ?_) rfl (by kernel_rfl) (by kernel_rfl) (by kernel_rfl) (fun _ _ _ h => h) (Or.inl ⟨by rfl, ?_⟩) (by assumption) ?_
          rotate_left 1
          · intro w' hSw; (go_simp <;> (with_reducible rfl))
          (try simp only [Act.put, List.setIfInBounds_toArray, List.set_cons_zero, List.set_cons_succ])
          refine wpAnyH_take (i := 25) (oi := { dst := some 65, op := Go.Op.pick (Go.Operand.tmp 55) (Go.Operand.const (Go.Value.bool true)) (Go.Operand.tmp 64), type := 4, pos := "law.go:32", after := #[{ on := 15, ground := Go.Ground.data }, { on := 24, ground := Go.Ground.data }], guard := none }) (v := ?_) rfl (by kernel_rfl) (by kernel_rfl) (by kernel_rfl) (fun _ _ _ h => h) (Or.inl ⟨by rfl, ?_⟩) (by assumption) ?_
          rotate_left 1
          · intro w' hSw; (go_simp <;> (with_reducible rfl))
          (try simp only [Act.put, List.setIfInBounds_toArray, List.set_cons_zero, List.set_cons_succ])
          refine wpAnyH_done (by kernel_rfl) ?_ _
          refine NoPanic.normal ?_
          clear hHeld
          go_wp2_with fail
          go_meet
          exact ⟨rfl, HBu⟩
        | false =>
          refine wpAnyH_take (i := 0) (oi := { dst := some 40, op := Go.Op.move (Go.Operand.tmp 11), type := 34, pos := "law.go:32", after := #[], guard := none }) (v := ?_) rfl (by kernel_rfl) (by kernel_rfl) (by kernel_rfl) (fun _ _ _ h => h) (Or.inl ⟨by rfl, ?_⟩) (by assumption) ?_
          rotate_left 1
          · intro w' hSw; (go_simp <;> (with_reducible rfl))
          (try simp only [Act.put, List.setIfInBounds_toArray, List.set_cons_zero, List.set_cons_succ])
          refine wpAnyH_take (i := 1) (oi := { dst := some 41, op := Go.Op.binOp Go.BinOp.eql 34 (Go.Operand.tmp 40) (Go.Operand.const (Go.Value.int Go.IntKind.i64 0)) 34, type := 4, pos := "law.go:32", after := #[{ on := 0, ground := Go.Ground.data }], guard := none }) (v := ?_) rfl (by kernel_rfl) (by kernel_rfl) (by kernel_rfl) (fun _ _ _ h => h) (Or.inl ⟨by rfl, ?_⟩) (by assumption) ?_
          rotate_left 1
          · intro w' hSw; (go_simp <;> (with_reducible rfl))
          (try simp only [Act.put, List.setIfInBounds_toArray, List.set_cons_zero, List.set_cons_succ])
          refine wpAnyH_take (i := 2) (oi := { dst := some 42, op := Go.Op.load 29 (Go.Operand.tmp 4), type := 29, pos := "law.go:32", after := #[], guard := none }) (v := .agg #[.int .u32 k.ins, .int .u32 k.msk, k.v2, .int .u16 k.lo, .int .u16 k.hi, k.v5, k.v6, k.v7, k.v8, k.v9, k.va, k.vb, k.vc, k.vd, k.ve, k.vf, k.vg, k.vh, k.vi]) rfl (by kernel_rfl) (by kernel_rfl) (by kernel_rfl) (fun _ _ _ h => h) (Or.inl ⟨by rfl, fun w' hSw => exec_row 29 (.tmp 4) rfl z _ _ _ _ (hSw.1) rfl Try.underlying29 rfl (by kernel_rfl)⟩) (by assumption) ?_
          (try simp only [Act.put, List.setIfInBounds_toArray, List.set_cons_zero, List.set_cons_succ])
          refine wpAnyH_take (i := 3) (oi := { dst := some 43, op := Go.Op.move (Go.Operand.tmp 1), type := 27, pos := "law.go:32", after := #[], guard := none }) (v := ?_) rfl (by kernel_rfl) (by kernel_rfl) (by kernel_rfl) (fun _ _ _ h => h) (Or.inl ⟨by rfl, ?_⟩) (by assumption) ?_
          rotate_left 1
          · intro w' hSw; (go_simp <;> (with_reducible rfl))
          (try simp only [Act.put, List.setIfInBounds_toArray, List.set_cons_zero, List.set_cons_succ])
          refine wpAnyH_ready (rs := [4]) (by kernel_rfl) (by simp) ?_
          refine AllReadyH.cons (o := { dst := some 44, op := Go.Op.call { callee := Go.Callee.value (Go.Operand.func 9), args := #[Go.Operand.tmp 42, Go.Operand.tmp 43], argTypes := #[29, 27] }, type := 4, pos := "law.go:32", after := #[{ on := 2, ground := Go.Ground.data }, { on := 3, ground := Go.Ground.data }], guard := none }) rfl (fun K hK => ?_) AllReadyH.nil
          go_simp
          (refine (rmay14_any k A n c L _ _ (HX2.out _ HBu.out).2.2 Hn.out (by have := Hn70.out; omega) Hbm.out).mono ?_; rintro e u1 ⟨rfl, hb⟩; have HBu := Lib.hid (below_trans HBu.out hb); clear hb)
          refine hK.out _ _ ?_ (fun hHeld => ?_)
          · exact HSS.out _ HBu.out
          clear hK K
          (try simp only [Act.put, List.setIfInBounds_toArray, List.set_cons_zero, List.set_cons_succ])
          refine wpAnyH_take (i := 5) (oi := { dst := some 45, op := Go.Op.binOp Go.BinOp.neq 4 (Go.Operand.tmp 41) (Go.Operand.tmp 44) 4, type := 4, pos := "law.go:32", after := #[{ on := 1, ground := Go.Ground.data }, { on := 4, ground := Go.Ground.data }], guard := none }) (v := ?_) rfl (by kernel_rfl) (by kernel_rfl) (by kernel_rfl) (fun _ _ _ h => h) (Or.inl ⟨by rfl, ?_⟩) (by assumption) ?_
          rotate_left 1
          · intro w' hSw; (go_simp <;> (with_reducible rfl))
          (try simp only [Act.put, List.setIfInBounds_toArray, List.set_cons_zero, List.set_cons_succ])
          refine wpAnyH_take (i := 6) (oi := { dst := some 46, op := Go.Op.move (Go.Operand.tmp 45), type := 4, pos := "law.go:32", after := #[{ on := 5, ground := Go.Ground.data }, { on := 4, ground := Go.Ground.chain }], guard := none }) (v := ?_) rfl (by kernel_rfl) (by kernel_rfl) (by kernel_rfl) (fun _ _ _ h => h) (Or.inl ⟨by rfl, ?_⟩) (by assumption) ?_
          rotate_left 1
          · intro w' hSw; (go_simp <;> (with_reducible rfl))
          (try simp only [Act.put, List.setIfInBounds_toArray, List.set_cons_zero, List.set_cons_succ])
          refine wpAnyH_take (i := 7) (oi := { dst := some 47, op := Go.Op.load 29 (Go.Operand.tmp 4), type := 29, pos := "law.go:32", after := #[{ on := 6, ground := Go.Ground.guard }], guard := some (6, false) }) (v := .agg #[.int .u32 k.ins, .int .u32 k.msk, k.v2, .int .u16 k.lo, .int .u16 k.hi, k.v5, k.v6, k.v7, k.v8, k.v9, k.va, k.vb, k.vc, k.vd, k.ve, k.vf, k.vg, k.vh, k.vi]) rfl (by kernel_rfl) (by kernel_rfl) (by kernel_rfl) (fun _ _ _ h => h) (Or.inl ⟨by rfl, fun w' hSw => exec_row 29 (.tmp 4) rfl z _ _ _ _ (hSw.1) rfl Try.underlying29 rfl (by kernel_rfl)⟩) (by assumption) ?_
          (try simp only [Act.put, List.setIfInBounds_toArray, List.set_cons_zero, List.set_cons_succ])
          refine wpAnyH_take (i := 8) (oi := { dst := some 48, op := Go.Op.move (Go.Operand.tmp 1), type := 27, pos := "law.go:32", after := #[{ on := 6, ground := Go.Ground.guard }], guard := some (6, false) }) (v := ?_) rfl (by kernel_rfl) (by kernel_rfl) (by kernel_rfl) (fun _ _ _ h => h) (Or.inl ⟨by rfl, ?_⟩) (by assumption) ?_
          rotate_left 1
          · intro w' hSw; (go_simp <;> (with_reducible rfl))
          (try simp only [Act.put, List.setIfInBounds_toArray, List.set_cons_zero, List.set_cons_succ])
          refine wpAnyH_take (i := 10) (oi := { dst := some 50, op := Go.Op.load 29 (Go.Operand.tmp 4), type := 29, pos := "law.go:32", after := #[{ on := 6, ground := Go.Ground.guard }], guard := some (6, false) }) (v := .agg #[.int .u32 k.ins, .int .u32 k.msk, k.v2, .int .u16 k.lo, .int .u16 k.hi, k.v5, k.v6, k.v7, k.v8, k.v9, k.va, k.vb, k.vc, k.vd, k.ve, k.vf, k.vg, k.vh, k.vi]) rfl (by kernel_rfl) (by kernel_rfl) (by kernel_rfl) (fun _ _ _ h => h) (Or.inl ⟨by rfl, fun w' hSw => exec_row 29 (.tmp 4) rfl z _ _ _ _ (hSw.1) rfl Try.underlying29 rfl (by kernel_rfl)⟩) (by assumption) ?_
          (try simp only [Act.put, List.setIfInBounds_toArray, List.set_cons_zero, List.set_cons_succ])
          refine wpAnyH_take (i := 11) (oi := { dst := some 51, op := Go.Op.move (Go.Operand.tmp 1), type := 27, pos := "law.go:32", after := #[{ on := 6, ground := Go.Ground.guard }], guard := some (6, false) }) (v := ?_) rfl (by kernel_rfl) (by kernel_rfl) (by kernel_rfl) (fun _ _ _ h => h) (Or.inl ⟨by rfl, ?_⟩) (by assumption) ?_
          rotate_left 1
          · intro w' hSw; (go_simp <;> (with_reducible rfl))
          (try simp only [Act.put, List.setIfInBounds_toArray, List.set_cons_zero, List.set_cons_succ])
          refine wpAnyH_ready (rs := [9]) (by kernel_rfl) (by simp) ?_
          refine AllReadyH.cons (o := { dst := some 49, op := Go.Op.call { callee := Go.Callee.value (Go.Operand.func 10), args := #[Go.Operand.tmp 47, Go.Operand.tmp 48], argTypes := #[29, 27] }, type := 4, pos := "law.go:32", after := #[{ on := 7, ground := Go.Ground.data }, { on := 8, ground := Go.Ground.data }, { on := 6, ground := Go.Ground.chain }, { on := 6, ground := Go.Ground.guard }], guard := some (6, false) }) rfl (fun K hK => ?_) AllReadyH.nil
          go_simp
          (refine (may_any k A n c L _ _ (HX2.out _ HBu.out).2.2 Hn.out (by have := Hn70.out; omega) Hbm.out).mono ?_; rintro e u2 ⟨rfl, hb⟩; have HBu := Lib.hid (below_trans HBu.out hb); clear hb)
          refine hK.out _ _ ?_ (fun hHeld => ?_)
          · exact HSS.out _ HBu.out
          clear hK K
          (try simp only [Act.put, List.setIfInBounds_toArray, List.set_cons_zero, List.set_cons_succ])
          refine wpAnyH_ready (rs := [12]) (by kernel_rfl) (by simp) ?_
          refine AllReadyH.cons (o := { dst := some 52, op := Go.Op.call { callee := Go.Callee.value (Go.Operand.func 9), args := #[Go.Operand.tmp 50, Go.Operand.tmp 51], argTypes := #[29, 27] }, type := 4, pos := "law.go:32", after := #[{ on := 10, ground := Go.Ground.data }, { on := 11, ground := Go.Ground.data }, { on := 9, ground := Go.Ground.chain }, { on := 6, ground := Go.Ground.guard }], guard := some (6, false) }) rfl (fun K hK => ?_) AllReadyH.nil
          go_simp
          (refine (rmay14_any k A n c L _ _ (HX2.out _ HBu.out).2.2 Hn.out (by have := Hn70.out; omega) Hbm.out).mono ?_; rintro e u3 ⟨rfl, hb⟩; have HBu := Lib.hid (below_trans HBu.out hb); clear hb)
          refine hK.out _ _ ?_ (fun hHeld => ?_)
          · exact HSS.out _ HBu.out
          clear hK K
          (try simp only [Act.put, List.setIfInBounds_toArray, List.set_cons_zero, List.set_cons_succ])
          refine wpAnyH_take (i := 13) (oi := { dst := some 53, op := Go.Op.binOp Go.BinOp.neq 4 (Go.Operand.tmp 49) (Go.Operand.tmp 52) 4, type := 4, pos := "law.go:32", after := #[{ on := 9, ground := Go.Ground.data }, { on := 12, ground := Go.Ground.data }, { on := 6, ground := Go.Ground.guard }], guard := some (6, false) }) (v := ?_) rfl (by kernel_rfl) (by kernel_rfl) (by kernel_rfl) (fun _ _ _ h => h) (Or.inl ⟨by rfl, ?_⟩) (by assumption) ?_
          rotate_left 1
          · intro w' hSw; (go_simp <;> (with_reducible rfl))
          (try simp only [Act.put, List.setIfInBounds_toArray, List.set_cons_zero, List.set_cons_succ])
          refine wpAnyH_take (i := 14) (oi := { dst := some 54, op := Go.Op.pick (Go.Operand.tmp 46) (Go.Operand.const (Go.Value.bool true)) (Go.Operand.tmp 53), type := 4, pos := "law.go:32", after := #[{ on := 6, ground := Go.Ground.data }, { on := 13, ground := Go.Ground.data }], guard := none }) (v := ?_) rfl (by kernel_rfl) (by kernel_rfl) (by kernel_rfl) (fun _ _ _ h => h) (Or.inl ⟨by rfl, ?_⟩) (by assumption) ?_
          rotate_left 1
          · intro w' hSw; (go_simp <;> (with_reducible rfl))
          (try simp only [Act.put, List.setIfInBounds_toArray, List.set_cons_zero, List.set_cons_succ])
          refine wpAnyH_take (i := 15) (oi := { dst := some 55, op := Go.Op.move (Go.Operand.tmp 54), type := 4, pos := "law.go:32", after := #[{ on := 14, ground := Go.Ground.data }, { on := 12, ground := Go.Ground.chain }], guard := none }) (v := ?_) rfl (by kernel_rfl) (by kernel_rfl) (by kernel_rfl) (fun _ _ _ h => h) (Or.inl ⟨by rfl, ?_⟩) (by assumption) ?_
          rotate_left 1
          · intro w' hSw; (go_simp <;> (with_reducible rfl))
          (try simp only [Act.put, List.setIfInBounds_toArray, List.set_cons_zero, List.set_cons_succ])
          refine wpAnyH_take (i := 16) (oi := { dst := some 56, op := Go.Op.load 29 (Go.Operand.tmp 4), type := 29, pos := "law.go:32", after := #[{ on := 15, ground := Go.Ground.guard }], guard := some (15, false) }) (v := .agg #[.int .u32 k.ins, .int .u32 k.msk, k.v2, .int .u16 k.lo, .int .u16 k.hi, k.v5, k.v6, k.v7, k.v8, k.v9, k.va, k.vb, k.vc, k.vd, k.ve, k.vf, k.vg, k.vh, k.vi]) rfl (by kernel_rfl) (by kernel_rfl) (by kernel_rfl) (fun _ _ _ h => h) (Or.inl ⟨by rfl, fun w' hSw => exec_row 29 (.tmp 4) rfl z _ _ _ _ (hSw.1) rfl Try.underlying29 rfl (by kernel_rfl)⟩) (by assumption) ?_
          (try simp only [Act.put, List.setIfInBounds_toArray, List.set_cons_zero, List.set_cons_succ])
          refine wpAnyH_take (i := 17) (oi := { dst := some 57, op := Go.Op.fieldAddr 31 (Go.Operand.tmp 6) 1, type := 0, pos := "law.go:32", after := #[{ on := 15, ground := Go.Ground.guard }], guard := some (15, false) }) (v := ?_) rfl (by kernel_rfl) (by kernel_rfl) (by kernel_rfl) (fun _ _ _ h => h) (Or.inl ⟨by rfl, ?_⟩) (by assumption) ?_
          rotate_left 1
          · intro w' hSw; (go_simp <;> (with_reducible rfl))
          (try simp only [Act.put, List.setIfInBounds_toArray, List.set_cons_zero, List.set_cons_succ])
          refine wpAnyH_take (i := 18) (oi := { dst := some 58, op := Go.Op.load 22 (Go.Operand.tmp 57), type := 22, pos := "law.go:32", after := #[{ on := 17, ground := Go.Ground.data }, { on := 15, ground := Go.Ground.guard }], guard := some (15, false) }) (v := ?_) rfl (by kernel_rfl) (by kernel_rfl) (by kernel_rfl) (fun _ _ _ h => h) (Or.inl ⟨by rfl, ?_⟩) (by assumption) ?_
          rotate_left 1
          · intro w' hSw; (go_simp <;> (with_reducible rfl))
          (try simp only [Act.put, List.setIfInBounds_toArray, List.set_cons_zero, List.set_cons_succ])
          refine wpAnyH_take (i := 20) (oi := { dst := some 60, op := Go.Op.load 29 (Go.Operand.tmp 4), type := 29, pos := "law.go:32", after := #[{ on := 15, ground := Go.Ground.guard }], guard := some (15, false) }) (v := .agg #[.int .u32 k.ins, .int .u32 k.msk, k.v2, .int .u16 k.lo, .int .u16 k.hi, k.v5, k.v6, k.v7, k.v8, k.v9, k.va, k.vb, k.vc, k.vd, k.ve, k.vf, k.vg, k.vh, k.vi]) rfl (by kernel_rfl) (by kernel_rfl) (by kernel_rfl) (fun _ _ _ h => h) (Or.inl ⟨by rfl, fun w' hSw => exec_row 29 (.tmp 4) rfl z _ _ _ _ (hSw.1) rfl Try.underlying29 rfl (by kernel_rfl)⟩) (by assumption) ?_
          (try simp only [Act.put, List.setIfInBounds_toArray, List.set_cons_zero, List.set_cons_succ])
          refine wpAnyH_take (i := 21) (oi := { dst := some 61, op := Go.Op.fieldAddr 31 (Go.Operand.tmp 6) 1, type := 0, pos := "law.go:32", after := #[{ on := 15, ground := Go.Ground.guard }], guard := some (15, false) }) (v := ?_) rfl (by kernel_rfl) (by kernel_rfl) (by kernel_rfl) (fun _ _ _ h => h) (Or.inl ⟨by rfl, ?_⟩) (by assumption) ?_
          rotate_left 1
          · intro w' hSw; (go_simp <;> (with_reducible rfl))
          (try simp only [Act.put, List.setIfInBounds_toArray, List.set_cons_zero, List.set_cons_succ])
          refine wpAnyH_take (i := 22) (oi := { dst := some 62, op := Go.Op.load 22 (Go.Operand.tmp 61), type := 22, pos := "law.go:32", after := #[{ on := 21, ground := Go.Ground.data }, { on := 15, ground := Go.Ground.guard }], guard := some (15, false) }) (v := ?_) rfl (by kernel_rfl) (by kernel_rfl) (by kernel_rfl) (fun _ _ _ h => h) (Or.inl ⟨by rfl, ?_⟩) (by assumption) ?_
          rotate_left 1
          · intro w' hSw; (go_simp <;> (with_reducible rfl))
          (try simp only [Act.put, List.setIfInBounds_toArray, List.set_cons_zero, List.set_cons_succ])
          refine wpAnyH_ready (rs := [19]) (by kernel_rfl) (by simp) ?_
          refine AllReadyH.cons (o := { dst := some 59, op := Go.Op.call { callee := Go.Callee.value (Go.Operand.func 11), args := #[Go.Operand.tmp 56, Go.Operand.tmp 58], argTypes := #[29, 22] }, type := 4, pos := "law.go:32", after := #[{ on := 16, ground := Go.Ground.data }, { on := 18, ground := Go.Ground.data }, { on := 15, ground := Go.Ground.chain }, { on := 15, ground := Go.Ground.guard }], guard := some (15, false) }) rfl (fun K hK => ?_) AllReadyH.nil
          go_simp
          (refine (inside_any k x.sr _ _ Hiv.out).mono ?_; rintro e u4 ⟨rfl, hb⟩; have HBu := Lib.hid (below_trans HBu.out hb); clear hb)
          refine hK.out _ _ ?_ (fun hHeld => ?_)
          · exact HSS.out _ HBu.out
          clear hK K
          (try simp only [Act.put, List.setIfInBounds_toArray, List.set_cons_zero, List.set_cons_succ])
          refine wpAnyH_ready (rs := [23]) (by kernel_rfl) (by simp) ?_
          refine AllReadyH.cons (o := { dst := some 63, op := Go.Op.call { callee := Go.Callee.value (Go.Operand.func 12), args := #[Go.Operand.tmp 60, Go.Operand.tmp 62], argTypes := #[29, 22] }, type := 4, pos := "law.go:32", after := #[{ on := 20, ground := Go.Ground.data }, { on := 22, ground := Go.Ground.data }, { on := 19, ground := Go.Ground.chain }, { on := 15, ground := Go.Ground.guard }], guard := some (15, false) }) rfl (fun K hK => ?_) AllReadyH.nil
          go_simp
          (refine (rinside14_any k x.sr _ _ Hiv.out).mono ?_; rintro e u5 ⟨rfl, hb⟩; have HBu := Lib.hid (below_trans HBu.out hb); clear hb)
          refine hK.out _ _ ?_ (fun hHeld => ?_)
          · exact HSS.out _ HBu.out
          clear hK K
          (try simp only [Act.put, List.setIfInBounds_toArray, List.set_cons_zero, List.set_cons_succ])
          refine wpAnyH_take (i := 24) (oi := { dst := some 64, op := Go.Op.binOp Go.BinOp.neq 4 (Go.Operand.tmp 59) (Go.Operand.tmp 63) 4, type := 4, pos := "law.go:32", after := #[{ on := 19, ground := Go.Ground.data }, { on := 23, ground := Go.Ground.data }, { on := 15, ground := Go.Ground.guard }], guard := some (15, false) }) (v := ?_) rfl (by kernel_rfl) (by kernel_rfl) (by kernel_rfl) (fun _ _ _ h => h) (Or.inl ⟨by rfl, ?_⟩) (by assumption) ?_
          rotate_left 1
          · intro w' hSw; (go_simp <;> (with_reducible rfl))
          (try simp only [Act.put, List.setIfInBounds_toArray, List.set_cons_zero, List.set_cons_succ])
          refine wpAnyH_take (i := 25) (oi := { dst := some 65, op := Go.Op.pick (Go.Operand.tmp 55) (Go.Operand.const (Go.Value.bool true)) (Go.Operand.tmp 64), type := 4, pos := "law.go:32", after := #[{ on := 15, ground := Go.Ground.data }, { on := 24, ground := Go.Ground.data }], guard := none }) (v := ?_) rfl (by kernel_rfl) (by kernel_rfl) (by kernel_rfl) (fun _ _ _ h => h) (Or.inl ⟨by rfl, ?_⟩) (by assumption) ?_
          rotate_left 1
          · intro w' hSw; (go_simp <;> (with_reducible rfl))
          (try simp only [Act.put, List.setIfInBounds_toArray, List.set_cons_zero, List.set_cons_succ])
          refine wpAnyH_done (by kernel_rfl) ?_ _
          refine NoPanic.normal ?_
          clear hHeld
          go_wp2_with fail
          go_meet
          exact ⟨rfl, HBu⟩
      case rest =>
      obtain ⟨rfl, HB5⟩ := hcut
      go_wp2_with fail
      refine (wakes14_any _).mono ?_
      rintro e w15 ⟨rfl, hb15⟩
      have HBe := Lib.hid (below_trans (below_trans Hb0.out HB2.out) (below_trans HB5.out hb15))
      clear hb15
      go_wp2_with fail
      go_ret
      exact ⟨rfl, HBe.out⟩
theorem own : ownKnob Try.prog.godebug = none := by kernel_rfl
theorem laidOut : laidOutB Try.prog = true := by kernel_rfl

set_option maxRecDepth 100000 in
theorem lifted (os : Os) (started : os.Started) (H : Type) (enc : TypeId × Value → H) :
    ReturnsInHanded {} Try.checked os 3 .any (Rows.forwardCallsSpec.pre6 enc Try.prog Try.f3 Rows.forwardCallsRow.domain false) (Rows.forwardCallsSpec.post enc Try.prog Try.f3 false true false false) := by
  refine returnsInHanded_of_change (C := Try.checked) own started (by kernel_rfl) Try.func3
    (ChangeSpec.witness6 (enc := enc) (C := Try.checked) false ⟨#[], #[(.agg #[.int .u32 0, .int .u32 0, .int .u32 0, .int .u16 0, .int .u16 0, .int .u64 0, .int .i64 0, .slice none 0 0, .int .i64 0, .int .u16 0, .int .i64 0, .bool false, .int .u64 0, .slice none 0 0, .slice none 0 0, .int .u64 0, .int .i64 0, .int .u64 0, .int .u64 0]), (.slice none 0 0), (.agg #[.int .u8 0, .int .u32 0, .int .u32 0, .int .u16 0, .int .u16 0]), .int .u32 0], []⟩ 8 (by kernel_rfl) (by kernel_rfl) (by kernel_rfl) (by kernel_rfl)) ?_
  intro W base args ds gs before hval0 hW hcnd _
  have hval : ∀ (j : Nat) t v, Try.f3.params[j]? = some t → args[j]? = some v → Value.okWide Try.prog W .any base t v := hval0
  have hW' := hW
  obtain ⟨p, q, hA0, hV, rfl, hfz, hnd⟩ := hW
  have hA : DataW.TrodAll enc Try.prog W 0 (fun _ => true) true Try.f3.params.toList args.toList ds p := hA0
  rw [Try.params3] at hA hval
  obtain ⟨v0, vs0, d0, ds0, p0, q0, hargs, rfl, rfl, h0, r0⟩ := trodAll_cons hA
  obtain ⟨v1, vs1, d1, ds1, p1, q1, rfl, rfl, rfl, h1, r1⟩ := trodAll_cons r0
  obtain ⟨v2, vs2, d2, ds2, p2, q2, rfl, rfl, rfl, h2, r2⟩ := trodAll_cons r1
  obtain ⟨v3, vs3, d3, ds3, p3, q3, rfl, rfl, rfl, h3, r3⟩ := trodAll_cons r2
  obtain ⟨rfl, rfl, rfl⟩ := trodAll_nil r3
  obtain rfl : args = #[v0, v1, v2, v3] := by cases args; simp_all
  obtain ⟨rfl, rfl⟩ := trodVars_none hV
  have k0 := cfg_open (hval 0 29 v0 rfl rfl) h0
  have lt0 : ∀ x ∈ p0, x.block < W.heap.size := by obtain ⟨m, hm⟩ := h0; exact DataW.trod_lt m _ _ _ hm
  have k1 := fws_open (hval 1 27 v1 rfl rfl) h1
  have lt1 : ∀ x ∈ p1, x.block < W.heap.size := by obtain ⟨m, hm⟩ := h1; exact DataW.trod_lt m _ _ _ hm
  have k2 := tu_open (hval 2 31 v2 rfl rfl) h2
  have lt2 : ∀ x ∈ p2, x.block < W.heap.size := by obtain ⟨m, hm⟩ := h2; exact DataW.trod_lt m _ _ _ hm
  obtain ⟨a3, rfl, rfl, rfl, w3⟩ := open_int Try.underlying22 (hval 3 22 v3 rfl rfl) h3
  clear hA0 hval0
  refine (walk W v0 k0 v1 k1 v2 k2 a3 w3).mono fun e W' ⟨he, bel⟩ => ?_
  subst he
  exact ⟨_, rfl, _, _, _, [], _, [], hW', trodAll_mk1 (shut_bool Try.underlying4 _), (trodAll_cons_mk (Below.trod laidOut (by kernel_rfl) (of_decide_eq_true (by kernel_rfl)) h0 bel lt0) (trodAll_cons_mk (Below.trod laidOut (by kernel_rfl) (of_decide_eq_true (by kernel_rfl)) h1 bel lt1) (trodAll_cons_mk (Below.trod laidOut (by kernel_rfl) (of_decide_eq_true (by kernel_rfl)) h2 bel lt2) (trodAll_cons_mk (shut_int Try.underlying22 w3) trodAll_mk0)))), rfl, bel.frame _, fun h => by cases h⟩

theorem over : Rows.forwardCallsRow.holds Try.pinned (OpenSpec.ofChange Rows.forwardCallsSpec) :=
  OpenClaim.holds_of_wide 3 Try.f3 rfl rfl rfl rfl rfl rfl rfl ⟨rfl, rfl, rfl, rfl, rfl⟩ rfl rfl rfl rfl rfl (by kernel_rfl) Try.func3 (by kernel_rfl)
    (of_decide_eq_true (by kernel_rfl)) (by unfold Func.isWrapper; first | (rw [if_pos (by decide +kernel)]; kernel_rfl) | (rw [if_neg (by decide +kernel)]; exact ⟨rfl, rfl⟩))
    (fun os started H enc _ => lifted os started H enc)

/-- The statement. -/
theorem proved : Rows.ForwardCallsSaid := over
#print axioms proved
end Go.Proofs.Ytknmpfdmjfbpdaa.forwardCalls
