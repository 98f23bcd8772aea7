/-
  ForwardBack holds: what comes in by a forward goes out again where it came in, if no other one leads to the same place; what no forward leads stays.
-/
import Derived.Test.YtknmpfdmjfbpdaaFwBackP
import Derived.Test.YtknmpfdmjfbpdaaFwWakes
import Derived.Test.YtknmpfdmjfbpdaaFwOpen
import Derived.Test.YtknmpfdmjfbpdaaFwCut
import Derived.Test.YtknmpfdmjfbpdaaFwRev
import Derived.Test.YtknmpfdmjfbpdaaFwGoIn
import Derived.Test.YtknmpfdmjfbpdaaFwGoOut
import Derived.RegionTactic
import Derived.Deep.DeepCutAuto
import Derived.Deep.CutRange
import Derived.BigRegion
namespace Go.Proofs.Ytknmpfdmjfbpdaa.forwardBack
set_option maxRecDepth 10000
open Go.ChangeShapes Go.WideShapes Go.ChangeAt Go.RowKit
set_option linter.unusedVariables false
set_option linter.unusedSimpArgs false

theorem below_setRow {B q : Nat} {w0 w : World} (h : Below B w0 w) (hq : B ≤ q) (cs : Array Value) : Below B w0 (w.setRow q cs) :=
  ⟨h.os, h.tape, h.output, by have := h.size; unfold World.setRow; simpa using this, fun k hk => by
    have := h.block k hk
    unfold World.setRow
    rw [Array.getElem?_modify, if_neg (by omega)]
    exact this⟩
theorem belowQ {B : Nat} {a w : World} (h : Below B a w) (m : Nat) : Below B a (w.drewN m) := ⟨h.os, h.tape, h.output, h.size, h.block⟩
set_option maxHeartbeats 2000000 in
theorem walk (w : World) (v0 : Value) (k0 : CfgAt w v0) (v1 : Value) (k1 : FwsAt w v1) (v2 : Value) (k2 : TuAt w v2) :
    Calls Try.prog 4 #[v0, v1, v2] w (fun e w' => e = .returned (.bool true) ∧ Below w.heap.size w w') := by
  obtain ⟨k, rfl⟩ := k0
  obtain ⟨A, n, c, L, rfl, hnc, hcm, hn, hr, hnil⟩ := k1
  obtain ⟨x, rfl⟩ := k2
  obtain ⟨m, hmin, hmin2, hmn, hm70⟩ : ∃ m : Nat, (if (70 : Int) < (n : Int) then (70 : Int) else (n : Int)) = (m : Int) ∧ min (n : Int) 70 = (m : Int) ∧ m ≤ n ∧ m ≤ 70 := by
    by_cases h : 70 < n
    · exact ⟨70, by rw [if_pos (by omega)]; rfl, by omega, by omega, by omega⟩
    · exact ⟨n, by rw [if_neg (by omega)], by omega, by omega, by omega⟩
  obtain ⟨A2, c2, hcut, hnil2, hmc2, hrd⟩ := rw_to A n c m hnil hmn hnc
  obtain ⟨M, eM⟩ : ∃ M, L.take m = M := ⟨_, rfl⟩
  have hM : M.length = m := by rw [← eM, List.length_take]; omega
  have hr2 := hrd w L hr
  rw [eM] at hr2
  obtain ⟨w0, ew⟩ : ∃ w0, (w.alloc (.cells #[.int .u32 k.ins, .int .u32 k.msk, k.v2, .int .u16 k.lo, .int .u16 k.hi, k.v5, k.v6, k.v7, k.v8, k.v9, k.va, k.vb, k.vc, k.vd, k.ve, k.vf, k.vg, k.vh, k.vi] 29)).alloc (.cells #[.int .u8 x.pr, .int .u32 x.sr, .int .u32 x.ds, .int .u16 x.sp, .int .u16 x.dp] 31) = w0 := ⟨_, rfl⟩
  obtain ⟨z, hz⟩ : ∃ z, w.heap.size = z := ⟨_, rfl⟩
  have hb0 : Below w.heap.size w w0 := by rw [← ew]; exact ((Below.refl _ _).alloc (Nat.le_refl _) _).alloc (by simp) _
  have hk0 : w0.heap[z]? = some (.cells #[.int .u32 k.ins, .int .u32 k.msk, k.v2, .int .u16 k.lo, .int .u16 k.hi, k.v5, k.v6, k.v7, k.v8, k.v9, k.va, k.vb, k.vc, k.vd, k.ve, k.vf, k.vg, k.vh, k.vi] 29 (0, 0)) := by rw [← ew, Below.heap_alloc _ _ _ (by simp [hz]), ← hz]; exact heap_alloc_new w _
  have hk1 : w0.heap[z + 1]? = some (.cells #[.int .u8 x.pr, .int .u32 x.sr, .int .u32 x.ds, .int .u16 x.sp, .int .u16 x.dp] 31 (0, 0)) := by
    rw [← ew, ← hz]; simpa using heap_alloc_new (w.alloc (.cells #[.int .u32 k.ins, .int .u32 k.msk, k.v2, .int .u16 k.lo, .int .u16 k.hi, k.v5, k.v6, k.v7, k.v8, k.v9, k.va, k.vb, k.vc, k.vd, k.ve, k.vf, k.vg, k.vh, k.vi] 29)) (.cells #[.int .u8 x.pr, .int .u32 x.sr, .int .u32 x.ds, .int .u16 x.sp, .int .u16 x.dp] 31)
  have HX := Lib.hid (show ∀ W, Below w0.heap.size w0 W → W.heap[z]? = some (.cells #[.int .u32 k.ins, .int .u32 k.msk, k.v2, .int .u16 k.lo, .int .u16 k.hi, k.v5, k.v6, k.v7, k.v8, k.v9, k.va, k.vb, k.vc, k.vd, k.ve, k.vf, k.vg, k.vh, k.vi] 29 (0, 0)) ∧ W.heap[z + 1]? = some (.cells #[.int .u8 x.pr, .int .u32 x.sr, .int .u32 x.ds, .int .u16 x.sp, .int .u16 x.dp] 31 (0, 0)) from fun W hW => ⟨blk_on hk0 hW, blk_on hk1 hW⟩)
  have Hr := Lib.hid (hr2.below hb0)
  have HM := Lib.hid hM
  have Hm70 := Lib.hid hm70
  have Hb0 := Lib.hid hb0
  have Ew := Lib.hid ew
  have Hz := Lib.hid hz
  clear hr hr2 hrd hnil hnil2 hmc2 hnc hcm hn eM hM hb0 hk0 hk1 ew hz hmn hm70
  go_enter Try.func4, Try.ntmps4
  go_upto_region 1 with (fail)
  rw [Ew.out]
  try rw [Hz.out]
  by_cases hmay : FwMay (okF k) M
  · skip
    refine wp_region_held_drew (S := fun w' => w'.heap[z]? = some (.cells #[.int .u32 k.ins, .int .u32 k.msk, k.v2, .int .u16 k.lo, .int .u16 k.hi, k.v5, k.v6, k.v7, k.v8, k.v9, k.va, k.vb, k.vc, k.vd, k.ve, k.vf, k.vg, k.vh, k.vi] 29 (0, 0))) (by kernel_rfl) (HX.out _ (Below.refl _ _).drew).1 (fun hHeld => ?_)
    obtain ⟨wd, ewd⟩ : ∃ wd, w0.drew = wd := ⟨_, rfl⟩
    have HBd := Lib.hid (show Below w0.heap.size w0 wd by rw [← ewd]; exact (Below.refl _ _).drew)
    rw [ewd] at hHeld ⊢
    clear ewd
    have hRd := (Hr.out.below HBd.out)
    have HMay := Lib.hid hmay
    have HNo := Lib.hid (new_ok k A2 m c2 M wd hRd HM.out (by have := Hm70.out; omega) hmay)
    clear hmay hRd
    refine wpAnyH_take (i := 0) (oi := { dst := some 19, op := Go.Op.load 29 (Go.Operand.tmp 3), type := 29, pos := "outright.go:14", after := #[], guard := none }) (v := .agg #[.int .u32 k.ins, .int .u32 k.msk, k.v2, .int .u16 k.lo, .int .u16 k.hi, k.v5, k.v6, k.v7, k.v8, k.v9, k.va, k.vb, k.vc, k.vd, k.ve, k.vf, k.vg, k.vh, k.vi]) rfl (by kernel_rfl) (by kernel_rfl) (by kernel_rfl) (fun _ _ _ h => h) (Or.inl ⟨by rfl, fun w' hSw => exec_row 29 (.tmp 3) rfl z _ _ _ _ (hSw) rfl Try.underlying29 rfl (by kernel_rfl)⟩) (by assumption) ?_
    (try simp only [Act.put, List.setIfInBounds_toArray, List.set_cons_zero, List.set_cons_succ])
    refine wpAnyH_take (i := 1) (oi := { dst := some 20, op := Go.Op.move (Go.Operand.tmp 1), type := 27, pos := "outright.go:14", after := #[], guard := none }) (v := ?_) rfl (by kernel_rfl) (by kernel_rfl) (by kernel_rfl) (fun _ _ _ h => h) (Or.inl ⟨by rfl, ?_⟩) (by assumption) ?_
    rotate_left 1
    · intro w' hSw; (go_simp <;> (with_reducible rfl))
    (try simp only [Act.put, List.setIfInBounds_toArray, List.set_cons_zero, List.set_cons_succ])
    refine wpAnyH_take (i := 2) (oi := { dst := some 21, op := Go.Op.move (Go.Operand.tmp 1), type := 27, pos := "outright.go:14", after := #[], guard := none }) (v := ?_) rfl (by kernel_rfl) (by kernel_rfl) (by kernel_rfl) (fun _ _ _ h => h) (Or.inl ⟨by rfl, ?_⟩) (by assumption) ?_
    rotate_left 1
    · intro w' hSw; (go_simp <;> (with_reducible rfl))
    (try simp only [Act.put, List.setIfInBounds_toArray, List.set_cons_zero, List.set_cons_succ])
    refine wpAnyH_take (i := 3) (oi := { dst := some 22, op := Go.Op.call { callee := Go.Callee.builtin Go.Builtin.len, args := #[Go.Operand.tmp 21], argTypes := #[27] }, type := 3, pos := "outright.go:14", after := #[{ on := 2, ground := Go.Ground.data }], guard := none }) (v := ?_) rfl (by kernel_rfl) (by kernel_rfl) (by kernel_rfl) (fun _ _ _ h => h) (Or.inl ⟨by rfl, ?_⟩) (by assumption) ?_
    rotate_left 1
    · intro w' hSw; (go_simp <;> (with_reducible rfl))
    (try simp only [Act.put, List.setIfInBounds_toArray, List.set_cons_zero, List.set_cons_succ])
    refine wpAnyH_take (i := 4) (oi := { dst := some 23, op := Go.Op.call { callee := Go.Callee.builtin Go.Builtin.min, args := #[Go.Operand.tmp 22, Go.Operand.const (Go.Value.int Go.IntKind.i64 70)], argTypes := #[3, 3] }, type := 3, pos := "outright.go:14", after := #[{ on := 3, ground := Go.Ground.data }], guard := none }) (v := ?_) rfl (by kernel_rfl) (by kernel_rfl) (by kernel_rfl) (fun _ _ _ h => h) (Or.inl ⟨by rfl, ?_⟩) (by assumption) ?_
    rotate_left 1
    · intro w' hSw; (go_simp <;> (with_reducible rfl))
    (try simp only [Act.put, List.setIfInBounds_toArray, List.set_cons_zero, List.set_cons_succ])
    refine wpAnyH_take (i := 5) (oi := { dst := some 24, op := Go.Op.slice 27 (Go.Operand.tmp 20) none (some (Go.Operand.tmp 23)) none, type := 27, pos := "outright.go:14", after := #[{ on := 1, ground := Go.Ground.data }, { on := 4, ground := Go.Ground.data }], guard := none }) (v := ?_) rfl (by kernel_rfl) (by kernel_rfl) (by kernel_rfl) (fun _ _ _ h => h) (Or.inl ⟨by rfl, ?_⟩) (by assumption) ?_
    rotate_left 1
    · intro w' hSw; (go_simp <;> (with_reducible rfl))
    (try simp only [Act.put, List.setIfInBounds_toArray, List.set_cons_zero, List.set_cons_succ])
    refine wpAnyH_ready (rs := [6]) (by kernel_rfl) (by simp) ?_
    refine AllReadyH.cons (o := { dst := some 25, op := Go.Op.call { callee := Go.Callee.value (Go.Operand.func 8), args := #[Go.Operand.tmp 19, Go.Operand.tmp 24], argTypes := #[29, 27] }, type := 35, pos := "outright.go:14", after := #[{ on := 0, ground := Go.Ground.data }, { on := 5, ground := Go.Ground.data }], guard := none }) rfl (fun K hK => ?_) AllReadyH.nil
    go_simp
    (refine HNo.out.mono ?_; rintro e w1 ⟨g, S, rfl, hmem, hS, hb1⟩; have HB1 := Lib.hid (below_trans HBd.out hb1); have HMem := Lib.hid hmem; clear hb1 hmem hS)
    refine hK.out _ _ ?_ (fun hHeld => ?_)
    · exact (HX.out _ HB1.out).1
    clear hK K
    (try simp only [Act.put, List.setIfInBounds_toArray, List.set_cons_zero, List.set_cons_succ])
    refine wpAnyH_take (i := 7) (oi := { dst := some 18, op := Go.Op.move (Go.Operand.tmp 25), type := 35, pos := "outright.go:14", after := #[{ on := 6, ground := Go.Ground.data }], guard := none }) (v := ?_) rfl (by kernel_rfl) (by kernel_rfl) (by kernel_rfl) (fun _ _ _ h => h) (Or.inl ⟨by rfl, ?_⟩) (by assumption) ?_
    rotate_left 1
    · intro w' hSw; (go_simp <;> (with_reducible rfl))
    (try simp only [Act.put, List.setIfInBounds_toArray, List.set_cons_zero, List.set_cons_succ])
    refine wpAnyH_take (i := 8) (oi := { dst := some 26, op := Go.Op.extract (Go.Operand.tmp 18) 0, type := 33, pos := "outright.go:14", after := #[{ on := 7, ground := Go.Ground.data }], guard := none }) (v := ?_) rfl (by kernel_rfl) (by kernel_rfl) (by kernel_rfl) (fun _ _ _ h => h) (Or.inl ⟨by rfl, ?_⟩) (by assumption) ?_
    rotate_left 1
    · intro w' hSw; (go_simp <;> (with_reducible rfl))
    (try simp only [Act.put, List.setIfInBounds_toArray, List.set_cons_zero, List.set_cons_succ])
    refine wpAnyH_take (i := 9) (oi := { dst := some 27, op := Go.Op.extract (Go.Operand.tmp 18) 1, type := 34, pos := "outright.go:14", after := #[{ on := 7, ground := Go.Ground.data }, { on := 10, ground := Go.Ground.gcOnly Go.Departure.lateStores }], guard := none }) (v := ?_) rfl (by kernel_rfl) (by kernel_rfl) (by kernel_rfl) (fun _ _ _ h => h) (Or.inl ⟨by rfl, ?_⟩) (by assumption) ?_
    rotate_left 1
    · intro w' hSw; (go_simp <;> (with_reducible rfl))
    (try simp only [Act.put, List.setIfInBounds_toArray, List.set_cons_zero, List.set_cons_succ])
    refine wpAnyH_take (i := 10) (oi := { dst := some 7, op := Go.Op.assign (Go.Operand.tmp 26), type := 33, pos := "outright.go:14", after := #[{ on := 8, ground := Go.Ground.data }, { on := 6, ground := Go.Ground.chain }, { on := 0, ground := Go.Ground.phase }, { on := 1, ground := Go.Ground.phase }, { on := 2, ground := Go.Ground.phase }, { on := 3, ground := Go.Ground.phase }, { on := 4, ground := Go.Ground.phase }, { on := 5, ground := Go.Ground.phase }, { on := 6, ground := Go.Ground.phase }, { on := 7, ground := Go.Ground.phase }, { on := 8, ground := Go.Ground.phase }, { on := 9, ground := Go.Ground.textOnly Go.Departure.lateStores }], guard := none }) (v := ?_) rfl (by kernel_rfl) (by kernel_rfl) (by kernel_rfl) (fun _ _ _ h => h) (Or.inl ⟨by rfl, ?_⟩) (by assumption) ?_
    rotate_left 1
    · intro w' hSw; (go_simp <;> (with_reducible rfl))
    (try simp only [Act.put, List.setIfInBounds_toArray, List.set_cons_zero, List.set_cons_succ])
    refine wpAnyH_take (i := 11) (oi := { dst := some 8, op := Go.Op.assign (Go.Operand.tmp 27), type := 34, pos := "outright.go:14", after := #[{ on := 9, ground := Go.Ground.data }, { on := 10, ground := Go.Ground.chain }, { on := 0, ground := Go.Ground.phase }, { on := 1, ground := Go.Ground.phase }, { on := 2, ground := Go.Ground.phase }, { on := 3, ground := Go.Ground.phase }, { on := 4, ground := Go.Ground.phase }, { on := 5, ground := Go.Ground.phase }, { on := 6, ground := Go.Ground.phase }, { on := 7, ground := Go.Ground.phase }, { on := 8, ground := Go.Ground.phase }, { on := 9, ground := Go.Ground.phase }, { on := 10, ground := Go.Ground.phase }], guard := none }) (v := ?_) rfl (by kernel_rfl) (by kernel_rfl) (by kernel_rfl) (fun _ _ _ h => h) (Or.inl ⟨by rfl, ?_⟩) (by assumption) ?_
    rotate_left 1
    · intro w' hSw; (go_simp <;> (with_reducible rfl))
    (try simp only [Act.put, List.setIfInBounds_toArray, List.set_cons_zero, List.set_cons_succ])
    refine wpAnyH_done (by kernel_rfl) ?_ _
    clear hHeld HNo
    cases hfd : fwFind x.pr x.dp M with
    | none =>
      have HIn := Lib.hid (inward_at S g M x x false w1 HMem.out (by unfold fwInw; rw [hfd]))
      have HFd := Lib.hid (show ∀ W, FwMem W S g M → Calls Try.prog 13 #[.pointer (some ⟨g, 0, none⟩), .int .u8 x.pr, .int .u16 x.dp] W (FwTells (.tuple #[.agg #[.int .u8 0, .int .u16 0, .int .u32 0, .int .u16 0], .bool false]) W) from fun W hW => find_at S g M x.pr x.dp W hW fw0 false (by rw [hfd]; rfl) (by rw [hfd]; rfl))
      clear hfd
      go_upto_region 4 with (fail)
      obtain ⟨a0, a1, a2, a3, a4⟩ := cells5 (HX.out _ HB1.out).2
      go_wp2_with fail
      refine HIn.out.mono ?_
      rintro e w2 ⟨rfl, hb2⟩
      have HB2 := Lib.hid (below_trans HB1.out hb2)
      have HMem2 := Lib.hid (HMem.out.below hb2)
      clear hb2 HIn a0 a1 a2 a3 a4
      obtain ⟨q1, eqq1⟩ : ∃ v, w2.heap.size = v := ⟨_, rfl⟩
      obtain ⟨w3, evw3⟩ : ∃ v, w2.alloc (.cells #[.int .u8 x.pr, .int .u32 x.sr, .int .u32 x.ds, .int .u16 x.sp, .int .u16 x.dp] 31) = v := ⟨_, rfl⟩
      have hbw3 : Below w2.heap.size w2 w3 := by rw [← evw3]; exact (Below.refl _ _).alloc (Nat.le_refl _) _
      have hkw3 : w3.heap[q1]? = some (.cells #[.int .u8 x.pr, .int .u32 x.sr, .int .u32 x.ds, .int .u16 x.sp, .int .u16 x.dp] 31 (0, 0)) := by rw [← evw3, ← eqq1]; exact heap_alloc_new w2 _
      have Ew3 := Lib.hid evw3
      have Eq1 := Lib.hid eqq1
      have Hw3 := Lib.hid hbw3
      have HKq1 := Lib.hid hkw3
      clear eqq1 evw3 hbw3 hkw3
      go_upto_region 5 with (fail)
      rw [Ew3.out]
      try rw [Eq1.out]
      have HB3 := Lib.hid (below_trans HB2.out Hw3.out)
      have HMem3 := Lib.hid (HMem2.out.below Hw3.out)
      obtain ⟨a0, a1, a2, a3, a4⟩ := cells5 (HX.out _ HB3.out).2
      have HF := Lib.hid (HFd.out w3 HMem3.out)
      clear HFd HMem2 HB2
      go_wp2_with fail
      refine HF.out.mono ?_
      rintro e w4 ⟨rfl, hb4⟩
      have HB4 := Lib.hid (below_trans HB3.out hb4)
      have HMem4 := Lib.hid (HMem3.out.below hb4)
      have HK4 := Lib.hid (blk_on HKq1.out hb4)
      clear hb4 HF a0 a1 a2 a3 a4 HMem3 HB3 HKq1
      obtain ⟨q2, eqq2⟩ : ∃ v, w4.heap.size = v := ⟨_, rfl⟩
      obtain ⟨w5, evw5⟩ : ∃ v, w4.alloc (.cells #[.int .u8 0, .int .u16 0, .int .u32 0, .int .u16 0] 40) = v := ⟨_, rfl⟩
      have hbw5 : Below w4.heap.size w4 w5 := by rw [← evw5]; exact (Below.refl _ _).alloc (Nat.le_refl _) _
      have hkw5 : w5.heap[q2]? = some (.cells #[.int .u8 0, .int .u16 0, .int .u32 0, .int .u16 0] 40 (0, 0)) := by rw [← evw5, ← eqq2]; exact heap_alloc_new w4 _
      have Ew5 := Lib.hid evw5
      have Eq2 := Lib.hid eqq2
      have Hw5 := Lib.hid hbw5
      have HKq2 := Lib.hid hkw5
      clear eqq2 evw5 hbw5 hkw5
      go_upto_region 6 with (fail)
      rw [Ew5.out]
      try rw [Eq2.out]
      have HB5 := Lib.hid (below_trans HB4.out Hw5.out)
      have HMem5 := Lib.hid (HMem4.out.below Hw5.out)
      have HY := Lib.hid (show ∀ W, Below w5.heap.size w5 W → W.heap[z]? = some (.cells #[.int .u32 k.ins, .int .u32 k.msk, k.v2, .int .u16 k.lo, .int .u16 k.hi, k.v5, k.v6, k.v7, k.v8, k.v9, k.va, k.vb, k.vc, k.vd, k.ve, k.vf, k.vg, k.vh, k.vi] 29 (0, 0)) ∧ W.heap[z + 1]? = some (.cells #[.int .u8 x.pr, .int .u32 x.sr, .int .u32 x.ds, .int .u16 x.sp, .int .u16 x.dp] 31 (0, 0)) ∧ W.heap[q1]? = some (.cells #[.int .u8 x.pr, .int .u32 x.sr, .int .u32 x.ds, .int .u16 x.sp, .int .u16 x.dp] 31 (0, 0)) ∧ W.heap[q2]? = some (.cells #[.int .u8 0, .int .u16 0, .int .u32 0, .int .u16 0] 40 (0, 0)) from fun W hW => ⟨(HX.out W (below_trans HB5.out hW)).1, (HX.out W (below_trans HB5.out hW)).2, blk_on HK4.out (below_trans Hw5.out hW), blk_on HKq2.out hW⟩)
      clear HMem4 HB4 HK4 Hw5 HKq2 Hw3 HX
      have heq := tu_eql x x
      have heq2 := fw_eql0
      rw [tuSame_self] at heq
      obtain ⟨a0, a1, a2, a3, a4⟩ := cells5 (HY.out _ (Below.refl _ _)).2.1
      obtain ⟨b0, b1, b2, b3, b4⟩ := cells5 (HY.out _ (Below.refl _ _)).2.2.1
      obtain ⟨d0, d1, d2, d3⟩ := cells44 (HY.out _ (Below.refl _ _)).2.2.2
      go_wp2_with fail
      refine (wakes14_any _).mono ?_
      rintro e w6 ⟨rfl, hb6⟩
      have HB6 := Lib.hid (below_trans (below_trans Hb0.out HB5.out) hb6)
      clear hb6
      go_wp2_with fail
      go_ret
      exact ⟨rfl, HB6.out⟩
    | some f =>
      obtain ⟨hf1, hf2, hin, hp1⟩ := may_find HMay.out hfd
      obtain ⟨fp, fq, ad, tp⟩ := f
      simp only at hf1 hf2 hin
      subst hf1; subst hf2
      obtain ⟨gg, hgm, hg1, hg2, hg3, hout⟩ := round_out hfd
      have HIn := Lib.hid (show Calls Try.prog 15 #[.pointer (some ⟨g, 0, none⟩), .agg #[.int .u8 x.pr, .int .u32 x.sr, .int .u32 x.ds, .int .u16 x.sp, .int .u16 x.dp]] w1 (FwTells (.tuple #[.agg #[.int .u8 x.pr, .int .u32 x.sr, .int .u32 ad, .int .u16 x.sp, .int .u16 tp], .bool true]) w1) from inward_at S g M x _ true w1 HMem.out (by unfold fwInw; rw [hfd]))
      have HFd := Lib.hid (show ∀ W, FwMem W S g M → Calls Try.prog 13 #[.pointer (some ⟨g, 0, none⟩), .int .u8 x.pr, .int .u16 x.dp] W (FwTells (.tuple #[.agg #[.int .u8 x.pr, .int .u16 x.dp, .int .u32 ad, .int .u16 tp], .bool true]) W) from fun W hW => find_at S g M x.pr x.dp W hW ⟨x.pr, x.dp, ad, tp⟩ true (by rw [hfd]; rfl) (by rw [hfd]; rfl))
      have Hout := Lib.hid hout
      have Hgg := Lib.hid (And.intro hgm (And.intro hg1 (And.intro hg2 hg3)))
      have Hin := Lib.hid hin
      have Hp1 := Lib.hid hp1
      clear hfd hgm hg1 hg2 hg3 hout hin hp1
      go_upto_region 4 with (fail)
      obtain ⟨a0, a1, a2, a3, a4⟩ := cells5 (HX.out _ HB1.out).2
      go_wp2_with fail
      refine HIn.out.mono ?_
      rintro e w2 ⟨rfl, hb2⟩
      have HB2 := Lib.hid (below_trans HB1.out hb2)
      have HMem2 := Lib.hid (HMem.out.below hb2)
      clear hb2 HIn a0 a1 a2 a3 a4
      obtain ⟨q1, eqq1⟩ : ∃ v, w2.heap.size = v := ⟨_, rfl⟩
      obtain ⟨w3, evw3⟩ : ∃ v, w2.alloc (.cells #[.int .u8 x.pr, .int .u32 x.sr, .int .u32 ad, .int .u16 x.sp, .int .u16 tp] 31) = v := ⟨_, rfl⟩
      have hbw3 : Below w2.heap.size w2 w3 := by rw [← evw3]; exact (Below.refl _ _).alloc (Nat.le_refl _) _
      have hkw3 : w3.heap[q1]? = some (.cells #[.int .u8 x.pr, .int .u32 x.sr, .int .u32 ad, .int .u16 x.sp, .int .u16 tp] 31 (0, 0)) := by rw [← evw3, ← eqq1]; exact heap_alloc_new w2 _
      have Ew3 := Lib.hid evw3
      have Eq1 := Lib.hid eqq1
      have Hw3 := Lib.hid hbw3
      have HKq1 := Lib.hid hkw3
      clear eqq1 evw3 hbw3 hkw3
      go_upto_region 5 with (fail)
      rw [Ew3.out]
      try rw [Eq1.out]
      have HB3 := Lib.hid (below_trans HB2.out Hw3.out)
      have HMem3 := Lib.hid (HMem2.out.below Hw3.out)
      obtain ⟨a0, a1, a2, a3, a4⟩ := cells5 (HX.out _ HB3.out).2
      have HF := Lib.hid (HFd.out w3 HMem3.out)
      clear HFd HMem2 HB2
      go_wp2_with fail
      refine HF.out.mono ?_
      rintro e w4 ⟨rfl, hb4⟩
      have HB4 := Lib.hid (below_trans HB3.out hb4)
      have HMem4 := Lib.hid (HMem3.out.below hb4)
      have HK4 := Lib.hid (blk_on HKq1.out hb4)
      clear hb4 HF a0 a1 a2 a3 a4 HMem3 HB3 HKq1
      obtain ⟨q2, eqq2⟩ : ∃ v, w4.heap.size = v := ⟨_, rfl⟩
      obtain ⟨w5, evw5⟩ : ∃ v, w4.alloc (.cells #[.int .u8 x.pr, .int .u16 x.dp, .int .u32 ad, .int .u16 tp] 40) = v := ⟨_, rfl⟩
      have hbw5 : Below w4.heap.size w4 w5 := by rw [← evw5]; exact (Below.refl _ _).alloc (Nat.le_refl _) _
      have hkw5 : w5.heap[q2]? = some (.cells #[.int .u8 x.pr, .int .u16 x.dp, .int .u32 ad, .int .u16 tp] 40 (0, 0)) := by rw [← evw5, ← eqq2]; exact heap_alloc_new w4 _
      have Ew5 := Lib.hid evw5
      have Eq2 := Lib.hid eqq2
      have Hw5 := Lib.hid hbw5
      have HKq2 := Lib.hid hkw5
      clear eqq2 evw5 hbw5 hkw5
      go_upto_region 6 with (fail)
      rw [Ew5.out]
      try rw [Eq2.out]
      have HB5 := Lib.hid (below_trans HB4.out Hw5.out)
      have HMem5 := Lib.hid (HMem4.out.below Hw5.out)
      have HY := Lib.hid (show ∀ W, Below w5.heap.size w5 W → W.heap[z]? = some (.cells #[.int .u32 k.ins, .int .u32 k.msk, k.v2, .int .u16 k.lo, .int .u16 k.hi, k.v5, k.v6, k.v7, k.v8, k.v9, k.va, k.vb, k.vc, k.vd, k.ve, k.vf, k.vg, k.vh, k.vi] 29 (0, 0)) ∧ W.heap[z + 1]? = some (.cells #[.int .u8 x.pr, .int .u32 x.sr, .int .u32 x.ds, .int .u16 x.sp, .int .u16 x.dp] 31 (0, 0)) ∧ W.heap[q1]? = some (.cells #[.int .u8 x.pr, .int .u32 x.sr, .int .u32 ad, .int .u16 x.sp, .int .u16 tp] 31 (0, 0)) ∧ W.heap[q2]? = some (.cells #[.int .u8 x.pr, .int .u16 x.dp, .int .u32 ad, .int .u16 tp] 40 (0, 0)) from fun W hW => ⟨(HX.out W (below_trans HB5.out hW)).1, (HX.out W (below_trans HB5.out hW)).2, blk_on HK4.out (below_trans Hw5.out hW), blk_on HKq2.out hW⟩)
      clear HMem4 HB4 HK4 Hw5 HKq2 Hw3 HX
      go_upto_region 10 with (fail)
      have HY5 := Lib.hid (HY.out _ (Below.refl _ _))
      obtain ⟨a0, a1, a2, a3, a4⟩ := cells5 HY5.out.2.1
      obtain ⟨b0, b1, b2, b3, b4⟩ := cells5 HY5.out.2.2.1
      obtain ⟨d0, d1, d2, d3⟩ := cells44 HY5.out.2.2.2
      try simp only []
      repeat (first | go_values | go_skip | ((fail_if_success (with_reducible refine wpList_row 29 (.tmp 3) rfl ?_ ?_ ?_ ?_ ?_ ?_ ?_ ?_ ?_ ?_ ?_ ?_)); (first | go_step | go_upon | go_back)))
      refine wpList_row 29 (.tmp 3) rfl ?hww z _ _ _ _ HY5.out.1 rfl Try.underlying29 rfl (by kernel_rfl) ?_
      case hww => kernel_rfl
      (try simp only [Act.put, List.setIfInBounds_toArray, List.set_cons_zero, List.set_cons_succ])
      go_wp2_with fail
      refine (inside_any k ad true w5 Hin.out).mono ?_
      rintro e w6 ⟨rfl, hb6⟩
      have HB6 := Lib.hid (below_trans HB5.out hb6)
      have HY6 := Lib.hid (HY.out w6 hb6)
      have HMem6 := Lib.hid (HMem5.out.below hb6)
      have HZ := Lib.hid (show ∀ W, Below w6.heap.size w6 W → W.heap[z]? = some (.cells #[.int .u32 k.ins, .int .u32 k.msk, k.v2, .int .u16 k.lo, .int .u16 k.hi, k.v5, k.v6, k.v7, k.v8, k.v9, k.va, k.vb, k.vc, k.vd, k.ve, k.vf, k.vg, k.vh, k.vi] 29 (0, 0)) ∧ W.heap[z + 1]? = some (.cells #[.int .u8 x.pr, .int .u32 x.sr, .int .u32 x.ds, .int .u16 x.sp, .int .u16 x.dp] 31 (0, 0)) ∧ W.heap[q1]? = some (.cells #[.int .u8 x.pr, .int .u32 x.sr, .int .u32 ad, .int .u16 x.sp, .int .u16 tp] 31 (0, 0)) ∧ W.heap[q2]? = some (.cells #[.int .u8 x.pr, .int .u16 x.dp, .int .u32 ad, .int .u16 tp] 40 (0, 0)) from fun W hW => HY.out W (below_trans hb6 hW))
      clear a0 a1 a2 a3 a4 b0 b1 b2 b3 b4 d0 d1 d2 d3
      clear hb6 HY5 HMem5 HB5 HY
      obtain ⟨a0, a1, a2, a3, a4⟩ := cells5 HY6.out.2.1
      obtain ⟨b0, b1, b2, b3, b4⟩ := cells5 HY6.out.2.2.1
      obtain ⟨d0, d1, d2, d3⟩ := cells44 HY6.out.2.2.2
      go_upto_region 12 with (fail)
      clear a0 a1 a2 a3 a4 b0 b1 b2 b3 b4 d0 d1 d2 d3
      have HSS := Lib.hid (show ∀ W, Below w6.heap.size w6 W → (W.cell? ⟨q1, 0, none⟩ = some (.int .u8 x.pr) ∧ W.cell? ⟨q1, 1, none⟩ = some (.int .u32 x.sr) ∧ W.cell? ⟨q1, 2, none⟩ = some (.int .u32 ad) ∧ W.cell? ⟨q1, 3, none⟩ = some (.int .u16 x.sp) ∧ W.cell? ⟨q1, 4, none⟩ = some (.int .u16 tp)) ∧ W.cell? ⟨z + 1, 2, none⟩ = some (.int .u32 x.ds) from fun W hW => ⟨cells5 (HZ.out W hW).2.2.1, (cells5 (HZ.out W hW).2.1).2.2.1⟩)
      have HRev := Lib.hid (show ∀ W : World, Calls Try.prog 22 #[.agg #[.int .u8 x.pr, .int .u32 x.sr, .int .u32 ad, .int .u16 x.sp, .int .u16 tp]] W (FwTells (.agg #[.int .u8 x.pr, .int .u32 ad, .int .u32 x.sr, .int .u16 tp, .int .u16 x.sp]) W) from fun W => rev_fw ⟨x.pr, x.sr, ad, x.sp, tp⟩ ⟨x.pr, ad, x.sr, tp, x.sp⟩ W (rev_no (t := ⟨x.pr, x.sr, ad, x.sp, tp⟩) Hp1.out))
      have HOut := Lib.hid (show ∀ W : World, Below w6.heap.size w6 W → Calls Try.prog 17 #[.pointer (some ⟨g, 0, none⟩), .agg #[.int .u8 x.pr, .int .u32 ad, .int .u32 x.sr, .int .u16 tp, .int .u16 x.sp], .int .u32 x.ds] W (FwTells (.tuple #[.agg #[.int .u8 x.pr, .int .u32 x.ds, .int .u32 x.sr, .int .u16 gg.po, .int .u16 x.sp], .bool true]) W) from fun W hW => outward_at S g M ⟨x.pr, ad, x.sr, tp, x.sp⟩ ⟨x.pr, x.ds, x.sr, gg.po, x.sp⟩ x.ds true W (HMem6.out.below hW) (by have := HM.out; have := Hm70.out; omega) Hout.out)
      go_cut [13, 14] (fun v13 v14 wx => ∃ q, v13 = .pointer (some ⟨q, 0, none⟩) ∧ v14 = .bool true ∧ Hid (wx.heap[q]? = some (.cells #[.int .u8 x.pr, .int .u32 x.ds, .int .u32 x.sr, .int .u16 gg.po, .int .u16 x.sp] 31 (0, 0))) ∧ Hid (Below w6.heap.size w6 wx))
      case first =>
        refine wp_region_noPanic ?_
        refine wp_region_held_drew (S := fun W => (W.cell? ⟨q1, 0, none⟩ = some (.int .u8 x.pr) ∧ W.cell? ⟨q1, 1, none⟩ = some (.int .u32 x.sr) ∧ W.cell? ⟨q1, 2, none⟩ = some (.int .u32 ad) ∧ W.cell? ⟨q1, 3, none⟩ = some (.int .u16 x.sp) ∧ W.cell? ⟨q1, 4, none⟩ = some (.int .u16 tp)) ∧ W.cell? ⟨z + 1, 2, none⟩ = some (.int .u32 x.ds)) (by kernel_rfl) (HSS.out _ (Below.refl _ _).drew) (fun hHeld => ?_)
        obtain ⟨wd, ewd⟩ : ∃ wd, w6.drew = wd := ⟨_, rfl⟩
        have HBd := Lib.hid (show Below w6.heap.size w6 wd by rw [← ewd]; exact (Below.refl _ _).drew)
        rw [ewd] at hHeld ⊢
        clear ewd
        refine wpAnyH_take (i := 0) (oi := { dst := some 117, op := Go.Op.move (Go.Operand.tmp 7), type := 33, pos := "outright.go:29", after := #[], guard := none }) (v := ?_) rfl (by kernel_rfl) (by kernel_rfl) (by kernel_rfl) (fun _ _ _ h => h) (Or.inl ⟨by rfl, ?_⟩) (by assumption) ?_
        rotate_left 1
        · intro w' hSw; (go_simp <;> (with_reducible rfl))
        (try simp only [Act.put, List.setIfInBounds_toArray, List.set_cons_zero, List.set_cons_succ])
        refine wpAnyH_take (i := 1) (oi := { dst := some 118, op := Go.Op.load 31 (Go.Operand.tmp 9), type := 31, pos := "outright.go:29", after := #[], guard := none }) (v := ?_) rfl (by kernel_rfl) (by kernel_rfl) (by kernel_rfl) (fun _ _ _ h => h) (Or.inl ⟨by rfl, ?_⟩) (by assumption) ?_
        rotate_left 1
        · intro w' hSw; (go_simp <;> (with_reducible rfl))
        (try simp only [Act.put, List.setIfInBounds_toArray, List.set_cons_zero, List.set_cons_succ])
        refine wpAnyH_take (i := 3) (oi := { dst := some 120, op := Go.Op.fieldAddr 31 (Go.Operand.tmp 5) 2, type := 0, pos := "outright.go:29", after := #[], guard := none }) (v := ?_) rfl (by kernel_rfl) (by kernel_rfl) (by kernel_rfl) (fun _ _ _ h => h) (Or.inl ⟨by rfl, ?_⟩) (by assumption) ?_
        rotate_left 1
        · intro w' hSw; (go_simp <;> (with_reducible rfl))
        (try simp only [Act.put, List.setIfInBounds_toArray, List.set_cons_zero, List.set_cons_succ])
        refine wpAnyH_take (i := 4) (oi := { dst := some 121, op := Go.Op.load 22 (Go.Operand.tmp 120), type := 22, pos := "outright.go:29", after := #[{ on := 3, ground := Go.Ground.data }], guard := none }) (v := ?_) rfl (by kernel_rfl) (by kernel_rfl) (by kernel_rfl) (fun _ _ _ h => h) (Or.inl ⟨by rfl, ?_⟩) (by assumption) ?_
        rotate_left 1
        · intro w' hSw; (go_simp <;> (with_reducible rfl))
        (try simp only [Act.put, List.setIfInBounds_toArray, List.set_cons_zero, List.set_cons_succ])
        refine wpAnyH_ready (rs := [2, 9]) (by kernel_rfl) (by simp) ?_
        refine AllReadyH.cons (o := { dst := some 119, op := Go.Op.call { callee := Go.Callee.value (Go.Operand.func 22), args := #[Go.Operand.tmp 118], argTypes := #[31] }, type := 31, pos := "outright.go:29", after := #[{ on := 1, ground := Go.Ground.data }], guard := none }) rfl (fun K hK => ?_) (AllReadyH.cons (o := { dst := some 13, op := Go.Op.alloc 31, type := 0, pos := "outright.go:29", after := #[], guard := none }) rfl (fun K hK => ?_) AllReadyH.nil)
        · skip
          go_simp
          refine (HRev.out _).mono ?_
          rintro e w7 ⟨rfl, hb⟩
          have HBw7 := Lib.hid (below_trans HBd.out hb)
          skip
          refine hK.out _ _ ?_ (fun hHeld => ?_)
          · exact HSS.out _ HBw7.out
          clear hK K hb
          (try simp only [Act.put, List.setIfInBounds_toArray, List.set_cons_zero, List.set_cons_succ])
          refine wpAnyH_ready (rs := [5, 9]) (by kernel_rfl) (by simp) ?_
          refine AllReadyH.cons (o := { dst := some 122, op := Go.Op.call { callee := Go.Callee.value (Go.Operand.func 17), args := #[Go.Operand.tmp 117, Go.Operand.tmp 119, Go.Operand.tmp 121], argTypes := #[33, 31, 22] }, type := 44, pos := "outright.go:29", after := #[{ on := 0, ground := Go.Ground.data }, { on := 2, ground := Go.Ground.data }, { on := 4, ground := Go.Ground.data }, { on := 2, ground := Go.Ground.chain }], guard := none }) rfl (fun K hK => ?_) (AllReadyH.cons (o := { dst := some 13, op := Go.Op.alloc 31, type := 0, pos := "outright.go:29", after := #[], guard := none }) rfl (fun K hK => ?_) AllReadyH.nil)
          · skip
            go_simp
            refine (HOut.out _ HBw7.out).mono ?_
            rintro e w8 ⟨rfl, hb⟩
            have HBw8 := Lib.hid (below_trans HBw7.out hb)
            skip
            refine hK.out _ _ ?_ (fun hHeld => ?_)
            · exact HSS.out _ HBw8.out
            clear hK K hb
            (try simp only [Act.put, List.setIfInBounds_toArray, List.set_cons_zero, List.set_cons_succ])
            refine wpAnyH_take (i := 6) (oi := { dst := some 116, op := Go.Op.move (Go.Operand.tmp 122), type := 44, pos := "outright.go:29", after := #[{ on := 5, ground := Go.Ground.data }], guard := none }) (v := ?_) rfl (by kernel_rfl) (by kernel_rfl) (by kernel_rfl) (fun _ _ _ h => h) (Or.inl ⟨by rfl, ?_⟩) (by assumption) ?_
            rotate_left 1
            · intro w' hSw; (go_simp <;> (with_reducible rfl))
            (try simp only [Act.put, List.setIfInBounds_toArray, List.set_cons_zero, List.set_cons_succ])
            refine wpAnyH_take (i := 7) (oi := { dst := some 123, op := Go.Op.extract (Go.Operand.tmp 116) 0, type := 31, pos := "outright.go:29", after := #[{ on := 6, ground := Go.Ground.data }], guard := none }) (v := ?_) rfl (by kernel_rfl) (by kernel_rfl) (by kernel_rfl) (fun _ _ _ h => h) (Or.inl ⟨by rfl, ?_⟩) (by assumption) ?_
            rotate_left 1
            · intro w' hSw; (go_simp <;> (with_reducible rfl))
            (try simp only [Act.put, List.setIfInBounds_toArray, List.set_cons_zero, List.set_cons_succ])
            refine wpAnyH_take (i := 8) (oi := { dst := some 124, op := Go.Op.extract (Go.Operand.tmp 116) 1, type := 4, pos := "outright.go:29", after := #[{ on := 6, ground := Go.Ground.data }, { on := 10, ground := Go.Ground.gcOnly Go.Departure.lateStores }], guard := none }) (v := ?_) rfl (by kernel_rfl) (by kernel_rfl) (by kernel_rfl) (fun _ _ _ h => h) (Or.inl ⟨by rfl, ?_⟩) (by assumption) ?_
            rotate_left 1
            · intro w' hSw; (go_simp <;> (with_reducible rfl))
            (try simp only [Act.put, List.setIfInBounds_toArray, List.set_cons_zero, List.set_cons_succ])
            refine wpAnyH_ready (rs := [9]) (by kernel_rfl) (by simp) ?_
            refine AllReadyH.cons (o := { dst := some 13, op := Go.Op.alloc 31, type := 0, pos := "outright.go:29", after := #[], guard := none }) rfl (fun K hK => ?_) AllReadyH.nil
            obtain ⟨q, eq⟩ : ∃ q, w8.heap.size = q := ⟨_, rfl⟩
            obtain ⟨w9, ew⟩ : ∃ v, World.alloc w8 (.cells #[.int .u8 0, .int .u32 0, .int .u32 0, .int .u16 0, .int .u16 0] 31) = v := ⟨_, rfl⟩
            have hba : Below w8.heap.size w8 w9 := by rw [← ew]; exact (Below.refl _ _).alloc (Nat.le_refl _) _
            have Hq := Lib.hid (show w9.heap[q]? = some (.cells #[.int .u8 0, .int .u32 0, .int .u32 0, .int .u16 0, .int .u16 0] 31 (0, 0)) by rw [← ew, ← eq]; exact heap_alloc_new w8 _)
            have HBw9 := Lib.hid (below_trans HBw8.out hba)
            have Hqs := Lib.hid (show w6.heap.size ≤ q by rw [← eq]; exact (HBw8.out).size)
            go_simp
            try rw [ew]
            try rw [eq]
            refine hK.out _ _ ?_ (fun hHeld => ?_)
            · exact HSS.out _ HBw9.out
            clear hK K hba ew eq
            (try simp only [Act.put, List.setIfInBounds_toArray, List.set_cons_zero, List.set_cons_succ])
            refine wpAnyH_ready (rs := [10]) (by kernel_rfl) (by simp) ?_
            refine AllReadyH.cons (o := { dst := none, op := Go.Op.store 31 (Go.Operand.tmp 13) (Go.Operand.tmp 123), type := 0, pos := "outright.go:29", after := #[{ on := 9, ground := Go.Ground.data }, { on := 7, ground := Go.Ground.data }, { on := 5, ground := Go.Ground.chain }, { on := 0, ground := Go.Ground.phase }, { on := 1, ground := Go.Ground.phase }, { on := 2, ground := Go.Ground.phase }, { on := 3, ground := Go.Ground.phase }, { on := 4, ground := Go.Ground.phase }, { on := 5, ground := Go.Ground.phase }, { on := 6, ground := Go.Ground.phase }, { on := 7, ground := Go.Ground.phase }, { on := 8, ground := Go.Ground.textOnly Go.Departure.lateStores }, { on := 9, ground := Go.Ground.phase }], guard := none }) rfl (fun K hK => ?_) AllReadyH.nil
            refine step_row rfl 31 (.tmp 13) (.tmp 123) rfl q _ rfl rfl 31 _ Hq.out (by kernel_rfl) rfl (by simp [Value.oneCell']) ?_
            have HBr := Lib.hid (below_setRow HBw9.out Hqs.out #[.int .u8 x.pr, .int .u32 x.ds, .int .u32 x.sr, .int .u16 gg.po, .int .u16 x.sp])
            have Hq := Lib.hid (setRow_heap _ _ _ #[.int .u8 x.pr, .int .u32 x.ds, .int .u32 x.sr, .int .u16 gg.po, .int .u16 x.sp] _ _ Hq.out)
            refine hK.out _ _ ?_ (fun hHeld => ?_)
            · exact HSS.out _ HBr.out
            clear hK K
            (try simp only [Act.put, List.setIfInBounds_toArray, List.set_cons_zero, List.set_cons_succ])
            refine wpAnyH_take (i := 11) (oi := { dst := some 14, op := Go.Op.assign (Go.Operand.tmp 124), type := 4, pos := "outright.go:29", after := #[{ on := 8, ground := Go.Ground.data }, { on := 10, ground := Go.Ground.chain }, { on := 0, ground := Go.Ground.phase }, { on := 1, ground := Go.Ground.phase }, { on := 2, ground := Go.Ground.phase }, { on := 3, ground := Go.Ground.phase }, { on := 4, ground := Go.Ground.phase }, { on := 5, ground := Go.Ground.phase }, { on := 6, ground := Go.Ground.phase }, { on := 7, ground := Go.Ground.phase }, { on := 8, ground := Go.Ground.phase }, { on := 9, ground := Go.Ground.phase }, { on := 10, ground := Go.Ground.phase }], guard := none }) (v := ?_) rfl (by kernel_rfl) (by kernel_rfl) (by kernel_rfl) (fun _ _ _ h => h) (Or.inl ⟨by rfl, ?_⟩) (by assumption) ?_
            rotate_left 1
            · intro w' hSw; (go_simp <;> (with_reducible rfl))
            (try simp only [Act.put, List.setIfInBounds_toArray, List.set_cons_zero, List.set_cons_succ])
            refine wpAnyH_done (by kernel_rfl) ?_ _
            refine NoPanic.normal ?_
            go_wp2_with fail
            go_meet
            exact ⟨q, rfl, rfl, Hq, HBr⟩
          · skip
            obtain ⟨q, eq⟩ : ∃ q, w7.heap.size = q := ⟨_, rfl⟩
            obtain ⟨w8, ew⟩ : ∃ v, World.alloc w7 (.cells #[.int .u8 0, .int .u32 0, .int .u32 0, .int .u16 0, .int .u16 0] 31) = v := ⟨_, rfl⟩
            have hba : Below w7.heap.size w7 w8 := by rw [← ew]; exact (Below.refl _ _).alloc (Nat.le_refl _) _
            have Hq := Lib.hid (show w8.heap[q]? = some (.cells #[.int .u8 0, .int .u32 0, .int .u32 0, .int .u16 0, .int .u16 0] 31 (0, 0)) by rw [← ew, ← eq]; exact heap_alloc_new w7 _)
            have HBw8 := Lib.hid (below_trans HBw7.out hba)
            have Hqs := Lib.hid (show w6.heap.size ≤ q by rw [← eq]; exact (HBw7.out).size)
            go_simp
            try rw [ew]
            try rw [eq]
            refine hK.out _ _ ?_ (fun hHeld => ?_)
            · exact HSS.out _ HBw8.out
            clear hK K hba ew eq
            (try simp only [Act.put, List.setIfInBounds_toArray, List.set_cons_zero, List.set_cons_succ])
            refine wpAnyH_ready (rs := [5]) (by kernel_rfl) (by simp) ?_
            refine AllReadyH.cons (o := { dst := some 122, op := Go.Op.call { callee := Go.Callee.value (Go.Operand.func 17), args := #[Go.Operand.tmp 117, Go.Operand.tmp 119, Go.Operand.tmp 121], argTypes := #[33, 31, 22] }, type := 44, pos := "outright.go:29", after := #[{ on := 0, ground := Go.Ground.data }, { on := 2, ground := Go.Ground.data }, { on := 4, ground := Go.Ground.data }, { on := 2, ground := Go.Ground.chain }], guard := none }) rfl (fun K hK => ?_) AllReadyH.nil
            go_simp
            refine (HOut.out _ HBw8.out).mono ?_
            rintro e w9 ⟨rfl, hb⟩
            have HBw9 := Lib.hid (below_trans HBw8.out hb)
            have Hq := Lib.hid (blk_on Hq.out hb)
            refine hK.out _ _ ?_ (fun hHeld => ?_)
            · exact HSS.out _ HBw9.out
            clear hK K hb
            (try simp only [Act.put, List.setIfInBounds_toArray, List.set_cons_zero, List.set_cons_succ])
            refine wpAnyH_take (i := 6) (oi := { dst := some 116, op := Go.Op.move (Go.Operand.tmp 122), type := 44, pos := "outright.go:29", after := #[{ on := 5, ground := Go.Ground.data }], guard := none }) (v := ?_) rfl (by kernel_rfl) (by kernel_rfl) (by kernel_rfl) (fun _ _ _ h => h) (Or.inl ⟨by rfl, ?_⟩) (by assumption) ?_
            rotate_left 1
            · intro w' hSw; (go_simp <;> (with_reducible rfl))
            (try simp only [Act.put, List.setIfInBounds_toArray, List.set_cons_zero, List.set_cons_succ])
            refine wpAnyH_take (i := 7) (oi := { dst := some 123, op := Go.Op.extract (Go.Operand.tmp 116) 0, type := 31, pos := "outright.go:29", after := #[{ on := 6, ground := Go.Ground.data }], guard := none }) (v := ?_) rfl (by kernel_rfl) (by kernel_rfl) (by kernel_rfl) (fun _ _ _ h => h) (Or.inl ⟨by rfl, ?_⟩) (by assumption) ?_
            rotate_left 1
            · intro w' hSw; (go_simp <;> (with_reducible rfl))
            (try simp only [Act.put, List.setIfInBounds_toArray, List.set_cons_zero, List.set_cons_succ])
            refine wpAnyH_take (i := 8) (oi := { dst := some 124, op := Go.Op.extract (Go.Operand.tmp 116) 1, type := 4, pos := "outright.go:29", after := #[{ on := 6, ground := Go.Ground.data }, { on := 10, ground := Go.Ground.gcOnly Go.Departure.lateStores }], guard := none }) (v := ?_) rfl (by kernel_rfl) (by kernel_rfl) (by kernel_rfl) (fun _ _ _ h => h) (Or.inl ⟨by rfl, ?_⟩) (by assumption) ?_
            rotate_left 1
            · intro w' hSw; (go_simp <;> (with_reducible rfl))
            (try simp only [Act.put, List.setIfInBounds_toArray, List.set_cons_zero, List.set_cons_succ])
            refine wpAnyH_ready (rs := [10]) (by kernel_rfl) (by simp) ?_
            refine AllReadyH.cons (o := { dst := none, op := Go.Op.store 31 (Go.Operand.tmp 13) (Go.Operand.tmp 123), type := 0, pos := "outright.go:29", after := #[{ on := 9, ground := Go.Ground.data }, { on := 7, ground := Go.Ground.data }, { on := 5, ground := Go.Ground.chain }, { on := 0, ground := Go.Ground.phase }, { on := 1, ground := Go.Ground.phase }, { on := 2, ground := Go.Ground.phase }, { on := 3, ground := Go.Ground.phase }, { on := 4, ground := Go.Ground.phase }, { on := 5, ground := Go.Ground.phase }, { on := 6, ground := Go.Ground.phase }, { on := 7, ground := Go.Ground.phase }, { on := 8, ground := Go.Ground.textOnly Go.Departure.lateStores }, { on := 9, ground := Go.Ground.phase }], guard := none }) rfl (fun K hK => ?_) AllReadyH.nil
            refine step_row rfl 31 (.tmp 13) (.tmp 123) rfl q _ rfl rfl 31 _ Hq.out (by kernel_rfl) rfl (by simp [Value.oneCell']) ?_
            have HBr := Lib.hid (below_setRow HBw9.out Hqs.out #[.int .u8 x.pr, .int .u32 x.ds, .int .u32 x.sr, .int .u16 gg.po, .int .u16 x.sp])
            have Hq := Lib.hid (setRow_heap _ _ _ #[.int .u8 x.pr, .int .u32 x.ds, .int .u32 x.sr, .int .u16 gg.po, .int .u16 x.sp] _ _ Hq.out)
            refine hK.out _ _ ?_ (fun hHeld => ?_)
            · exact HSS.out _ HBr.out
            clear hK K
            (try simp only [Act.put, List.setIfInBounds_toArray, List.set_cons_zero, List.set_cons_succ])
            refine wpAnyH_take (i := 11) (oi := { dst := some 14, op := Go.Op.assign (Go.Operand.tmp 124), type := 4, pos := "outright.go:29", after := #[{ on := 8, ground := Go.Ground.data }, { on := 10, ground := Go.Ground.chain }, { on := 0, ground := Go.Ground.phase }, { on := 1, ground := Go.Ground.phase }, { on := 2, ground := Go.Ground.phase }, { on := 3, ground := Go.Ground.phase }, { on := 4, ground := Go.Ground.phase }, { on := 5, ground := Go.Ground.phase }, { on := 6, ground := Go.Ground.phase }, { on := 7, ground := Go.Ground.phase }, { on := 8, ground := Go.Ground.phase }, { on := 9, ground := Go.Ground.phase }, { on := 10, ground := Go.Ground.phase }], guard := none }) (v := ?_) rfl (by kernel_rfl) (by kernel_rfl) (by kernel_rfl) (fun _ _ _ h => h) (Or.inl ⟨by rfl, ?_⟩) (by assumption) ?_
            rotate_left 1
            · intro w' hSw; (go_simp <;> (with_reducible rfl))
            (try simp only [Act.put, List.setIfInBounds_toArray, List.set_cons_zero, List.set_cons_succ])
            refine wpAnyH_done (by kernel_rfl) ?_ _
            refine NoPanic.normal ?_
            go_wp2_with fail
            go_meet
            exact ⟨q, rfl, rfl, Hq, HBr⟩
        · skip
          obtain ⟨q, eq⟩ : ∃ q, wd.heap.size = q := ⟨_, rfl⟩
          obtain ⟨w7, ew⟩ : ∃ v, World.alloc wd (.cells #[.int .u8 0, .int .u32 0, .int .u32 0, .int .u16 0, .int .u16 0] 31) = v := ⟨_, rfl⟩
          have hba : Below wd.heap.size wd w7 := by rw [← ew]; exact (Below.refl _ _).alloc (Nat.le_refl _) _
          have Hq := Lib.hid (show w7.heap[q]? = some (.cells #[.int .u8 0, .int .u32 0, .int .u32 0, .int .u16 0, .int .u16 0] 31 (0, 0)) by rw [← ew, ← eq]; exact heap_alloc_new wd _)
          have HBw7 := Lib.hid (below_trans HBd.out hba)
          have Hqs := Lib.hid (show w6.heap.size ≤ q by rw [← eq]; exact (HBd.out).size)
          go_simp
          try rw [ew]
          try rw [eq]
          refine hK.out _ _ ?_ (fun hHeld => ?_)
          · exact HSS.out _ HBw7.out
          clear hK K hba ew eq
          (try simp only [Act.put, List.setIfInBounds_toArray, List.set_cons_zero, List.set_cons_succ])
          refine wpAnyH_ready (rs := [2]) (by kernel_rfl) (by simp) ?_
          refine AllReadyH.cons (o := { dst := some 119, op := Go.Op.call { callee := Go.Callee.value (Go.Operand.func 22), args := #[Go.Operand.tmp 118], argTypes := #[31] }, type := 31, pos := "outright.go:29", after := #[{ on := 1, ground := Go.Ground.data }], guard := none }) rfl (fun K hK => ?_) AllReadyH.nil
          go_simp
          refine (HRev.out _).mono ?_
          rintro e w8 ⟨rfl, hb⟩
          have HBw8 := Lib.hid (below_trans HBw7.out hb)
          have Hq := Lib.hid (blk_on Hq.out hb)
          refine hK.out _ _ ?_ (fun hHeld => ?_)
          · exact HSS.out _ HBw8.out
          clear hK K hb
          (try simp only [Act.put, List.setIfInBounds_toArray, List.set_cons_zero, List.set_cons_succ])
          refine wpAnyH_ready (rs := [5]) (by kernel_rfl) (by simp) ?_
          refine AllReadyH.cons (o := { dst := some 122, op := Go.Op.call { callee := Go.Callee.value (Go.Operand.func 17), args := #[Go.Operand.tmp 117, Go.Operand.tmp 119, Go.Operand.tmp 121], argTypes := #[33, 31, 22] }, type := 44, pos := "outright.go:29", after := #[{ on := 0, ground := Go.Ground.data }, { on := 2, ground := Go.Ground.data }, { on := 4, ground := Go.Ground.data }, { on := 2, ground := Go.Ground.chain }], guard := none }) rfl (fun K hK => ?_) AllReadyH.nil
          go_simp
          refine (HOut.out _ HBw8.out).mono ?_
          rintro e w9 ⟨rfl, hb⟩
          have HBw9 := Lib.hid (below_trans HBw8.out hb)
          have Hq := Lib.hid (blk_on Hq.out hb)
          refine hK.out _ _ ?_ (fun hHeld => ?_)
          · exact HSS.out _ HBw9.out
          clear hK K hb
          (try simp only [Act.put, List.setIfInBounds_toArray, List.set_cons_zero, List.set_cons_succ])
          refine wpAnyH_take (i := 6) (oi := { dst := some 116, op := Go.Op.move (Go.Operand.tmp 122), type := 44, pos := "outright.go:29", after := #[{ on := 5, ground := Go.Ground.data }], guard := none }) (v := ?_) rfl (by kernel_rfl) (by kernel_rfl) (by kernel_rfl) (fun _ _ _ h => h) (Or.inl ⟨by rfl, ?_⟩) (by assumption) ?_
          rotate_left 1
          · intro w' hSw; (go_simp <;> (with_reducible rfl))
          (try simp only [Act.put, List.setIfInBounds_toArray, List.set_cons_zero, List.set_cons_succ])
          refine wpAnyH_take (i := 7) (oi := { dst := some 123, op := Go.Op.extract (Go.Operand.tmp 116) 0, type := 31, pos := "outright.go:29", after := #[{ on := 6, ground := Go.Ground.data }], guard := none }) (v := ?_) rfl (by kernel_rfl) (by kernel_rfl) (by kernel_rfl) (fun _ _ _ h => h) (Or.inl ⟨by rfl, ?_⟩) (by assumption) ?_
          rotate_left 1
          · intro w' hSw; (go_simp <;> (with_reducible rfl))
          (try simp only [Act.put, List.setIfInBounds_toArray, List.set_cons_zero, List.set_cons_succ])
          refine wpAnyH_take (i := 8) (oi := { dst := some 124, op := Go.Op.extract (Go.Operand.tmp 116) 1, type := 4, pos := "outright.go:29", after := #[{ on := 6, ground := Go.Ground.data }, { on := 10, ground := Go.Ground.gcOnly Go.Departure.lateStores }], guard := none }) (v := ?_) rfl (by kernel_rfl) (by kernel_rfl) (by kernel_rfl) (fun _ _ _ h => h) (Or.inl ⟨by rfl, ?_⟩) (by assumption) ?_
          rotate_left 1
          · intro w' hSw; (go_simp <;> (with_reducible rfl))
          (try simp only [Act.put, List.setIfInBounds_toArray, List.set_cons_zero, List.set_cons_succ])
          refine wpAnyH_ready (rs := [10]) (by kernel_rfl) (by simp) ?_
          refine AllReadyH.cons (o := { dst := none, op := Go.Op.store 31 (Go.Operand.tmp 13) (Go.Operand.tmp 123), type := 0, pos := "outright.go:29", after := #[{ on := 9, ground := Go.Ground.data }, { on := 7, ground := Go.Ground.data }, { on := 5, ground := Go.Ground.chain }, { on := 0, ground := Go.Ground.phase }, { on := 1, ground := Go.Ground.phase }, { on := 2, ground := Go.Ground.phase }, { on := 3, ground := Go.Ground.phase }, { on := 4, ground := Go.Ground.phase }, { on := 5, ground := Go.Ground.phase }, { on := 6, ground := Go.Ground.phase }, { on := 7, ground := Go.Ground.phase }, { on := 8, ground := Go.Ground.textOnly Go.Departure.lateStores }, { on := 9, ground := Go.Ground.phase }], guard := none }) rfl (fun K hK => ?_) AllReadyH.nil
          refine step_row rfl 31 (.tmp 13) (.tmp 123) rfl q _ rfl rfl 31 _ Hq.out (by kernel_rfl) rfl (by simp [Value.oneCell']) ?_
          have HBr := Lib.hid (below_setRow HBw9.out Hqs.out #[.int .u8 x.pr, .int .u32 x.ds, .int .u32 x.sr, .int .u16 gg.po, .int .u16 x.sp])
          have Hq := Lib.hid (setRow_heap _ _ _ #[.int .u8 x.pr, .int .u32 x.ds, .int .u32 x.sr, .int .u16 gg.po, .int .u16 x.sp] _ _ Hq.out)
          refine hK.out _ _ ?_ (fun hHeld => ?_)
          · exact HSS.out _ HBr.out
          clear hK K
          (try simp only [Act.put, List.setIfInBounds_toArray, List.set_cons_zero, List.set_cons_succ])
          refine wpAnyH_take (i := 11) (oi := { dst := some 14, op := Go.Op.assign (Go.Operand.tmp 124), type := 4, pos := "outright.go:29", after := #[{ on := 8, ground := Go.Ground.data }, { on := 10, ground := Go.Ground.chain }, { on := 0, ground := Go.Ground.phase }, { on := 1, ground := Go.Ground.phase }, { on := 2, ground := Go.Ground.phase }, { on := 3, ground := Go.Ground.phase }, { on := 4, ground := Go.Ground.phase }, { on := 5, ground := Go.Ground.phase }, { on := 6, ground := Go.Ground.phase }, { on := 7, ground := Go.Ground.phase }, { on := 8, ground := Go.Ground.phase }, { on := 9, ground := Go.Ground.phase }, { on := 10, ground := Go.Ground.phase }], guard := none }) (v := ?_) rfl (by kernel_rfl) (by kernel_rfl) (by kernel_rfl) (fun _ _ _ h => h) (Or.inl ⟨by rfl, ?_⟩) (by assumption) ?_
          rotate_left 1
          · intro w' hSw; (go_simp <;> (with_reducible rfl))
          (try simp only [Act.put, List.setIfInBounds_toArray, List.set_cons_zero, List.set_cons_succ])
          refine wpAnyH_done (by kernel_rfl) ?_ _
          refine NoPanic.normal ?_
          go_wp2_with fail
          go_meet
          exact ⟨q, rfl, rfl, Hq, HBr⟩
      case rest =>
        obtain ⟨q, rfl, rfl, Hq, HBw⟩ := hcut
        have HB7 := Lib.hid (below_trans HB6.out HBw.out)
        have HMem7 := Lib.hid (HMem6.out.below HBw.out)
        have hal : (fwAll M).length = m := by rw [(fwAll_perm M).length_eq]; exact HM.out
        have Hall := Lib.hid (all_at S g M wc HMem7.out (by have := HM.out; have := Hm70.out; omega))
        obtain ⟨N, eN⟩ : ∃ N, fwAll M = N := ⟨_, rfl⟩
        rw [eN] at hal Hall Hgg
        have Hal := Lib.hid hal
        clear hal eN HMem6 HMem7 HSS HRev HOut HY6
        go_wp2_with fail
        refine Hall.out.mono ?_
        rintro e w9 ⟨A9, c9, rfl, hs9, hown9, hb9⟩
        rw [Hal.out] at hs9 hown9 ⊢
        have HA9 := Lib.hid (RdW.of hs9 Hal.out)
        have HB9 := Lib.hid (below_trans HB7.out hb9)
        have HQ := Lib.hid (show ∀ W, Below w9.heap.size w9 W → W.heap[z + 1]? = some (.cells #[.int .u8 x.pr, .int .u32 x.sr, .int .u32 x.ds, .int .u16 x.sp, .int .u16 x.dp] 31 (0, 0)) ∧ W.heap[q2]? = some (.cells #[.int .u8 x.pr, .int .u16 x.dp, .int .u32 ad, .int .u16 tp] 40 (0, 0)) ∧ W.heap[q]? = some (.cells #[.int .u8 x.pr, .int .u32 x.ds, .int .u32 x.sr, .int .u16 gg.po, .int .u16 x.sp] 31 (0, 0)) from fun W hW => ⟨(HZ.out W (below_trans HBw.out (below_trans hb9 hW))).2.1, (HZ.out W (below_trans HBw.out (below_trans hb9 hW))).2.2.2, blk_on Hq.out (below_trans hb9 hW)⟩)
        clear hs9 hown9 hb9 Hall HZ HBw HB7 HB6
        go_wp2_with fail
        go_loopg [15, 17] m (fun gk al i wr => ∃ (j : Nat) (a : Bool), Hid (gk + j = m) ∧ j ≤ m ∧ i = .int .i64 (j : Int) ∧ al = .bool a ∧ Hid (a = true → ∀ t, t < j → otherF ⟨x.pr, x.dp, ad, tp⟩ (N.getD t fw0) = false) ∧ Hid (Below w9.heap.size w9 wr))
        case atStart => exact ⟨0, true, rfl, Nat.zero_le _, rfl, rfl, Lib.hid (fun _ t ht => by omega), Lib.hid (Below.refl _ _)⟩
        case round =>
          obtain ⟨j, a, hgk, hj, rfl, rfl, hal, hB⟩ := hrel
          by_cases hjn : j < m
          · obtain ⟨g2, pp, hidx, hlt, hfl⟩ := (HA9.out.below hB.out).index (c := c9) Hal.out hjn
            obtain ⟨f2, ef⟩ : ∃ f, N.getD j fw0 = f := ⟨_, rfl⟩
            rw [ef] at hfl
            obtain ⟨e0, e1, e2, e3⟩ := hfl
            obtain ⟨d0, d1, d2, d3⟩ := cells44 (HQ.out _ hB.out).2.1
            have i0 : (0 : Int) ≤ (j : Int) := by omega
            have i1 : (j : Int) < (m : Int) := by omega
            have Hjn := Lib.hid hjn
            have Hef := Lib.hid ef
            clear ef hlt
            go_upto_region 18 with (fail)
            go_cut [170] (fun v wx => v = .bool (otherF ⟨x.pr, x.dp, ad, tp⟩ f2) ∧ Hid (Below wr.heap.size wr wx))
            case first =>
              cases b1 : (f2.pr == x.pr) with
              | false =>
                go_wp2_with fail
                go_quiet (fail)
                go_wp2_with fail
                go_meet
                exact ⟨by unfold otherF; simp [b1], Lib.hid (belowQ (Below.refl _ _) _)⟩
              | true =>
                cases b2 : (f2.ad == ad) with
                | false =>
                  go_wp2_with fail
                  go_quiet (fail)
                  go_wp2_with fail
                  go_meet
                  exact ⟨by unfold otherF; simp [b1, b2], Lib.hid (belowQ (Below.refl _ _) _)⟩
                | true =>
                  cases b3 : (f2.tp == tp) with
                  | false =>
                    go_wp2_with fail
                    go_quiet (fail)
                    go_wp2_with fail
                    go_meet
                    exact ⟨by unfold otherF; simp [b1, b2, b3], Lib.hid (belowQ (Below.refl _ _) _)⟩
                  | true =>
                    go_wp2_with fail
                    go_quiet (fail)
                    go_wp2_with fail
                    go_meet
                    exact ⟨by unfold otherF; simp [b1, b2, b3], Lib.hid (belowQ (Below.refl _ _) _)⟩
            case rest =>
              obtain ⟨rfl, HBc⟩ := hcut
              clear e0 e1 e2 e3 d0 d1 d2 d3 hidx i0 i1
              cases hb : otherF ⟨x.pr, x.dp, ad, tp⟩ f2 with
              | true =>
                go_wp2_with fail
                go_roundg (gk - 1)
                case measure => have := hgk.out; have := Hjn.out; omega
                case rel => exact ⟨j + 1, false, by have := hgk.out; have := Hjn.out; show gk - 1 + (j + 1) = _; omega, by have := Hjn.out; omega, by go_num, rfl, Lib.hid (fun h => by cases h), Lib.hid (below_trans hB.out HBc.out)⟩
              | false =>
                have Hal2 := Lib.hid (show a = true → ∀ t, t < j + 1 → otherF ⟨x.pr, x.dp, ad, tp⟩ (N.getD t fw0) = false by
                  intro ha t ht
                  by_cases e : t = j
                  · subst e; rw [Hef.out]; exact hb
                  · exact hal.out ha t (by omega))
                go_wp2_with fail
                go_roundg (gk - 1)
                case measure => have := hgk.out; have := Hjn.out; omega
                case rel => exact ⟨j + 1, a, by have := hgk.out; have := Hjn.out; show gk - 1 + (j + 1) = _; omega, by have := Hjn.out; omega, by go_num, rfl, Hal2, Lib.hid (below_trans hB.out HBc.out)⟩
          · obtain rfl : m = j := by omega
            obtain ⟨a0, a1, a2, a3, a4⟩ := cells5 (HQ.out _ hB.out).1
            obtain ⟨b0, b1, b2, b3, b4⟩ := cells5 (HQ.out _ hB.out).2.2
            have HBr := Lib.hid (below_trans (below_trans Hb0.out HB9.out) hB.out)
            have HS22 := Lib.hid (show ∀ W, Below wr.heap.size wr W → (W.cell? ⟨q, 0, none⟩ = some (.int .u8 x.pr) ∧ W.cell? ⟨q, 1, none⟩ = some (.int .u32 x.ds) ∧ W.cell? ⟨q, 2, none⟩ = some (.int .u32 x.sr) ∧ W.cell? ⟨q, 3, none⟩ = some (.int .u16 gg.po) ∧ W.cell? ⟨q, 4, none⟩ = some (.int .u16 x.sp)) ∧ (W.cell? ⟨z + 1, 0, none⟩ = some (.int .u8 x.pr) ∧ W.cell? ⟨z + 1, 1, none⟩ = some (.int .u32 x.sr) ∧ W.cell? ⟨z + 1, 2, none⟩ = some (.int .u32 x.ds) ∧ W.cell? ⟨z + 1, 3, none⟩ = some (.int .u16 x.sp) ∧ W.cell? ⟨z + 1, 4, none⟩ = some (.int .u16 x.dp)) from fun W hW => ⟨cells5 (HQ.out _ (below_trans hB.out hW)).2.2, cells5 (HQ.out _ (below_trans hB.out hW)).1⟩)
            go_upto_region 22 with (fail)
            clear a0 a1 a2 a3 a4 b0 b1 b2 b3 b4
            cases a with
            | false =>
              refine wp_region_held_drew (S := fun W => (W.cell? ⟨q, 0, none⟩ = some (.int .u8 x.pr) ∧ W.cell? ⟨q, 1, none⟩ = some (.int .u32 x.ds) ∧ W.cell? ⟨q, 2, none⟩ = some (.int .u32 x.sr) ∧ W.cell? ⟨q, 3, none⟩ = some (.int .u16 gg.po) ∧ W.cell? ⟨q, 4, none⟩ = some (.int .u16 x.sp)) ∧ (W.cell? ⟨z + 1, 0, none⟩ = some (.int .u8 x.pr) ∧ W.cell? ⟨z + 1, 1, none⟩ = some (.int .u32 x.sr) ∧ W.cell? ⟨z + 1, 2, none⟩ = some (.int .u32 x.ds) ∧ W.cell? ⟨z + 1, 3, none⟩ = some (.int .u16 x.sp) ∧ W.cell? ⟨z + 1, 4, none⟩ = some (.int .u16 x.dp))) (by kernel_rfl) (HS22.out _ (Below.refl _ _).drew) (fun hHeld => ?_)
              obtain ⟨vd, evd⟩ : ∃ vd, wr.drew = vd := ⟨_, rfl⟩
              have HBv := Lib.hid (show Below wr.heap.size wr vd by rw [← evd]; exact (Below.refl _ _).drew)
              rw [evd] at hHeld ⊢
              clear evd
              refine wpAnyH_take (i := 0) (oi := { dst := some 194, op := Go.Op.move (Go.Operand.tmp 15), type := 4, pos := "outright.go:40", after := #[], guard := none }) (v := ?_) rfl (by kernel_rfl) (by kernel_rfl) (by kernel_rfl) (fun _ _ _ h => h) (Or.inl ⟨by rfl, ?_⟩) (by assumption) ?_
              rotate_left 1
              · intro w' hSw; (go_simp <;> (with_reducible rfl))
              (try simp only [Act.put, List.setIfInBounds_toArray, List.set_cons_zero, List.set_cons_succ])
              refine wpAnyH_take (i := 1) (oi := { dst := some 195, op := Go.Op.unOp Go.UnOp.not 4 (Go.Operand.tmp 194), type := 4, pos := "outright.go:40", after := #[{ on := 0, ground := Go.Ground.data }], guard := none }) (v := ?_) rfl (by kernel_rfl) (by kernel_rfl) (by kernel_rfl) (fun _ _ _ h => h) (Or.inl ⟨by rfl, ?_⟩) (by assumption) ?_
              rotate_left 1
              · intro w' hSw; (go_simp <;> (with_reducible rfl))
              (try simp only [Act.put, List.setIfInBounds_toArray, List.set_cons_zero, List.set_cons_succ])
              refine wpAnyH_take (i := 2) (oi := { dst := some 196, op := Go.Op.move (Go.Operand.tmp 195), type := 4, pos := "outright.go:40", after := #[{ on := 1, ground := Go.Ground.data }], guard := none }) (v := ?_) rfl (by kernel_rfl) (by kernel_rfl) (by kernel_rfl) (fun _ _ _ h => h) (Or.inl ⟨by rfl, ?_⟩) (by assumption) ?_
              rotate_left 1
              · intro w' hSw; (go_simp <;> (with_reducible rfl))
              (try simp only [Act.put, List.setIfInBounds_toArray, List.set_cons_zero, List.set_cons_succ])
              refine wpAnyH_take (i := 3) (oi := { dst := some 197, op := Go.Op.load 31 (Go.Operand.tmp 13), type := 31, pos := "outright.go:40", after := #[{ on := 2, ground := Go.Ground.guard }], guard := some (2, false) }) (v := undef) rfl (by kernel_rfl) (by kernel_rfl) (by kernel_rfl) (fun _ _ _ h => h) (Or.inr ⟨by rfl, rfl⟩) (by assumption) ?_
              (try simp only [Act.put, List.setIfInBounds_toArray, List.set_cons_zero, List.set_cons_succ])
              refine wpAnyH_take (i := 4) (oi := { dst := some 198, op := Go.Op.load 31 (Go.Operand.tmp 5), type := 31, pos := "outright.go:40", after := #[{ on := 2, ground := Go.Ground.guard }], guard := some (2, false) }) (v := undef) rfl (by kernel_rfl) (by kernel_rfl) (by kernel_rfl) (fun _ _ _ h => h) (Or.inr ⟨by rfl, rfl⟩) (by assumption) ?_
              (try simp only [Act.put, List.setIfInBounds_toArray, List.set_cons_zero, List.set_cons_succ])
              refine wpAnyH_take (i := 5) (oi := { dst := some 199, op := Go.Op.call { callee := Go.Callee.value (Go.Operand.func 22), args := #[Go.Operand.tmp 198], argTypes := #[31] }, type := 31, pos := "outright.go:40", after := #[{ on := 4, ground := Go.Ground.data }, { on := 2, ground := Go.Ground.chain }, { on := 2, ground := Go.Ground.guard }], guard := some (2, false) }) (v := undef) rfl (by kernel_rfl) (by kernel_rfl) (by kernel_rfl) (fun _ _ _ h => h) (Or.inr ⟨by rfl, rfl⟩) (by assumption) ?_
              (try simp only [Act.put, List.setIfInBounds_toArray, List.set_cons_zero, List.set_cons_succ])
              refine wpAnyH_take (i := 6) (oi := { dst := some 200, op := Go.Op.binOp Go.BinOp.eql 31 (Go.Operand.tmp 197) (Go.Operand.tmp 199) 31, type := 4, pos := "outright.go:40", after := #[{ on := 3, ground := Go.Ground.data }, { on := 5, ground := Go.Ground.data }, { on := 2, ground := Go.Ground.guard }], guard := some (2, false) }) (v := undef) rfl (by kernel_rfl) (by kernel_rfl) (by kernel_rfl) (fun _ _ _ h => h) (Or.inr ⟨by rfl, rfl⟩) (by assumption) ?_
              (try simp only [Act.put, List.setIfInBounds_toArray, List.set_cons_zero, List.set_cons_succ])
              refine wpAnyH_take (i := 7) (oi := { dst := some 201, op := Go.Op.pick (Go.Operand.tmp 196) (Go.Operand.const (Go.Value.bool true)) (Go.Operand.tmp 200), type := 4, pos := "outright.go:40", after := #[{ on := 2, ground := Go.Ground.data }, { on := 6, ground := Go.Ground.data }], guard := none }) (v := ?_) rfl (by kernel_rfl) (by kernel_rfl) (by kernel_rfl) (fun _ _ _ h => h) (Or.inl ⟨by rfl, ?_⟩) (by assumption) ?_
              rotate_left 1
              · intro w' hSw; (go_simp <;> (with_reducible rfl))
              (try simp only [Act.put, List.setIfInBounds_toArray, List.set_cons_zero, List.set_cons_succ])
              refine wpAnyH_take (i := 8) (oi := { dst := some 202, op := Go.Op.move (Go.Operand.tmp 201), type := 4, pos := "outright.go:40", after := #[{ on := 7, ground := Go.Ground.data }, { on := 5, ground := Go.Ground.chain }], guard := none }) (v := ?_) rfl (by kernel_rfl) (by kernel_rfl) (by kernel_rfl) (fun _ _ _ h => h) (Or.inl ⟨by rfl, ?_⟩) (by assumption) ?_
              rotate_left 1
              · intro w' hSw; (go_simp <;> (with_reducible rfl))
              (try simp only [Act.put, List.setIfInBounds_toArray, List.set_cons_zero, List.set_cons_succ])
              refine wpAnyH_ready (rs := [9]) (by kernel_rfl) (by simp) ?_
              refine AllReadyH.cons (o := { dst := some 203, op := Go.Op.call { callee := Go.Callee.value (Go.Operand.func 7), args := #[], argTypes := #[] }, type := 4, pos := "outright.go:40", after := #[{ on := 8, ground := Go.Ground.chain }, { on := 8, ground := Go.Ground.guard }], guard := some (8, true) }) rfl (fun K hK => ?_) AllReadyH.nil
              go_simp
              (refine (wakes14_any _).mono ?_; rintro e v3 ⟨rfl, hb⟩; have HBv3 := Lib.hid (below_trans HBv.out hb); clear hb)
              refine hK.out _ _ ?_ (fun hHeld => ?_)
              · exact HS22.out _ HBv3.out
              clear hK K
              (try simp only [Act.put, List.setIfInBounds_toArray, List.set_cons_zero, List.set_cons_succ])
              refine wpAnyH_take (i := 10) (oi := { dst := some 204, op := Go.Op.pick (Go.Operand.tmp 202) (Go.Operand.tmp 203) (Go.Operand.const (Go.Value.bool false)), type := 4, pos := "outright.go:40", after := #[{ on := 8, ground := Go.Ground.data }, { on := 9, ground := Go.Ground.data }], guard := none }) (v := ?_) rfl (by kernel_rfl) (by kernel_rfl) (by kernel_rfl) (fun _ _ _ h => h) (Or.inl ⟨by rfl, ?_⟩) (by assumption) ?_
              rotate_left 1
              · intro w' hSw; (go_simp <;> (with_reducible rfl))
              (try simp only [Act.put, List.setIfInBounds_toArray, List.set_cons_zero, List.set_cons_succ])
              refine wpAnyH_take (i := 11) (oi := { dst := some 6, op := Go.Op.assign (Go.Operand.tmp 204), type := 4, pos := "outright.go:40", after := #[{ on := 10, ground := Go.Ground.data }, { on := 9, ground := Go.Ground.chain }, { on := 0, ground := Go.Ground.phase }, { on := 1, ground := Go.Ground.phase }, { on := 2, ground := Go.Ground.phase }, { on := 3, ground := Go.Ground.phase }, { on := 4, ground := Go.Ground.phase }, { on := 5, ground := Go.Ground.phase }, { on := 6, ground := Go.Ground.phase }, { on := 7, ground := Go.Ground.phase }, { on := 8, ground := Go.Ground.phase }, { on := 9, ground := Go.Ground.phase }, { on := 10, ground := Go.Ground.phase }], guard := none }) (v := ?_) rfl (by kernel_rfl) (by kernel_rfl) (by kernel_rfl) (fun _ _ _ h => h) (Or.inl ⟨by rfl, ?_⟩) (by assumption) ?_
              rotate_left 1
              · intro w' hSw; (go_simp <;> (with_reducible rfl))
              (try simp only [Act.put, List.setIfInBounds_toArray, List.set_cons_zero, List.set_cons_succ])
              refine wpAnyH_done (by kernel_rfl) ?_ _
              clear hHeld
              go_wp2_with fail
              go_ret
              exact ⟨rfl, below_trans HBr.out HBv3.out⟩
            | true =>
              have hpo : gg.po = x.dp := alone_po (f := ⟨x.pr, x.dp, ad, tp⟩) Hal.out Hgg.out.1 Hgg.out.2.1 Hgg.out.2.2.1 Hgg.out.2.2.2 (hal.out rfl)
              have heq : ∀ W, (binOp .eql 31 (.agg #[.int .u8 x.pr, .int .u32 x.ds, .int .u32 x.sr, .int .u16 gg.po, .int .u16 x.sp]) (.agg #[.int .u8 x.pr, .int .u32 x.ds, .int .u32 x.sr, .int .u16 x.dp, .int .u16 x.sp])).run Try.prog W = .ok (.bool true) W := fun W => by
                rw [hpo]
                have := tu_eql ⟨x.pr, x.ds, x.sr, x.dp, x.sp⟩ ⟨x.pr, x.ds, x.sr, x.dp, x.sp⟩ W
                rwa [tuSame_self] at this
              have HRx := Lib.hid (show ∀ W : World, Calls Try.prog 22 #[.agg #[.int .u8 x.pr, .int .u32 x.sr, .int .u32 x.ds, .int .u16 x.sp, .int .u16 x.dp]] W (FwTells (.agg #[.int .u8 x.pr, .int .u32 x.ds, .int .u32 x.sr, .int .u16 x.dp, .int .u16 x.sp]) W) from fun W => rev_fw x ⟨x.pr, x.ds, x.sr, x.dp, x.sp⟩ W (rev_no Hp1.out))
              clear hpo
              refine wp_region_held_drew (S := fun W => (W.cell? ⟨q, 0, none⟩ = some (.int .u8 x.pr) ∧ W.cell? ⟨q, 1, none⟩ = some (.int .u32 x.ds) ∧ W.cell? ⟨q, 2, none⟩ = some (.int .u32 x.sr) ∧ W.cell? ⟨q, 3, none⟩ = some (.int .u16 gg.po) ∧ W.cell? ⟨q, 4, none⟩ = some (.int .u16 x.sp)) ∧ (W.cell? ⟨z + 1, 0, none⟩ = some (.int .u8 x.pr) ∧ W.cell? ⟨z + 1, 1, none⟩ = some (.int .u32 x.sr) ∧ W.cell? ⟨z + 1, 2, none⟩ = some (.int .u32 x.ds) ∧ W.cell? ⟨z + 1, 3, none⟩ = some (.int .u16 x.sp) ∧ W.cell? ⟨z + 1, 4, none⟩ = some (.int .u16 x.dp))) (by kernel_rfl) (HS22.out _ (Below.refl _ _).drew) (fun hHeld => ?_)
              obtain ⟨vd, evd⟩ : ∃ vd, wr.drew = vd := ⟨_, rfl⟩
              have HBv := Lib.hid (show Below wr.heap.size wr vd by rw [← evd]; exact (Below.refl _ _).drew)
              rw [evd] at hHeld ⊢
              clear evd
              refine wpAnyH_take (i := 0) (oi := { dst := some 194, op := Go.Op.move (Go.Operand.tmp 15), type := 4, pos := "outright.go:40", after := #[], guard := none }) (v := ?_) rfl (by kernel_rfl) (by kernel_rfl) (by kernel_rfl) (fun _ _ _ h => h) (Or.inl ⟨by rfl, ?_⟩) (by assumption) ?_
              rotate_left 1
              · intro w' hSw; (go_simp <;> (with_reducible rfl))
              (try simp only [Act.put, List.setIfInBounds_toArray, List.set_cons_zero, List.set_cons_succ])
              refine wpAnyH_take (i := 1) (oi := { dst := some 195, op := Go.Op.unOp Go.UnOp.not 4 (Go.Operand.tmp 194), type := 4, pos := "outright.go:40", after := #[{ on := 0, ground := Go.Ground.data }], guard := none }) (v := ?_) rfl (by kernel_rfl) (by kernel_rfl) (by kernel_rfl) (fun _ _ _ h => h) (Or.inl ⟨by rfl, ?_⟩) (by assumption) ?_
              rotate_left 1
              · intro w' hSw; (go_simp <;> (with_reducible rfl))
              (try simp only [Act.put, List.setIfInBounds_toArray, List.set_cons_zero, List.set_cons_succ])
              refine wpAnyH_take (i := 2) (oi := { dst := some 196, op := Go.Op.move (Go.Operand.tmp 195), type := 4, pos := "outright.go:40", after := #[{ on := 1, ground := Go.Ground.data }], guard := none }) (v := ?_) rfl (by kernel_rfl) (by kernel_rfl) (by kernel_rfl) (fun _ _ _ h => h) (Or.inl ⟨by rfl, ?_⟩) (by assumption) ?_
              rotate_left 1
              · intro w' hSw; (go_simp <;> (with_reducible rfl))
              (try simp only [Act.put, List.setIfInBounds_toArray, List.set_cons_zero, List.set_cons_succ])
              refine wpAnyH_take (i := 3) (oi := { dst := some 197, op := Go.Op.load 31 (Go.Operand.tmp 13), type := 31, pos := "outright.go:40", after := #[{ on := 2, ground := Go.Ground.guard }], guard := some (2, false) }) (v := ?_) rfl (by kernel_rfl) (by kernel_rfl) (by kernel_rfl) (fun _ _ _ h => h) (Or.inl ⟨by rfl, ?_⟩) (by assumption) ?_
              rotate_left 1
              · intro w' hSw; (go_simp <;> (with_reducible rfl))
              (try simp only [Act.put, List.setIfInBounds_toArray, List.set_cons_zero, List.set_cons_succ])
              refine wpAnyH_take (i := 4) (oi := { dst := some 198, op := Go.Op.load 31 (Go.Operand.tmp 5), type := 31, pos := "outright.go:40", after := #[{ on := 2, ground := Go.Ground.guard }], guard := some (2, false) }) (v := ?_) rfl (by kernel_rfl) (by kernel_rfl) (by kernel_rfl) (fun _ _ _ h => h) (Or.inl ⟨by rfl, ?_⟩) (by assumption) ?_
              rotate_left 1
              · intro w' hSw; (go_simp <;> (with_reducible rfl))
              (try simp only [Act.put, List.setIfInBounds_toArray, List.set_cons_zero, List.set_cons_succ])
              refine wpAnyH_ready (rs := [5]) (by kernel_rfl) (by simp) ?_
              refine AllReadyH.cons (o := { dst := some 199, op := Go.Op.call { callee := Go.Callee.value (Go.Operand.func 22), args := #[Go.Operand.tmp 198], argTypes := #[31] }, type := 31, pos := "outright.go:40", after := #[{ on := 4, ground := Go.Ground.data }, { on := 2, ground := Go.Ground.chain }, { on := 2, ground := Go.Ground.guard }], guard := some (2, false) }) rfl (fun K hK => ?_) AllReadyH.nil
              go_simp
              (refine (HRx.out _).mono ?_; rintro e v2 ⟨rfl, hb⟩; have HBv := Lib.hid (below_trans HBv.out hb); clear hb)
              refine hK.out _ _ ?_ (fun hHeld => ?_)
              · exact HS22.out _ HBv.out
              clear hK K
              (try simp only [Act.put, List.setIfInBounds_toArray, List.set_cons_zero, List.set_cons_succ])
              refine wpAnyH_take (i := 6) (oi := { dst := some 200, op := Go.Op.binOp Go.BinOp.eql 31 (Go.Operand.tmp 197) (Go.Operand.tmp 199) 31, type := 4, pos := "outright.go:40", after := #[{ on := 3, ground := Go.Ground.data }, { on := 5, ground := Go.Ground.data }, { on := 2, ground := Go.Ground.guard }], guard := some (2, false) }) (v := ?_) rfl (by kernel_rfl) (by kernel_rfl) (by kernel_rfl) (fun _ _ _ h => h) (Or.inl ⟨by rfl, ?_⟩) (by assumption) ?_
              rotate_left 1
              · intro w' hSw; (go_simp <;> (with_reducible rfl))
              (try simp only [Act.put, List.setIfInBounds_toArray, List.set_cons_zero, List.set_cons_succ])
              refine wpAnyH_take (i := 7) (oi := { dst := some 201, op := Go.Op.pick (Go.Operand.tmp 196) (Go.Operand.const (Go.Value.bool true)) (Go.Operand.tmp 200), type := 4, pos := "outright.go:40", after := #[{ on := 2, ground := Go.Ground.data }, { on := 6, ground := Go.Ground.data }], guard := none }) (v := ?_) rfl (by kernel_rfl) (by kernel_rfl) (by kernel_rfl) (fun _ _ _ h => h) (Or.inl ⟨by rfl, ?_⟩) (by assumption) ?_
              rotate_left 1
              · intro w' hSw; (go_simp <;> (with_reducible rfl))
              (try simp only [Act.put, List.setIfInBounds_toArray, List.set_cons_zero, List.set_cons_succ])
              refine wpAnyH_take (i := 8) (oi := { dst := some 202, op := Go.Op.move (Go.Operand.tmp 201), type := 4, pos := "outright.go:40", after := #[{ on := 7, ground := Go.Ground.data }, { on := 5, ground := Go.Ground.chain }], guard := none }) (v := ?_) rfl (by kernel_rfl) (by kernel_rfl) (by kernel_rfl) (fun _ _ _ h => h) (Or.inl ⟨by rfl, ?_⟩) (by assumption) ?_
              rotate_left 1
              · intro w' hSw; (go_simp <;> (with_reducible rfl))
              (try simp only [Act.put, List.setIfInBounds_toArray, List.set_cons_zero, List.set_cons_succ])
              refine wpAnyH_ready (rs := [9]) (by kernel_rfl) (by simp) ?_
              refine AllReadyH.cons (o := { dst := some 203, op := Go.Op.call { callee := Go.Callee.value (Go.Operand.func 7), args := #[], argTypes := #[] }, type := 4, pos := "outright.go:40", after := #[{ on := 8, ground := Go.Ground.chain }, { on := 8, ground := Go.Ground.guard }], guard := some (8, true) }) rfl (fun K hK => ?_) AllReadyH.nil
              go_simp
              (refine (wakes14_any _).mono ?_; rintro e v3 ⟨rfl, hb⟩; have HBv3 := Lib.hid (below_trans HBv.out hb); clear hb)
              refine hK.out _ _ ?_ (fun hHeld => ?_)
              · exact HS22.out _ HBv3.out
              clear hK K
              (try simp only [Act.put, List.setIfInBounds_toArray, List.set_cons_zero, List.set_cons_succ])
              refine wpAnyH_take (i := 10) (oi := { dst := some 204, op := Go.Op.pick (Go.Operand.tmp 202) (Go.Operand.tmp 203) (Go.Operand.const (Go.Value.bool false)), type := 4, pos := "outright.go:40", after := #[{ on := 8, ground := Go.Ground.data }, { on := 9, ground := Go.Ground.data }], guard := none }) (v := ?_) rfl (by kernel_rfl) (by kernel_rfl) (by kernel_rfl) (fun _ _ _ h => h) (Or.inl ⟨by rfl, ?_⟩) (by assumption) ?_
              rotate_left 1
              · intro w' hSw; (go_simp <;> (with_reducible rfl))
              (try simp only [Act.put, List.setIfInBounds_toArray, List.set_cons_zero, List.set_cons_succ])
              refine wpAnyH_take (i := 11) (oi := { dst := some 6, op := Go.Op.assign (Go.Operand.tmp 204), type := 4, pos := "outright.go:40", after := #[{ on := 10, ground := Go.Ground.data }, { on := 9, ground := Go.Ground.chain }, { on := 0, ground := Go.Ground.phase }, { on := 1, ground := Go.Ground.phase }, { on := 2, ground := Go.Ground.phase }, { on := 3, ground := Go.Ground.phase }, { on := 4, ground := Go.Ground.phase }, { on := 5, ground := Go.Ground.phase }, { on := 6, ground := Go.Ground.phase }, { on := 7, ground := Go.Ground.phase }, { on := 8, ground := Go.Ground.phase }, { on := 9, ground := Go.Ground.phase }, { on := 10, ground := Go.Ground.phase }], guard := none }) (v := ?_) rfl (by kernel_rfl) (by kernel_rfl) (by kernel_rfl) (fun _ _ _ h => h) (Or.inl ⟨by rfl, ?_⟩) (by assumption) ?_
              rotate_left 1
              · intro w' hSw; (go_simp <;> (with_reducible rfl))
              (try simp only [Act.put, List.setIfInBounds_toArray, List.set_cons_zero, List.set_cons_succ])
              refine wpAnyH_done (by kernel_rfl) ?_ _
              clear hHeld
              go_wp2_with fail
              go_ret
              exact ⟨rfl, below_trans HBr.out HBv3.out⟩
  · skip
    refine wp_region_held_drew (S := fun w' => w'.heap[z]? = some (.cells #[.int .u32 k.ins, .int .u32 k.msk, k.v2, .int .u16 k.lo, .int .u16 k.hi, k.v5, k.v6, k.v7, k.v8, k.v9, k.va, k.vb, k.vc, k.vd, k.ve, k.vf, k.vg, k.vh, k.vi] 29 (0, 0))) (by kernel_rfl) (HX.out _ (Below.refl _ _).drew).1 (fun hHeld => ?_)
    obtain ⟨wd, ewd⟩ : ∃ wd, w0.drew = wd := ⟨_, rfl⟩
    have HBd := Lib.hid (show Below w0.heap.size w0 wd by rw [← ewd]; exact (Below.refl _ _).drew)
    rw [ewd] at hHeld ⊢
    clear ewd
    have hRd := (Hr.out.below HBd.out)
    have HNo := Lib.hid (new_bad k A2 m c2 M wd hRd HM.out (by have := Hm70.out; omega) hmay)
    clear hmay hRd
    refine wpAnyH_take (i := 0) (oi := { dst := some 19, op := Go.Op.load 29 (Go.Operand.tmp 3), type := 29, pos := "outright.go:14", after := #[], guard := none }) (v := .agg #[.int .u32 k.ins, .int .u32 k.msk, k.v2, .int .u16 k.lo, .int .u16 k.hi, k.v5, k.v6, k.v7, k.v8, k.v9, k.va, k.vb, k.vc, k.vd, k.ve, k.vf, k.vg, k.vh, k.vi]) rfl (by kernel_rfl) (by kernel_rfl) (by kernel_rfl) (fun _ _ _ h => h) (Or.inl ⟨by rfl, fun w' hSw => exec_row 29 (.tmp 3) rfl z _ _ _ _ (hSw) rfl Try.underlying29 rfl (by kernel_rfl)⟩) (by assumption) ?_
    (try simp only [Act.put, List.setIfInBounds_toArray, List.set_cons_zero, List.set_cons_succ])
    refine wpAnyH_take (i := 1) (oi := { dst := some 20, op := Go.Op.move (Go.Operand.tmp 1), type := 27, pos := "outright.go:14", after := #[], guard := none }) (v := ?_) rfl (by kernel_rfl) (by kernel_rfl) (by kernel_rfl) (fun _ _ _ h => h) (Or.inl ⟨by rfl, ?_⟩) (by assumption) ?_
    rotate_left 1
    · intro w' hSw; (go_simp <;> (with_reducible rfl))
    (try simp only [Act.put, List.setIfInBounds_toArray, List.set_cons_zero, List.set_cons_succ])
    refine wpAnyH_take (i := 2) (oi := { dst := some 21, op := Go.Op.move (Go.Operand.tmp 1), type := 27, pos := "outright.go:14", after := #[], guard := none }) (v := ?_) rfl (by kernel_rfl) (by kernel_rfl) (by kernel_rfl) (fun _ _ _ h => h) (Or.inl ⟨by rfl, ?_⟩) (by assumption) ?_
    rotate_left 1
    · intro w' hSw; (go_simp <;> (with_reducible rfl))
    (try simp only [Act.put, List.setIfInBounds_toArray, List.set_cons_zero, List.set_cons_succ])
    refine wpAnyH_take (i := 3) (oi := { dst := some 22, op := Go.Op.call { callee := Go.Callee.builtin Go.Builtin.len, args := #[Go.Operand.tmp 21], argTypes := #[27] }, type := 3, pos := "outright.go:14", after := #[{ on := 2, ground := Go.Ground.data }], guard := none }) (v := ?_) rfl (by kernel_rfl) (by kernel_rfl) (by kernel_rfl) (fun _ _ _ h => h) (Or.inl ⟨by rfl, ?_⟩) (by assumption) ?_
    rotate_left 1
    · intro w' hSw; (go_simp <;> (with_reducible rfl))
    (try simp only [Act.put, List.setIfInBounds_toArray, List.set_cons_zero, List.set_cons_succ])
    refine wpAnyH_take (i := 4) (oi := { dst := some 23, op := Go.Op.call { callee := Go.Callee.builtin Go.Builtin.min, args := #[Go.Operand.tmp 22, Go.Operand.const (Go.Value.int Go.IntKind.i64 70)], argTypes := #[3, 3] }, type := 3, pos := "outright.go:14", after := #[{ on := 3, ground := Go.Ground.data }], guard := none }) (v := ?_) rfl (by kernel_rfl) (by kernel_rfl) (by kernel_rfl) (fun _ _ _ h => h) (Or.inl ⟨by rfl, ?_⟩) (by assumption) ?_
    rotate_left 1
    · intro w' hSw; (go_simp <;> (with_reducible rfl))
    (try simp only [Act.put, List.setIfInBounds_toArray, List.set_cons_zero, List.set_cons_succ])
    refine wpAnyH_take (i := 5) (oi := { dst := some 24, op := Go.Op.slice 27 (Go.Operand.tmp 20) none (some (Go.Operand.tmp 23)) none, type := 27, pos := "outright.go:14", after := #[{ on := 1, ground := Go.Ground.data }, { on := 4, ground := Go.Ground.data }], guard := none }) (v := ?_) rfl (by kernel_rfl) (by kernel_rfl) (by kernel_rfl) (fun _ _ _ h => h) (Or.inl ⟨by rfl, ?_⟩) (by assumption) ?_
    rotate_left 1
    · intro w' hSw; (go_simp <;> (with_reducible rfl))
    (try simp only [Act.put, List.setIfInBounds_toArray, List.set_cons_zero, List.set_cons_succ])
    refine wpAnyH_ready (rs := [6]) (by kernel_rfl) (by simp) ?_
    refine AllReadyH.cons (o := { dst := some 25, op := Go.Op.call { callee := Go.Callee.value (Go.Operand.func 8), args := #[Go.Operand.tmp 19, Go.Operand.tmp 24], argTypes := #[29, 27] }, type := 35, pos := "outright.go:14", after := #[{ on := 0, ground := Go.Ground.data }, { on := 5, ground := Go.Ground.data }], guard := none }) rfl (fun K hK => ?_) AllReadyH.nil
    go_simp
    (refine HNo.out.mono ?_; rintro e w1 ⟨rfl, hb1⟩; have HB1 := Lib.hid (below_trans HBd.out hb1); clear hb1)
    refine hK.out _ _ ?_ (fun hHeld => ?_)
    · exact (HX.out _ HB1.out).1
    clear hK K
    (try simp only [Act.put, List.setIfInBounds_toArray, List.set_cons_zero, List.set_cons_succ])
    refine wpAnyH_take (i := 7) (oi := { dst := some 18, op := Go.Op.move (Go.Operand.tmp 25), type := 35, pos := "outright.go:14", after := #[{ on := 6, ground := Go.Ground.data }], guard := none }) (v := ?_) rfl (by kernel_rfl) (by kernel_rfl) (by kernel_rfl) (fun _ _ _ h => h) (Or.inl ⟨by rfl, ?_⟩) (by assumption) ?_
    rotate_left 1
    · intro w' hSw; (go_simp <;> (with_reducible rfl))
    (try simp only [Act.put, List.setIfInBounds_toArray, List.set_cons_zero, List.set_cons_succ])
    refine wpAnyH_take (i := 8) (oi := { dst := some 26, op := Go.Op.extract (Go.Operand.tmp 18) 0, type := 33, pos := "outright.go:14", after := #[{ on := 7, ground := Go.Ground.data }], guard := none }) (v := ?_) rfl (by kernel_rfl) (by kernel_rfl) (by kernel_rfl) (fun _ _ _ h => h) (Or.inl ⟨by rfl, ?_⟩) (by assumption) ?_
    rotate_left 1
    · intro w' hSw; (go_simp <;> (with_reducible rfl))
    (try simp only [Act.put, List.setIfInBounds_toArray, List.set_cons_zero, List.set_cons_succ])
    refine wpAnyH_take (i := 9) (oi := { dst := some 27, op := Go.Op.extract (Go.Operand.tmp 18) 1, type := 34, pos := "outright.go:14", after := #[{ on := 7, ground := Go.Ground.data }, { on := 10, ground := Go.Ground.gcOnly Go.Departure.lateStores }], guard := none }) (v := ?_) rfl (by kernel_rfl) (by kernel_rfl) (by kernel_rfl) (fun _ _ _ h => h) (Or.inl ⟨by rfl, ?_⟩) (by assumption) ?_
    rotate_left 1
    · intro w' hSw; (go_simp <;> (with_reducible rfl))
    (try simp only [Act.put, List.setIfInBounds_toArray, List.set_cons_zero, List.set_cons_succ])
    refine wpAnyH_take (i := 10) (oi := { dst := some 7, op := Go.Op.assign (Go.Operand.tmp 26), type := 33, pos := "outright.go:14", after := #[{ on := 8, ground := Go.Ground.data }, { on := 6, ground := Go.Ground.chain }, { on := 0, ground := Go.Ground.phase }, { on := 1, ground := Go.Ground.phase }, { on := 2, ground := Go.Ground.phase }, { on := 3, ground := Go.Ground.phase }, { on := 4, ground := Go.Ground.phase }, { on := 5, ground := Go.Ground.phase }, { on := 6, ground := Go.Ground.phase }, { on := 7, ground := Go.Ground.phase }, { on := 8, ground := Go.Ground.phase }, { on := 9, ground := Go.Ground.textOnly Go.Departure.lateStores }], guard := none }) (v := ?_) rfl (by kernel_rfl) (by kernel_rfl) (by kernel_rfl) (fun _ _ _ h => h) (Or.inl ⟨by rfl, ?_⟩) (by assumption) ?_
    rotate_left 1
    · intro w' hSw; (go_simp <;> (with_reducible rfl))
    (try simp only [Act.put, List.setIfInBounds_toArray, List.set_cons_zero, List.set_cons_succ])
    refine wpAnyH_take (i := 11) (oi := { dst := some 8, op := Go.Op.assign (Go.Operand.tmp 27), type := 34, pos := "outright.go:14", after := #[{ on := 9, ground := Go.Ground.data }, { on := 10, ground := Go.Ground.chain }, { on := 0, ground := Go.Ground.phase }, { on := 1, ground := Go.Ground.phase }, { on := 2, ground := Go.Ground.phase }, { on := 3, ground := Go.Ground.phase }, { on := 4, ground := Go.Ground.phase }, { on := 5, ground := Go.Ground.phase }, { on := 6, ground := Go.Ground.phase }, { on := 7, ground := Go.Ground.phase }, { on := 8, ground := Go.Ground.phase }, { on := 9, ground := Go.Ground.phase }, { on := 10, ground := Go.Ground.phase }], guard := none }) (v := ?_) rfl (by kernel_rfl) (by kernel_rfl) (by kernel_rfl) (fun _ _ _ h => h) (Or.inl ⟨by rfl, ?_⟩) (by assumption) ?_
    rotate_left 1
    · intro w' hSw; (go_simp <;> (with_reducible rfl))
    (try simp only [Act.put, List.setIfInBounds_toArray, List.set_cons_zero, List.set_cons_succ])
    refine wpAnyH_done (by kernel_rfl) ?_ _
    clear hHeld HNo
    go_wp2_with fail
    refine (wakes14_any _).mono ?_
    rintro e w2 ⟨rfl, hb2⟩
    have HB2 := Lib.hid (below_trans (below_trans Hb0.out HB1.out) hb2)
    clear hb2
    go_wp2_with fail
    go_ret
    exact ⟨rfl, HB2.out⟩
theorem own : ownKnob Try.prog.godebug = none := by kernel_rfl
theorem laidOut : laidOutB Try.prog = true := by kernel_rfl

set_option maxRecDepth 100000 in
theorem lifted (os : Os) (started : os.Started) (H : Type) (enc : TypeId × Value → H) :
    ReturnsInHanded {} Try.checked os 4 .any (Rows.forwardBackSpec.pre6 enc Try.prog Try.f4 Rows.forwardBackRow.domain false) (Rows.forwardBackSpec.post enc Try.prog Try.f4 false true false false) := by
  refine returnsInHanded_of_change (C := Try.checked) own started (by kernel_rfl) Try.func4
    (ChangeSpec.witness6 (enc := enc) (C := Try.checked) false ⟨#[], #[(.agg #[.int .u32 0, .int .u32 0, .int .u32 0, .int .u16 0, .int .u16 0, .int .u64 0, .int .i64 0, .slice none 0 0, .int .i64 0, .int .u16 0, .int .i64 0, .bool false, .int .u64 0, .slice none 0 0, .slice none 0 0, .int .u64 0, .int .i64 0, .int .u64 0, .int .u64 0]), (.slice none 0 0), (.agg #[.int .u8 0, .int .u32 0, .int .u32 0, .int .u16 0, .int .u16 0])], []⟩ 8 (by kernel_rfl) (by kernel_rfl) (by kernel_rfl) (by kernel_rfl)) ?_
  intro W base args ds gs before hval0 hW hcnd _
  have hval : ∀ (j : Nat) t v, Try.f4.params[j]? = some t → args[j]? = some v → Value.okWide Try.prog W .any base t v := hval0
  have hW' := hW
  obtain ⟨p, q, hA0, hV, rfl, hfz, hnd⟩ := hW
  have hA : DataW.TrodAll enc Try.prog W 0 (fun _ => true) true Try.f4.params.toList args.toList ds p := hA0
  rw [Try.params4] at hA hval
  obtain ⟨v0, vs0, d0, ds0, p0, q0, hargs, rfl, rfl, h0, r0⟩ := trodAll_cons hA
  obtain ⟨v1, vs1, d1, ds1, p1, q1, rfl, rfl, rfl, h1, r1⟩ := trodAll_cons r0
  obtain ⟨v2, vs2, d2, ds2, p2, q2, rfl, rfl, rfl, h2, r2⟩ := trodAll_cons r1
  obtain ⟨rfl, rfl, rfl⟩ := trodAll_nil r2
  obtain rfl : args = #[v0, v1, v2] := by cases args; simp_all
  obtain ⟨rfl, rfl⟩ := trodVars_none hV
  have k0 := cfg_open (hval 0 29 v0 rfl rfl) h0
  have lt0 : ∀ x ∈ p0, x.block < W.heap.size := by obtain ⟨m, hm⟩ := h0; exact DataW.trod_lt m _ _ _ hm
  have k1 := fws_open (hval 1 27 v1 rfl rfl) h1
  have lt1 : ∀ x ∈ p1, x.block < W.heap.size := by obtain ⟨m, hm⟩ := h1; exact DataW.trod_lt m _ _ _ hm
  have k2 := tu_open (hval 2 31 v2 rfl rfl) h2
  have lt2 : ∀ x ∈ p2, x.block < W.heap.size := by obtain ⟨m, hm⟩ := h2; exact DataW.trod_lt m _ _ _ hm
  clear hA0 hval0
  refine (walk W v0 k0 v1 k1 v2 k2).mono fun e W' ⟨he, bel⟩ => ?_
  subst he
  exact ⟨_, rfl, _, _, _, [], _, [], hW', trodAll_mk1 (shut_bool Try.underlying4 _), (trodAll_cons_mk (Below.trod laidOut (by kernel_rfl) (of_decide_eq_true (by kernel_rfl)) h0 bel lt0) (trodAll_cons_mk (Below.trod laidOut (by kernel_rfl) (of_decide_eq_true (by kernel_rfl)) h1 bel lt1) (trodAll_cons_mk (Below.trod laidOut (by kernel_rfl) (of_decide_eq_true (by kernel_rfl)) h2 bel lt2) trodAll_mk0))), rfl, bel.frame _, fun h => by cases h⟩

theorem over : Rows.forwardBackRow.holds Try.pinned (OpenSpec.ofChange Rows.forwardBackSpec) :=
  OpenClaim.holds_of_wide 4 Try.f4 rfl rfl rfl rfl rfl rfl rfl ⟨rfl, rfl, rfl, rfl, rfl⟩ rfl rfl rfl rfl rfl (by kernel_rfl) Try.func4 (by kernel_rfl)
    (of_decide_eq_true (by kernel_rfl)) (by unfold Func.isWrapper; first | (rw [if_pos (by decide +kernel)]; kernel_rfl) | (rw [if_neg (by decide +kernel)]; exact ⟨rfl, rfl⟩))
    (fun os started H enc _ => lifted os started H enc)

/-- The statement. -/
theorem proved : Rows.ForwardBackSaid := over
#print axioms proved
end Go.Proofs.Ytknmpfdmjfbpdaa.forwardBack
