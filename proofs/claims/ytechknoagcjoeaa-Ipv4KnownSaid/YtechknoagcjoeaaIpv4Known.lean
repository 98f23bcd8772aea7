/-
  Ipv4Known holds: the chapter's rows; each error once; limits. A closed statement: no condition.
-/
import Derived.Test.YtechknoagcjoeaaIpSpoil
import Derived.Test.YtechknoagcjoeaaMade
import Derived.Deep.RegionHeld3
namespace Go.Proofs.Ytechknoagcjoeaa.ipv4Known
open Go.ChangeShapes Go.WideShapes Go.ChangeAt Go.RowKit
set_option linter.unusedVariables false

theorem err_long : errIp (List.replicate 1501 0) = 3 := by
  unfold errIp
  rw [if_pos (by rw [List.length_replicate]; omega)]
theorem err_short : errIp (List.replicate 19 0) = 4 := by
  unfold errIp
  rw [if_neg (by rw [List.length_replicate]; omega), if_pos (by rw [List.length_replicate]; omega)]
theorem e1 : errIp (spoilL 0 17664 17408) = 5 := by decide +kernel
theorem e2 : errIp (spoilL 0 17664 17920) = 4 := by decide +kernel
theorem e3 : errIp (spoilL 2 22 23) = 4 := by decide +kernel
theorem e4 : errIp (spoilL 2 22 21) = 5 := by decide +kernel
theorem e5 : errIp (spoilL 6 0 32768) = 5 := by decide +kernel
theorem e6 : errIp (spoilL 6 0 8192) = 21 := by decide +kernel
theorem e7 : errIp (spoilL 6 0 1) = 21 := by decide +kernel
theorem e8 : errIp (spoilL 6 0 16384) = 0 := by decide +kernel
theorem e9 : errIp (spoilL 8 2310 6) = 23 := by decide +kernel

theorem spoil_at (ai was is_ x : Int) (w : World) (a : Nat) (he : ai = (a : Int)) (ha : a < 9) (hw : U16 was) (hi : U16 is_) (hx : errIp (spoilL a was is_) = x) :
    Calls Try.prog 10 #[.int .i64 ai, .int .u16 was, .int .u16 is_] w (IntIs x w) := by subst he; exact spoil_told a was is_ x w ha hw hi hx

set_option maxHeartbeats 4000000 in
set_option maxRecDepth 100000 in
theorem walk (w : World) :
    Calls Try.prog 4 #[] w fun e w' => e = .returned (.bool true) ∧ Below w.heap.size w w' := by
  have k40 : ∀ w, (Instr.makeSlice 24 (.int .i64 40) (.int .i64 40)).run Try.prog w = .ok (.slice (some ⟨w.heap.size, 0, none⟩) 40 40) (w.alloc (.cells (madeCells (Value.int .u8 0).cells 40) 5)) := fun w => made_run 40 (by omega) w
  have k1440 : ∀ w, (Instr.makeSlice 24 (.int .i64 1440) (.int .i64 1440)).run Try.prog w = .ok (.slice (some ⟨w.heap.size, 0, none⟩) 1440 1440) (w.alloc (.cells (madeCells (Value.int .u8 0).cells 1440) 5)) := fun w => made_run 1440 (by omega) w
  have k1441 : ∀ w, (Instr.makeSlice 24 (.int .i64 1441) (.int .i64 1441)).run Try.prog w = .ok (.slice (some ⟨w.heap.size, 0, none⟩) 1441 1441) (w.alloc (.cells (madeCells (Value.int .u8 0).cells 1441) 5)) := fun w => made_run 1441 (by omega) w
  have k3 : ∀ w, (Instr.makeSlice 24 (.int .i64 3) (.int .i64 3)).run Try.prog w = .ok (.slice (some ⟨w.heap.size, 0, none⟩) 3 3) (w.alloc (.cells (madeCells (Value.int .u8 0).cells 3) 5)) := fun w => made_run 3 (by omega) w
  have k44 : ∀ w, (Instr.makeSlice 24 (.int .i64 44) (.int .i64 44)).run Try.prog w = .ok (.slice (some ⟨w.heap.size, 0, none⟩) 44 44) (w.alloc (.cells (madeCells (Value.int .u8 0).cells 44) 5)) := fun w => made_run 44 (by omega) w
  have k1501 : ∀ w, (Instr.makeSlice 24 (.int .i64 1501) (.int .i64 1501)).run Try.prog w = .ok (.slice (some ⟨w.heap.size, 0, none⟩) 1501 1501) (w.alloc (.cells (madeCells (Value.int .u8 0).cells 1501) 5)) := fun w => made_run 1501 (by omega) w
  have k19 : ∀ w, (Instr.makeSlice 24 (.int .i64 19) (.int .i64 19)).run Try.prog w = .ok (.slice (some ⟨w.heap.size, 0, none⟩) 19 19) (w.alloc (.cells (madeCells (Value.int .u8 0).cells 19) 5)) := fun w => made_run 19 (by omega) w
  have hmf : ∀ (fn : Fn) (first cap : Array Value) (w : World), (Instr.makeFunc fn first cap).run Try.prog w = .ok (.func fn first cap) w := fun _ _ _ _ => rfl
  go_enter Try.func4, Try.ntmps4
  go_wp2_with fail
  obtain ⟨w1, hw1⟩ : ∃ w1, w1 = ((w.alloc (.cells (madeCells #[Value.int .u8 0] 40) 5)).alloc (.cells #[.int .u8 0, .int .u16 0, .bool false, .int .u8 1, .int .u8 0, .int .u32 0, .int .u32 0, .slice (some ⟨w.heap.size, 0, none⟩) 40 40] 26)) := ⟨_, rfl⟩
  rw [← hw1]
  have hb1 : Below w.heap.size w w1 := by rw [hw1]; exact ((Below.refl w.heap.size w).alloc (Nat.le_refl _) _).alloc (by simp) _
  have hh1 : w1.heap[w.heap.size + 1]? = some (.cells #[.int .u8 0, .int .u16 0, .bool false, .int .u8 1, .int .u8 0, .int .u32 0, .int .u32 0, .slice (some ⟨w.heap.size, 0, none⟩) 40 40] 26 (0, 0)) := by
    rw [hw1]
    have := heap_alloc_new (w.alloc (.cells (madeCells #[Value.int .u8 0] 40) 5)) (.cells #[.int .u8 0, .int .u16 0, .bool false, .int .u8 1, .int .u8 0, .int .u32 0, .int .u32 0, .slice (some ⟨w.heap.size, 0, none⟩) 40 40] 26)
    simpa using this
  have hr1 : Rd w1 (some ⟨w.heap.size, 0, none⟩) 40 (List.replicate 40 0) := by
    rw [hw1]
    exact (made_nums w w.heap.size rfl 40).below (Below.alloc (Below.refl _ _) (Nat.le_refl _) _)
  clear hw1
  have hcells : ∀ w' : World, w'.heap[w.heap.size + 1]? = some (.cells #[.int .u8 0, .int .u16 0, .bool false, .int .u8 1, .int .u8 0, .int .u32 0, .int .u32 0, .slice (some ⟨w.heap.size, 0, none⟩) 40 40] 26 (0, 0)) → w'.cell? ⟨w.heap.size + 1, 0, none⟩ = some (.int .u8 0) ∧ w'.cell? ⟨w.heap.size + 1, 1, none⟩ = some (.int .u16 0) ∧ w'.cell? ⟨w.heap.size + 1, 2, none⟩ = some (.bool false) ∧ w'.cell? ⟨w.heap.size + 1, 3, none⟩ = some (.int .u8 1) ∧ w'.cell? ⟨w.heap.size + 1, 4, none⟩ = some (.int .u8 0) ∧ w'.cell? ⟨w.heap.size + 1, 5, none⟩ = some (.int .u32 0) ∧ w'.cell? ⟨w.heap.size + 1, 6, none⟩ = some (.int .u32 0) ∧ w'.cell? ⟨w.heap.size + 1, 7, none⟩ = some (.slice (some ⟨w.heap.size, 0, none⟩) 40 40) := by
    intro w' h
    have a := blk_cell h
    simp [a]
  have Hcells := Lib.hid hcells
  clear hcells
  have HB := Lib.hid hb1
  have HH := Lib.hid hh1
  have HR := Lib.hid hr1
  clear hb1 hh1 hr1
  refine wp_region_held_drew (S := fun w' => w'.cell? ⟨w.heap.size + 1, 0, none⟩ = some (.int .u8 0) ∧ w'.cell? ⟨w.heap.size + 1, 1, none⟩ = some (.int .u16 0) ∧ w'.cell? ⟨w.heap.size + 1, 2, none⟩ = some (.bool false) ∧ w'.cell? ⟨w.heap.size + 1, 3, none⟩ = some (.int .u8 1) ∧ w'.cell? ⟨w.heap.size + 1, 4, none⟩ = some (.int .u8 0) ∧ w'.cell? ⟨w.heap.size + 1, 5, none⟩ = some (.int .u32 0) ∧ w'.cell? ⟨w.heap.size + 1, 6, none⟩ = some (.int .u32 0) ∧ w'.cell? ⟨w.heap.size + 1, 7, none⟩ = some (.slice (some ⟨w.heap.size, 0, none⟩) 40 40)) (by kernel_rfl) (Hcells.out _ HH.out) (fun hHeld => ?_)
  have hrp := Lib.hid ((made_nums w1 w1.heap.size rfl 1440).below (Below.drew (Below.refl _ _)))
  refine wpAnyH_take (i := 0) (oi := { dst := some 22, op := Go.Op.load 26 (Go.Operand.tmp 1), type := 26, pos := "outright.go:71", after := #[], guard := none }) (v := ?_) rfl (by kernel_rfl) (by kernel_rfl) (by kernel_rfl) (fun _ _ _ h => h) (Or.inl ⟨by rfl, ?_⟩) (by assumption) ?_
  rotate_left 1
  · intro w' hSw; (go_simp <;> (with_reducible rfl))
  (try simp only [Act.put, List.setIfInBounds_toArray, List.set_cons_zero, List.set_cons_succ])
  have HB := Lib.hid (below_trans HB.out (Below.drew (Below.alloc (Below.refl _ _) (Nat.le_refl _) (.cells (madeCells #[Value.int .u8 0] 1440) 5))))
  have HH := Lib.hid (blk_on HH.out (Below.drew (Below.alloc (Below.refl _ _) (Nat.le_refl _) (.cells (madeCells #[Value.int .u8 0] 1440) 5))))
  have HR := Lib.hid (HR.out.below (Below.drew (Below.alloc (Below.refl _ _) (Nat.le_refl _) (.cells (madeCells #[Value.int .u8 0] 1440) 5))))
  refine wpAnyH_ready (rs := [1]) (by kernel_rfl) (by simp) ?_
  refine AllReadyH.cons (o := { dst := some 23, op := Go.Op.makeSlice 24 (Go.Operand.const (Go.Value.int Go.IntKind.i64 1440)) (Go.Operand.const (Go.Value.int Go.IntKind.i64 1440)), type := 24, pos := "outright.go:71", after := #[], guard := none }) rfl (fun K hK => ?_) AllReadyH.nil
  go_simp
  skip
  refine hK.out _ _ ?_ (fun hHeld => ?_)
  · exact Hcells.out _ HH.out
  clear hK K
  (try simp only [Act.put, List.setIfInBounds_toArray, List.set_cons_zero, List.set_cons_succ])
  refine wpAnyH_ready (rs := [2]) (by kernel_rfl) (by simp) ?_
  refine AllReadyH.cons (o := { dst := some 24, op := Go.Op.call { callee := Go.Callee.value (Go.Operand.func 5), args := #[Go.Operand.tmp 22, Go.Operand.tmp 23], argTypes := #[26, 24] }, type := 28, pos := "outright.go:71", after := #[{ on := 0, ground := Go.Ground.data }, { on := 1, ground := Go.Ground.data }], guard := none }) rfl (fun K hK => ?_) AllReadyH.nil
  go_simp
  (go_at_call 5; refine (put_ok 0 0 1 0 0 0 false _ _ 40 40 1440 1440 (List.replicate 40 0) (List.replicate 1440 0) _ (by omega) (by omega) (by omega) (by omega) (by omega) (by omega) (by decide) (by omega) ⟨by omega, by simp [maxLen]⟩ ⟨by omega, by simp [maxLen]⟩ (by omega) HR.out hrp.out).mono ?_; rintro e w3 ⟨A3, c3, rfl, hk3, hm3, -, hb⟩; have HB := Lib.hid (below_trans HB.out hb); have HH := Lib.hid (blk_on HH.out hb); have HR := Lib.hid (HR.out.below hb); clear hb)
  refine hK.out _ _ ?_ (fun hHeld => ?_)
  · exact Hcells.out _ HH.out
  clear hK K
  (try simp only [Act.put, List.setIfInBounds_toArray, List.set_cons_zero, List.set_cons_succ])
  refine wpAnyH_take (i := 3) (oi := { dst := some 21, op := Go.Op.move (Go.Operand.tmp 24), type := 28, pos := "outright.go:71", after := #[{ on := 2, ground := Go.Ground.data }], guard := none }) (v := ?_) rfl (by kernel_rfl) (by kernel_rfl) (by kernel_rfl) (fun _ _ _ h => h) (Or.inl ⟨by rfl, ?_⟩) (by assumption) ?_
  rotate_left 1
  · intro w' hSw; (go_simp <;> (with_reducible rfl))
  (try simp only [Act.put, List.setIfInBounds_toArray, List.set_cons_zero, List.set_cons_succ])
  refine wpAnyH_take (i := 4) (oi := { dst := some 25, op := Go.Op.extract (Go.Operand.tmp 21) 0, type := 24, pos := "outright.go:71", after := #[{ on := 3, ground := Go.Ground.data }], guard := none }) (v := ?_) rfl (by kernel_rfl) (by kernel_rfl) (by kernel_rfl) (fun _ _ _ h => h) (Or.inl ⟨by rfl, ?_⟩) (by assumption) ?_
  rotate_left 1
  · intro w' hSw; (go_simp <;> (with_reducible rfl))
  (try simp only [Act.put, List.setIfInBounds_toArray, List.set_cons_zero, List.set_cons_succ])
  refine wpAnyH_take (i := 5) (oi := { dst := some 26, op := Go.Op.extract (Go.Operand.tmp 21) 1, type := 27, pos := "outright.go:71", after := #[{ on := 3, ground := Go.Ground.data }, { on := 6, ground := Go.Ground.gcOnly Go.Departure.lateStores }], guard := none }) (v := ?_) rfl (by kernel_rfl) (by kernel_rfl) (by kernel_rfl) (fun _ _ _ h => h) (Or.inl ⟨by rfl, ?_⟩) (by assumption) ?_
  rotate_left 1
  · intro w' hSw; (go_simp <;> (with_reducible rfl))
  (try simp only [Act.put, List.setIfInBounds_toArray, List.set_cons_zero, List.set_cons_succ])
  refine wpAnyH_take (i := 6) (oi := { dst := some 2, op := Go.Op.assign (Go.Operand.tmp 25), type := 24, pos := "outright.go:71", after := #[{ on := 4, ground := Go.Ground.data }, { on := 2, ground := Go.Ground.chain }, { on := 0, ground := Go.Ground.phase }, { on := 1, ground := Go.Ground.phase }, { on := 2, ground := Go.Ground.phase }, { on := 3, ground := Go.Ground.phase }, { on := 4, ground := Go.Ground.phase }, { on := 5, ground := Go.Ground.textOnly Go.Departure.lateStores }], guard := none }) (v := ?_) rfl (by kernel_rfl) (by kernel_rfl) (by kernel_rfl) (fun _ _ _ h => h) (Or.inl ⟨by rfl, ?_⟩) (by assumption) ?_
  rotate_left 1
  · intro w' hSw; (go_simp <;> (with_reducible rfl))
  (try simp only [Act.put, List.setIfInBounds_toArray, List.set_cons_zero, List.set_cons_succ])
  refine wpAnyH_take (i := 7) (oi := { dst := some 3, op := Go.Op.assign (Go.Operand.tmp 26), type := 27, pos := "outright.go:71", after := #[{ on := 5, ground := Go.Ground.data }, { on := 6, ground := Go.Ground.chain }, { on := 0, ground := Go.Ground.phase }, { on := 1, ground := Go.Ground.phase }, { on := 2, ground := Go.Ground.phase }, { on := 3, ground := Go.Ground.phase }, { on := 4, ground := Go.Ground.phase }, { on := 5, ground := Go.Ground.phase }, { on := 6, ground := Go.Ground.phase }], guard := none }) (v := ?_) rfl (by kernel_rfl) (by kernel_rfl) (by kernel_rfl) (fun _ _ _ h => h) (Or.inl ⟨by rfl, ?_⟩) (by assumption) ?_
  rotate_left 1
  · intro w' hSw; (go_simp <;> (with_reducible rfl))
  (try simp only [Act.put, List.setIfInBounds_toArray, List.set_cons_zero, List.set_cons_succ])
  refine wpAnyH_done (by kernel_rfl) ?_ _
  clear hrp
  have hh := Hcells.out _ HH.out
  go_wp2_with fail
  refine wp_region_held_drew (S := fun w' => w'.cell? ⟨w.heap.size + 1, 0, none⟩ = some (.int .u8 0) ∧ w'.cell? ⟨w.heap.size + 1, 1, none⟩ = some (.int .u16 0) ∧ w'.cell? ⟨w.heap.size + 1, 2, none⟩ = some (.bool false) ∧ w'.cell? ⟨w.heap.size + 1, 3, none⟩ = some (.int .u8 1) ∧ w'.cell? ⟨w.heap.size + 1, 4, none⟩ = some (.int .u8 0) ∧ w'.cell? ⟨w.heap.size + 1, 5, none⟩ = some (.int .u32 0) ∧ w'.cell? ⟨w.heap.size + 1, 6, none⟩ = some (.int .u32 0) ∧ w'.cell? ⟨w.heap.size + 1, 7, none⟩ = some (.slice (some ⟨w.heap.size, 0, none⟩) 40 40)) (by kernel_rfl) (Hcells.out _ HH.out) (fun hHeld => ?_)
  refine wpAnyH_take (i := 0) (oi := { dst := some 28, op := Go.Op.load 26 (Go.Operand.tmp 1), type := 26, pos := "outright.go:72", after := #[], guard := none }) (v := ?_) rfl (by kernel_rfl) (by kernel_rfl) (by kernel_rfl) (fun _ _ _ h => h) (Or.inl ⟨by rfl, ?_⟩) (by assumption) ?_
  rotate_left 1
  · intro w' hSw; (go_simp <;> (with_reducible rfl))
  (try simp only [Act.put, List.setIfInBounds_toArray, List.set_cons_zero, List.set_cons_succ])
  have HB := Lib.hid (below_trans HB.out (Below.drew (Below.alloc (Below.refl _ _) (Nat.le_refl _) (.cells (madeCells #[Value.int .u8 0] 1441) 5))))
  have HH := Lib.hid (blk_on HH.out (Below.drew (Below.alloc (Below.refl _ _) (Nat.le_refl _) (.cells (madeCells #[Value.int .u8 0] 1441) 5))))
  have HR := Lib.hid (HR.out.below (Below.drew (Below.alloc (Below.refl _ _) (Nat.le_refl _) (.cells (madeCells #[Value.int .u8 0] 1441) 5))))
  refine wpAnyH_ready (rs := [1]) (by kernel_rfl) (by simp) ?_
  refine AllReadyH.cons (o := { dst := some 29, op := Go.Op.makeSlice 24 (Go.Operand.const (Go.Value.int Go.IntKind.i64 1441)) (Go.Operand.const (Go.Value.int Go.IntKind.i64 1441)), type := 24, pos := "outright.go:72", after := #[], guard := none }) rfl (fun K hK => ?_) AllReadyH.nil
  go_simp
  skip
  refine hK.out _ _ ?_ (fun hHeld => ?_)
  · exact Hcells.out _ HH.out
  clear hK K
  (try simp only [Act.put, List.setIfInBounds_toArray, List.set_cons_zero, List.set_cons_succ])
  refine wpAnyH_ready (rs := [2]) (by kernel_rfl) (by simp) ?_
  refine AllReadyH.cons (o := { dst := some 30, op := Go.Op.call { callee := Go.Callee.value (Go.Operand.func 5), args := #[Go.Operand.tmp 28, Go.Operand.tmp 29], argTypes := #[26, 24] }, type := 28, pos := "outright.go:72", after := #[{ on := 0, ground := Go.Ground.data }, { on := 1, ground := Go.Ground.data }], guard := none }) rfl (fun K hK => ?_) AllReadyH.nil
  go_simp
  (go_at_call 5; refine (put_long 0 0 1 0 0 0 false _ _ 40 40 1441 1441 _ (by decide) (by omega) (by omega) (by omega)).mono ?_; rintro e w3 ⟨rfl, hb⟩; have HB := Lib.hid (below_trans HB.out hb); have HH := Lib.hid (blk_on HH.out hb); have HR := Lib.hid (HR.out.below hb); clear hb)
  refine hK.out _ _ ?_ (fun hHeld => ?_)
  · exact Hcells.out _ HH.out
  clear hK K
  (try simp only [Act.put, List.setIfInBounds_toArray, List.set_cons_zero, List.set_cons_succ])
  refine wpAnyH_take (i := 3) (oi := { dst := some 27, op := Go.Op.move (Go.Operand.tmp 30), type := 28, pos := "outright.go:72", after := #[{ on := 2, ground := Go.Ground.data }], guard := none }) (v := ?_) rfl (by kernel_rfl) (by kernel_rfl) (by kernel_rfl) (fun _ _ _ h => h) (Or.inl ⟨by rfl, ?_⟩) (by assumption) ?_
  rotate_left 1
  · intro w' hSw; (go_simp <;> (with_reducible rfl))
  (try simp only [Act.put, List.setIfInBounds_toArray, List.set_cons_zero, List.set_cons_succ])
  refine wpAnyH_take (i := 4) (oi := { dst := some 31, op := Go.Op.extract (Go.Operand.tmp 27) 0, type := 24, pos := "outright.go:72", after := #[{ on := 3, ground := Go.Ground.data }], guard := none }) (v := ?_) rfl (by kernel_rfl) (by kernel_rfl) (by kernel_rfl) (fun _ _ _ h => h) (Or.inl ⟨by rfl, ?_⟩) (by assumption) ?_
  rotate_left 1
  · intro w' hSw; (go_simp <;> (with_reducible rfl))
  (try simp only [Act.put, List.setIfInBounds_toArray, List.set_cons_zero, List.set_cons_succ])
  refine wpAnyH_take (i := 5) (oi := { dst := some 32, op := Go.Op.extract (Go.Operand.tmp 27) 1, type := 27, pos := "outright.go:72", after := #[{ on := 3, ground := Go.Ground.data }, { on := 6, ground := Go.Ground.gcOnly Go.Departure.lateStores }], guard := none }) (v := ?_) rfl (by kernel_rfl) (by kernel_rfl) (by kernel_rfl) (fun _ _ _ h => h) (Or.inl ⟨by rfl, ?_⟩) (by assumption) ?_
  rotate_left 1
  · intro w' hSw; (go_simp <;> (with_reducible rfl))
  (try simp only [Act.put, List.setIfInBounds_toArray, List.set_cons_zero, List.set_cons_succ])
  refine wpAnyH_take (i := 6) (oi := { dst := some 4, op := Go.Op.assign (Go.Operand.tmp 31), type := 24, pos := "outright.go:72", after := #[{ on := 4, ground := Go.Ground.data }, { on := 2, ground := Go.Ground.chain }, { on := 0, ground := Go.Ground.phase }, { on := 1, ground := Go.Ground.phase }, { on := 2, ground := Go.Ground.phase }, { on := 3, ground := Go.Ground.phase }, { on := 4, ground := Go.Ground.phase }, { on := 5, ground := Go.Ground.textOnly Go.Departure.lateStores }], guard := none }) (v := ?_) rfl (by kernel_rfl) (by kernel_rfl) (by kernel_rfl) (fun _ _ _ h => h) (Or.inl ⟨by rfl, ?_⟩) (by assumption) ?_
  rotate_left 1
  · intro w' hSw; (go_simp <;> (with_reducible rfl))
  (try simp only [Act.put, List.setIfInBounds_toArray, List.set_cons_zero, List.set_cons_succ])
  refine wpAnyH_take (i := 7) (oi := { dst := some 5, op := Go.Op.assign (Go.Operand.tmp 32), type := 27, pos := "outright.go:72", after := #[{ on := 5, ground := Go.Ground.data }, { on := 6, ground := Go.Ground.chain }, { on := 0, ground := Go.Ground.phase }, { on := 1, ground := Go.Ground.phase }, { on := 2, ground := Go.Ground.phase }, { on := 3, ground := Go.Ground.phase }, { on := 4, ground := Go.Ground.phase }, { on := 5, ground := Go.Ground.phase }, { on := 6, ground := Go.Ground.phase }], guard := none }) (v := ?_) rfl (by kernel_rfl) (by kernel_rfl) (by kernel_rfl) (fun _ _ _ h => h) (Or.inl ⟨by rfl, ?_⟩) (by assumption) ?_
  rotate_left 1
  · intro w' hSw; (go_simp <;> (with_reducible rfl))
  (try simp only [Act.put, List.setIfInBounds_toArray, List.set_cons_zero, List.set_cons_succ])
  refine wpAnyH_done (by kernel_rfl) ?_ _
  clear hh HH HR Hcells k40 k1440 k1441
  go_wp2_with fail
  (with_reducible refine (put_arg 0 0 0 0 0 0 false none none 0 0 0 0 _ (by decide)).mono ?_)
  rintro e w4 ⟨rfl, hb⟩
  have HB := Lib.hid (below_trans HB.out hb)
  clear hb
  go_wp2_with fail
  (with_reducible refine (put_arg 0 0 1 0 0 0 false _ none 3 3 0 0 _ (by decide)).mono ?_)
  rintro e w5 ⟨rfl, hb⟩
  have HB := Lib.hid (below_trans (HB.out.alloc HB.out.size (.cells (madeCells #[Value.int .u8 0] 3) 5)) hb)
  clear hb k3
  go_wp2_with fail
  (with_reducible refine (put_arg 0 0 1 0 0 0 false _ none 44 44 0 0 _ (by decide)).mono ?_)
  rintro e w6 ⟨rfl, hb⟩
  have HB := Lib.hid (below_trans (HB.out.alloc HB.out.size (.cells (madeCells #[Value.int .u8 0] 44) 5)) hb)
  clear hb k44
  go_wp2_with fail
  (with_reducible refine (parse_bad _ 1501 1501 _ 3 _ ⟨by omega, by simp [maxLen]⟩ (by omega) (made_lit w6 w6.heap.size rfl 1501) err_long (by decide)).mono ?_)
  rintro e w7 ⟨rfl, hb⟩
  have HB := Lib.hid ((below_trans (HB.out.alloc HB.out.size (.cells (madeCells #[Value.int .u8 0] 1501) 5)) hb))
  have HB := Lib.hid (HB.out.alloc HB.out.size (.cells #[.int .u8 0, .int .u16 0, .bool false, .int .u8 0, .int .u8 0, .int .u32 0, .int .u32 0, .slice none 0 0] 26))
  clear hb k1501
  go_wp2_with fail
  (with_reducible refine (parse_bad _ 19 19 _ 4 _ ⟨by omega, by simp [maxLen]⟩ (by omega) (made_lit _ (w7.heap.size + 1) (by simp) 19) err_short (by decide)).mono ?_)
  rintro e w8 ⟨rfl, hb⟩
  have HB := Lib.hid ((below_trans (HB.out.alloc HB.out.size (.cells (madeCells #[Value.int .u8 0] 19) 5)) hb))
  have HB := Lib.hid (HB.out.alloc HB.out.size (.cells #[.int .u8 0, .int .u16 0, .bool false, .int .u8 0, .int .u8 0, .int .u32 0, .int .u32 0, .slice none 0 0] 26))
  clear hb k19
  go_wp2_with fail
  (with_reducible refine (spoil_at 0 17664 17408 _ _ 0 rfl (by omega) (by unfold U16; omega) (by unfold U16; omega) e1).mono ?_)
  rintro e w5 ⟨rfl, hb⟩
  have HB := Lib.hid (below_trans HB.out hb)
  clear hb
  go_wp2_with fail
  (with_reducible refine (spoil_at 0 17664 17920 _ _ 0 rfl (by omega) (by unfold U16; omega) (by unfold U16; omega) e2).mono ?_)
  rintro e w5 ⟨rfl, hb⟩
  have HB := Lib.hid (below_trans HB.out hb)
  clear hb
  go_wp2_with fail
  (with_reducible refine (spoil_at 2 22 23 _ _ 2 rfl (by omega) (by unfold U16; omega) (by unfold U16; omega) e3).mono ?_)
  rintro e w5 ⟨rfl, hb⟩
  have HB := Lib.hid (below_trans HB.out hb)
  clear hb
  go_wp2_with fail
  (with_reducible refine (spoil_at 2 22 21 _ _ 2 rfl (by omega) (by unfold U16; omega) (by unfold U16; omega) e4).mono ?_)
  rintro e w5 ⟨rfl, hb⟩
  have HB := Lib.hid (below_trans HB.out hb)
  clear hb
  go_wp2_with fail
  (with_reducible refine (spoil_at 6 0 32768 _ _ 6 rfl (by omega) (by unfold U16; omega) (by unfold U16; omega) e5).mono ?_)
  rintro e w5 ⟨rfl, hb⟩
  have HB := Lib.hid (below_trans HB.out hb)
  clear hb
  go_wp2_with fail
  (with_reducible refine (spoil_at 6 0 8192 _ _ 6 rfl (by omega) (by unfold U16; omega) (by unfold U16; omega) e6).mono ?_)
  rintro e w5 ⟨rfl, hb⟩
  have HB := Lib.hid (below_trans HB.out hb)
  clear hb
  go_wp2_with fail
  (with_reducible refine (spoil_at 6 0 1 _ _ 6 rfl (by omega) (by unfold U16; omega) (by unfold U16; omega) e7).mono ?_)
  rintro e w5 ⟨rfl, hb⟩
  have HB := Lib.hid (below_trans HB.out hb)
  clear hb
  go_wp2_with fail
  (with_reducible refine (spoil_at 6 0 16384 _ _ 6 rfl (by omega) (by unfold U16; omega) (by unfold U16; omega) e8).mono ?_)
  rintro e w5 ⟨rfl, hb⟩
  have HB := Lib.hid (below_trans HB.out hb)
  clear hb
  go_wp2_with fail
  (with_reducible refine (spoil_at 8 2310 6 _ _ 8 rfl (by omega) (by unfold U16; omega) (by unfold U16; omega) e9).mono ?_)
  rintro e w5 ⟨rfl, hb⟩
  have HB := Lib.hid (below_trans HB.out hb)
  clear hb
  go_wp2_with fail
  refine (ip_wakes _).mono ?_
  rintro e w9 ⟨rfl, hb⟩
  have HB := Lib.hid (below_trans HB.out hb)
  clear hb
  go_wp2_with fail
  go_ret
  exact ⟨rfl, HB.out⟩

theorem own : ownKnob Try.prog.godebug = none := by kernel_rfl
theorem laidOut : laidOutB Try.prog = true := by kernel_rfl

set_option maxRecDepth 100000 in
theorem lifted (os : Os) (started : os.Started) (H : Type) (enc : TypeId × Value → H) :
    ReturnsInHanded {} Try.checked os 4 .any (Rows.ipv4KnownSpec.pre6 enc Try.prog Try.f4 Rows.ipv4KnownRow.domain false) (Rows.ipv4KnownSpec.post enc Try.prog Try.f4 false true false false) := by
  refine returnsInHanded_of_change (C := Try.checked) own started (by kernel_rfl) Try.func4
    (ChangeSpec.witness6 (enc := enc) (C := Try.checked) false ⟨#[], #[], []⟩ 8 (by kernel_rfl) (by kernel_rfl) (by kernel_rfl) (by kernel_rfl)) ?_
  intro W base args ds gs before hval0 hW hcnd _
  have hval : ∀ (j : Nat) t v, Try.f4.params[j]? = some t → args[j]? = some v → Value.okWide Try.prog W .any base t v := hval0
  have hW' := hW
  obtain ⟨p, q, hA0, hV, rfl, hfz, hnd⟩ := hW
  have hA : DataW.TrodAll enc Try.prog W 0 (fun _ => true) true Try.f4.params.toList args.toList ds p := hA0
  rw [Try.params4] at hA hval
  obtain ⟨rfl, rfl, rfl⟩ := trodAll_none hA
  obtain ⟨rfl, rfl⟩ := trodVars_none hV
  clear hA0 hval0
  refine (walk W ).mono fun e W' ⟨he, bel⟩ => ?_
  subst he
  exact ⟨_, rfl, _, _, _, [], _, [], hW', trodAll_mk1 (shut_bool Try.underlying4 _), trodAll_mk0, rfl, bel.frame _, fun h => by cases h⟩

theorem over : Rows.ipv4KnownRow.holds Try.pinned (OpenSpec.ofChange Rows.ipv4KnownSpec) :=
  OpenClaim.holds_of_wide 4 Try.f4 rfl rfl rfl rfl rfl rfl rfl ⟨rfl, rfl, rfl, rfl, rfl⟩ rfl rfl rfl rfl rfl (by kernel_rfl) Try.func4 (by kernel_rfl)
    (of_decide_eq_true (by kernel_rfl)) (by unfold Func.isWrapper; first | (rw [if_pos (by decide +kernel)]; kernel_rfl) | (rw [if_neg (by decide +kernel)]; exact ⟨rfl, rfl⟩))
    (fun os started H enc _ => lifted os started H enc)

/-- The statement. -/
theorem proved : Rows.Ipv4KnownSaid := over
#print axioms proved
end Go.Proofs.Ytechknoagcjoeaa.ipv4Known
