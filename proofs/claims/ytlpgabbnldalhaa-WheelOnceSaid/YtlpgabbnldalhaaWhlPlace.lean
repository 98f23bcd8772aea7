/-
  The contract of package wheel's place.
-/
import Derived.Test.YtlpgabbnldalhaaWhlMem
namespace Go.Proofs.Ytlpgabbnldalhaa
set_option maxRecDepth 10000
open Go.RowKit
set_option linter.unusedSimpArgs false
set_option linter.unusedVariables false

def slotA (a : Int × Int) : Nat := (a.2 % 64).toNat
theorem slotA_lt (a : Int × Int) : slotA a < 64 := by unfold slotA; omega
def PlaceIs (g j k : Nat) (w : World) (e : Ending) (w' : World) : Prop := e = .returned (.tuple #[.pointer (some ⟨g, 3 + j, none⟩), .int .i64 (k : Int)]) ∧ Below w.heap.size w w'
set_option maxHeartbeats 1000000 in
theorem place_any (S : Nat → Prop) (g m : Nat) (C : Array Value) (hs : Nat → Value) (ck : Int) (sl : Nat → AL) (K : Int → Prop) (R : Int → Value) (a : Int × Int) (w : World) (h : WMem w S g m C hs ck sl K R) (ha : 0 ≤ a.2) (hso : sortW (sl (slotA a))) (hb : (sl (slotA a)).length ≤ 1000000) :
    Calls Try.prog 31 #[.pointer (some ⟨g, 0, none⟩), .agg #[.int .u64 a.2, .int .u64 a.1]] w (PlaceIs g (slotA a) (kBef a (sl (slotA a))) w) := by
  have hj := slotA_lt a
  obtain ⟨j, ej⟩ : ∃ j, slotA a = j := ⟨_, rfl⟩
  rw [ej] at hso hb hj ⊢
  have hja : a.2 % 64 = (j : Int) := by rw [← ej]; unfold slotA; omega
  obtain ⟨z, hz⟩ : ∃ z, w.heap.size = z := ⟨_, rfl⟩
  obtain ⟨w0, ew⟩ : ∃ w0, w.alloc (.cells #[.int .u64 a.2, .int .u64 a.1] 65) = w0 := ⟨_, rfl⟩
  have hb0 : Below w.heap.size w w0 := by rw [← ew]; exact (Below.refl _ _).alloc (Nat.le_refl _) _
  have hk0 : w0.heap[z]? = some (.cells #[.int .u64 a.2, .int .u64 a.1] 65 (0, 0)) := by rw [← ew, ← hz]; exact heap_alloc_new w _
  have h0 := h.below hb0
  obtain ⟨A, c, ev⟩ := (h0.row j hj).form
  have HFind := Lib.hid (fun (W : World) (hW : Below w0.heap.size w0 W) => find_anyA A (sl j).length c (sl j) a W (by rw [← ev]; exact (h0.below hW).row j hj) rfl hb hso)
  have HSt := Lib.hid (show ∀ W, Below w0.heap.size w0 W → (W.cell? ⟨z, 0, none⟩ = some (.int .u64 a.2) ∧ W.cell? ⟨z, 1, none⟩ = some (.int .u64 a.1)) ∧ W.cell? ⟨g, 3 + j, none⟩ = some (.slice A (sl j).length c) from fun W hW => ⟨cells2 (blk_on hk0 hW), by rw [← ev]; exact (h0.below hW).kj hj⟩)
  obtain ⟨k0, k1⟩ := cells2 hk0
  have Hb0 := Lib.hid hb0
  have Ew := Lib.hid ew
  have Hz := Lib.hid hz
  have Hja := Lib.hid hja
  have hjt : a.2.tmod 64 = (j : Int) := by rw [Int.tmod_eq_emod_of_nonneg ha]; exact hja
  have hj1 : (0 : Int) ≤ (j : Int) := by omega
  have hj2 : (j : Int) < 64 := by omega
  clear h h0 hb0 hk0 ew hz hso hb ev ej hja
  go_enter Try.func31, Try.ntmps31
  go_upto_region 1 with (fail)
  rw [Ew.out]
  try rw [Hz.out]
  have HB1 := Lib.hid (Below.drew (Below.refl w0.heap.size w0))
  refine wp_region_held_drew (S := fun W => (W.cell? ⟨z, 0, none⟩ = some (.int .u64 a.2) ∧ W.cell? ⟨z, 1, none⟩ = some (.int .u64 a.1)) ∧ W.cell? ⟨g, 3 + j, none⟩ = some (.slice A (sl j).length c)) (by kernel_rfl) (HSt.out _ HB1.out) (fun hHeld => ?_)
  refine wpAnyH_take (i := 0) (oi := { dst := some 6, op := Go.Op.move (Go.Operand.tmp 0), type := 24, pos := "wheel.go:148", after := #[], guard := none }) (v := ?_) rfl (by kernel_rfl) (by kernel_rfl) (by kernel_rfl) (fun _ _ _ h => h) (Or.inl ⟨by rfl, ?_⟩) (by assumption) ?_
  rotate_left 1
  · intro w' hSw; (go_simp <;> (with_reducible rfl))
  (try simp only [Act.put, List.setIfInBounds_toArray, List.set_cons_zero, List.set_cons_succ])
  refine wpAnyH_take (i := 1) (oi := { dst := some 7, op := Go.Op.fieldAddr 65 (Go.Operand.tmp 3) 0, type := 0, pos := "wheel.go:148", after := #[], guard := none }) (v := ?_) rfl (by kernel_rfl) (by kernel_rfl) (by kernel_rfl) (fun _ _ _ h => h) (Or.inl ⟨by rfl, ?_⟩) (by assumption) ?_
  rotate_left 1
  · intro w' hSw; (go_simp <;> (with_reducible rfl))
  (try simp only [Act.put, List.setIfInBounds_toArray, List.set_cons_zero, List.set_cons_succ])
  refine wpAnyH_take (i := 2) (oi := { dst := some 8, op := Go.Op.load 23 (Go.Operand.tmp 7), type := 23, pos := "wheel.go:148", after := #[{ on := 1, ground := Go.Ground.data }], guard := none }) (v := ?_) rfl (by kernel_rfl) (by kernel_rfl) (by kernel_rfl) (fun _ _ _ h => h) (Or.inl ⟨by rfl, ?_⟩) (by assumption) ?_
  rotate_left 1
  · intro w' hSw; (go_simp <;> (with_reducible rfl))
  (try simp only [Act.put, List.setIfInBounds_toArray, List.set_cons_zero, List.set_cons_succ])
  refine wpAnyH_take (i := 3) (oi := { dst := some 9, op := Go.Op.binOp Go.BinOp.rem 23 (Go.Operand.tmp 8) (Go.Operand.const (Go.Value.int Go.IntKind.u64 64)) 23, type := 23, pos := "wheel.go:148", after := #[{ on := 2, ground := Go.Ground.data }], guard := none }) (v := ?_) rfl (by kernel_rfl) (by kernel_rfl) (by kernel_rfl) (fun _ _ _ h => h) (Or.inl ⟨by rfl, ?_⟩) (by assumption) ?_
  rotate_left 1
  · intro w' hSw; (go_simp <;> (with_reducible rfl))
  (try simp only [Act.put, List.setIfInBounds_toArray, List.set_cons_zero, List.set_cons_succ])
  refine wpAnyH_take (i := 4) (oi := { dst := some 10, op := Go.Op.nilCheck (Go.Operand.tmp 6), type := 0, pos := "wheel.go:148", after := #[{ on := 0, ground := Go.Ground.data }], guard := none }) (v := ?_) rfl (by kernel_rfl) (by kernel_rfl) (by kernel_rfl) (fun _ _ _ h => h) (Or.inl ⟨by rfl, ?_⟩) (by assumption) ?_
  rotate_left 1
  · intro w' hSw; (go_simp <;> (with_reducible rfl))
  (try simp only [Act.put, List.setIfInBounds_toArray, List.set_cons_zero, List.set_cons_succ])
  refine wpAnyH_take (i := 5) (oi := { dst := some 11, op := Go.Op.fieldAddr 60 (Go.Operand.tmp 10) 3, type := 0, pos := "wheel.go:148", after := #[{ on := 4, ground := Go.Ground.data }], guard := none }) (v := ?_) rfl (by kernel_rfl) (by kernel_rfl) (by kernel_rfl) (fun _ _ _ h => h) (Or.inl ⟨by rfl, ?_⟩) (by assumption) ?_
  rotate_left 1
  · intro w' hSw; (go_simp <;> (with_reducible rfl))
  (try simp only [Act.put, List.setIfInBounds_toArray, List.set_cons_zero, List.set_cons_succ])
  refine wpAnyH_take (i := 6) (oi := { dst := some 12, op := Go.Op.indexAddr 58 (Go.Operand.tmp 11) (Go.Operand.tmp 9), type := 0, pos := "wheel.go:148", after := #[{ on := 5, ground := Go.Ground.data }, { on := 3, ground := Go.Ground.data }], guard := none }) (v := ?_) rfl (by kernel_rfl) (by kernel_rfl) (by kernel_rfl) (fun _ _ _ h => h) (Or.inl ⟨by rfl, ?_⟩) (by assumption) ?_
  rotate_left 1
  · intro w' hSw; (go_simp <;> (with_reducible rfl))
  (try simp only [Act.put, List.setIfInBounds_toArray, List.set_cons_zero, List.set_cons_succ])
  refine wpAnyH_take (i := 7) (oi := { dst := some 4, op := Go.Op.assign (Go.Operand.tmp 12), type := 71, pos := "wheel.go:148", after := #[{ on := 6, ground := Go.Ground.data }, { on := 0, ground := Go.Ground.phase }, { on := 1, ground := Go.Ground.phase }, { on := 2, ground := Go.Ground.phase }, { on := 3, ground := Go.Ground.phase }, { on := 4, ground := Go.Ground.phase }, { on := 5, ground := Go.Ground.phase }, { on := 6, ground := Go.Ground.phase }], guard := none }) (v := ?_) rfl (by kernel_rfl) (by kernel_rfl) (by kernel_rfl) (fun _ _ _ h => h) (Or.inl ⟨by rfl, ?_⟩) (by assumption) ?_
  rotate_left 1
  · intro w' hSw; (go_simp <;> (with_reducible rfl))
  (try simp only [Act.put, List.setIfInBounds_toArray, List.set_cons_zero, List.set_cons_succ])
  refine wpAnyH_done (by kernel_rfl) ?_ _
  clear hHeld
  go_wp2_with fail
  have HB2 := Lib.hid (HB1.out.drew)
  refine wp_region_held_drew (S := fun W => (W.cell? ⟨z, 0, none⟩ = some (.int .u64 a.2) ∧ W.cell? ⟨z, 1, none⟩ = some (.int .u64 a.1)) ∧ W.cell? ⟨g, 3 + j, none⟩ = some (.slice A (sl j).length c)) (by kernel_rfl) (HSt.out _ HB2.out) (fun hHeld => ?_)
  obtain ⟨wd, ewd⟩ : ∃ wd, w0.drew.drew = wd := ⟨_, rfl⟩
  rw [ewd] at hHeld HB2 ⊢
  refine wpAnyH_take (i := 0) (oi := { dst := some 14, op := Go.Op.move (Go.Operand.tmp 4), type := 71, pos := "wheel.go:149", after := #[], guard := none }) (v := ?_) rfl (by kernel_rfl) (by kernel_rfl) (by kernel_rfl) (fun _ _ _ h => h) (Or.inl ⟨by rfl, ?_⟩) (by assumption) ?_
  rotate_left 1
  · intro w' hSw; (go_simp <;> (with_reducible rfl))
  (try simp only [Act.put, List.setIfInBounds_toArray, List.set_cons_zero, List.set_cons_succ])
  refine wpAnyH_take (i := 1) (oi := { dst := some 15, op := Go.Op.nilCheck (Go.Operand.tmp 14), type := 0, pos := "wheel.go:149", after := #[{ on := 0, ground := Go.Ground.data }], guard := none }) (v := ?_) rfl (by kernel_rfl) (by kernel_rfl) (by kernel_rfl) (fun _ _ _ h => h) (Or.inl ⟨by rfl, ?_⟩) (by assumption) ?_
  rotate_left 1
  · intro w' hSw; (go_simp <;> (with_reducible rfl))
  (try simp only [Act.put, List.setIfInBounds_toArray, List.set_cons_zero, List.set_cons_succ])
  refine wpAnyH_take (i := 2) (oi := { dst := some 16, op := Go.Op.load 57 (Go.Operand.tmp 15), type := 57, pos := "wheel.go:149", after := #[{ on := 1, ground := Go.Ground.data }], guard := none }) (v := ?_) rfl (by kernel_rfl) (by kernel_rfl) (by kernel_rfl) (fun _ _ _ h => h) (Or.inl ⟨by rfl, ?_⟩) (by assumption) ?_
  rotate_left 1
  · intro w' hSw; (go_simp <;> (with_reducible rfl))
  (try simp only [Act.put, List.setIfInBounds_toArray, List.set_cons_zero, List.set_cons_succ])
  refine wpAnyH_take (i := 3) (oi := { dst := some 17, op := Go.Op.load 65 (Go.Operand.tmp 3), type := 65, pos := "wheel.go:149", after := #[], guard := none }) (v := ?_) rfl (by kernel_rfl) (by kernel_rfl) (by kernel_rfl) (fun _ _ _ h => h) (Or.inl ⟨by rfl, ?_⟩) (by assumption) ?_
  rotate_left 1
  · intro w' hSw; (go_simp <;> (with_reducible rfl))
  (try simp only [Act.put, List.setIfInBounds_toArray, List.set_cons_zero, List.set_cons_succ])
  refine wpAnyH_ready (rs := [4]) (by kernel_rfl) (by simp) ?_
  refine AllReadyH.cons (o := { dst := some 18, op := Go.Op.call { callee := Go.Callee.value (Go.Operand.func 37), args := #[Go.Operand.tmp 16, Go.Operand.tmp 17, Go.Operand.func 35], argTypes := #[57, 65, 77] }, type := 79, pos := "wheel.go:149", after := #[{ on := 2, ground := Go.Ground.data }, { on := 3, ground := Go.Ground.data }], guard := none }) rfl (fun K hK => ?_) AllReadyH.nil
  go_simp
  (refine (HFind.out _ HB2.out).mono ?_; rintro e w3 ⟨bb, rfl, hB3⟩)
  refine hK.out _ _ ?_ (fun hHeld => ?_)
  · exact HSt.out _ (below_trans HB2.out hB3)
  clear hK K
  (try simp only [Act.put, List.setIfInBounds_toArray, List.set_cons_zero, List.set_cons_succ])
  refine wpAnyH_take (i := 5) (oi := { dst := some 13, op := Go.Op.move (Go.Operand.tmp 18), type := 79, pos := "wheel.go:149", after := #[{ on := 4, ground := Go.Ground.data }], guard := none }) (v := ?_) rfl (by kernel_rfl) (by kernel_rfl) (by kernel_rfl) (fun _ _ _ h => h) (Or.inl ⟨by rfl, ?_⟩) (by assumption) ?_
  rotate_left 1
  · intro w' hSw; (go_simp <;> (with_reducible rfl))
  (try simp only [Act.put, List.setIfInBounds_toArray, List.set_cons_zero, List.set_cons_succ])
  refine wpAnyH_take (i := 6) (oi := { dst := some 19, op := Go.Op.extract (Go.Operand.tmp 13) 0, type := 3, pos := "wheel.go:149", after := #[{ on := 5, ground := Go.Ground.data }], guard := none }) (v := ?_) rfl (by kernel_rfl) (by kernel_rfl) (by kernel_rfl) (fun _ _ _ h => h) (Or.inl ⟨by rfl, ?_⟩) (by assumption) ?_
  rotate_left 1
  · intro w' hSw; (go_simp <;> (with_reducible rfl))
  (try simp only [Act.put, List.setIfInBounds_toArray, List.set_cons_zero, List.set_cons_succ])
  refine wpAnyH_take (i := 7) (oi := { dst := some 20, op := Go.Op.extract (Go.Operand.tmp 13) 1, type := 4, pos := "wheel.go:149", after := #[{ on := 5, ground := Go.Ground.data }, { on := 8, ground := Go.Ground.gcOnly Go.Departure.lateStores }], guard := none }) (v := ?_) rfl (by kernel_rfl) (by kernel_rfl) (by kernel_rfl) (fun _ _ _ h => h) (Or.inl ⟨by rfl, ?_⟩) (by assumption) ?_
  rotate_left 1
  · intro w' hSw; (go_simp <;> (with_reducible rfl))
  (try simp only [Act.put, List.setIfInBounds_toArray, List.set_cons_zero, List.set_cons_succ])
  refine wpAnyH_take (i := 8) (oi := { dst := some 5, op := Go.Op.assign (Go.Operand.tmp 19), type := 3, pos := "wheel.go:149", after := #[{ on := 6, ground := Go.Ground.data }, { on := 4, ground := Go.Ground.chain }, { on := 0, ground := Go.Ground.phase }, { on := 1, ground := Go.Ground.phase }, { on := 2, ground := Go.Ground.phase }, { on := 3, ground := Go.Ground.phase }, { on := 4, ground := Go.Ground.phase }, { on := 5, ground := Go.Ground.phase }, { on := 6, ground := Go.Ground.phase }, { on := 7, ground := Go.Ground.textOnly Go.Departure.lateStores }], guard := none }) (v := ?_) rfl (by kernel_rfl) (by kernel_rfl) (by kernel_rfl) (fun _ _ _ h => h) (Or.inl ⟨by rfl, ?_⟩) (by assumption) ?_
  rotate_left 1
  · intro w' hSw; (go_simp <;> (with_reducible rfl))
  (try simp only [Act.put, List.setIfInBounds_toArray, List.set_cons_zero, List.set_cons_succ])
  refine wpAnyH_done (by kernel_rfl) ?_ _
  clear hHeld
  go_wp2_with fail
  go_ret2
  exact ⟨rfl, below_trans Hb0.out (below_trans HB2.out hB3)⟩
end Go.Proofs.Ytlpgabbnldalhaa
