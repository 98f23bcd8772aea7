/-
  The program's alarms (instants, then ids) in memory, and the contract of inOrder.
-/
import Derived.Test.YtlpgabbnldalhaaCmpOr
import Derived.Test.YtlpgabbnldalhaaWhPlain
import Derived.Sort.Grow
import Derived.Deep.RegionHeld3
namespace Go.Proofs.Ytlpgabbnldalhaa
set_option maxRecDepth 10000
open Go.RowKit Go.Sort
set_option linter.unusedSimpArgs false
set_option linter.unusedVariables false

def encA (a : Int × Int) : List Value := [.int .u64 a.2, .int .u64 a.1]
def cmpA (x y : Int × Int) : Int := two x.2 y.2 (two x.1 y.1 0)
theorem or_cmpA (x y : Int × Int) : orL [two x.2 y.2 0, two x.1 y.1 0] = cmpA x y := by
  have h : ∀ (a b z : Int), two a b z = if two a b 0 = 0 then z else two a b 0 := by
    intro a b z
    unfold two
    repeat' split
    all_goals first | rfl | omega
  unfold cmpA
  conv => rhs; rw [h x.2]
  simp only [orL]
  generalize two x.2 y.2 0 = a
  generalize two x.1 y.1 0 = b
  repeat' split
  all_goals first | rfl | omega
theorem cmpA_neg {x y : Int × Int} : cmpA x y < 0 ↔ befW x y := by
  unfold cmpA two befW
  repeat' split
  all_goals first | omega | (constructor <;> intro h <;> omega)
theorem cmpA_zero {x y : Int × Int} : cmpA x y = 0 ↔ x = y := by
  unfold cmpA two
  rw [Prod.ext_iff]
  repeat' split
  all_goals omega
theorem cells2 {w : World} {g : Nat} {c0 c1 : Value} {T : TypeId} (h : w.heap[g]? = some (.cells #[c0, c1] T (0, 0))) :
    w.cell? ⟨g, 0, none⟩ = some c0 ∧ w.cell? ⟨g, 1, none⟩ = some c1 := ⟨blk_cell h 0, blk_cell h 1⟩
/-- Grown by blocks, and draws: nothing else. -/
def GrownIs (v : Value) (w : World) (e : Ending) (w' : World) : Prop := e = .returned v ∧ ∃ q os, w' = grow (w.drewN q) os
theorem grow_below (w : World) (q : Nat) (os : Array Obj) : Below w.heap.size w (grow (w.drewN q) os) :=
  ⟨rfl, rfl, rfl, by rw [size_grow]; exact Nat.le_add_right _ _, fun k hk => heap_grow_old _ os hk⟩
set_option maxHeartbeats 1000000 in
theorem ord_any (x y : Int × Int) (w : World) (c : Int) (hc : cmpA x y = c) :
    Calls Try.prog 35 #[.agg #[.int .u64 x.2, .int .u64 x.1], .agg #[.int .u64 y.2, .int .u64 y.1]] w (GrownIs (.int .i64 c) w) := by
  obtain ⟨z, hz⟩ : ∃ z, w.heap.size = z := ⟨_, rfl⟩
  obtain ⟨w0, ew⟩ : ∃ w0, (w.alloc (.cells #[.int .u64 x.2, .int .u64 x.1] 65)).alloc (.cells #[.int .u64 y.2, .int .u64 y.1] 65) = w0 := ⟨_, rfl⟩
  have hk0 : w0.heap[z]? = some (.cells #[.int .u64 x.2, .int .u64 x.1] 65 (0, 0)) := by rw [← ew, Below.heap_alloc _ _ _ (by simp [hz]), ← hz]; exact heap_alloc_new w _
  have hk1 : w0.heap[z + 1]? = some (.cells #[.int .u64 y.2, .int .u64 y.1] 65 (0, 0)) := by
    rw [← ew, ← hz]; simpa using heap_alloc_new (w.alloc (.cells #[.int .u64 x.2, .int .u64 x.1] 65)) (.cells #[.int .u64 y.2, .int .u64 y.1] 65)
  have HS := Lib.hid (show ∀ w', Below w0.drew.heap.size w0.drew w' → (w'.cell? ⟨z, 0, none⟩ = some (.int .u64 x.2) ∧ w'.cell? ⟨z, 1, none⟩ = some (.int .u64 x.1)) ∧ (w'.cell? ⟨z + 1, 0, none⟩ = some (.int .u64 y.2) ∧ w'.cell? ⟨z + 1, 1, none⟩ = some (.int .u64 y.1)) from
    fun w' hb => ⟨cells2 (blk_on (w := w0.drew) hk0 hb), cells2 (blk_on (w := w0.drew) hk1 hb)⟩)
  have HE := Lib.hid (show ∀ o, w0.drew.alloc o = grow (w.drewN 1) #[.cells #[.int .u64 x.2, .int .u64 x.1] 65, .cells #[.int .u64 y.2, .int .u64 y.1] 65, o] from fun o => by
    rw [← ew]
    simp only [alloc_eq_grow, grow_grow, drew_grow]
    rfl)
  have Ew := Lib.hid ew
  have Hz := Lib.hid hz
  have Hc := Lib.hid hc
  clear hk0 hk1 ew hz hc
  go_enter Try.func35, Try.ntmps35
  go_upto_region 1 with (fail)
  rw [Ew.out]
  try rw [Hz.out]
  have HBd := Lib.hid (Below.refl w0.drew.heap.size w0.drew)
  refine wp_region_held_drew (S := fun w' => (w'.cell? ⟨z, 0, none⟩ = some (.int .u64 x.2) ∧ w'.cell? ⟨z, 1, none⟩ = some (.int .u64 x.1)) ∧ (w'.cell? ⟨z + 1, 0, none⟩ = some (.int .u64 y.2) ∧ w'.cell? ⟨z + 1, 1, none⟩ = some (.int .u64 y.1))) (by kernel_rfl) (HS.out _ HBd.out) (fun hHeld => ?_)
  obtain ⟨wd, ewd⟩ : ∃ wd, w0.drew = wd := ⟨_, rfl⟩
  rw [ewd] at HBd hHeld HS HE ⊢
  clear ewd
  have HBa := Lib.hid ((Below.refl wd.heap.size wd).alloc (Nat.le_refl _) (.cells #[.int .i64 (two x.2 y.2 0), .int .i64 (two x.1 y.1 0)] 3))
  have HO := Lib.hid (fun (_ : Unit) => or_any (some ⟨wd.heap.size, 0, none⟩) 2 2 [two x.2 y.2 0, two x.1 y.1 0] _ (by omega) (RdI.const wd wd.heap.size rfl [two x.2 y.2 0, two x.1 y.1 0] 3 (0, 0)))
  refine wpAnyH_take (i := 0) (oi := { dst := some 5, op := Go.Op.fieldAddr 65 (Go.Operand.tmp 2) 0, type := 0, pos := "wheel.go:22", after := #[], guard := none }) (v := ?_) rfl (by kernel_rfl) (by kernel_rfl) (by kernel_rfl) (fun _ _ _ h => h) (Or.inl ⟨by rfl, ?_⟩) (by assumption) ?_
  rotate_left 1
  · intro w' hSw; (go_simp <;> (with_reducible rfl))
  (try simp only [Act.put, List.setIfInBounds_toArray, List.set_cons_zero, List.set_cons_succ])
  refine wpAnyH_take (i := 1) (oi := { dst := some 6, op := Go.Op.load 23 (Go.Operand.tmp 5), type := 23, pos := "wheel.go:22", after := #[{ on := 0, ground := Go.Ground.data }], guard := none }) (v := ?_) rfl (by kernel_rfl) (by kernel_rfl) (by kernel_rfl) (fun _ _ _ h => h) (Or.inl ⟨by rfl, ?_⟩) (by assumption) ?_
  rotate_left 1
  · intro w' hSw; (go_simp <;> (with_reducible rfl))
  (try simp only [Act.put, List.setIfInBounds_toArray, List.set_cons_zero, List.set_cons_succ])
  refine wpAnyH_take (i := 2) (oi := { dst := some 7, op := Go.Op.fieldAddr 65 (Go.Operand.tmp 3) 0, type := 0, pos := "wheel.go:22", after := #[], guard := none }) (v := ?_) rfl (by kernel_rfl) (by kernel_rfl) (by kernel_rfl) (fun _ _ _ h => h) (Or.inl ⟨by rfl, ?_⟩) (by assumption) ?_
  rotate_left 1
  · intro w' hSw; (go_simp <;> (with_reducible rfl))
  (try simp only [Act.put, List.setIfInBounds_toArray, List.set_cons_zero, List.set_cons_succ])
  refine wpAnyH_take (i := 3) (oi := { dst := some 8, op := Go.Op.load 23 (Go.Operand.tmp 7), type := 23, pos := "wheel.go:22", after := #[{ on := 2, ground := Go.Ground.data }], guard := none }) (v := ?_) rfl (by kernel_rfl) (by kernel_rfl) (by kernel_rfl) (fun _ _ _ h => h) (Or.inl ⟨by rfl, ?_⟩) (by assumption) ?_
  rotate_left 1
  · intro w' hSw; (go_simp <;> (with_reducible rfl))
  (try simp only [Act.put, List.setIfInBounds_toArray, List.set_cons_zero, List.set_cons_succ])
  refine wpAnyH_take (i := 5) (oi := { dst := some 10, op := Go.Op.fieldAddr 65 (Go.Operand.tmp 2) 1, type := 0, pos := "wheel.go:22", after := #[], guard := none }) (v := ?_) rfl (by kernel_rfl) (by kernel_rfl) (by kernel_rfl) (fun _ _ _ h => h) (Or.inl ⟨by rfl, ?_⟩) (by assumption) ?_
  rotate_left 1
  · intro w' hSw; (go_simp <;> (with_reducible rfl))
  (try simp only [Act.put, List.setIfInBounds_toArray, List.set_cons_zero, List.set_cons_succ])
  refine wpAnyH_take (i := 6) (oi := { dst := some 11, op := Go.Op.load 23 (Go.Operand.tmp 10), type := 23, pos := "wheel.go:22", after := #[{ on := 5, ground := Go.Ground.data }], guard := none }) (v := ?_) rfl (by kernel_rfl) (by kernel_rfl) (by kernel_rfl) (fun _ _ _ h => h) (Or.inl ⟨by rfl, ?_⟩) (by assumption) ?_
  rotate_left 1
  · intro w' hSw; (go_simp <;> (with_reducible rfl))
  (try simp only [Act.put, List.setIfInBounds_toArray, List.set_cons_zero, List.set_cons_succ])
  refine wpAnyH_take (i := 7) (oi := { dst := some 12, op := Go.Op.fieldAddr 65 (Go.Operand.tmp 3) 1, type := 0, pos := "wheel.go:22", after := #[], guard := none }) (v := ?_) rfl (by kernel_rfl) (by kernel_rfl) (by kernel_rfl) (fun _ _ _ h => h) (Or.inl ⟨by rfl, ?_⟩) (by assumption) ?_
  rotate_left 1
  · intro w' hSw; (go_simp <;> (with_reducible rfl))
  (try simp only [Act.put, List.setIfInBounds_toArray, List.set_cons_zero, List.set_cons_succ])
  refine wpAnyH_take (i := 8) (oi := { dst := some 13, op := Go.Op.load 23 (Go.Operand.tmp 12), type := 23, pos := "wheel.go:22", after := #[{ on := 7, ground := Go.Ground.data }], guard := none }) (v := ?_) rfl (by kernel_rfl) (by kernel_rfl) (by kernel_rfl) (fun _ _ _ h => h) (Or.inl ⟨by rfl, ?_⟩) (by assumption) ?_
  rotate_left 1
  · intro w' hSw; (go_simp <;> (with_reducible rfl))
  (try simp only [Act.put, List.setIfInBounds_toArray, List.set_cons_zero, List.set_cons_succ])
  refine wpAnyH_ready (rs := [4]) (by kernel_rfl) (by simp) ?_
  refine AllReadyH.cons (o := { dst := some 9, op := Go.Op.call { callee := Go.Callee.value (Go.Operand.func 43), args := #[Go.Operand.tmp 6, Go.Operand.tmp 8], argTypes := #[23, 23] }, type := 3, pos := "wheel.go:22", after := #[{ on := 1, ground := Go.Ground.data }, { on := 3, ground := Go.Ground.data }], guard := none }) rfl (fun K hK => ?_) AllReadyH.nil
  go_simp
  (refine (cmp_u64 _ _ _).mono ?_; rintro e w3 ⟨rfl, rfl⟩)
  refine hK.out _ _ ?_ (fun hHeld => ?_)
  · exact hHeld
  clear hK K
  (try simp only [Act.put, List.setIfInBounds_toArray, List.set_cons_zero, List.set_cons_succ])
  refine wpAnyH_ready (rs := [9]) (by kernel_rfl) (by simp) ?_
  refine AllReadyH.cons (o := { dst := some 14, op := Go.Op.call { callee := Go.Callee.value (Go.Operand.func 43), args := #[Go.Operand.tmp 11, Go.Operand.tmp 13], argTypes := #[23, 23] }, type := 3, pos := "wheel.go:22", after := #[{ on := 6, ground := Go.Ground.data }, { on := 8, ground := Go.Ground.data }, { on := 4, ground := Go.Ground.chain }], guard := none }) rfl (fun K hK => ?_) AllReadyH.nil
  go_simp
  (refine (cmp_u64 _ _ _).mono ?_; rintro e w3 ⟨rfl, rfl⟩)
  refine hK.out _ _ ?_ (fun hHeld => ?_)
  · exact hHeld
  clear hK K
  (try simp only [Act.put, List.setIfInBounds_toArray, List.set_cons_zero, List.set_cons_succ])
  refine wpAnyH_ready (rs := [10]) (by kernel_rfl) (by simp) ?_
  refine AllReadyH.cons (o := { dst := some 15, op := Go.Op.buildSlice 96 2 #[(0, Go.Operand.tmp 9), (1, Go.Operand.tmp 14)], type := 96, pos := "wheel.go:22", after := #[{ on := 4, ground := Go.Ground.data }, { on := 9, ground := Go.Ground.data }], guard := none }) rfl (fun K hK => ?_) AllReadyH.nil
  go_simp
  skip
  refine hK.out _ _ ?_ (fun hHeld => ?_)
  · exact HS.out _ HBa.out
  clear hK K
  (try simp only [Act.put, List.setIfInBounds_toArray, List.set_cons_zero, List.set_cons_succ])
  refine wpAnyH_ready (rs := [11]) (by kernel_rfl) (by simp) ?_
  refine AllReadyH.cons (o := { dst := some 16, op := Go.Op.call { callee := Go.Callee.value (Go.Operand.func 42), args := #[Go.Operand.tmp 15], argTypes := #[96] }, type := 3, pos := "wheel.go:22", after := #[{ on := 10, ground := Go.Ground.data }, { on := 9, ground := Go.Ground.chain }], guard := none }) rfl (fun K hK => ?_) AllReadyH.nil
  go_simp
  (refine (HO.out ()).mono ?_; rintro e w3 ⟨rfl, rfl⟩)
  refine hK.out _ _ ?_ (fun hHeld => ?_)
  · exact HS.out _ HBa.out
  clear hK K
  (try simp only [Act.put, List.setIfInBounds_toArray, List.set_cons_zero, List.set_cons_succ])
  refine wpAnyH_take (i := 12) (oi := { dst := some 4, op := Go.Op.assign (Go.Operand.tmp 16), type := 3, pos := "wheel.go:22", after := #[{ on := 11, ground := Go.Ground.data }, { on := 11, ground := Go.Ground.chain }, { on := 0, ground := Go.Ground.phase }, { on := 1, ground := Go.Ground.phase }, { on := 2, ground := Go.Ground.phase }, { on := 3, ground := Go.Ground.phase }, { on := 4, ground := Go.Ground.phase }, { on := 5, ground := Go.Ground.phase }, { on := 6, ground := Go.Ground.phase }, { on := 7, ground := Go.Ground.phase }, { on := 8, ground := Go.Ground.phase }, { on := 9, ground := Go.Ground.phase }, { on := 10, ground := Go.Ground.phase }, { on := 11, ground := Go.Ground.phase }], guard := none }) (v := ?_) rfl (by kernel_rfl) (by kernel_rfl) (by kernel_rfl) (fun _ _ _ h => h) (Or.inl ⟨by rfl, ?_⟩) (by assumption) ?_
  rotate_left 1
  · intro w' hSw; (go_simp <;> (with_reducible rfl))
  (try simp only [Act.put, List.setIfInBounds_toArray, List.set_cons_zero, List.set_cons_succ])
  refine wpAnyH_done (by kernel_rfl) ?_ _
  clear hHeld
  go_wp2_with fail
  go_ret
  exact ⟨by rw [← Hc.out, ← or_cmpA]; rfl, 1, _, HE.out _⟩
end Go.Proofs.Ytlpgabbnldalhaa
