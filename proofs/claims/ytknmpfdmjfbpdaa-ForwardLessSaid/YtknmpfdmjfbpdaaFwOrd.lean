/-
  The contract of the closure that puts forwards in order.
-/
import Derived.Test.YtknmpfdmjfbpdaaCmpOr
import Derived.Test.YtknmpfdmjfbpdaaFwRow
import Derived.Sort.Grow
import Derived.Deep.RegionHeld3
namespace Go.Proofs.Ytknmpfdmjfbpdaa
set_option maxRecDepth 10000
open Go.RowKit Go.Sort
set_option linter.unusedSimpArgs false
set_option linter.unusedVariables false

def cmpW (x y : Fw) : Int := orL [two x.pr y.pr 0, two x.po y.po 0]
theorem cmpW_neg {x y : Fw} : cmpW x y < 0 ↔ fwLt x y = true := by
  rw [fwLt_iff]
  unfold cmpW orL two
  simp only [orL]
  repeat' split
  all_goals first | omega | (constructor <;> intro h <;> omega)
/-- Grown by blocks, and draws: nothing else. -/
def GrownW (v : Value) (w : World) (e : Ending) (w' : World) : Prop := e = .returned v ∧ ∃ q os, w' = grow (w.drewN q) os
theorem growW_below (w : World) (q : Nat) (os : Array Obj) : Below w.heap.size w (grow (w.drewN q) os) :=
  ⟨rfl, rfl, rfl, by rw [size_grow]; exact Nat.le_add_right _ _, fun k hk => heap_grow_old _ os hk⟩
theorem cells42 {w : World} {g : Nat} {c0 c1 c2 c3 : Value} {T : TypeId} (h : w.heap[g]? = some (.cells #[c0, c1, c2, c3] T (0, 0))) :
    w.cell? ⟨g, 0, none⟩ = some c0 ∧ w.cell? ⟨g, 1, none⟩ = some c1 := ⟨blk_cell h 0, blk_cell h 1⟩
set_option maxHeartbeats 1000000 in
theorem ordW_any (x y : Fw) (w : World) (c : Int) (hc : cmpW x y = c) :
    Calls Try.prog 30 #[.agg #[.int .u8 x.pr, .int .u16 x.po, .int .u32 x.ad, .int .u16 x.tp], .agg #[.int .u8 y.pr, .int .u16 y.po, .int .u32 y.ad, .int .u16 y.tp]] w (GrownW (.int .i64 c) w) := by
  obtain ⟨z, hz⟩ : ∃ z, w.heap.size = z := ⟨_, rfl⟩
  obtain ⟨w0, ew⟩ : ∃ w0, (w.alloc (.cells #[.int .u8 x.pr, .int .u16 x.po, .int .u32 x.ad, .int .u16 x.tp] 40)).alloc (.cells #[.int .u8 y.pr, .int .u16 y.po, .int .u32 y.ad, .int .u16 y.tp] 40) = w0 := ⟨_, rfl⟩
  have hk0 : w0.heap[z]? = some (.cells #[.int .u8 x.pr, .int .u16 x.po, .int .u32 x.ad, .int .u16 x.tp] 40 (0, 0)) := by rw [← ew, Below.heap_alloc _ _ _ (by simp [hz]), ← hz]; exact heap_alloc_new w _
  have hk1 : w0.heap[z + 1]? = some (.cells #[.int .u8 y.pr, .int .u16 y.po, .int .u32 y.ad, .int .u16 y.tp] 40 (0, 0)) := by
    rw [← ew, ← hz]; simpa using heap_alloc_new (w.alloc (.cells #[.int .u8 x.pr, .int .u16 x.po, .int .u32 x.ad, .int .u16 x.tp] 40)) (.cells #[.int .u8 y.pr, .int .u16 y.po, .int .u32 y.ad, .int .u16 y.tp] 40)
  have HS := Lib.hid (show ∀ w', Below w0.drew.heap.size w0.drew w' → (w'.cell? ⟨z, 0, none⟩ = some (.int .u8 x.pr) ∧ w'.cell? ⟨z, 1, none⟩ = some (.int .u16 x.po)) ∧ (w'.cell? ⟨z + 1, 0, none⟩ = some (.int .u8 y.pr) ∧ w'.cell? ⟨z + 1, 1, none⟩ = some (.int .u16 y.po)) from
    fun w' hb => ⟨cells42 (blk_on (w := w0.drew) hk0 hb), cells42 (blk_on (w := w0.drew) hk1 hb)⟩)
  have HE := Lib.hid (show ∀ o, w0.drew.alloc o = grow (w.drewN 1) #[.cells #[.int .u8 x.pr, .int .u16 x.po, .int .u32 x.ad, .int .u16 x.tp] 40, .cells #[.int .u8 y.pr, .int .u16 y.po, .int .u32 y.ad, .int .u16 y.tp] 40, o] from fun o => by
    rw [← ew]
    simp only [alloc_eq_grow, grow_grow, drew_grow]
    rfl)
  have Ew := Lib.hid ew
  have Hz := Lib.hid hz
  have Hc := Lib.hid hc
  clear hk0 hk1 ew hz hc
  go_enter Try.func30, Try.ntmps30
  go_upto_region 1 with (fail)
  rw [Ew.out]
  try rw [Hz.out]
  have HBd := Lib.hid (Below.refl w0.drew.heap.size w0.drew)
  refine wp_region_held_drew (S := fun w' => (w'.cell? ⟨z, 0, none⟩ = some (.int .u8 x.pr) ∧ w'.cell? ⟨z, 1, none⟩ = some (.int .u16 x.po)) ∧ (w'.cell? ⟨z + 1, 0, none⟩ = some (.int .u8 y.pr) ∧ w'.cell? ⟨z + 1, 1, none⟩ = some (.int .u16 y.po))) (by kernel_rfl) (HS.out _ HBd.out) (fun hHeld => ?_)
  obtain ⟨wd, ewd⟩ : ∃ wd, w0.drew = wd := ⟨_, rfl⟩
  rw [ewd] at HBd hHeld HS HE ⊢
  clear ewd
  have HBa := Lib.hid ((Below.refl wd.heap.size wd).alloc (Nat.le_refl _) (.cells #[.int .i64 (two x.pr y.pr 0), .int .i64 (two x.po y.po 0)] 3))
  have HO := Lib.hid (fun (_ : Unit) => or_any (some ⟨wd.heap.size, 0, none⟩) 2 2 [two x.pr y.pr 0, two x.po y.po 0] _ (by omega) (RdI.const wd wd.heap.size rfl [two x.pr y.pr 0, two x.po y.po 0] 3 (0, 0)))
  refine wpAnyH_take (i := 0) (oi := { dst := some 5, op := Go.Op.fieldAddr 40 (Go.Operand.tmp 2) 0, type := 0, pos := "forward.go:119", after := #[], guard := none }) (v := ?_) rfl (by kernel_rfl) (by kernel_rfl) (by kernel_rfl) (fun _ _ _ h => h) (Or.inl ⟨by rfl, ?_⟩) (by assumption) ?_
  rotate_left 1
  · intro w' hSw; (go_simp <;> (with_reducible rfl))
  (try simp only [Act.put, List.setIfInBounds_toArray, List.set_cons_zero, List.set_cons_succ])
  refine wpAnyH_take (i := 1) (oi := { dst := some 6, op := Go.Op.load 5 (Go.Operand.tmp 5), type := 5, pos := "forward.go:119", after := #[{ on := 0, ground := Go.Ground.data }], guard := none }) (v := ?_) rfl (by kernel_rfl) (by kernel_rfl) (by kernel_rfl) (fun _ _ _ h => h) (Or.inl ⟨by rfl, ?_⟩) (by assumption) ?_
  rotate_left 1
  · intro w' hSw; (go_simp <;> (with_reducible rfl))
  (try simp only [Act.put, List.setIfInBounds_toArray, List.set_cons_zero, List.set_cons_succ])
  refine wpAnyH_take (i := 2) (oi := { dst := some 7, op := Go.Op.fieldAddr 40 (Go.Operand.tmp 3) 0, type := 0, pos := "forward.go:119", after := #[], guard := none }) (v := ?_) rfl (by kernel_rfl) (by kernel_rfl) (by kernel_rfl) (fun _ _ _ h => h) (Or.inl ⟨by rfl, ?_⟩) (by assumption) ?_
  rotate_left 1
  · intro w' hSw; (go_simp <;> (with_reducible rfl))
  (try simp only [Act.put, List.setIfInBounds_toArray, List.set_cons_zero, List.set_cons_succ])
  refine wpAnyH_take (i := 3) (oi := { dst := some 8, op := Go.Op.load 5 (Go.Operand.tmp 7), type := 5, pos := "forward.go:119", after := #[{ on := 2, ground := Go.Ground.data }], guard := none }) (v := ?_) rfl (by kernel_rfl) (by kernel_rfl) (by kernel_rfl) (fun _ _ _ h => h) (Or.inl ⟨by rfl, ?_⟩) (by assumption) ?_
  rotate_left 1
  · intro w' hSw; (go_simp <;> (with_reducible rfl))
  (try simp only [Act.put, List.setIfInBounds_toArray, List.set_cons_zero, List.set_cons_succ])
  refine wpAnyH_take (i := 5) (oi := { dst := some 10, op := Go.Op.fieldAddr 40 (Go.Operand.tmp 2) 1, type := 0, pos := "forward.go:119", after := #[], guard := none }) (v := ?_) rfl (by kernel_rfl) (by kernel_rfl) (by kernel_rfl) (fun _ _ _ h => h) (Or.inl ⟨by rfl, ?_⟩) (by assumption) ?_
  rotate_left 1
  · intro w' hSw; (go_simp <;> (with_reducible rfl))
  (try simp only [Act.put, List.setIfInBounds_toArray, List.set_cons_zero, List.set_cons_succ])
  refine wpAnyH_take (i := 6) (oi := { dst := some 11, op := Go.Op.load 23 (Go.Operand.tmp 10), type := 23, pos := "forward.go:119", after := #[{ on := 5, ground := Go.Ground.data }], guard := none }) (v := ?_) rfl (by kernel_rfl) (by kernel_rfl) (by kernel_rfl) (fun _ _ _ h => h) (Or.inl ⟨by rfl, ?_⟩) (by assumption) ?_
  rotate_left 1
  · intro w' hSw; (go_simp <;> (with_reducible rfl))
  (try simp only [Act.put, List.setIfInBounds_toArray, List.set_cons_zero, List.set_cons_succ])
  refine wpAnyH_take (i := 7) (oi := { dst := some 12, op := Go.Op.fieldAddr 40 (Go.Operand.tmp 3) 1, type := 0, pos := "forward.go:119", after := #[], guard := none }) (v := ?_) rfl (by kernel_rfl) (by kernel_rfl) (by kernel_rfl) (fun _ _ _ h => h) (Or.inl ⟨by rfl, ?_⟩) (by assumption) ?_
  rotate_left 1
  · intro w' hSw; (go_simp <;> (with_reducible rfl))
  (try simp only [Act.put, List.setIfInBounds_toArray, List.set_cons_zero, List.set_cons_succ])
  refine wpAnyH_take (i := 8) (oi := { dst := some 13, op := Go.Op.load 23 (Go.Operand.tmp 12), type := 23, pos := "forward.go:119", after := #[{ on := 7, ground := Go.Ground.data }], guard := none }) (v := ?_) rfl (by kernel_rfl) (by kernel_rfl) (by kernel_rfl) (fun _ _ _ h => h) (Or.inl ⟨by rfl, ?_⟩) (by assumption) ?_
  rotate_left 1
  · intro w' hSw; (go_simp <;> (with_reducible rfl))
  (try simp only [Act.put, List.setIfInBounds_toArray, List.set_cons_zero, List.set_cons_succ])
  refine wpAnyH_ready (rs := [4]) (by kernel_rfl) (by simp) ?_
  refine AllReadyH.cons (o := { dst := some 9, op := Go.Op.call { callee := Go.Callee.value (Go.Operand.func 32), args := #[Go.Operand.tmp 6, Go.Operand.tmp 8], argTypes := #[5, 5] }, type := 3, pos := "forward.go:119", after := #[{ on := 1, ground := Go.Ground.data }, { on := 3, ground := Go.Ground.data }], guard := none }) rfl (fun K hK => ?_) AllReadyH.nil
  go_simp
  (refine (cmp_u8 _ _ _).mono ?_; rintro e w3 ⟨rfl, rfl⟩)
  refine hK.out _ _ ?_ (fun hHeld => ?_)
  · exact hHeld
  clear hK K
  (try simp only [Act.put, List.setIfInBounds_toArray, List.set_cons_zero, List.set_cons_succ])
  refine wpAnyH_ready (rs := [9]) (by kernel_rfl) (by simp) ?_
  refine AllReadyH.cons (o := { dst := some 14, op := Go.Op.call { callee := Go.Callee.value (Go.Operand.func 33), args := #[Go.Operand.tmp 11, Go.Operand.tmp 13], argTypes := #[23, 23] }, type := 3, pos := "forward.go:119", after := #[{ on := 6, ground := Go.Ground.data }, { on := 8, ground := Go.Ground.data }, { on := 4, ground := Go.Ground.chain }], guard := none }) rfl (fun K hK => ?_) AllReadyH.nil
  go_simp
  (refine (cmp_u16 _ _ _).mono ?_; rintro e w3 ⟨rfl, rfl⟩)
  refine hK.out _ _ ?_ (fun hHeld => ?_)
  · exact hHeld
  clear hK K
  (try simp only [Act.put, List.setIfInBounds_toArray, List.set_cons_zero, List.set_cons_succ])
  refine wpAnyH_ready (rs := [10]) (by kernel_rfl) (by simp) ?_
  refine AllReadyH.cons (o := { dst := some 15, op := Go.Op.buildSlice 73 2 #[(0, Go.Operand.tmp 9), (1, Go.Operand.tmp 14)], type := 73, pos := "forward.go:119", after := #[{ on := 4, ground := Go.Ground.data }, { on := 9, ground := Go.Ground.data }], guard := none }) rfl (fun K hK => ?_) AllReadyH.nil
  go_simp
  skip
  refine hK.out _ _ ?_ (fun hHeld => ?_)
  · exact HS.out _ HBa.out
  clear hK K
  (try simp only [Act.put, List.setIfInBounds_toArray, List.set_cons_zero, List.set_cons_succ])
  refine wpAnyH_ready (rs := [11]) (by kernel_rfl) (by simp) ?_
  refine AllReadyH.cons (o := { dst := some 16, op := Go.Op.call { callee := Go.Callee.value (Go.Operand.func 31), args := #[Go.Operand.tmp 15], argTypes := #[73] }, type := 3, pos := "forward.go:119", after := #[{ on := 10, ground := Go.Ground.data }, { on := 9, ground := Go.Ground.chain }], guard := none }) rfl (fun K hK => ?_) AllReadyH.nil
  go_simp
  (refine (HO.out ()).mono ?_; rintro e w3 ⟨rfl, rfl⟩)
  refine hK.out _ _ ?_ (fun hHeld => ?_)
  · exact HS.out _ HBa.out
  clear hK K
  (try simp only [Act.put, List.setIfInBounds_toArray, List.set_cons_zero, List.set_cons_succ])
  refine wpAnyH_take (i := 12) (oi := { dst := some 4, op := Go.Op.assign (Go.Operand.tmp 16), type := 3, pos := "forward.go:119", after := #[{ on := 11, ground := Go.Ground.data }, { on := 11, ground := Go.Ground.chain }, { on := 0, ground := Go.Ground.phase }, { on := 1, ground := Go.Ground.phase }, { on := 2, ground := Go.Ground.phase }, { on := 3, ground := Go.Ground.phase }, { on := 4, ground := Go.Ground.phase }, { on := 5, ground := Go.Ground.phase }, { on := 6, ground := Go.Ground.phase }, { on := 7, ground := Go.Ground.phase }, { on := 8, ground := Go.Ground.phase }, { on := 9, ground := Go.Ground.phase }, { on := 10, ground := Go.Ground.phase }, { on := 11, ground := Go.Ground.phase }], guard := none }) (v := ?_) rfl (by kernel_rfl) (by kernel_rfl) (by kernel_rfl) (fun _ _ _ h => h) (Or.inl ⟨by rfl, ?_⟩) (by assumption) ?_
  rotate_left 1
  · intro w' hSw; (go_simp <;> (with_reducible rfl))
  (try simp only [Act.put, List.setIfInBounds_toArray, List.set_cons_zero, List.set_cons_succ])
  refine wpAnyH_done (by kernel_rfl) ?_ _
  clear hHeld
  go_wp2_with fail
  go_ret
  exact ⟨by rw [← Hc.out]; rfl, 1, _, HE.out _⟩
end Go.Proofs.Ytknmpfdmjfbpdaa
