/-
  The contract of the library's bytes.Repeat of one byte 1, none to three times.
-/
import Derived.Test.YtikfklbgncdbnaaOptLaw
import Derived.Lib.MakeNoZero
import Derived.Laws.CopyRow
namespace Go.Proofs.Ytikfklbgncdbnaa
set_option maxRecDepth 10000
open Go.RowKit

theorem mul64_1 (w : World) : Calls Try.prog 75 #[.int .u64 1, .int .u64 1] w fun e w' => e = .returned (.tuple #[.int .u64 0, .int .u64 1]) ∧ w = w' := by
  go_enter Try.func75, Try.ntmps75
  go_wp2_with fail
  go_ret2
  exact ⟨rfl, rfl⟩
theorem mul_1 (w : World) : Calls Try.prog 60 #[.int .u64 1, .int .u64 1] w fun e w' => e = .returned (.tuple #[.int .u64 0, .int .u64 1]) ∧ w = w' := by
  go_enter Try.func60, Try.ntmps60
  go_wp2_with fail
  refine (mul64_1 w).mono ?_
  rintro e w' ⟨rfl, rfl⟩
  go_wp2_with fail
  go_ret2
  exact ⟨rfl, rfl⟩
theorem mul64_2 (w : World) : Calls Try.prog 75 #[.int .u64 1, .int .u64 2] w fun e w' => e = .returned (.tuple #[.int .u64 0, .int .u64 2]) ∧ w = w' := by
  go_enter Try.func75, Try.ntmps75
  go_wp2_with fail
  go_ret2
  exact ⟨rfl, rfl⟩
theorem mul_2 (w : World) : Calls Try.prog 60 #[.int .u64 1, .int .u64 2] w fun e w' => e = .returned (.tuple #[.int .u64 0, .int .u64 2]) ∧ w = w' := by
  go_enter Try.func60, Try.ntmps60
  go_wp2_with fail
  refine (mul64_2 w).mono ?_
  rintro e w' ⟨rfl, rfl⟩
  go_wp2_with fail
  go_ret2
  exact ⟨rfl, rfl⟩
theorem mul64_3 (w : World) : Calls Try.prog 75 #[.int .u64 1, .int .u64 3] w fun e w' => e = .returned (.tuple #[.int .u64 0, .int .u64 3]) ∧ w = w' := by
  go_enter Try.func75, Try.ntmps75
  go_wp2_with fail
  go_ret2
  exact ⟨rfl, rfl⟩
theorem mul_3 (w : World) : Calls Try.prog 60 #[.int .u64 1, .int .u64 3] w fun e w' => e = .returned (.tuple #[.int .u64 0, .int .u64 3]) ∧ w = w' := by
  go_enter Try.func60, Try.ntmps60
  go_wp2_with fail
  refine (mul64_3 w).mono ?_
  rintro e w' ⟨rfl, rfl⟩
  go_wp2_with fail
  go_ret2
  exact ⟨rfl, rfl⟩

/-- Ones: so many of them, in memory that is new. -/
def Ones (r : Nat) (w : World) (e : Ending) (w' : World) : Prop := ∃ A c, e = .returned (.slice A r c) ∧ r ≤ c ∧ Rd w' A r (List.replicate r 1) ∧ Below w.heap.size w w'
/-- The row that is being filled: q ones so far. -/
def Bf (w : World) (g r q : Nat) (W : World) : Prop := ∃ cur, W.heap[g]? = some (.cells cur 5 (0, 0)) ∧ r ≤ cur.size ∧ (∀ i, i < q → cur[i]? = some (.int .u8 1)) ∧ Below g w W
theorem Bf.cell {w W : World} {g r q : Nat} (h : Bf w g r q W) (i : Nat) (hi : i < q) : W.cell? ⟨g, i, none⟩ = some (.int .u8 1) := by
  obtain ⟨cur, hg, _, hc, _⟩ := h
  rw [blk_cell hg]; exact hc i hi
theorem Bf.drew {w W : World} {g r q : Nat} (h : Bf w g r q W) : Bf w g r q W.drew := by
  obtain ⟨cur, hg, h1, h2, h3⟩ := h
  exact ⟨cur, hg, h1, h2, h3.drew⟩
theorem infoU8 : (Try.prog.info? 5).map (·.size) = some 1 := by kernel_rfl
theorem copy_ones {w W : World} {g r q k : Nat} (h : Bf w g r q W) (hgw : g = w.heap.size) (a : Addr) (ty : TypeId) (sLen sCap dLen dCap : Nat) (hs : ∀ j, j < k → W.cell? (a.add j) = some (.int .u8 1)) (hk : k = Nat.min sLen dLen) (hq : q + k ≤ r) :
    ∃ W', (Builtin.copy_ #[22, 22] ty #[.slice (some ⟨g, q, none⟩) dLen dCap, .slice (some a) sLen sCap]).run Try.prog W = .ok (.int .i64 (k : Int)) W' ∧ Bf w g r (q + k) W' := by
  obtain ⟨cur, hg, h1, h2, h3⟩ := h
  have hrun := run_copy_row (P := Try.prog) W 22 22 ty 5 g q dLen dCap a sLen sCap cur 5 (List.replicate k (.int .u8 1)) Try.underlying22 infoU8 hg (by simpa using hk)
    (fun j v hj => by
      rw [List.getElem?_replicate] at hj
      split at hj
      · injection hj with hj; subst hj; exact hs j (by assumption)
      · cases hj)
    (by simp; omega) (fun v hv => by rw [List.eq_of_mem_replicate hv]; rfl)
  rw [List.length_replicate] at hrun
  refine ⟨_, hrun, _, setRow_heap W g cur _ _ _ hg, ?_, ?_, ?_⟩
  · simp; omega
  · intro i hi
    simp only [List.getElem?_toArray]
    by_cases hiq : i < q
    · rw [List.append_assoc, List.getElem?_append_left (by simp; omega), List.getElem?_take_of_lt hiq, Array.getElem?_toList]
      exact h2 i hiq
    · have hlq : (cur.toList.take q).length = q := by rw [List.length_take, Array.length_toList]; omega
      rw [List.append_assoc, List.getElem?_append_right (by omega), hlq, List.getElem?_append_left (by rw [List.length_replicate]; omega), List.getElem?_replicate, if_pos (by omega)]
  · exact h3.trans ⟨rfl, rfl, rfl, by simp [World.setRow], fun j hj => by simp [World.setRow, Array.getElem?_modify]; omega⟩

theorem wpList_copy {ops : Array Oper} {rest : List Oper} {o : Oper} {a : Act} {w : World} {Q : Exit → Act → World → Prop} (hgd : o.guard = none) (d s : Operand)
    (ho : o.op = .call { callee := .builtin .copy, args := #[d, s], argTypes := #[22, 22] }) (vd vs v : Value) (w' : World) (hd : a.eval d = vd) (hs : a.eval s = vs)
    (hrun : (Builtin.copy_ #[22, 22] o.type #[vd, vs]).run Try.prog w = .ok v w') (hk : wpList Try.prog ops Q rest (a.put o.dst v) w') : wpList Try.prog ops Q (o :: rest) a w := by
  refine wpList_plain hgd fun K hK => ?_
  unfold Oper.wp execOp
  simp only [ho, resolve, invoke, builtin, Sem.run_bind, Sem.run_pure, Result.andThen_ok, List.map_toArray, List.map_cons, List.map_nil, hd, hs, hrun]
  exact hK _ _ hk
theorem step_copy {ops : Array Oper} {o : Oper} {a : Act} {w : World} {K : Act → World → Prop} {Q : Exit → Act → World → Prop} {E : Prop} (hgd : o.guard = none) (d s : Operand)
    (ho : o.op = .call { callee := .builtin .copy, args := #[d, s], argTypes := #[22, 22] }) (vd vs v : Value) (w' : World) (hd : a.eval d = vd) (hs : a.eval s = vs)
    (hrun : (Builtin.copy_ #[22, 22] o.type #[vd, vs]).run Try.prog w = .ok v w') (hk : K (a.put o.dst v) w') :
    if Region.wanted o (yielded ops a.tmps) = true then Oper.wp Try.prog o a w K Q else E := by
  have hw : Region.wanted o (yielded ops a.tmps) = true := by simp [Region.wanted, hgd]
  rw [if_pos hw]
  unfold Oper.wp execOp
  simp only [ho, resolve, invoke, builtin, Sem.run_bind, Sem.run_pure, Result.andThen_ok, List.map_toArray, List.map_cons, List.map_nil, hd, hs, hrun]
  exact hk

theorem repeat_0 (A : Option Addr) (c : Nat) (w : World) : Calls Try.prog 36 #[.slice A 1 c, .int .i64 0] w (Ones 0 w) := by
  go_enter Try.func36, Try.ntmps36
  go_wp2_with fail
  go_ret
  exact ⟨_, _, rfl, Nat.le_refl _, Rd.nil _ _, (Below.refl _ _).alloc (Nat.le_refl _) _⟩

theorem repeat_1 (b o c : Nat) (w : World) (h : Rd w (some ⟨b, o, none⟩) 1 [1]) : Calls Try.prog 36 #[.slice (some ⟨b, o, none⟩) 1 c, .int .i64 1] w (Ones 1 w) := by
  obtain ⟨cs, hrunM, hle, hmax⟩ := Lib.run_makeNoZero (P := Try.prog) w #[3] 22 5 Try.underlying22 1 (by omega)
  have hcall : (callFunc 61 #[.int .i64 1]).run Try.prog w = .ok (.value (.slice (some ⟨w.heap.size, 0, none⟩) 1 cs.size)) ((w.alloc (.cells cs 5)).drewN 2) := by
    rw [run_callFunc_extern Try.func61 (by kernel_rfl) (by kernel_rfl) (by kernel_rfl) (e := Extern.BytealgMakeNoZero.makeNoZero #[3] #[22]) (by kernel_rfl)]
    rw [show ((1 : Int)) = ((1 : Nat) : Int) from rfl, hrunM]
    rfl
  have i1 : (1 : Int) ≤ (cs.size : Int) := by omega
  obtain ⟨g, eg⟩ : ∃ g, w.heap.size = g := ⟨_, rfl⟩
  have hb0 : Bf w g 1 0 ((w.alloc (.cells cs 5)).drewN 2) := ⟨cs, by rw [← eg]; exact heap_alloc_new w _, hle, fun i hi => absurd hi (by omega), by rw [← eg]; exact ⟨rfl, rfl, rfl, by simp [World.drewN], fun k hk => (Below.heap_alloc _ _ _ hk)⟩⟩
  obtain ⟨b', o', eb, hlt, hc⟩ := h.at_ (by omega)
  injection eb with eb
  injection eb with eb1 eb2
  subst eb1; subst eb2
  obtain ⟨W1, hr1, hB1⟩ := copy_ones hb0 eg.symm ⟨b, o, none⟩ 3 1 c 1 1 (k := 1) (fun j hj => by
    obtain rfl : j = 0 := by omega
    have h1 := hc 0 (by omega)
    rw [Go.WideShapes.add_plain]
    have hb : Below w.heap.size w ((w.alloc (.cells cs 5)).drewN 2) := ⟨rfl, rfl, rfl, by simp [World.drewN], fun k hk => (Below.heap_alloc _ _ _ hk)⟩
    exact (hb.cell (p := ⟨b, o + 0, none⟩) hlt).trans (by simpa using h1)) (by rfl) (by omega)
  have Hr1 := Lib.hid hr1
  have HB1 := Lib.hid hB1
  have Hm := Lib.hid (mul_1 w)
  clear hrunM hb0 hr1 hB1 h hc
  go_enter Try.func36, Try.ntmps36
  go_wp2_with fail
  refine Hm.out.mono ?_
  rintro e w' ⟨rfl, rfl⟩
  go_wp2_with (refine wpList_copy rfl (.tmp 58) (.tmp 59) rfl _ _ _ W1 rfl rfl Hr1.out ?_)
  go_loopg [10] 1 (fun gk bp wr => ∃ q : Nat, Hid (gk + q = 1 + 1) ∧ 1 ≤ q ∧ q ≤ 1 ∧ bp = .int .i64 (q : Int) ∧ Hid (Bf w g 1 q wr))
  case atStart => exact ⟨1, rfl, by omega, by omega, rfl, HB1⟩
  case round =>
    obtain ⟨q, hgk, hq1, hq, rfl, hB⟩ := hrel
    by_cases hqR : q < 1
    · skip
      omega
    · obtain rfl : q = 1 := by omega
      go_wp2_with fail
      go_ret
      obtain ⟨cur, hg, h1, h2, h3⟩ := hB.out
      refine ⟨_, _, rfl, Nat.le_refl _, ⟨by simp, fun x hx => by rw [List.eq_of_mem_replicate hx]; omega, fun _ => ⟨g, 0, rfl, lt_of_block hg, fun i hi => ?_⟩⟩, by rw [eg]; exact h3⟩
      rw [Nat.zero_add, blk_cell hg, h2 i hi]
      show _ = some (Value.int .u8 ((List.replicate 1 (1 : Int))[i]?.getD 0))
      rw [List.getElem?_replicate, if_pos hi]
      rfl
theorem repeat_2 (b o c : Nat) (w : World) (h : Rd w (some ⟨b, o, none⟩) 1 [1]) : Calls Try.prog 36 #[.slice (some ⟨b, o, none⟩) 1 c, .int .i64 2] w (Ones 2 w) := by
  obtain ⟨cs, hrunM, hle, hmax⟩ := Lib.run_makeNoZero (P := Try.prog) w #[3] 22 5 Try.underlying22 2 (by omega)
  have hcall : (callFunc 61 #[.int .i64 2]).run Try.prog w = .ok (.value (.slice (some ⟨w.heap.size, 0, none⟩) 2 cs.size)) ((w.alloc (.cells cs 5)).drewN 2) := by
    rw [run_callFunc_extern Try.func61 (by kernel_rfl) (by kernel_rfl) (by kernel_rfl) (e := Extern.BytealgMakeNoZero.makeNoZero #[3] #[22]) (by kernel_rfl)]
    rw [show ((2 : Int)) = ((2 : Nat) : Int) from rfl, hrunM]
    rfl
  have i1 : (2 : Int) ≤ (cs.size : Int) := by omega
  obtain ⟨g, eg⟩ : ∃ g, w.heap.size = g := ⟨_, rfl⟩
  have hb0 : Bf w g 2 0 ((w.alloc (.cells cs 5)).drewN 2) := ⟨cs, by rw [← eg]; exact heap_alloc_new w _, hle, fun i hi => absurd hi (by omega), by rw [← eg]; exact ⟨rfl, rfl, rfl, by simp [World.drewN], fun k hk => (Below.heap_alloc _ _ _ hk)⟩⟩
  obtain ⟨b', o', eb, hlt, hc⟩ := h.at_ (by omega)
  injection eb with eb
  injection eb with eb1 eb2
  subst eb1; subst eb2
  obtain ⟨W1, hr1, hB1⟩ := copy_ones hb0 eg.symm ⟨b, o, none⟩ 3 1 c 2 2 (k := 1) (fun j hj => by
    obtain rfl : j = 0 := by omega
    have h1 := hc 0 (by omega)
    rw [Go.WideShapes.add_plain]
    have hb : Below w.heap.size w ((w.alloc (.cells cs 5)).drewN 2) := ⟨rfl, rfl, rfl, by simp [World.drewN], fun k hk => (Below.heap_alloc _ _ _ hk)⟩
    exact (hb.cell (p := ⟨b, o + 0, none⟩) hlt).trans (by simpa using h1)) (by rfl) (by omega)
  have Hr1 := Lib.hid hr1
  have HB1 := Lib.hid hB1
  have Hm := Lib.hid (mul_2 w)
  clear hrunM hb0 hr1 hB1 h hc
  go_enter Try.func36, Try.ntmps36
  go_wp2_with fail
  refine Hm.out.mono ?_
  rintro e w' ⟨rfl, rfl⟩
  go_wp2_with (refine wpList_copy rfl (.tmp 58) (.tmp 59) rfl _ _ _ W1 rfl rfl Hr1.out ?_)
  go_loopg [10] 2 (fun gk bp wr => ∃ q : Nat, Hid (gk + q = 2 + 1) ∧ 1 ≤ q ∧ q ≤ 2 ∧ bp = .int .i64 (q : Int) ∧ Hid (Bf w g 2 q wr))
  case atStart => exact ⟨1, rfl, by omega, by omega, rfl, HB1⟩
  case round =>
    obtain ⟨q, hgk, hq1, hq, rfl, hB⟩ := hrel
    by_cases hqR : q < 2
    · skip
      obtain rfl : q = 1 := by omega
      obtain ⟨W2, hr2, hB2⟩ := copy_ones hB.out.drew eg.symm ⟨g, 0, none⟩ 3 1 2 1 1 (k := 1) (fun j hj => by
        obtain rfl : j = 0 := by omega
        rw [Go.WideShapes.add_plain]
        exact hB.out.drew.cell 0 (by omega)) (by rfl) (by omega)
      have Hr2 := Lib.hid hr2
      have HB2 := Lib.hid hB2
      clear hr2 hB2
      go_wp2_with fail
      refine wp_region_held_drew (S := fun _ => True) (by kernel_rfl) trivial (fun hHeld => ?_)
      refine wpAnyH_take (i := 0) (oi := { dst := some 67, op := Go.Op.move (Go.Operand.tmp 10), type := 3, pos := "bytes.go:672", after := #[], guard := none }) (v := ?_) rfl (by kernel_rfl) (by kernel_rfl) (by kernel_rfl) (fun _ _ _ h => h) (Or.inl ⟨by rfl, ?_⟩) (by assumption) ?_
      rotate_left 1
      · intro w' hSw; (go_simp <;> (with_reducible rfl))
      (try simp only [Act.put, List.setIfInBounds_toArray, List.set_cons_zero, List.set_cons_succ])
      refine wpAnyH_take (i := 1) (oi := { dst := some 68, op := Go.Op.move (Go.Operand.tmp 9), type := 22, pos := "bytes.go:672", after := #[], guard := none }) (v := ?_) rfl (by kernel_rfl) (by kernel_rfl) (by kernel_rfl) (fun _ _ _ h => h) (Or.inl ⟨by rfl, ?_⟩) (by assumption) ?_
      rotate_left 1
      · intro w' hSw; (go_simp <;> (with_reducible rfl))
      (try simp only [Act.put, List.setIfInBounds_toArray, List.set_cons_zero, List.set_cons_succ])
      refine wpAnyH_take (i := 2) (oi := { dst := some 69, op := Go.Op.move (Go.Operand.tmp 10), type := 3, pos := "bytes.go:672", after := #[], guard := none }) (v := ?_) rfl (by kernel_rfl) (by kernel_rfl) (by kernel_rfl) (fun _ _ _ h => h) (Or.inl ⟨by rfl, ?_⟩) (by assumption) ?_
      rotate_left 1
      · intro w' hSw; (go_simp <;> (with_reducible rfl))
      (try simp only [Act.put, List.setIfInBounds_toArray, List.set_cons_zero, List.set_cons_succ])
      refine wpAnyH_take (i := 3) (oi := { dst := some 70, op := Go.Op.slice 22 (Go.Operand.tmp 68) (some (Go.Operand.tmp 69)) none none, type := 22, pos := "bytes.go:672", after := #[{ on := 1, ground := Go.Ground.data }, { on := 2, ground := Go.Ground.data }], guard := none }) (v := ?_) rfl (by kernel_rfl) (by kernel_rfl) (by kernel_rfl) (fun _ _ _ h => h) (Or.inl ⟨by rfl, ?_⟩) (by assumption) ?_
      rotate_left 1
      · intro w' hSw; (go_simp <;> (with_reducible rfl))
      (try simp only [Act.put, List.setIfInBounds_toArray, List.set_cons_zero, List.set_cons_succ])
      refine wpAnyH_take (i := 4) (oi := { dst := some 71, op := Go.Op.move (Go.Operand.tmp 9), type := 22, pos := "bytes.go:672", after := #[], guard := none }) (v := ?_) rfl (by kernel_rfl) (by kernel_rfl) (by kernel_rfl) (fun _ _ _ h => h) (Or.inl ⟨by rfl, ?_⟩) (by assumption) ?_
      rotate_left 1
      · intro w' hSw; (go_simp <;> (with_reducible rfl))
      (try simp only [Act.put, List.setIfInBounds_toArray, List.set_cons_zero, List.set_cons_succ])
      refine wpAnyH_take (i := 5) (oi := { dst := some 72, op := Go.Op.move (Go.Operand.tmp 11), type := 3, pos := "bytes.go:672", after := #[], guard := none }) (v := ?_) rfl (by kernel_rfl) (by kernel_rfl) (by kernel_rfl) (fun _ _ _ h => h) (Or.inl ⟨by rfl, ?_⟩) (by assumption) ?_
      rotate_left 1
      · intro w' hSw; (go_simp <;> (with_reducible rfl))
      (try simp only [Act.put, List.setIfInBounds_toArray, List.set_cons_zero, List.set_cons_succ])
      refine wpAnyH_take (i := 6) (oi := { dst := some 73, op := Go.Op.slice 22 (Go.Operand.tmp 71) none (some (Go.Operand.tmp 72)) none, type := 22, pos := "bytes.go:672", after := #[{ on := 4, ground := Go.Ground.data }, { on := 5, ground := Go.Ground.data }], guard := none }) (v := ?_) rfl (by kernel_rfl) (by kernel_rfl) (by kernel_rfl) (fun _ _ _ h => h) (Or.inl ⟨by rfl, ?_⟩) (by assumption) ?_
      rotate_left 1
      · intro w' hSw; (go_simp <;> (with_reducible rfl))
      (try simp only [Act.put, List.setIfInBounds_toArray, List.set_cons_zero, List.set_cons_succ])
      refine wpAnyH_ready (rs := [7]) (by kernel_rfl) (by simp) ?_
      refine AllReadyH.cons (o := { dst := some 74, op := Go.Op.call { callee := Go.Callee.builtin Go.Builtin.copy, args := #[Go.Operand.tmp 70, Go.Operand.tmp 73], argTypes := #[22, 22] }, type := 3, pos := "bytes.go:672", after := #[{ on := 3, ground := Go.Ground.data }, { on := 6, ground := Go.Ground.data }], guard := none }) rfl (fun K hK => ?_) AllReadyH.nil
      (refine step_copy (by rfl) (.tmp 70) (.tmp 73) (by rfl) _ _ _ W2 rfl rfl Hr2.out ?_)
      refine hK.out _ _ ?_ (fun hHeld => ?_)
      · exact trivial
      clear hK K
      (try simp only [Act.put, List.setIfInBounds_toArray, List.set_cons_zero, List.set_cons_succ])
      refine wpAnyH_take (i := 8) (oi := { dst := some 75, op := Go.Op.binOp Go.BinOp.add 3 (Go.Operand.tmp 67) (Go.Operand.tmp 74) 3, type := 3, pos := "bytes.go:672", after := #[{ on := 0, ground := Go.Ground.data }, { on := 7, ground := Go.Ground.data }], guard := none }) (v := ?_) rfl (by kernel_rfl) (by kernel_rfl) (by kernel_rfl) (fun _ _ _ h => h) (Or.inl ⟨by rfl, ?_⟩) (by assumption) ?_
      rotate_left 1
      · intro w' hSw; (go_simp <;> (with_reducible rfl))
      (try simp only [Act.put, List.setIfInBounds_toArray, List.set_cons_zero, List.set_cons_succ])
      refine wpAnyH_take (i := 9) (oi := { dst := some 10, op := Go.Op.assign (Go.Operand.tmp 75), type := 3, pos := "bytes.go:672", after := #[{ on := 8, ground := Go.Ground.data }, { on := 7, ground := Go.Ground.chain }, { on := 0, ground := Go.Ground.phase }, { on := 1, ground := Go.Ground.phase }, { on := 2, ground := Go.Ground.phase }, { on := 3, ground := Go.Ground.phase }, { on := 4, ground := Go.Ground.phase }, { on := 5, ground := Go.Ground.phase }, { on := 6, ground := Go.Ground.phase }, { on := 7, ground := Go.Ground.phase }, { on := 8, ground := Go.Ground.phase }], guard := none }) (v := ?_) rfl (by kernel_rfl) (by kernel_rfl) (by kernel_rfl) (fun _ _ _ h => h) (Or.inl ⟨by rfl, ?_⟩) (by assumption) ?_
      rotate_left 1
      · intro w' hSw; (go_simp <;> (with_reducible rfl))
      (try simp only [Act.put, List.setIfInBounds_toArray, List.set_cons_zero, List.set_cons_succ])
      refine wpAnyH_done (by kernel_rfl) ?_ _
      go_wp2_with fail
      go_roundg (gk - 1)
      case measure => have := hgk.out; omega
      case rel => exact ⟨1 + 1, by have := hgk.out; show gk - 1 + (1 + 1) = _; omega, by omega, by omega, rfl, HB2⟩
    · obtain rfl : q = 2 := by omega
      go_wp2_with fail
      go_ret
      obtain ⟨cur, hg, h1, h2, h3⟩ := hB.out
      refine ⟨_, _, rfl, Nat.le_refl _, ⟨by simp, fun x hx => by rw [List.eq_of_mem_replicate hx]; omega, fun _ => ⟨g, 0, rfl, lt_of_block hg, fun i hi => ?_⟩⟩, by rw [eg]; exact h3⟩
      rw [Nat.zero_add, blk_cell hg, h2 i hi]
      show _ = some (Value.int .u8 ((List.replicate 2 (1 : Int))[i]?.getD 0))
      rw [List.getElem?_replicate, if_pos hi]
      rfl
theorem repeat_3 (b o c : Nat) (w : World) (h : Rd w (some ⟨b, o, none⟩) 1 [1]) : Calls Try.prog 36 #[.slice (some ⟨b, o, none⟩) 1 c, .int .i64 3] w (Ones 3 w) := by
  obtain ⟨cs, hrunM, hle, hmax⟩ := Lib.run_makeNoZero (P := Try.prog) w #[3] 22 5 Try.underlying22 3 (by omega)
  have hcall : (callFunc 61 #[.int .i64 3]).run Try.prog w = .ok (.value (.slice (some ⟨w.heap.size, 0, none⟩) 3 cs.size)) ((w.alloc (.cells cs 5)).drewN 2) := by
    rw [run_callFunc_extern Try.func61 (by kernel_rfl) (by kernel_rfl) (by kernel_rfl) (e := Extern.BytealgMakeNoZero.makeNoZero #[3] #[22]) (by kernel_rfl)]
    rw [show ((3 : Int)) = ((3 : Nat) : Int) from rfl, hrunM]
    rfl
  have i1 : (3 : Int) ≤ (cs.size : Int) := by omega
  obtain ⟨g, eg⟩ : ∃ g, w.heap.size = g := ⟨_, rfl⟩
  have hb0 : Bf w g 3 0 ((w.alloc (.cells cs 5)).drewN 2) := ⟨cs, by rw [← eg]; exact heap_alloc_new w _, hle, fun i hi => absurd hi (by omega), by rw [← eg]; exact ⟨rfl, rfl, rfl, by simp [World.drewN], fun k hk => (Below.heap_alloc _ _ _ hk)⟩⟩
  obtain ⟨b', o', eb, hlt, hc⟩ := h.at_ (by omega)
  injection eb with eb
  injection eb with eb1 eb2
  subst eb1; subst eb2
  obtain ⟨W1, hr1, hB1⟩ := copy_ones hb0 eg.symm ⟨b, o, none⟩ 3 1 c 3 3 (k := 1) (fun j hj => by
    obtain rfl : j = 0 := by omega
    have h1 := hc 0 (by omega)
    rw [Go.WideShapes.add_plain]
    have hb : Below w.heap.size w ((w.alloc (.cells cs 5)).drewN 2) := ⟨rfl, rfl, rfl, by simp [World.drewN], fun k hk => (Below.heap_alloc _ _ _ hk)⟩
    exact (hb.cell (p := ⟨b, o + 0, none⟩) hlt).trans (by simpa using h1)) (by rfl) (by omega)
  have Hr1 := Lib.hid hr1
  have HB1 := Lib.hid hB1
  have Hm := Lib.hid (mul_3 w)
  clear hrunM hb0 hr1 hB1 h hc
  go_enter Try.func36, Try.ntmps36
  go_wp2_with fail
  refine Hm.out.mono ?_
  rintro e w' ⟨rfl, rfl⟩
  go_wp2_with (refine wpList_copy rfl (.tmp 58) (.tmp 59) rfl _ _ _ W1 rfl rfl Hr1.out ?_)
  go_loopg [10] 3 (fun gk bp wr => ∃ q : Nat, Hid (gk + q = 3 + 1) ∧ 1 ≤ q ∧ q ≤ 3 ∧ bp = .int .i64 (q : Int) ∧ Hid (Bf w g 3 q wr))
  case atStart => exact ⟨1, rfl, by omega, by omega, rfl, HB1⟩
  case round =>
    obtain ⟨q, hgk, hq1, hq, rfl, hB⟩ := hrel
    by_cases hqR : q < 3
    · skip
      rcases (show q = 1 ∨ q = 2 by omega) with rfl | rfl
      · skip
        obtain ⟨W2, hr2, hB2⟩ := copy_ones hB.out.drew eg.symm ⟨g, 0, none⟩ 3 1 3 2 2 (k := 1) (fun j hj => by
          obtain rfl : j = 0 := by omega
          rw [Go.WideShapes.add_plain]
          exact hB.out.drew.cell 0 (by omega)) (by rfl) (by omega)
        have Hr2 := Lib.hid hr2
        have HB2 := Lib.hid hB2
        clear hr2 hB2
        go_wp2_with fail
        refine wp_region_held_drew (S := fun _ => True) (by kernel_rfl) trivial (fun hHeld => ?_)
        refine wpAnyH_take (i := 0) (oi := { dst := some 67, op := Go.Op.move (Go.Operand.tmp 10), type := 3, pos := "bytes.go:672", after := #[], guard := none }) (v := ?_) rfl (by kernel_rfl) (by kernel_rfl) (by kernel_rfl) (fun _ _ _ h => h) (Or.inl ⟨by rfl, ?_⟩) (by assumption) ?_
        rotate_left 1
        · intro w' hSw; (go_simp <;> (with_reducible rfl))
        (try simp only [Act.put, List.setIfInBounds_toArray, List.set_cons_zero, List.set_cons_succ])
        refine wpAnyH_take (i := 1) (oi := { dst := some 68, op := Go.Op.move (Go.Operand.tmp 9), type := 22, pos := "bytes.go:672", after := #[], guard := none }) (v := ?_) rfl (by kernel_rfl) (by kernel_rfl) (by kernel_rfl) (fun _ _ _ h => h) (Or.inl ⟨by rfl, ?_⟩) (by assumption) ?_
        rotate_left 1
        · intro w' hSw; (go_simp <;> (with_reducible rfl))
        (try simp only [Act.put, List.setIfInBounds_toArray, List.set_cons_zero, List.set_cons_succ])
        refine wpAnyH_take (i := 2) (oi := { dst := some 69, op := Go.Op.move (Go.Operand.tmp 10), type := 3, pos := "bytes.go:672", after := #[], guard := none }) (v := ?_) rfl (by kernel_rfl) (by kernel_rfl) (by kernel_rfl) (fun _ _ _ h => h) (Or.inl ⟨by rfl, ?_⟩) (by assumption) ?_
        rotate_left 1
        · intro w' hSw; (go_simp <;> (with_reducible rfl))
        (try simp only [Act.put, List.setIfInBounds_toArray, List.set_cons_zero, List.set_cons_succ])
        refine wpAnyH_take (i := 3) (oi := { dst := some 70, op := Go.Op.slice 22 (Go.Operand.tmp 68) (some (Go.Operand.tmp 69)) none none, type := 22, pos := "bytes.go:672", after := #[{ on := 1, ground := Go.Ground.data }, { on := 2, ground := Go.Ground.data }], guard := none }) (v := ?_) rfl (by kernel_rfl) (by kernel_rfl) (by kernel_rfl) (fun _ _ _ h => h) (Or.inl ⟨by rfl, ?_⟩) (by assumption) ?_
        rotate_left 1
        · intro w' hSw; (go_simp <;> (with_reducible rfl))
        (try simp only [Act.put, List.setIfInBounds_toArray, List.set_cons_zero, List.set_cons_succ])
        refine wpAnyH_take (i := 4) (oi := { dst := some 71, op := Go.Op.move (Go.Operand.tmp 9), type := 22, pos := "bytes.go:672", after := #[], guard := none }) (v := ?_) rfl (by kernel_rfl) (by kernel_rfl) (by kernel_rfl) (fun _ _ _ h => h) (Or.inl ⟨by rfl, ?_⟩) (by assumption) ?_
        rotate_left 1
        · intro w' hSw; (go_simp <;> (with_reducible rfl))
        (try simp only [Act.put, List.setIfInBounds_toArray, List.set_cons_zero, List.set_cons_succ])
        refine wpAnyH_take (i := 5) (oi := { dst := some 72, op := Go.Op.move (Go.Operand.tmp 11), type := 3, pos := "bytes.go:672", after := #[], guard := none }) (v := ?_) rfl (by kernel_rfl) (by kernel_rfl) (by kernel_rfl) (fun _ _ _ h => h) (Or.inl ⟨by rfl, ?_⟩) (by assumption) ?_
        rotate_left 1
        · intro w' hSw; (go_simp <;> (with_reducible rfl))
        (try simp only [Act.put, List.setIfInBounds_toArray, List.set_cons_zero, List.set_cons_succ])
        refine wpAnyH_take (i := 6) (oi := { dst := some 73, op := Go.Op.slice 22 (Go.Operand.tmp 71) none (some (Go.Operand.tmp 72)) none, type := 22, pos := "bytes.go:672", after := #[{ on := 4, ground := Go.Ground.data }, { on := 5, ground := Go.Ground.data }], guard := none }) (v := ?_) rfl (by kernel_rfl) (by kernel_rfl) (by kernel_rfl) (fun _ _ _ h => h) (Or.inl ⟨by rfl, ?_⟩) (by assumption) ?_
        rotate_left 1
        · intro w' hSw; (go_simp <;> (with_reducible rfl))
        (try simp only [Act.put, List.setIfInBounds_toArray, List.set_cons_zero, List.set_cons_succ])
        refine wpAnyH_ready (rs := [7]) (by kernel_rfl) (by simp) ?_
        refine AllReadyH.cons (o := { dst := some 74, op := Go.Op.call { callee := Go.Callee.builtin Go.Builtin.copy, args := #[Go.Operand.tmp 70, Go.Operand.tmp 73], argTypes := #[22, 22] }, type := 3, pos := "bytes.go:672", after := #[{ on := 3, ground := Go.Ground.data }, { on := 6, ground := Go.Ground.data }], guard := none }) rfl (fun K hK => ?_) AllReadyH.nil
        (refine step_copy (by rfl) (.tmp 70) (.tmp 73) (by rfl) _ _ _ W2 rfl rfl Hr2.out ?_)
        refine hK.out _ _ ?_ (fun hHeld => ?_)
        · exact trivial
        clear hK K
        (try simp only [Act.put, List.setIfInBounds_toArray, List.set_cons_zero, List.set_cons_succ])
        refine wpAnyH_take (i := 8) (oi := { dst := some 75, op := Go.Op.binOp Go.BinOp.add 3 (Go.Operand.tmp 67) (Go.Operand.tmp 74) 3, type := 3, pos := "bytes.go:672", after := #[{ on := 0, ground := Go.Ground.data }, { on := 7, ground := Go.Ground.data }], guard := none }) (v := ?_) rfl (by kernel_rfl) (by kernel_rfl) (by kernel_rfl) (fun _ _ _ h => h) (Or.inl ⟨by rfl, ?_⟩) (by assumption) ?_
        rotate_left 1
        · intro w' hSw; (go_simp <;> (with_reducible rfl))
        (try simp only [Act.put, List.setIfInBounds_toArray, List.set_cons_zero, List.set_cons_succ])
        refine wpAnyH_take (i := 9) (oi := { dst := some 10, op := Go.Op.assign (Go.Operand.tmp 75), type := 3, pos := "bytes.go:672", after := #[{ on := 8, ground := Go.Ground.data }, { on := 7, ground := Go.Ground.chain }, { on := 0, ground := Go.Ground.phase }, { on := 1, ground := Go.Ground.phase }, { on := 2, ground := Go.Ground.phase }, { on := 3, ground := Go.Ground.phase }, { on := 4, ground := Go.Ground.phase }, { on := 5, ground := Go.Ground.phase }, { on := 6, ground := Go.Ground.phase }, { on := 7, ground := Go.Ground.phase }, { on := 8, ground := Go.Ground.phase }], guard := none }) (v := ?_) rfl (by kernel_rfl) (by kernel_rfl) (by kernel_rfl) (fun _ _ _ h => h) (Or.inl ⟨by rfl, ?_⟩) (by assumption) ?_
        rotate_left 1
        · intro w' hSw; (go_simp <;> (with_reducible rfl))
        (try simp only [Act.put, List.setIfInBounds_toArray, List.set_cons_zero, List.set_cons_succ])
        refine wpAnyH_done (by kernel_rfl) ?_ _
        go_wp2_with fail
        go_roundg (gk - 1)
        case measure => have := hgk.out; omega
        case rel => exact ⟨1 + 1, by have := hgk.out; show gk - 1 + (1 + 1) = _; omega, by omega, by omega, rfl, HB2⟩
      · skip
        obtain ⟨W2, hr2, hB2⟩ := copy_ones hB.out.drew eg.symm ⟨g, 0, none⟩ 3 2 3 1 1 (k := 1) (fun j hj => by
          obtain rfl : j = 0 := by omega
          rw [Go.WideShapes.add_plain]
          exact hB.out.drew.cell 0 (by omega)) (by rfl) (by omega)
        have Hr2 := Lib.hid hr2
        have HB2 := Lib.hid hB2
        clear hr2 hB2
        go_wp2_with fail
        refine wp_region_held_drew (S := fun _ => True) (by kernel_rfl) trivial (fun hHeld => ?_)
        refine wpAnyH_take (i := 0) (oi := { dst := some 67, op := Go.Op.move (Go.Operand.tmp 10), type := 3, pos := "bytes.go:672", after := #[], guard := none }) (v := ?_) rfl (by kernel_rfl) (by kernel_rfl) (by kernel_rfl) (fun _ _ _ h => h) (Or.inl ⟨by rfl, ?_⟩) (by assumption) ?_
        rotate_left 1
        · intro w' hSw; (go_simp <;> (with_reducible rfl))
        (try simp only [Act.put, List.setIfInBounds_toArray, List.set_cons_zero, List.set_cons_succ])
        refine wpAnyH_take (i := 1) (oi := { dst := some 68, op := Go.Op.move (Go.Operand.tmp 9), type := 22, pos := "bytes.go:672", after := #[], guard := none }) (v := ?_) rfl (by kernel_rfl) (by kernel_rfl) (by kernel_rfl) (fun _ _ _ h => h) (Or.inl ⟨by rfl, ?_⟩) (by assumption) ?_
        rotate_left 1
        · intro w' hSw; (go_simp <;> (with_reducible rfl))
        (try simp only [Act.put, List.setIfInBounds_toArray, List.set_cons_zero, List.set_cons_succ])
        refine wpAnyH_take (i := 2) (oi := { dst := some 69, op := Go.Op.move (Go.Operand.tmp 10), type := 3, pos := "bytes.go:672", after := #[], guard := none }) (v := ?_) rfl (by kernel_rfl) (by kernel_rfl) (by kernel_rfl) (fun _ _ _ h => h) (Or.inl ⟨by rfl, ?_⟩) (by assumption) ?_
        rotate_left 1
        · intro w' hSw; (go_simp <;> (with_reducible rfl))
        (try simp only [Act.put, List.setIfInBounds_toArray, List.set_cons_zero, List.set_cons_succ])
        refine wpAnyH_take (i := 3) (oi := { dst := some 70, op := Go.Op.slice 22 (Go.Operand.tmp 68) (some (Go.Operand.tmp 69)) none none, type := 22, pos := "bytes.go:672", after := #[{ on := 1, ground := Go.Ground.data }, { on := 2, ground := Go.Ground.data }], guard := none }) (v := ?_) rfl (by kernel_rfl) (by kernel_rfl) (by kernel_rfl) (fun _ _ _ h => h) (Or.inl ⟨by rfl, ?_⟩) (by assumption) ?_
        rotate_left 1
        · intro w' hSw; (go_simp <;> (with_reducible rfl))
        (try simp only [Act.put, List.setIfInBounds_toArray, List.set_cons_zero, List.set_cons_succ])
        refine wpAnyH_take (i := 4) (oi := { dst := some 71, op := Go.Op.move (Go.Operand.tmp 9), type := 22, pos := "bytes.go:672", after := #[], guard := none }) (v := ?_) rfl (by kernel_rfl) (by kernel_rfl) (by kernel_rfl) (fun _ _ _ h => h) (Or.inl ⟨by rfl, ?_⟩) (by assumption) ?_
        rotate_left 1
        · intro w' hSw; (go_simp <;> (with_reducible rfl))
        (try simp only [Act.put, List.setIfInBounds_toArray, List.set_cons_zero, List.set_cons_succ])
        refine wpAnyH_take (i := 5) (oi := { dst := some 72, op := Go.Op.move (Go.Operand.tmp 11), type := 3, pos := "bytes.go:672", after := #[], guard := none }) (v := ?_) rfl (by kernel_rfl) (by kernel_rfl) (by kernel_rfl) (fun _ _ _ h => h) (Or.inl ⟨by rfl, ?_⟩) (by assumption) ?_
        rotate_left 1
        · intro w' hSw; (go_simp <;> (with_reducible rfl))
        (try simp only [Act.put, List.setIfInBounds_toArray, List.set_cons_zero, List.set_cons_succ])
        refine wpAnyH_take (i := 6) (oi := { dst := some 73, op := Go.Op.slice 22 (Go.Operand.tmp 71) none (some (Go.Operand.tmp 72)) none, type := 22, pos := "bytes.go:672", after := #[{ on := 4, ground := Go.Ground.data }, { on := 5, ground := Go.Ground.data }], guard := none }) (v := ?_) rfl (by kernel_rfl) (by kernel_rfl) (by kernel_rfl) (fun _ _ _ h => h) (Or.inl ⟨by rfl, ?_⟩) (by assumption) ?_
        rotate_left 1
        · intro w' hSw; (go_simp <;> (with_reducible rfl))
        (try simp only [Act.put, List.setIfInBounds_toArray, List.set_cons_zero, List.set_cons_succ])
        refine wpAnyH_ready (rs := [7]) (by kernel_rfl) (by simp) ?_
        refine AllReadyH.cons (o := { dst := some 74, op := Go.Op.call { callee := Go.Callee.builtin Go.Builtin.copy, args := #[Go.Operand.tmp 70, Go.Operand.tmp 73], argTypes := #[22, 22] }, type := 3, pos := "bytes.go:672", after := #[{ on := 3, ground := Go.Ground.data }, { on := 6, ground := Go.Ground.data }], guard := none }) rfl (fun K hK => ?_) AllReadyH.nil
        (refine step_copy (by rfl) (.tmp 70) (.tmp 73) (by rfl) _ _ _ W2 rfl rfl Hr2.out ?_)
        refine hK.out _ _ ?_ (fun hHeld => ?_)
        · exact trivial
        clear hK K
        (try simp only [Act.put, List.setIfInBounds_toArray, List.set_cons_zero, List.set_cons_succ])
        refine wpAnyH_take (i := 8) (oi := { dst := some 75, op := Go.Op.binOp Go.BinOp.add 3 (Go.Operand.tmp 67) (Go.Operand.tmp 74) 3, type := 3, pos := "bytes.go:672", after := #[{ on := 0, ground := Go.Ground.data }, { on := 7, ground := Go.Ground.data }], guard := none }) (v := ?_) rfl (by kernel_rfl) (by kernel_rfl) (by kernel_rfl) (fun _ _ _ h => h) (Or.inl ⟨by rfl, ?_⟩) (by assumption) ?_
        rotate_left 1
        · intro w' hSw; (go_simp <;> (with_reducible rfl))
        (try simp only [Act.put, List.setIfInBounds_toArray, List.set_cons_zero, List.set_cons_succ])
        refine wpAnyH_take (i := 9) (oi := { dst := some 10, op := Go.Op.assign (Go.Operand.tmp 75), type := 3, pos := "bytes.go:672", after := #[{ on := 8, ground := Go.Ground.data }, { on := 7, ground := Go.Ground.chain }, { on := 0, ground := Go.Ground.phase }, { on := 1, ground := Go.Ground.phase }, { on := 2, ground := Go.Ground.phase }, { on := 3, ground := Go.Ground.phase }, { on := 4, ground := Go.Ground.phase }, { on := 5, ground := Go.Ground.phase }, { on := 6, ground := Go.Ground.phase }, { on := 7, ground := Go.Ground.phase }, { on := 8, ground := Go.Ground.phase }], guard := none }) (v := ?_) rfl (by kernel_rfl) (by kernel_rfl) (by kernel_rfl) (fun _ _ _ h => h) (Or.inl ⟨by rfl, ?_⟩) (by assumption) ?_
        rotate_left 1
        · intro w' hSw; (go_simp <;> (with_reducible rfl))
        (try simp only [Act.put, List.setIfInBounds_toArray, List.set_cons_zero, List.set_cons_succ])
        refine wpAnyH_done (by kernel_rfl) ?_ _
        go_wp2_with fail
        go_roundg (gk - 1)
        case measure => have := hgk.out; omega
        case rel => exact ⟨2 + 1, by have := hgk.out; show gk - 1 + (2 + 1) = _; omega, by omega, by omega, rfl, HB2⟩
    · obtain rfl : q = 3 := by omega
      go_wp2_with fail
      go_ret
      obtain ⟨cur, hg, h1, h2, h3⟩ := hB.out
      refine ⟨_, _, rfl, Nat.le_refl _, ⟨by simp, fun x hx => by rw [List.eq_of_mem_replicate hx]; omega, fun _ => ⟨g, 0, rfl, lt_of_block hg, fun i hi => ?_⟩⟩, by rw [eg]; exact h3⟩
      rw [Nat.zero_add, blk_cell hg, h2 i hi]
      show _ = some (Value.int .u8 ((List.replicate 3 (1 : Int))[i]?.getD 0))
      rw [List.getElem?_replicate, if_pos hi]
      rfl
end Go.Proofs.Ytikfklbgncdbnaa
