/-
  The contract of package wheel's hang.
-/
import Derived.Test.YtlpgabbnldalhaaWhlTake
import Derived.Test.YtlpgabbnldalhaaAlmIns
import Derived.Test.YtlpgabbnldalhaaHeldLast
namespace Go.Proofs.Ytlpgabbnldalhaa
set_option maxRecDepth 10000
open Go.RowKit
set_option linter.unusedSimpArgs false
set_option linter.unusedVariables false

set_option maxHeartbeats 1000000 in
theorem hang_any (S : Nat → Prop) (g m : Nat) (C : Array Value) (hs : Nat → Value) (ck : Int) (a : Int × Int) (sl : Nat → AL) (K : Int → Prop) (R : Int → Value) (w : World) (h : WMem w S g m C hs ck sl K R) (ha : 0 ≤ a.2)
    (j : Nat) (hjs : slotA a = j) (hso : sortW (sl j)) (hb : (sl j).length ≤ 1000000) :
    Calls Try.prog 27 #[.pointer (some ⟨g, 0, none⟩), .agg #[.int .u64 a.2, .int .u64 a.1]] w (Leaves S g m ck (upd sl j (insL (kBef a (sl j)) a (sl j))) (fun e => e = a.1 ∨ K e) (fun e => if e = a.1 then .int .u64 a.2 else R e) (.tuple #[]) w) := by
  have hj : j < 64 := by rw [← hjs]; exact slotA_lt _
  have hkl : kBef a (sl j) ≤ (sl j).length := (List.takeWhile_sublist _).length_le
  obtain ⟨z, hz⟩ : ∃ z, w.heap.size = z := ⟨_, rfl⟩
  obtain ⟨w0, ew⟩ : ∃ w0, w.alloc (.cells #[.int .u64 a.2, .int .u64 a.1] 65) = w0 := ⟨_, rfl⟩
  have hb0 : Below w.heap.size w w0 := by rw [← ew]; exact (Below.refl _ _).alloc (Nat.le_refl _) _
  have hk0 : w0.heap[z]? = some (.cells #[.int .u64 a.2, .int .u64 a.1] 65 (0, 0)) := by rw [← ew, ← hz]; exact heap_alloc_new w _
  have h0 := h.below hb0
  obtain ⟨A, c, ev⟩ := (h0.row j hj).form
  obtain ⟨n, en⟩ : ∃ n, (sl j).length = n := ⟨_, rfl⟩
  rw [en] at hb hkl ev
  obtain ⟨k, ek⟩ : ∃ k, kBef a (sl j) = k := ⟨_, rfl⟩
  have HPl := Lib.hid (fun (W : World) (hW : Below w0.heap.size w0 W) => place_any S g m C hs ck sl K R a W (h0.below hW) ha (by rw [hjs]; exact hso) (by rw [hjs, en]; exact hb))
  rw [hjs, ek] at HPl
  rw [ek] at hkl ⊢
  have Hrow := Lib.hid (show ∀ W, Below w0.heap.size w0 W → SlV W 65 2 (.slice A n c) n (flatA (sl j)) from fun W hW => by
    have := (h0.below hW).row j hj
    rwa [ev, en] at this)
  have HSt := Lib.hid (show ∀ W, Below w0.heap.size w0 W → (W.cell? ⟨z, 0, none⟩ = some (.int .u64 a.2) ∧ W.cell? ⟨z, 1, none⟩ = some (.int .u64 a.1)) ∧ W.cell? ⟨g, 3 + j, none⟩ = some (.slice A n c) from fun W hW => ⟨cells2 (blk_on hk0 hW), by rw [← ev]; exact (h0.below hW).kj hj⟩)
  have Hb0 := Lib.hid hb0
  have Ew := Lib.hid ew
  have Hz := Lib.hid hz
  have H := Lib.hid h
  have H0 := Lib.hid h0
  have Hev := Lib.hid ev
  have Hen := Lib.hid en
  have Hbox := Lib.hid hk0
  have Hek := Lib.hid ek
  clear h h0 hb0 hk0 ew hz hso ev en ek
  go_enter Try.func27, Try.ntmps27
  go_upto_region 1 with (fail)
  rw [Ew.out]
  try rw [Hz.out]
  obtain ⟨k0, k1⟩ := (HSt.out _ (Below.refl _ _)).1
  go_wp2_with fail
  refine (HPl.out _ (Below.refl _ _)).mono ?_
  rintro e w2 ⟨rfl, hB2⟩
  have HB2 := Lib.hid hB2
  clear hB2 k0 k1
  go_wp2_with fail
  obtain ⟨w3, ew3⟩ : ∃ w3, w2.drew = w3 := ⟨_, rfl⟩
  have HB3 := Lib.hid (show Below w0.heap.size w0 w3 by rw [← ew3]; exact HB2.out.drew)
  have HB4 := Lib.hid (show Below w0.heap.size w0 (w3.alloc (.cells #[.int .u64 a.2, .int .u64 a.1] 65)) from HB3.out.alloc HB3.out.size _)
  have hlit : LitA (w3.alloc (.cells #[.int .u64 a.2, .int .u64 a.1] 65)) w3.heap.size a := heap_alloc_new w3 _
  have hzl : z < w0.heap.size := lt_of_block Hbox.out
  have hown : ∀ b, (hs j).ownBlock = some b → b < z := fun b hb => by rw [← Hz.out]; exact H.out.lt b (H.out.sr j b hj hb)
  have HIns := Lib.hid (ins_anyA A n c k w3.heap.size a (sl j) _ (Hrow.out _ HB4.out) Hen.out hb hlit (fun e => by
    have h1 := hown w3.heap.size (by rw [Hev.out]; exact e)
    have h2 := HB3.out.size
    omega) hkl)
  have HSt5 := Lib.hid (show ∀ W, But (fun b => (Value.slice A n c).ownBlock = some b) (w3.alloc (.cells #[.int .u64 a.2, .int .u64 a.1] 65)) W → (W.cell? ⟨z, 0, none⟩ = some (.int .u64 a.2) ∧ W.cell? ⟨z, 1, none⟩ = some (.int .u64 a.1)) ∧ W.cell? ⟨g, 3 + j, none⟩ = some (.slice A n c) from fun W hW => by
    have h1 := HSt.out _ HB4.out
    have hz4 : z < (w3.alloc (.cells #[.int .u64 a.2, .int .u64 a.1] 65)).heap.size := Nat.lt_of_lt_of_le hzl HB4.out.size
    have hg4 : g < (w3.alloc (.cells #[.int .u64 a.2, .int .u64 a.1] 65)).heap.size := Nat.lt_of_lt_of_le ((H0.out.lt g H0.out.sg)) HB4.out.size
    have hnz : ¬ (Value.slice A n c).ownBlock = some z := fun e => by
      have := hown z (by rw [Hev.out]; exact e)
      omega
    have hng : ¬ (Value.slice A n c).ownBlock = some g := fun e => H.out.gr hj (by rw [Hev.out]; exact e) rfl
    exact ⟨⟨(hW.cell (p := ⟨z, 0, none⟩) hz4 hnz).trans h1.1.1, (hW.cell (p := ⟨z, 1, none⟩) hz4 hnz).trans h1.1.2⟩, (hW.cell (p := ⟨g, 3 + j, none⟩) hg4 hng).trans h1.2⟩)
  have HFr5 := Lib.hid (show ∀ W, But (fun b => (Value.slice A n c).ownBlock = some b) (w3.alloc (.cells #[.int .u64 a.2, .int .u64 a.1] 65)) W → W.frozen? ⟨g, 3 + j, none⟩ = false from fun W hW => by
    have hg4 : g < (w3.alloc (.cells #[.int .u64 a.2, .int .u64 a.1] 65)).heap.size := Nat.lt_of_lt_of_le ((H0.out.lt g H0.out.sg)) HB4.out.size
    have hng : ¬ (Value.slice A n c).ownBlock = some g := fun e => H.out.gr hj (by rw [Hev.out]; exact e) rfl
    exact (hW.frozen (p := ⟨g, 3 + j, none⟩) hg4 hng).trans ((H0.out.below HB4.out).free _))
  clear hlit
  refine wp_region_heldL (S := fun W => (W.cell? ⟨z, 0, none⟩ = some (.int .u64 a.2) ∧ W.cell? ⟨z, 1, none⟩ = some (.int .u64 a.1)) ∧ W.cell? ⟨g, 3 + j, none⟩ = some (.slice A n c)) 9 (by kernel_rfl) (HSt.out _ HB2.out.drew) (fun hHeld => ?_)
  rw [ew3] at hHeld ⊢
  refine anyHL_take (i := 0) (oi := { dst := some 12, op := Go.Op.move (Go.Operand.tmp 4), type := 71, pos := "wheel.go:156", after := #[], guard := none }) (v := ?_) rfl (by kernel_rfl) (by kernel_rfl) (by kernel_rfl) (by kernel_rfl) (fun _ _ _ h => h) (Or.inl ⟨by rfl, ?_⟩) (by assumption) ?_
  rotate_left 1
  · intro w' hSw; (go_simp <;> (with_reducible rfl))
  (try simp only [Act.put, List.setIfInBounds_toArray, List.set_cons_zero, List.set_cons_succ])
  refine anyHL_take (i := 1) (oi := { dst := some 13, op := Go.Op.move (Go.Operand.tmp 4), type := 71, pos := "wheel.go:156", after := #[], guard := none }) (v := ?_) rfl (by kernel_rfl) (by kernel_rfl) (by kernel_rfl) (by kernel_rfl) (fun _ _ _ h => h) (Or.inl ⟨by rfl, ?_⟩) (by assumption) ?_
  rotate_left 1
  · intro w' hSw; (go_simp <;> (with_reducible rfl))
  (try simp only [Act.put, List.setIfInBounds_toArray, List.set_cons_zero, List.set_cons_succ])
  refine anyHL_take (i := 2) (oi := { dst := some 14, op := Go.Op.nilCheck (Go.Operand.tmp 13), type := 0, pos := "wheel.go:156", after := #[{ on := 1, ground := Go.Ground.data }], guard := none }) (v := ?_) rfl (by kernel_rfl) (by kernel_rfl) (by kernel_rfl) (by kernel_rfl) (fun _ _ _ h => h) (Or.inl ⟨by rfl, ?_⟩) (by assumption) ?_
  rotate_left 1
  · intro w' hSw; (go_simp <;> (with_reducible rfl))
  (try simp only [Act.put, List.setIfInBounds_toArray, List.set_cons_zero, List.set_cons_succ])
  refine anyHL_take (i := 3) (oi := { dst := some 15, op := Go.Op.load 57 (Go.Operand.tmp 14), type := 57, pos := "wheel.go:156", after := #[{ on := 2, ground := Go.Ground.data }], guard := none }) (v := ?_) rfl (by kernel_rfl) (by kernel_rfl) (by kernel_rfl) (by kernel_rfl) (fun _ _ _ h => h) (Or.inl ⟨by rfl, ?_⟩) (by assumption) ?_
  rotate_left 1
  · intro w' hSw; (go_simp <;> (with_reducible rfl))
  (try simp only [Act.put, List.setIfInBounds_toArray, List.set_cons_zero, List.set_cons_succ])
  refine anyHL_take (i := 4) (oi := { dst := some 16, op := Go.Op.move (Go.Operand.tmp 5), type := 3, pos := "wheel.go:156", after := #[], guard := none }) (v := ?_) rfl (by kernel_rfl) (by kernel_rfl) (by kernel_rfl) (by kernel_rfl) (fun _ _ _ h => h) (Or.inl ⟨by rfl, ?_⟩) (by assumption) ?_
  rotate_left 1
  · intro w' hSw; (go_simp <;> (with_reducible rfl))
  (try simp only [Act.put, List.setIfInBounds_toArray, List.set_cons_zero, List.set_cons_succ])
  refine anyHL_take (i := 5) (oi := { dst := some 17, op := Go.Op.load 65 (Go.Operand.tmp 3), type := 65, pos := "wheel.go:156", after := #[], guard := none }) (v := ?_) rfl (by kernel_rfl) (by kernel_rfl) (by kernel_rfl) (by kernel_rfl) (fun _ _ _ h => h) (Or.inl ⟨by rfl, ?_⟩) (by assumption) ?_
  rotate_left 1
  · intro w' hSw; (go_simp <;> (with_reducible rfl))
  (try simp only [Act.put, List.setIfInBounds_toArray, List.set_cons_zero, List.set_cons_succ])
  refine anyHL_one (i := 6) (o := { dst := some 18, op := Go.Op.buildSlice 57 1 #[(0, Go.Operand.tmp 17)], type := 57, pos := "wheel.go:156", after := #[{ on := 5, ground := Go.Ground.data }], guard := none }) (by kernel_rfl) rfl (by kernel_rfl) (fun K hK => ?_)
  go_simp
  skip
  refine hK.out _ _ ?_ (fun hHeld => ?_)
  · exact HSt.out _ HB4.out
  clear hK K
  (try simp only [Act.put, List.setIfInBounds_toArray, List.set_cons_zero, List.set_cons_succ])
  refine anyHL_one (i := 7) (o := { dst := some 19, op := Go.Op.call { callee := Go.Callee.value (Go.Operand.func 33), args := #[Go.Operand.tmp 15, Go.Operand.tmp 16, Go.Operand.tmp 18], argTypes := #[57, 3, 57] }, type := 57, pos := "wheel.go:156", after := #[{ on := 3, ground := Go.Ground.data }, { on := 4, ground := Go.Ground.data }, { on := 6, ground := Go.Ground.data }], guard := none }) (by kernel_rfl) rfl (by kernel_rfl) (fun K hK => ?_)
  go_simp
  (refine HIns.out.mono ?_; rintro e w5 ⟨A5, c5, rfl, hs5, hB5, ho5⟩; have kj5 := (HSt5.out w5 hB5).2; have fr5 := HFr5.out w5 hB5)
  refine hK.out _ _ ?_ (fun hHeld => ?_)
  · exact HSt5.out w5 hB5
  clear hK K
  (try simp only [Act.put, List.setIfInBounds_toArray, List.set_cons_zero, List.set_cons_succ])
  refine anyHL_take (i := 8) (oi := { dst := some 20, op := Go.Op.nilCheck (Go.Operand.tmp 12), type := 0, pos := "wheel.go:156", after := #[{ on := 0, ground := Go.Ground.data }, { on := 0, ground := Go.Ground.phase }, { on := 1, ground := Go.Ground.phase }, { on := 2, ground := Go.Ground.phase }, { on := 3, ground := Go.Ground.phase }, { on := 4, ground := Go.Ground.phase }, { on := 5, ground := Go.Ground.phase }, { on := 6, ground := Go.Ground.phase }, { on := 7, ground := Go.Ground.phase }], guard := none }) (v := ?_) rfl (by kernel_rfl) (by kernel_rfl) (by kernel_rfl) (by kernel_rfl) (fun _ _ _ h => h) (Or.inl ⟨by rfl, ?_⟩) (by assumption) ?_
  rotate_left 1
  · intro w' hSw; (go_simp <;> (with_reducible rfl))
  (try simp only [Act.put, List.setIfInBounds_toArray, List.set_cons_zero, List.set_cons_succ])
  refine anyHL_last (o := { dst := none, op := Go.Op.store 57 (Go.Operand.tmp 20) (Go.Operand.tmp 19), type := 0, pos := "wheel.go:156", after := #[{ on := 8, ground := Go.Ground.data }, { on := 7, ground := Go.Ground.data }, { on := 7, ground := Go.Ground.chain }, { on := 0, ground := Go.Ground.phase }, { on := 1, ground := Go.Ground.phase }, { on := 2, ground := Go.Ground.phase }, { on := 3, ground := Go.Ground.phase }, { on := 4, ground := Go.Ground.phase }, { on := 5, ground := Go.Ground.phase }, { on := 6, ground := Go.Ground.phase }, { on := 7, ground := Go.Ground.phase }], guard := none }) (by kernel_rfl) rfl (by kernel_rfl) (fun K hK => ?_)
  go_simp
  skip
  refine hK.out _ _ ?_
  clear hK K
  (try simp only [Act.put, List.setIfInBounds_toArray, List.set_cons_zero, List.set_cons_succ])
  go_wp2_with fail
  obtain ⟨hM6, hB6, hS6⟩ := (H0.out.below HB4.out).lay hj (by rw [Hev.out]; exact hB5) hs5 (by rw [Hev.out]; exact ho5)
  obtain ⟨w6, ew6⟩ : ∃ w6, w5.setCell ⟨g, 3 + j, none⟩ (.slice A5 (insL k a (sl j)).length c5) = w6 := ⟨_, rfl⟩
  have hzg : z ≠ g := by have := H.out.lt g H.out.sg; rw [Hz.out] at this; omega
  have hzm : z ≠ m := by have := H.out.lt m H.out.sm; rw [Hz.out] at this; omega
  have hz5 : z < w5.heap.size := hB5.lt (Nat.lt_of_lt_of_le hzl HB4.out.size)
  have h56 : But (fun b => b = g) w5 w6 := by rw [← ew6]; exact (But.refl (fun k => k = g) w5).setCell (p := ⟨g, 3 + j, none⟩) rfl _
  rw [ew6] at hM6 hB6 ⊢
  have hx6 := (HSt5.out w5 hB5).1
  have HS3 := Lib.hid (show (w6.cell? ⟨z, 0, none⟩ = some (.int .u64 a.2) ∧ w6.cell? ⟨z, 1, none⟩ = some (.int .u64 a.1)) ∧ w6.cell? ⟨g, 2, none⟩ = some (.map (some m)) from
    ⟨⟨(h56.cell (p := ⟨z, 0, none⟩) hz5 hzg).trans hx6.1, (h56.cell (p := ⟨z, 1, none⟩) hz5 hzg).trans hx6.2⟩, hM6.k2⟩)
  obtain ⟨w7, ew7⟩ : ∃ w7, w6.drew = w7 := ⟨_, rfl⟩
  have hM7 := hM6.but (T := fun _ => False) (But.refl (fun _ => False) w6).drew (fun _ _ x => x)
  have hB67 : But S w6 w6.drew := (But.refl S w6).drew
  rw [ew7] at hM7 hB67
  obtain ⟨w8, hr8, hm8, hB8⟩ := hM7.map.put_u a.1 (.int .u64 a.2)
  have hz7 : z < w7.heap.size := by rw [← ew7]; exact h56.lt hz5
  have HS8 := Lib.hid (show (w8.cell? ⟨z, 0, none⟩ = some (.int .u64 a.2) ∧ w8.cell? ⟨z, 1, none⟩ = some (.int .u64 a.1)) ∧ w8.cell? ⟨g, 2, none⟩ = some (.map (some m)) from by
    have hx := HS3.out
    rw [← World.cell?_drew w6, ← World.cell?_drew w6, ← World.cell?_drew w6, ew7] at hx
    exact ⟨⟨(hB8.cell (p := ⟨z, 0, none⟩) hz7 hzm).trans hx.1.1, (hB8.cell (p := ⟨z, 1, none⟩) hz7 hzm).trans hx.1.2⟩, (hB8.cell (p := ⟨g, 2, none⟩) (hM7.lt g (.inl H.out.sg)) hM7.gm).trans hx.2⟩)
  have HL := Lib.hid (show Leaves S g m ck (upd sl j (insL k a (sl j))) (fun e => e = a.1 ∨ K e) (fun e => if e = a.1 then .int .u64 a.2 else R e) (.tuple #[]) w (.returned (.tuple #[])) w8 from by
    have hb04 : Below w.heap.size w (w3.alloc (.cells #[.int .u64 a.2, .int .u64 a.1] 65)) := below_trans Hb0.out HB4.out
    refine ⟨rfl, _, _, _, hM7.turn hB8 hm8, (((But.of hb04).trans hB6).trans hB67).trans (hB8.mono (fun k _ e => e ▸ H.out.sm)), fun k hk => ?_⟩
    rcases hS6 k hk with h1 | h1
    · exact .inl h1
    · exact .inr (Nat.le_trans hb04.size h1))
  have Hr8 := Lib.hid hr8
  have Ew7 := Lib.hid ew7
  clear hM6 hB6 hS6 h56 hx6 hM7 hB67 hm8 hB8 hr8 hs5 hB5 ho5 kj5 fr5 ew6 ew7
  refine wp_region_held_drew (S := fun W => (W.cell? ⟨z, 0, none⟩ = some (.int .u64 a.2) ∧ W.cell? ⟨z, 1, none⟩ = some (.int .u64 a.1)) ∧ W.cell? ⟨g, 2, none⟩ = some (.map (some m))) (by kernel_rfl) (by simpa using HS3.out) (fun hHeld => ?_)
  rw [Ew7.out] at hHeld ⊢
  refine wpAnyH_take (i := 0) (oi := { dst := some 21, op := Go.Op.move (Go.Operand.tmp 0), type := 24, pos := "wheel.go:157", after := #[], guard := none }) (v := ?_) rfl (by kernel_rfl) (by kernel_rfl) (by kernel_rfl) (fun _ _ _ h => h) (Or.inl ⟨by rfl, ?_⟩) (by assumption) ?_
  rotate_left 1
  · intro w' hSw; (go_simp <;> (with_reducible rfl))
  (try simp only [Act.put, List.setIfInBounds_toArray, List.set_cons_zero, List.set_cons_succ])
  refine wpAnyH_take (i := 1) (oi := { dst := some 22, op := Go.Op.nilCheck (Go.Operand.tmp 21), type := 0, pos := "wheel.go:157", after := #[{ on := 0, ground := Go.Ground.data }], guard := none }) (v := ?_) rfl (by kernel_rfl) (by kernel_rfl) (by kernel_rfl) (fun _ _ _ h => h) (Or.inl ⟨by rfl, ?_⟩) (by assumption) ?_
  rotate_left 1
  · intro w' hSw; (go_simp <;> (with_reducible rfl))
  (try simp only [Act.put, List.setIfInBounds_toArray, List.set_cons_zero, List.set_cons_succ])
  refine wpAnyH_take (i := 2) (oi := { dst := some 23, op := Go.Op.fieldAddr 60 (Go.Operand.tmp 22) 2, type := 0, pos := "wheel.go:157", after := #[{ on := 1, ground := Go.Ground.data }], guard := none }) (v := ?_) rfl (by kernel_rfl) (by kernel_rfl) (by kernel_rfl) (fun _ _ _ h => h) (Or.inl ⟨by rfl, ?_⟩) (by assumption) ?_
  rotate_left 1
  · intro w' hSw; (go_simp <;> (with_reducible rfl))
  (try simp only [Act.put, List.setIfInBounds_toArray, List.set_cons_zero, List.set_cons_succ])
  refine wpAnyH_take (i := 3) (oi := { dst := some 24, op := Go.Op.load 51 (Go.Operand.tmp 23), type := 51, pos := "wheel.go:157", after := #[{ on := 2, ground := Go.Ground.data }], guard := none }) (v := ?_) rfl (by kernel_rfl) (by kernel_rfl) (by kernel_rfl) (fun _ _ _ h => h) (Or.inl ⟨by rfl, ?_⟩) (by assumption) ?_
  rotate_left 1
  · intro w' hSw; (go_simp <;> (with_reducible rfl))
  (try simp only [Act.put, List.setIfInBounds_toArray, List.set_cons_zero, List.set_cons_succ])
  refine wpAnyH_take (i := 4) (oi := { dst := some 25, op := Go.Op.fieldAddr 65 (Go.Operand.tmp 3) 1, type := 0, pos := "wheel.go:157", after := #[], guard := none }) (v := ?_) rfl (by kernel_rfl) (by kernel_rfl) (by kernel_rfl) (fun _ _ _ h => h) (Or.inl ⟨by rfl, ?_⟩) (by assumption) ?_
  rotate_left 1
  · intro w' hSw; (go_simp <;> (with_reducible rfl))
  (try simp only [Act.put, List.setIfInBounds_toArray, List.set_cons_zero, List.set_cons_succ])
  refine wpAnyH_take (i := 5) (oi := { dst := some 26, op := Go.Op.load 23 (Go.Operand.tmp 25), type := 23, pos := "wheel.go:157", after := #[{ on := 4, ground := Go.Ground.data }], guard := none }) (v := ?_) rfl (by kernel_rfl) (by kernel_rfl) (by kernel_rfl) (fun _ _ _ h => h) (Or.inl ⟨by rfl, ?_⟩) (by assumption) ?_
  rotate_left 1
  · intro w' hSw; (go_simp <;> (with_reducible rfl))
  (try simp only [Act.put, List.setIfInBounds_toArray, List.set_cons_zero, List.set_cons_succ])
  refine wpAnyH_take (i := 6) (oi := { dst := some 27, op := Go.Op.fieldAddr 65 (Go.Operand.tmp 3) 0, type := 0, pos := "wheel.go:157", after := #[], guard := none }) (v := ?_) rfl (by kernel_rfl) (by kernel_rfl) (by kernel_rfl) (fun _ _ _ h => h) (Or.inl ⟨by rfl, ?_⟩) (by assumption) ?_
  rotate_left 1
  · intro w' hSw; (go_simp <;> (with_reducible rfl))
  (try simp only [Act.put, List.setIfInBounds_toArray, List.set_cons_zero, List.set_cons_succ])
  refine wpAnyH_take (i := 7) (oi := { dst := some 28, op := Go.Op.load 23 (Go.Operand.tmp 27), type := 23, pos := "wheel.go:157", after := #[{ on := 6, ground := Go.Ground.data }], guard := none }) (v := ?_) rfl (by kernel_rfl) (by kernel_rfl) (by kernel_rfl) (fun _ _ _ h => h) (Or.inl ⟨by rfl, ?_⟩) (by assumption) ?_
  rotate_left 1
  · intro w' hSw; (go_simp <;> (with_reducible rfl))
  (try simp only [Act.put, List.setIfInBounds_toArray, List.set_cons_zero, List.set_cons_succ])
  have hr8 := Hr8.out
  refine wpAnyH_ready (rs := [8]) (by kernel_rfl) (by simp) ?_
  refine AllReadyH.cons (o := { dst := none, op := Go.Op.mapUpdate 51 (Go.Operand.tmp 24) (Go.Operand.tmp 26) (Go.Operand.tmp 28), type := 0, pos := "wheel.go:157", after := #[{ on := 3, ground := Go.Ground.data }, { on := 5, ground := Go.Ground.data }, { on := 7, ground := Go.Ground.data }, { on := 0, ground := Go.Ground.phase }, { on := 1, ground := Go.Ground.phase }, { on := 2, ground := Go.Ground.phase }, { on := 3, ground := Go.Ground.phase }, { on := 4, ground := Go.Ground.phase }, { on := 5, ground := Go.Ground.phase }, { on := 6, ground := Go.Ground.phase }, { on := 7, ground := Go.Ground.phase }], guard := none }) rfl (fun K hK => ?_) AllReadyH.nil
  go_simp
  skip
  refine hK.out _ _ ?_ (fun hHeld => ?_)
  · exact HS8.out
  clear hK K
  (try simp only [Act.put, List.setIfInBounds_toArray, List.set_cons_zero, List.set_cons_succ])
  refine wpAnyH_done (by kernel_rfl) ?_ _
  clear hHeld
  go_wp2_with fail
  go_end0
  exact HL.out
end Go.Proofs.Ytlpgabbnldalhaa
