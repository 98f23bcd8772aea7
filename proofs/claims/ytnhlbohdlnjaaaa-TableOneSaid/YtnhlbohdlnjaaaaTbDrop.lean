/-
  The contracts of package table's drop and makeRoom.
-/
import Derived.Test.YtnhlbohdlnjaaaaTbLead
namespace Go.Proofs.Ytnhlbohdlnjaaaa
set_option maxRecDepth 10000
open Go.RowKit
set_option linter.unusedSimpArgs false
set_option linter.unusedVariables false

def DropsM (S : Nat → Prop) (g : Nat) (M last : Int) (L : TL) (mi mo : Nat) (KI : Tu → Prop) (RI : Tu → Value) (KO : Tu → Prop) (RO : Tu → Value) (v : Value) (w : World) (e : Ending) (w' : World) : Prop :=
  e = .returned v ∧ ∃ S' u', TMem w' S' g M last L mi mo u' KI RI KO RO ∧ But S w w' ∧ ∀ k, S' k → S k ∨ w.heap.size ≤ k
set_option maxHeartbeats 2000000 in
theorem drop_any (S : Nat → Prop) (g : Nat) (M last : Int) (L : TL) (mi mo k : Nat) (u : Value) (KI : Tu → Prop) (RI : Tu → Value) (KO : Tu → Prop) (RO : Tu → Value) (w : World) (h : TMem w S g M last L mi mo u KI RI KO RO) (hk : k < L.length) (hn : L.length ≤ 1000000) :
    Calls Try.prog 41 #[.pointer (some ⟨g, 0, none⟩), .int .i64 (k : Int)] w
      (DropsM S g M last (L.eraseIdx k) mi mo (fun a => a ≠ (L.getD k f0).i ∧ KI a) RI (fun a => a ≠ (L.getD k f0).o ∧ KO a) RO (.tuple #[]) w) := by
  obtain ⟨n, en⟩ : ∃ n, L.length = n := ⟨_, rfl⟩
  obtain ⟨A, c, rfl⟩ := h.row.form
  have hrow := h.row
  rw [en] at hrow hk hn
  obtain ⟨gu, o, rfl, hidx, hfl, hgu⟩ := fl_index_t hrow en hk
  have k5 := h.k5
  rw [en] at k5
  have h := h
  rw [en] at h
  obtain ⟨f, ef⟩ : ∃ f, L.getD k f0 = f := ⟨_, rfl⟩
  rw [ef] at hfl ⊢
  obtain ⟨p, ep⟩ : ∃ p, o + k * 12 = p := ⟨_, rfl⟩
  rw [ep] at hidx hfl
  obtain ⟨w0, ew⟩ : ∃ w0, w.alloc (.cells #[.int .u64 f.id, .int .u8 f.i.pr, .int .u32 f.i.sr, .int .u32 f.i.ds, .int .u16 f.i.sp, .int .u16 f.i.dp, .int .u8 f.o.pr, .int .u32 f.o.sr, .int .u32 f.o.ds, .int .u16 f.o.sp, .int .u16 f.o.dp, .bool f.em] 51) = w0 := ⟨_, rfl⟩
  obtain ⟨z, hz⟩ : ∃ z, w.heap.size = z := ⟨_, rfl⟩
  have hb0 : Below w.heap.size w w0 := by rw [← ew]; exact (Below.refl _ _).alloc (Nat.le_refl _) _
  have hk0 : w0.heap[z]? = some (.cells (flV f).toArray 51 (0, 0)) := by rw [← ew, ← hz]; exact heap_alloc_new w _
  have h0 := h.below hb0
  have hSz : ∀ b, S b → b ≠ z := fun b hb e => by have := h.lt b hb; omega
  -- regions 1 and 2
  obtain ⟨wd, ewd⟩ : ∃ wd, w0.drew = wd := ⟨_, rfl⟩
  have hbd : But (fun _ => False) w0 wd := by rw [← ewd]; exact (But.refl (fun _ => False) w0).drew
  have hd := h0.but hbd (fun _ _ h => h)
  have hkd := hbd.blk hk0 (fun x => x)
  have fd := FlAt.box f hkd
  obtain ⟨w1, hr1, hm1, hB1⟩ := hd.inn.del_u f.i 0
  have h1 := hd.turnI hB1 hm1
  have hk1 := hB1.blk hkd (fun e => hSz mi h.si e.symm)
  have f1 := FlAt.box f hk1
  obtain ⟨we, ewe⟩ : ∃ we, w1.drew = we := ⟨_, rfl⟩
  have hbe : But (fun _ => False) w1 we := by rw [← ewe]; exact (But.refl (fun _ => False) w1).drew
  have he := h1.but hbe (fun _ _ h => h)
  have hke := hbe.blk hk1 (fun x => x)
  have fe := FlAt.box f hke
  obtain ⟨w2, hr2, hm2, hB2⟩ := he.out.del_u f.o 0
  have h2 := he.turnO hB2 hm2
  have hk2 := hB2.blk hke (fun e => hSz mo h.so e.symm)
  have f2 := FlAt.box f hk2
  have HSd := Lib.hid (show wd.cell? ⟨g, 3, none⟩ = some (.map (some mi)) ∧ (wd.cell? ⟨z, 1, none⟩ = some (.int .u8 f.i.pr) ∧ wd.cell? ⟨z, 2, none⟩ = some (.int .u32 f.i.sr) ∧ wd.cell? ⟨z, 3, none⟩ = some (.int .u32 f.i.ds) ∧ wd.cell? ⟨z, 4, none⟩ = some (.int .u16 f.i.sp) ∧ wd.cell? ⟨z, 5, none⟩ = some (.int .u16 f.i.dp)) from ⟨hd.k3, blk_cell hkd 1, blk_cell hkd 2, blk_cell hkd 3, blk_cell hkd 4, blk_cell hkd 5⟩)
  have HS1 := Lib.hid (show w1.cell? ⟨g, 3, none⟩ = some (.map (some mi)) ∧ (w1.cell? ⟨z, 1, none⟩ = some (.int .u8 f.i.pr) ∧ w1.cell? ⟨z, 2, none⟩ = some (.int .u32 f.i.sr) ∧ w1.cell? ⟨z, 3, none⟩ = some (.int .u32 f.i.ds) ∧ w1.cell? ⟨z, 4, none⟩ = some (.int .u16 f.i.sp) ∧ w1.cell? ⟨z, 5, none⟩ = some (.int .u16 f.i.dp)) from ⟨h1.k3, blk_cell hk1 1, blk_cell hk1 2, blk_cell hk1 3, blk_cell hk1 4, blk_cell hk1 5⟩)
  have HSe := Lib.hid (show we.cell? ⟨g, 4, none⟩ = some (.map (some mo)) ∧ (we.cell? ⟨z, 6, none⟩ = some (.int .u8 f.o.pr) ∧ we.cell? ⟨z, 7, none⟩ = some (.int .u32 f.o.sr) ∧ we.cell? ⟨z, 8, none⟩ = some (.int .u32 f.o.ds) ∧ we.cell? ⟨z, 9, none⟩ = some (.int .u16 f.o.sp) ∧ we.cell? ⟨z, 10, none⟩ = some (.int .u16 f.o.dp)) from ⟨he.k4, blk_cell hke 6, blk_cell hke 7, blk_cell hke 8, blk_cell hke 9, blk_cell hke 10⟩)
  have HS2 := Lib.hid (show w2.cell? ⟨g, 4, none⟩ = some (.map (some mo)) ∧ (w2.cell? ⟨z, 6, none⟩ = some (.int .u8 f.o.pr) ∧ w2.cell? ⟨z, 7, none⟩ = some (.int .u32 f.o.sr) ∧ w2.cell? ⟨z, 8, none⟩ = some (.int .u32 f.o.ds) ∧ w2.cell? ⟨z, 9, none⟩ = some (.int .u16 f.o.sp) ∧ w2.cell? ⟨z, 10, none⟩ = some (.int .u16 f.o.dp)) from ⟨h2.k4, blk_cell hk2 6, blk_cell hk2 7, blk_cell hk2 8, blk_cell hk2 9, blk_cell hk2 10⟩)
  have hB02 : But S w w2 := ((((But.of hb0).trans (hbd.mono (fun _ _ h => h.elim))).trans (hB1.mono (fun k _ e => e ▸ h.si))).trans (hbe.mono (fun _ _ h => h.elim))).trans (hB2.mono (fun k _ e => e ▸ h.so))
  have hr2w : RowV w2 51 12 gu o n (flatF L) c := by
    rcases h2.row with ⟨e, _⟩ | ⟨g', o', c', e, hr⟩
    · cases e
    · injection e with e1 _ e3
      injection e1 with e1
      injection e1 with e1 e2
      subst e1; subst e2; subst e3
      rw [en] at hr
      exact hr
  have k52 := h2.k5
  have Hdel := Lib.hid (del_anyF gu o c k n (n - k - 1) ((k : Int) + 1) L w2 hr2w en hn (by omega) (by omega))
  have hsz2 := hB02.size
  have Hfin := Lib.hid (fun (w3 : World) (A : Option Addr) (c3 : Nat) (hs : SlV w3 51 12 (.slice A (L.eraseIdx k).length c3) (L.eraseIdx k).length (flatF (L.eraseIdx k))) (hB : But (fun b => (Value.slice (some ⟨gu, o, none⟩) n c).ownBlock = some b) w2 w3) (ho : ∀ b, (Value.slice A (L.eraseIdx k).length c3).ownBlock = some b → (Value.slice (some ⟨gu, o, none⟩) n c).ownBlock = some b ∨ w2.heap.size ≤ b) =>
    show (w3.cell? ⟨g, 5, none⟩ = some (.slice (some ⟨gu, o, none⟩) n c) ∧ w3.frozen? ⟨g, 5, none⟩ = false) ∧ DropsM S g M last (L.eraseIdx k) mi mo (fun a => a ≠ f.i ∧ KI a) RI (fun a => a ≠ f.o ∧ KO a) RO (.tuple #[]) w (.returned (.tuple #[])) (w3.setCell ⟨g, 5, none⟩ (.slice A (L.eraseIdx k).length c3)) from by
      obtain ⟨r1, r2, r3, r4, r5⟩ := h2.lay hB hs ho
      refine ⟨⟨r5, r4⟩, rfl, _, _, r1, hB02.trans r2, fun b hb => ?_⟩
      rcases r3 b hb with e | e
      · exact .inl e
      · exact .inr (by omega))
  obtain ⟨c0, c1, c2, c3, c4, c5, c6, c7, c8, c9, ca, cb⟩ := hfl
  have Hr1 := Lib.hid hr1
  have Hr2 := Lib.hid hr2
  have Ew := Lib.hid ew
  have Ewd := Lib.hid ewd
  have Ewe := Lib.hid ewe
  have Hz := Lib.hid hz
  have k0 : (0 : Int) ≤ (k : Int) := by omega
  have k1 : (k : Int) < (n : Int) := by omega
  have hwr : IntKind.i64.wrap ((k : Int) + 1) = (k : Int) + 1 := by rw [IntKind.wrap_i64]; omega
  clear h h0 hd fd h1 f1 he fe h2 f2 hB02 hr1 hm1 hB1 hr2 hm2 hB2 hb0 hk0 hbd hkd hk1 hbe hke hk2 ew ewd ewe hz ef hSz hrow hr2w hsz2 en ep hk hgu
  go_enter Try.func41, Try.ntmps41
  go_upto_region 1 with (fail)
  rw [Ew.out]
  try rw [Hz.out]
  refine wp_region_held_drew (S := fun W => W.cell? ⟨g, 3, none⟩ = some (.map (some mi)) ∧ (W.cell? ⟨z, 1, none⟩ = some (.int .u8 f.i.pr) ∧ W.cell? ⟨z, 2, none⟩ = some (.int .u32 f.i.sr) ∧ W.cell? ⟨z, 3, none⟩ = some (.int .u32 f.i.ds) ∧ W.cell? ⟨z, 4, none⟩ = some (.int .u16 f.i.sp) ∧ W.cell? ⟨z, 5, none⟩ = some (.int .u16 f.i.dp))) (by kernel_rfl) (by rw [Ewd.out]; exact HSd.out) (fun hHeld => ?_)
  rw [Ewd.out] at hHeld ⊢
  clear k5 hidx c0 c1 c2 c3 c4 c5 c6 c7 c8 c9 ca cb
  refine wpAnyH_take (i := 0) (oi := { dst := some 12, op := Go.Op.move (Go.Operand.tmp 0), type := 23, pos := "table.go:228", after := #[], guard := none }) (v := ?_) rfl (by kernel_rfl) (by kernel_rfl) (by kernel_rfl) (fun _ _ _ h => h) (Or.inl ⟨by rfl, ?_⟩) (by assumption) ?_
  rotate_left 1
  · intro w' hSw; (go_simp <;> (with_reducible rfl))
  (try simp only [Act.put, List.setIfInBounds_toArray, List.set_cons_zero, List.set_cons_succ])
  refine wpAnyH_take (i := 1) (oi := { dst := some 13, op := Go.Op.nilCheck (Go.Operand.tmp 12), type := 0, pos := "table.go:228", after := #[{ on := 0, ground := Go.Ground.data }], guard := none }) (v := ?_) rfl (by kernel_rfl) (by kernel_rfl) (by kernel_rfl) (fun _ _ _ h => h) (Or.inl ⟨by rfl, ?_⟩) (by assumption) ?_
  rotate_left 1
  · intro w' hSw; (go_simp <;> (with_reducible rfl))
  (try simp only [Act.put, List.setIfInBounds_toArray, List.set_cons_zero, List.set_cons_succ])
  refine wpAnyH_take (i := 2) (oi := { dst := some 14, op := Go.Op.fieldAddr 72 (Go.Operand.tmp 13) 3, type := 0, pos := "table.go:228", after := #[{ on := 1, ground := Go.Ground.data }], guard := none }) (v := ?_) rfl (by kernel_rfl) (by kernel_rfl) (by kernel_rfl) (fun _ _ _ h => h) (Or.inl ⟨by rfl, ?_⟩) (by assumption) ?_
  rotate_left 1
  · intro w' hSw; (go_simp <;> (with_reducible rfl))
  (try simp only [Act.put, List.setIfInBounds_toArray, List.set_cons_zero, List.set_cons_succ])
  refine wpAnyH_take (i := 3) (oi := { dst := some 15, op := Go.Op.load 70 (Go.Operand.tmp 14), type := 70, pos := "table.go:228", after := #[{ on := 2, ground := Go.Ground.data }], guard := none }) (v := ?_) rfl (by kernel_rfl) (by kernel_rfl) (by kernel_rfl) (fun _ _ _ h => h) (Or.inl ⟨by rfl, ?_⟩) (by assumption) ?_
  rotate_left 1
  · intro w' hSw; (go_simp <;> (with_reducible rfl))
  (try simp only [Act.put, List.setIfInBounds_toArray, List.set_cons_zero, List.set_cons_succ])
  refine wpAnyH_take (i := 4) (oi := { dst := some 16, op := Go.Op.fieldAddr 51 (Go.Operand.tmp 4) 1, type := 0, pos := "table.go:228", after := #[], guard := none }) (v := ?_) rfl (by kernel_rfl) (by kernel_rfl) (by kernel_rfl) (fun _ _ _ h => h) (Or.inl ⟨by rfl, ?_⟩) (by assumption) ?_
  rotate_left 1
  · intro w' hSw; (go_simp <;> (with_reducible rfl))
  (try simp only [Act.put, List.setIfInBounds_toArray, List.set_cons_zero, List.set_cons_succ])
  refine wpAnyH_take (i := 5) (oi := { dst := some 17, op := Go.Op.load 37 (Go.Operand.tmp 16), type := 37, pos := "table.go:228", after := #[{ on := 4, ground := Go.Ground.data }], guard := none }) (v := ?_) rfl (by kernel_rfl) (by kernel_rfl) (by kernel_rfl) (fun _ _ _ h => h) (Or.inl ⟨by rfl, ?_⟩) (by assumption) ?_
  rotate_left 1
  · intro w' hSw; (go_simp <;> (with_reducible rfl))
  (try simp only [Act.put, List.setIfInBounds_toArray, List.set_cons_zero, List.set_cons_succ])
  have hr1 := Hr1.out
  refine wpAnyH_ready (rs := [6]) (by kernel_rfl) (by simp) ?_
  refine AllReadyH.cons (o := { dst := none, op := Go.Op.call { callee := Go.Callee.builtin Go.Builtin.delete, args := #[Go.Operand.tmp 15, Go.Operand.tmp 17], argTypes := #[70, 37] }, type := 0, pos := "table.go:228", after := #[{ on := 3, ground := Go.Ground.data }, { on := 5, ground := Go.Ground.data }], guard := none }) rfl (fun K hK => ?_) AllReadyH.nil
  go_simp
  skip
  refine hK.out _ _ ?_ (fun hHeld => ?_)
  · exact HS1.out
  clear hK K
  (try simp only [Act.put, List.setIfInBounds_toArray, List.set_cons_zero, List.set_cons_succ])
  refine wpAnyH_done (by kernel_rfl) ?_ _
  clear hHeld
  go_wp2_with fail
  refine wp_region_held_drew (S := fun W => W.cell? ⟨g, 4, none⟩ = some (.map (some mo)) ∧ (W.cell? ⟨z, 6, none⟩ = some (.int .u8 f.o.pr) ∧ W.cell? ⟨z, 7, none⟩ = some (.int .u32 f.o.sr) ∧ W.cell? ⟨z, 8, none⟩ = some (.int .u32 f.o.ds) ∧ W.cell? ⟨z, 9, none⟩ = some (.int .u16 f.o.sp) ∧ W.cell? ⟨z, 10, none⟩ = some (.int .u16 f.o.dp))) (by kernel_rfl) (by rw [Ewe.out]; exact HSe.out) (fun hHeld => ?_)
  rw [Ewe.out] at hHeld ⊢
  refine wpAnyH_take (i := 0) (oi := { dst := some 18, op := Go.Op.move (Go.Operand.tmp 0), type := 23, pos := "table.go:229", after := #[], guard := none }) (v := ?_) rfl (by kernel_rfl) (by kernel_rfl) (by kernel_rfl) (fun _ _ _ h => h) (Or.inl ⟨by rfl, ?_⟩) (by assumption) ?_
  rotate_left 1
  · intro w' hSw; (go_simp <;> (with_reducible rfl))
  (try simp only [Act.put, List.setIfInBounds_toArray, List.set_cons_zero, List.set_cons_succ])
  refine wpAnyH_take (i := 1) (oi := { dst := some 19, op := Go.Op.nilCheck (Go.Operand.tmp 18), type := 0, pos := "table.go:229", after := #[{ on := 0, ground := Go.Ground.data }], guard := none }) (v := ?_) rfl (by kernel_rfl) (by kernel_rfl) (by kernel_rfl) (fun _ _ _ h => h) (Or.inl ⟨by rfl, ?_⟩) (by assumption) ?_
  rotate_left 1
  · intro w' hSw; (go_simp <;> (with_reducible rfl))
  (try simp only [Act.put, List.setIfInBounds_toArray, List.set_cons_zero, List.set_cons_succ])
  refine wpAnyH_take (i := 2) (oi := { dst := some 20, op := Go.Op.fieldAddr 72 (Go.Operand.tmp 19) 4, type := 0, pos := "table.go:229", after := #[{ on := 1, ground := Go.Ground.data }], guard := none }) (v := ?_) rfl (by kernel_rfl) (by kernel_rfl) (by kernel_rfl) (fun _ _ _ h => h) (Or.inl ⟨by rfl, ?_⟩) (by assumption) ?_
  rotate_left 1
  · intro w' hSw; (go_simp <;> (with_reducible rfl))
  (try simp only [Act.put, List.setIfInBounds_toArray, List.set_cons_zero, List.set_cons_succ])
  refine wpAnyH_take (i := 3) (oi := { dst := some 21, op := Go.Op.load 70 (Go.Operand.tmp 20), type := 70, pos := "table.go:229", after := #[{ on := 2, ground := Go.Ground.data }], guard := none }) (v := ?_) rfl (by kernel_rfl) (by kernel_rfl) (by kernel_rfl) (fun _ _ _ h => h) (Or.inl ⟨by rfl, ?_⟩) (by assumption) ?_
  rotate_left 1
  · intro w' hSw; (go_simp <;> (with_reducible rfl))
  (try simp only [Act.put, List.setIfInBounds_toArray, List.set_cons_zero, List.set_cons_succ])
  refine wpAnyH_take (i := 4) (oi := { dst := some 22, op := Go.Op.fieldAddr 51 (Go.Operand.tmp 4) 2, type := 0, pos := "table.go:229", after := #[], guard := none }) (v := ?_) rfl (by kernel_rfl) (by kernel_rfl) (by kernel_rfl) (fun _ _ _ h => h) (Or.inl ⟨by rfl, ?_⟩) (by assumption) ?_
  rotate_left 1
  · intro w' hSw; (go_simp <;> (with_reducible rfl))
  (try simp only [Act.put, List.setIfInBounds_toArray, List.set_cons_zero, List.set_cons_succ])
  refine wpAnyH_take (i := 5) (oi := { dst := some 23, op := Go.Op.load 37 (Go.Operand.tmp 22), type := 37, pos := "table.go:229", after := #[{ on := 4, ground := Go.Ground.data }], guard := none }) (v := ?_) rfl (by kernel_rfl) (by kernel_rfl) (by kernel_rfl) (fun _ _ _ h => h) (Or.inl ⟨by rfl, ?_⟩) (by assumption) ?_
  rotate_left 1
  · intro w' hSw; (go_simp <;> (with_reducible rfl))
  (try simp only [Act.put, List.setIfInBounds_toArray, List.set_cons_zero, List.set_cons_succ])
  have hr2 := Hr2.out
  refine wpAnyH_ready (rs := [6]) (by kernel_rfl) (by simp) ?_
  refine AllReadyH.cons (o := { dst := none, op := Go.Op.call { callee := Go.Callee.builtin Go.Builtin.delete, args := #[Go.Operand.tmp 21, Go.Operand.tmp 23], argTypes := #[70, 37] }, type := 0, pos := "table.go:229", after := #[{ on := 3, ground := Go.Ground.data }, { on := 5, ground := Go.Ground.data }], guard := none }) rfl (fun K hK => ?_) AllReadyH.nil
  go_simp
  skip
  refine hK.out _ _ ?_ (fun hHeld => ?_)
  · exact HS2.out
  clear hK K
  (try simp only [Act.put, List.setIfInBounds_toArray, List.set_cons_zero, List.set_cons_succ])
  refine wpAnyH_done (by kernel_rfl) ?_ _
  clear hHeld
  go_wp2_with fail
  refine Hdel.out.mono ?_
  rintro e w3 ⟨A3, c3, rfl, hs3, hB3, ho3⟩
  obtain ⟨⟨r1, r2⟩, r3⟩ := Hfin.out w3 A3 c3 hs3 hB3 ho3
  have HF := Lib.hid r3
  clear hs3 hB3 ho3 r3
  go_wp2_with fail
  go_end0
  exact HF.out
end Go.Proofs.Ytnhlbohdlnjaaaa
