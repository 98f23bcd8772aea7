/-
  The contract of package table's lead.
-/
import Derived.Test.YtnhlbohdlnjaaaaTbTurn
namespace Go.Proofs.Ytnhlbohdlnjaaaa
set_option maxRecDepth 10000
open Go.RowKit
set_option linter.unusedSimpArgs false
set_option linter.unusedVariables false

/-- The outer map behind a lead. -/
def KL (e t : Tu) (K : Tu → Prop) : Tu → Prop := if t = zT then fun a => a ≠ e ∧ K a else fun a => a = t ∨ (a ≠ e ∧ K a)
def RL (t : Tu) (id : Int) (R : Tu → Value) : Tu → Value := if t = zT then R else fun a => if a = t then .int .u64 id else R a
def LeadsM (S : Nat → Prop) (g : Nat) (M last : Int) (L : TL) (mi mo : Nat) (u : Value) (KI : Tu → Prop) (RI : Tu → Value) (KO : Tu → Prop) (RO : Tu → Value) (w : World) (e : Ending) (w' : World) : Prop :=
  e = .returned (.tuple #[]) ∧ TMem w' S g M last L mi mo u KI RI KO RO ∧ But S w w'
set_option maxHeartbeats 2000000 in
theorem lead_any (S : Nat → Prop) (g : Nat) (M last : Int) (L : TL) (mi mo gu o n c p k : Nat) (KI : Tu → Prop) (RI : Tu → Value) (KO : Tu → Prop) (RO : Tu → Value) (x : Tu) (w : World) (h : TMem w S g M last L mi mo (.slice (some ⟨gu, o, none⟩) n c) KI RI KO RO) (hn : L.length = n) (hk : k < n) (hp : o + k * 12 = p) :
    Calls Try.prog 38 #[.pointer (some ⟨g, 0, none⟩), .pointer (some ⟨gu, p, none⟩), .agg #[.int .u8 x.pr, .int .u32 x.sr, .int .u32 x.ds, .int .u16 x.sp, .int .u16 x.dp]] w
      (LeadsM S g M last (leadF k x L) mi mo (.slice (some ⟨gu, o, none⟩) n c) KI RI (KL (L.getD k f0).o x KO) (RL x (L.getD k f0).id RO) w) := by
  obtain ⟨w0, ew⟩ : ∃ w0, w.alloc (.cells #[.int .u8 x.pr, .int .u32 x.sr, .int .u32 x.ds, .int .u16 x.sp, .int .u16 x.dp] 37) = w0 := ⟨_, rfl⟩
  obtain ⟨z, hz⟩ : ∃ z, w.heap.size = z := ⟨_, rfl⟩
  have hb0 : Below w.heap.size w w0 := by rw [← ew]; exact (Below.refl _ _).alloc (Nat.le_refl _) _
  have hk0 : w0.heap[z]? = some (.cells #[.int .u8 x.pr, .int .u32 x.sr, .int .u32 x.ds, .int .u16 x.sp, .int .u16 x.dp] 37 (0, 0)) := by rw [← ew, ← hz]; exact heap_alloc_new w _
  have h0 := h.below hb0
  have hSz : ∀ b, S b → b ≠ z := fun b hb e => by have := h.lt b hb; omega
  obtain ⟨f, ef⟩ : ∃ f, L.getD k f0 = f := ⟨_, rfl⟩
  rw [ef]
  -- region 1
  obtain ⟨wd, ewd⟩ : ∃ wd, w0.drew = wd := ⟨_, rfl⟩
  have hbd : But (fun _ => False) w0 wd := by rw [← ewd]; exact (But.refl (fun _ => False) w0).drew
  have hd := h0.but hbd (fun _ _ h => h)
  have hkd := hbd.blk hk0 (fun x => x)
  have rowOf : ∀ {W : World} {L2 : TL} {KO2 : Tu → Prop} {RO2 : Tu → Value}, TMem W S g M last L2 mi mo (.slice (some ⟨gu, o, none⟩) n c) KI RI KO2 RO2 → L2.length = n → RowV W 51 12 gu o n (flatF L2) c := fun hW hl => by
    rcases hW.row with ⟨e, _⟩ | ⟨g', o', c', e, hr⟩
    · cases e
    · injection e with e1 _ e3
      injection e1 with e1
      injection e1 with e1 e2
      subst e1; subst e2; subst e3
      rw [hl] at hr
      exact hr
  have hgu : (Value.slice (some ⟨gu, o, none⟩) n c).ownBlock = some gu := rfl
  have hSu : S gu := h.su gu rfl
  have flOf : ∀ {W : World} {KO2 : Tu → Prop} {RO2 : Tu → Value}, TMem W S g M last L mi mo (.slice (some ⟨gu, o, none⟩) n c) KI RI KO2 RO2 → FlAt W gu p f := fun hW => by
    have := (rowOf hW hn).fl hn hk
    rw [hp, ef] at this
    exact this
  have fd := flOf hd
  obtain ⟨w1, hr1, hm1, hB1⟩ := hd.out.del_u f.o 0
  have h1 := hd.turnO hB1 hm1
  have f1 := flOf h1
  have hk1 := hB1.blk hkd (fun e => hSz mo h.so e.symm)
  have HSd := Lib.hid (show wd.cell? ⟨g, 4, none⟩ = some (.map (some mo)) ∧ (wd.cell? ⟨gu, p + 6, none⟩ = some (.int .u8 f.o.pr) ∧ wd.cell? ⟨gu, p + 7, none⟩ = some (.int .u32 f.o.sr) ∧ wd.cell? ⟨gu, p + 8, none⟩ = some (.int .u32 f.o.ds) ∧ wd.cell? ⟨gu, p + 9, none⟩ = some (.int .u16 f.o.sp) ∧ wd.cell? ⟨gu, p + 10, none⟩ = some (.int .u16 f.o.dp)) from ⟨hd.k4, fd.c6, fd.c7, fd.c8, fd.c9, fd.ca⟩)
  have HS1 := Lib.hid (show w1.cell? ⟨g, 4, none⟩ = some (.map (some mo)) ∧ (w1.cell? ⟨gu, p + 6, none⟩ = some (.int .u8 f.o.pr) ∧ w1.cell? ⟨gu, p + 7, none⟩ = some (.int .u32 f.o.sr) ∧ w1.cell? ⟨gu, p + 8, none⟩ = some (.int .u32 f.o.ds) ∧ w1.cell? ⟨gu, p + 9, none⟩ = some (.int .u16 f.o.sp) ∧ w1.cell? ⟨gu, p + 10, none⟩ = some (.int .u16 f.o.dp)) from ⟨h1.k4, f1.c6, f1.c7, f1.c8, f1.c9, f1.ca⟩)
  -- region 2
  obtain ⟨a0, a1, a2, a3, a4⟩ := cells5 hk1
  obtain ⟨w2, ew2⟩ : ∃ w2, ((((w1.setCell ⟨gu, p + 6, none⟩ (.int .u8 x.pr)).setCell ⟨gu, p + 7, none⟩ (.int .u32 x.sr)).setCell ⟨gu, p + 8, none⟩ (.int .u32 x.ds)).setCell ⟨gu, p + 9, none⟩ (.int .u16 x.sp)).setCell ⟨gu, p + 10, none⟩ (.int .u16 x.dp) = w2 := ⟨_, rfl⟩
  obtain ⟨hr2, hB2, fl2⟩ := (rowOf h1 hn).lead hn hk x hp ew2
  have hlL : (leadF k x L).length = n := by unfold leadF; rw [List.length_set, hn]
  have h2 : TMem w2 S g M last (leadF k x L) mi mo (.slice (some ⟨gu, o, none⟩) n c) KI RI (fun a => a ≠ f.o ∧ KO a) RO := h1.relist (hB2.mono (fun k _ e => by rw [e]; rfl)) (.inr ⟨gu, o, c, by rw [hlL], by rw [hlL]; exact hr2⟩)
  have hk2 := hB2.blk hk1 (fun e => hSz gu hSu e.symm)
  have fr1 : ∀ i, w1.frozen? ⟨gu, i, none⟩ = false := fun i => (rowOf h1 hn).free i
  have fr6 := fr1 (p + 6)
  have fr7 := fr1 (p + 7)
  have fr8 := fr1 (p + 8)
  have fr9 := fr1 (p + 9)
  have fra := fr1 (p + 10)
  have s6 := f1.c6
  have s7 := f1.c7
  have s8 := f1.c8
  have s9 := f1.c9
  have sa := f1.ca
  have hgz : gu ≠ z := hSz gu hSu
  have hB02 : But S w w2 := ((((But.of hb0).trans (hbd.mono (fun _ _ h => h.elim))).trans (hB1.mono (fun k _ e => e ▸ h.so))).trans (hB2.mono (fun k _ e => e ▸ hSu)))
  obtain ⟨b, eb⟩ : ∃ b, decide (x = zT) = b := ⟨_, rfl⟩
  have Hzero := Lib.hid (zero_any x w2 b eb)
  have Hfin := Lib.hid (fun w3 (hb : Below w2.heap.size w2 w3) => show b = true → LeadsM S g M last (leadF k x L) mi mo (.slice (some ⟨gu, o, none⟩) n c) KI RI (KL f.o x KO) (RL x f.id RO) w (.returned (.tuple #[])) w3 from fun e => by
    have hx : x = zT := by rw [e] at eb; exact of_decide_eq_true eb
    refine ⟨rfl, ?_, hB02.trans (But.of hb)⟩
    unfold KL RL
    rw [if_pos hx, if_pos hx]
    exact h2.below hb)
  have Hput := Lib.hid (fun w3 (hb : Below w2.heap.size w2 w3) => show b = false → ∃ w4, (Instr.mapUpdate 70 (.map (some mo)) (.agg #[.int .u8 x.pr, .int .u32 x.sr, .int .u32 x.ds, .int .u16 x.sp, .int .u16 x.dp]) (.int .u64 f.id)).run Try.prog w3.drew = .ok () w4 ∧
      (w3.drew.cell? ⟨g, 4, none⟩ = some (.map (some mo)) ∧ w3.drew.cell? ⟨gu, p, none⟩ = some (.int .u64 f.id) ∧ (w3.drew.cell? ⟨z, 0, none⟩ = some (.int .u8 x.pr) ∧ w3.drew.cell? ⟨z, 1, none⟩ = some (.int .u32 x.sr) ∧ w3.drew.cell? ⟨z, 2, none⟩ = some (.int .u32 x.ds) ∧ w3.drew.cell? ⟨z, 3, none⟩ = some (.int .u16 x.sp) ∧ w3.drew.cell? ⟨z, 4, none⟩ = some (.int .u16 x.dp))) ∧
      (w4.cell? ⟨g, 4, none⟩ = some (.map (some mo)) ∧ w4.cell? ⟨gu, p, none⟩ = some (.int .u64 f.id) ∧ (w4.cell? ⟨z, 0, none⟩ = some (.int .u8 x.pr) ∧ w4.cell? ⟨z, 1, none⟩ = some (.int .u32 x.sr) ∧ w4.cell? ⟨z, 2, none⟩ = some (.int .u32 x.ds) ∧ w4.cell? ⟨z, 3, none⟩ = some (.int .u16 x.sp) ∧ w4.cell? ⟨z, 4, none⟩ = some (.int .u16 x.dp))) ∧
      LeadsM S g M last (leadF k x L) mi mo (.slice (some ⟨gu, o, none⟩) n c) KI RI (KL f.o x KO) (RL x f.id RO) w (.returned (.tuple #[])) w4 from fun e => by
    have hx : ¬ x = zT := by rw [e] at eb; exact of_decide_eq_false eb
    have h3 := (h2.below hb).but (T := fun _ => False) (But.refl (fun _ => False) w3).drew (fun _ _ h => h)
    have hk3 := (But.refl (fun _ => False) w3).drew.blk (blk_on hk2 hb) (fun x => x)
    obtain ⟨w4, hr4, hm4, hB4⟩ := h3.out.put_u x (.int .u64 f.id)
    have h4 := h3.turnO hB4 hm4
    have hk4 := hB4.blk hk3 (fun e => hSz mo h.so e.symm)
    have c3 : w3.drew.cell? ⟨gu, p, none⟩ = some (.int .u64 f.id) := by
      have := (rowOf h3 hlL).fl hlL hk
      have e := set_getD (L := L) (k := k) (j := k) { L.getD k f0 with o := x } (by omega)
      rw [hp] at this
      have h9 := this.c0
      unfold leadF at h9
      rw [e, if_pos rfl, ef] at h9
      exact h9
    have c4 : w4.cell? ⟨gu, p, none⟩ = some (.int .u64 f.id) := (hB4.cell (p := ⟨gu, p, none⟩) (rowOf h3 hlL).lt (fun e => h.ou rfl e.symm)).trans c3
    refine ⟨w4, hr4, ⟨h3.k4, c3, cells5 hk3⟩, ⟨h4.k4, c4, cells5 hk4⟩, rfl, ?_, ((hB02.trans (But.of hb)).trans (But.refl S w3).drew).trans (hB4.mono (fun k _ e => e ▸ h.so))⟩
    unfold KL RL
    rw [if_neg hx, if_neg hx]
    exact h4)
  have hk2' := cells5 hk2
  obtain ⟨e0, e1, e2, e3, e4⟩ := hk2'
  have Hr1 := Lib.hid hr1
  have Ew := Lib.hid ew
  have Ewd := Lib.hid ewd
  have Ew2 := Lib.hid ew2
  have Hz := Lib.hid hz
  clear h h0 hd fd h1 f1 h2 hr2 hB2 fl2 hB02 hr1 hm1 hB1 hb0 hk0 hbd hkd hk1 hk2 ew ewd ew2 hz rowOf flOf fr1 ef eb hSz hlL hSu hn hk
  go_enter Try.func38, Try.ntmps38
  go_upto_region 1 with (fail)
  rw [Ew.out]
  try rw [Hz.out]
  refine wp_region_held_drew (S := fun W => W.cell? ⟨g, 4, none⟩ = some (.map (some mo)) ∧ (W.cell? ⟨gu, p + 6, none⟩ = some (.int .u8 f.o.pr) ∧ W.cell? ⟨gu, p + 7, none⟩ = some (.int .u32 f.o.sr) ∧ W.cell? ⟨gu, p + 8, none⟩ = some (.int .u32 f.o.ds) ∧ W.cell? ⟨gu, p + 9, none⟩ = some (.int .u16 f.o.sp) ∧ W.cell? ⟨gu, p + 10, none⟩ = some (.int .u16 f.o.dp))) (by kernel_rfl) (by rw [Ewd.out]; exact HSd.out) (fun hHeld => ?_)
  rw [Ewd.out] at hHeld ⊢
  refine wpAnyH_take (i := 0) (oi := { dst := some 6, op := Go.Op.move (Go.Operand.tmp 0), type := 23, pos := "table.go:218", after := #[], guard := none }) (v := ?_) rfl (by kernel_rfl) (by kernel_rfl) (by kernel_rfl) (fun _ _ _ h => h) (Or.inl ⟨by rfl, ?_⟩) (by assumption) ?_
  rotate_left 1
  · intro w' hSw; (go_simp <;> (with_reducible rfl))
  (try simp only [Act.put, List.setIfInBounds_toArray, List.set_cons_zero, List.set_cons_succ])
  refine wpAnyH_take (i := 1) (oi := { dst := some 7, op := Go.Op.nilCheck (Go.Operand.tmp 6), type := 0, pos := "table.go:218", after := #[{ on := 0, ground := Go.Ground.data }], guard := none }) (v := ?_) rfl (by kernel_rfl) (by kernel_rfl) (by kernel_rfl) (fun _ _ _ h => h) (Or.inl ⟨by rfl, ?_⟩) (by assumption) ?_
  rotate_left 1
  · intro w' hSw; (go_simp <;> (with_reducible rfl))
  (try simp only [Act.put, List.setIfInBounds_toArray, List.set_cons_zero, List.set_cons_succ])
  refine wpAnyH_take (i := 2) (oi := { dst := some 8, op := Go.Op.fieldAddr 72 (Go.Operand.tmp 7) 4, type := 0, pos := "table.go:218", after := #[{ on := 1, ground := Go.Ground.data }], guard := none }) (v := ?_) rfl (by kernel_rfl) (by kernel_rfl) (by kernel_rfl) (fun _ _ _ h => h) (Or.inl ⟨by rfl, ?_⟩) (by assumption) ?_
  rotate_left 1
  · intro w' hSw; (go_simp <;> (with_reducible rfl))
  (try simp only [Act.put, List.setIfInBounds_toArray, List.set_cons_zero, List.set_cons_succ])
  refine wpAnyH_take (i := 3) (oi := { dst := some 9, op := Go.Op.load 70 (Go.Operand.tmp 8), type := 70, pos := "table.go:218", after := #[{ on := 2, ground := Go.Ground.data }], guard := none }) (v := ?_) rfl (by kernel_rfl) (by kernel_rfl) (by kernel_rfl) (fun _ _ _ h => h) (Or.inl ⟨by rfl, ?_⟩) (by assumption) ?_
  rotate_left 1
  · intro w' hSw; (go_simp <;> (with_reducible rfl))
  (try simp only [Act.put, List.setIfInBounds_toArray, List.set_cons_zero, List.set_cons_succ])
  refine wpAnyH_take (i := 4) (oi := { dst := some 10, op := Go.Op.move (Go.Operand.tmp 1), type := 81, pos := "table.go:218", after := #[], guard := none }) (v := ?_) rfl (by kernel_rfl) (by kernel_rfl) (by kernel_rfl) (fun _ _ _ h => h) (Or.inl ⟨by rfl, ?_⟩) (by assumption) ?_
  rotate_left 1
  · intro w' hSw; (go_simp <;> (with_reducible rfl))
  (try simp only [Act.put, List.setIfInBounds_toArray, List.set_cons_zero, List.set_cons_succ])
  refine wpAnyH_take (i := 5) (oi := { dst := some 11, op := Go.Op.nilCheck (Go.Operand.tmp 10), type := 0, pos := "table.go:218", after := #[{ on := 4, ground := Go.Ground.data }], guard := none }) (v := ?_) rfl (by kernel_rfl) (by kernel_rfl) (by kernel_rfl) (fun _ _ _ h => h) (Or.inl ⟨by rfl, ?_⟩) (by assumption) ?_
  rotate_left 1
  · intro w' hSw; (go_simp <;> (with_reducible rfl))
  (try simp only [Act.put, List.setIfInBounds_toArray, List.set_cons_zero, List.set_cons_succ])
  refine wpAnyH_take (i := 6) (oi := { dst := some 12, op := Go.Op.fieldAddr 51 (Go.Operand.tmp 11) 2, type := 0, pos := "table.go:218", after := #[{ on := 5, ground := Go.Ground.data }], guard := none }) (v := ?_) rfl (by kernel_rfl) (by kernel_rfl) (by kernel_rfl) (fun _ _ _ h => h) (Or.inl ⟨by rfl, ?_⟩) (by assumption) ?_
  rotate_left 1
  · intro w' hSw; (go_simp <;> (with_reducible rfl))
  (try simp only [Act.put, List.setIfInBounds_toArray, List.set_cons_zero, List.set_cons_succ])
  refine wpAnyH_take (i := 7) (oi := { dst := some 13, op := Go.Op.load 37 (Go.Operand.tmp 12), type := 37, pos := "table.go:218", after := #[{ on := 6, ground := Go.Ground.data }], guard := none }) (v := ?_) rfl (by kernel_rfl) (by kernel_rfl) (by kernel_rfl) (fun _ _ _ h => h) (Or.inl ⟨by rfl, ?_⟩) (by assumption) ?_
  rotate_left 1
  · intro w' hSw; (go_simp <;> (with_reducible rfl))
  (try simp only [Act.put, List.setIfInBounds_toArray, List.set_cons_zero, List.set_cons_succ])
  have hr1 := Hr1.out
  refine wpAnyH_ready (rs := [8]) (by kernel_rfl) (by simp) ?_
  refine AllReadyH.cons (o := { dst := none, op := Go.Op.call { callee := Go.Callee.builtin Go.Builtin.delete, args := #[Go.Operand.tmp 9, Go.Operand.tmp 13], argTypes := #[70, 37] }, type := 0, pos := "table.go:218", after := #[{ on := 3, ground := Go.Ground.data }, { on := 7, ground := Go.Ground.data }], guard := none }) rfl (fun K hK => ?_) AllReadyH.nil
  go_simp
  skip
  refine hK.out _ _ ?_ (fun hHeld => ?_)
  · exact HS1.out
  clear hK K
  (try simp only [Act.put, List.setIfInBounds_toArray, List.set_cons_zero, List.set_cons_succ])
  refine wpAnyH_done (by kernel_rfl) ?_ _
  clear hHeld
  go_upto_region 3 with (fail)
  rw [Ew2.out]
  go_wp2_with fail
  refine Hzero.out.mono ?_
  rintro e w3 ⟨rfl, hb3⟩
  cases b with
  | true =>
    have HF := Lib.hid (Hfin.out w3 hb3 rfl)
    go_wp2_with fail
    go_end0
    exact HF.out
  | false =>
    obtain ⟨w4, hr4, hS3, hS4, hF⟩ := Hput.out w3 hb3 rfl
    have Hr4 := Lib.hid hr4
    have HS4 := Lib.hid hS4
    have HF := Lib.hid hF
    clear hr4 hS4 hF
    go_wp2_with fail
    refine wp_region_held_drew (S := fun W => W.cell? ⟨g, 4, none⟩ = some (.map (some mo)) ∧ W.cell? ⟨gu, p, none⟩ = some (.int .u64 f.id) ∧ (W.cell? ⟨z, 0, none⟩ = some (.int .u8 x.pr) ∧ W.cell? ⟨z, 1, none⟩ = some (.int .u32 x.sr) ∧ W.cell? ⟨z, 2, none⟩ = some (.int .u32 x.ds) ∧ W.cell? ⟨z, 3, none⟩ = some (.int .u16 x.sp) ∧ W.cell? ⟨z, 4, none⟩ = some (.int .u16 x.dp))) (by kernel_rfl) hS3 (fun hHeld => ?_)
    refine wpAnyH_take (i := 0) (oi := { dst := some 21, op := Go.Op.move (Go.Operand.tmp 0), type := 23, pos := "table.go:221", after := #[], guard := none }) (v := ?_) rfl (by kernel_rfl) (by kernel_rfl) (by kernel_rfl) (fun _ _ _ h => h) (Or.inl ⟨by rfl, ?_⟩) (by assumption) ?_
    rotate_left 1
    · intro w' hSw; (go_simp <;> (with_reducible rfl))
    (try simp only [Act.put, List.setIfInBounds_toArray, List.set_cons_zero, List.set_cons_succ])
    refine wpAnyH_take (i := 1) (oi := { dst := some 22, op := Go.Op.nilCheck (Go.Operand.tmp 21), type := 0, pos := "table.go:221", after := #[{ on := 0, ground := Go.Ground.data }], guard := none }) (v := ?_) rfl (by kernel_rfl) (by kernel_rfl) (by kernel_rfl) (fun _ _ _ h => h) (Or.inl ⟨by rfl, ?_⟩) (by assumption) ?_
    rotate_left 1
    · intro w' hSw; (go_simp <;> (with_reducible rfl))
    (try simp only [Act.put, List.setIfInBounds_toArray, List.set_cons_zero, List.set_cons_succ])
    refine wpAnyH_take (i := 2) (oi := { dst := some 23, op := Go.Op.fieldAddr 72 (Go.Operand.tmp 22) 4, type := 0, pos := "table.go:221", after := #[{ on := 1, ground := Go.Ground.data }], guard := none }) (v := ?_) rfl (by kernel_rfl) (by kernel_rfl) (by kernel_rfl) (fun _ _ _ h => h) (Or.inl ⟨by rfl, ?_⟩) (by assumption) ?_
    rotate_left 1
    · intro w' hSw; (go_simp <;> (with_reducible rfl))
    (try simp only [Act.put, List.setIfInBounds_toArray, List.set_cons_zero, List.set_cons_succ])
    refine wpAnyH_take (i := 3) (oi := { dst := some 24, op := Go.Op.load 70 (Go.Operand.tmp 23), type := 70, pos := "table.go:221", after := #[{ on := 2, ground := Go.Ground.data }], guard := none }) (v := ?_) rfl (by kernel_rfl) (by kernel_rfl) (by kernel_rfl) (fun _ _ _ h => h) (Or.inl ⟨by rfl, ?_⟩) (by assumption) ?_
    rotate_left 1
    · intro w' hSw; (go_simp <;> (with_reducible rfl))
    (try simp only [Act.put, List.setIfInBounds_toArray, List.set_cons_zero, List.set_cons_succ])
    refine wpAnyH_take (i := 4) (oi := { dst := some 25, op := Go.Op.load 37 (Go.Operand.tmp 5), type := 37, pos := "table.go:221", after := #[], guard := none }) (v := ?_) rfl (by kernel_rfl) (by kernel_rfl) (by kernel_rfl) (fun _ _ _ h => h) (Or.inl ⟨by rfl, ?_⟩) (by assumption) ?_
    rotate_left 1
    · intro w' hSw; (go_simp <;> (with_reducible rfl))
    (try simp only [Act.put, List.setIfInBounds_toArray, List.set_cons_zero, List.set_cons_succ])
    refine wpAnyH_take (i := 5) (oi := { dst := some 26, op := Go.Op.move (Go.Operand.tmp 1), type := 81, pos := "table.go:221", after := #[], guard := none }) (v := ?_) rfl (by kernel_rfl) (by kernel_rfl) (by kernel_rfl) (fun _ _ _ h => h) (Or.inl ⟨by rfl, ?_⟩) (by assumption) ?_
    rotate_left 1
    · intro w' hSw; (go_simp <;> (with_reducible rfl))
    (try simp only [Act.put, List.setIfInBounds_toArray, List.set_cons_zero, List.set_cons_succ])
    refine wpAnyH_take (i := 6) (oi := { dst := some 27, op := Go.Op.nilCheck (Go.Operand.tmp 26), type := 0, pos := "table.go:221", after := #[{ on := 5, ground := Go.Ground.data }], guard := none }) (v := ?_) rfl (by kernel_rfl) (by kernel_rfl) (by kernel_rfl) (fun _ _ _ h => h) (Or.inl ⟨by rfl, ?_⟩) (by assumption) ?_
    rotate_left 1
    · intro w' hSw; (go_simp <;> (with_reducible rfl))
    (try simp only [Act.put, List.setIfInBounds_toArray, List.set_cons_zero, List.set_cons_succ])
    refine wpAnyH_take (i := 7) (oi := { dst := some 28, op := Go.Op.fieldAddr 51 (Go.Operand.tmp 27) 0, type := 0, pos := "table.go:221", after := #[{ on := 6, ground := Go.Ground.data }], guard := none }) (v := ?_) rfl (by kernel_rfl) (by kernel_rfl) (by kernel_rfl) (fun _ _ _ h => h) (Or.inl ⟨by rfl, ?_⟩) (by assumption) ?_
    rotate_left 1
    · intro w' hSw; (go_simp <;> (with_reducible rfl))
    (try simp only [Act.put, List.setIfInBounds_toArray, List.set_cons_zero, List.set_cons_succ])
    refine wpAnyH_take (i := 8) (oi := { dst := some 29, op := Go.Op.load 32 (Go.Operand.tmp 28), type := 32, pos := "table.go:221", after := #[{ on := 7, ground := Go.Ground.data }], guard := none }) (v := ?_) rfl (by kernel_rfl) (by kernel_rfl) (by kernel_rfl) (fun _ _ _ h => h) (Or.inl ⟨by rfl, ?_⟩) (by assumption) ?_
    rotate_left 1
    · intro w' hSw; (go_simp <;> (with_reducible rfl))
    (try simp only [Act.put, List.setIfInBounds_toArray, List.set_cons_zero, List.set_cons_succ])
    have hr4 := Hr4.out
    refine wpAnyH_ready (rs := [9]) (by kernel_rfl) (by simp) ?_
    refine AllReadyH.cons (o := { dst := none, op := Go.Op.mapUpdate 70 (Go.Operand.tmp 24) (Go.Operand.tmp 25) (Go.Operand.tmp 29), type := 0, pos := "table.go:221", after := #[{ on := 3, ground := Go.Ground.data }, { on := 4, ground := Go.Ground.data }, { on := 8, ground := Go.Ground.data }, { on := 0, ground := Go.Ground.phase }, { on := 1, ground := Go.Ground.phase }, { on := 2, ground := Go.Ground.phase }, { on := 3, ground := Go.Ground.phase }, { on := 4, ground := Go.Ground.phase }, { on := 5, ground := Go.Ground.phase }, { on := 6, ground := Go.Ground.phase }, { on := 7, ground := Go.Ground.phase }, { on := 8, ground := Go.Ground.phase }], guard := none }) rfl (fun K hK => ?_) AllReadyH.nil
    go_simp
    skip
    refine hK.out _ _ ?_ (fun hHeld => ?_)
    · exact HS4.out
    clear hK K
    (try simp only [Act.put, List.setIfInBounds_toArray, List.set_cons_zero, List.set_cons_succ])
    refine wpAnyH_done (by kernel_rfl) ?_ _
    clear hHeld
    go_wp2_with fail
    go_end0
    exact HF.out
end Go.Proofs.Ytnhlbohdlnjaaaa
