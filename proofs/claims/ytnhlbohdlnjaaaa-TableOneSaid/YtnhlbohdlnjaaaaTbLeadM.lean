/-
  The contract of package table's Lead, over a table in memory.
-/
import Derived.Test.YtnhlbohdlnjaaaaTbTouch
namespace Go.Proofs.Ytnhlbohdlnjaaaa
set_option maxRecDepth 10000
open Go.RowKit
set_option linter.unusedSimpArgs false
set_option linter.unusedVariables false

theorem row_of {W : World} {S : Nat → Prop} {g : Nat} {M last : Int} {L : TL} {mi mo gu o n c : Nat} {KI : Tu → Prop} {RI : Tu → Value} {KO : Tu → Prop} {RO : Tu → Value} (hW : TMem W S g M last L mi mo (.slice (some ⟨gu, o, none⟩) n c) KI RI KO RO) (hl : L.length = n) : RowV W 51 12 gu o n (flatF L) c := by
  rcases hW.row with ⟨e, _⟩ | ⟨g', o', c', e, hr⟩
  · cases e
  · injection e with e1 _ e3
    injection e1 with e1
    injection e1 with e1 e2
    subst e1; subst e2; subst e3
    rw [hl] at hr
    exact hr
section
variable (S : Nat → Prop) (g : Nat) (M last : Int) (L : TL) (mi mo : Nat) (u : Value) (KI : Tu → Prop) (RI : Tu → Value) (KO : Tu → Prop) (RO : Tu → Value) (w : World) (h : TMem w S g M last L mi mo u KI RI KO RO)
include h
theorem lead_none (id : Int) (x : Tu) (hn : L.length ≤ 1000000) (he : atF id L = none) : Calls Try.prog 15 #[.pointer (some ⟨g, 0, none⟩), .int .u64 id, .agg #[.int .u8 x.pr, .int .u32 x.sr, .int .u32 x.ds, .int .u16 x.sp, .int .u16 x.dp]] w (TellsT (.int .i64 6) w) := by
  obtain ⟨w0, ew⟩ : ∃ w0, w.alloc (.cells #[.int .u8 x.pr, .int .u32 x.sr, .int .u32 x.ds, .int .u16 x.sp, .int .u16 x.dp] 37) = w0 := ⟨_, rfl⟩
  obtain ⟨z, hz⟩ : ∃ z, w.heap.size = z := ⟨_, rfl⟩
  have hb0 : Below w.heap.size w w0 := by rw [← ew]; exact (Below.refl _ _).alloc (Nat.le_refl _) _
  have hk0 : w0.heap[z]? = some (.cells #[.int .u8 x.pr, .int .u32 x.sr, .int .u32 x.ds, .int .u16 x.sp, .int .u16 x.dp] 37 (0, 0)) := by rw [← ew, ← hz]; exact heap_alloc_new w _
  have h0 := h.below hb0
  have hSz : ∀ b, S b → b < z := fun b hb => by have := h.lt b hb; omega
  have Hp := Lib.hid (place_at S g M last L mi mo u KI RI KO RO w0 h0 id 0 6 hn (by rw [he]; rfl))
  have Ew := Lib.hid ew
  have Hz := Lib.hid hz
  have Hb0 := Lib.hid hb0
  clear h h0 hb0 hk0 ew hz he hSz
  go_enter Try.func15, Try.ntmps15
  go_upto_region 1 with (fail)
  rw [Ew.out]
  try rw [Hz.out]
  go_wp2_with fail
  refine Hp.out.mono ?_
  rintro e w1 ⟨rfl, hb⟩
  have Hb := Lib.hid (below_trans Hb0.out hb)
  clear hb
  go_wp2_with fail
  go_ret
  exact ⟨rfl, Hb.out⟩
theorem lead_there (id i2 : Int) (k : Nat) (x : Tu) (hn : L.length ≤ 1000000) (he : atF id L = some k) (hl : LookT KO RO x i2 true) (hi : i2 ≠ id) :
    Calls Try.prog 15 #[.pointer (some ⟨g, 0, none⟩), .int .u64 id, .agg #[.int .u8 x.pr, .int .u32 x.sr, .int .u32 x.ds, .int .u16 x.sp, .int .u16 x.dp]] w (TellsT (.int .i64 9) w) := by
  obtain ⟨b2, eb2⟩ : ∃ b, b = true := ⟨true, rfl⟩
  rw [← eb2] at hl
  obtain ⟨w0, ew⟩ : ∃ w0, w.alloc (.cells #[.int .u8 x.pr, .int .u32 x.sr, .int .u32 x.ds, .int .u16 x.sp, .int .u16 x.dp] 37) = w0 := ⟨_, rfl⟩
  obtain ⟨z, hz⟩ : ∃ z, w.heap.size = z := ⟨_, rfl⟩
  have hb0 : Below w.heap.size w w0 := by rw [← ew]; exact (Below.refl _ _).alloc (Nat.le_refl _) _
  have hk0 : w0.heap[z]? = some (.cells #[.int .u8 x.pr, .int .u32 x.sr, .int .u32 x.ds, .int .u16 x.sp, .int .u16 x.dp] 37 (0, 0)) := by rw [← ew, ← hz]; exact heap_alloc_new w _
  have h0 := h.below hb0
  have hSz : ∀ b, S b → b < z := fun b hb => by have := h.lt b hb; omega
  have Hp := Lib.hid (place_at S g M last L mi mo u KI RI KO RO w0 h0 id k 0 hn (by rw [he]; rfl))
  have Hw := Lib.hid (show ∀ W, Below w0.heap.size w0 W → TMem W S g M last L mi mo u KI RI KO RO from fun W hb => h0.below hb)
  have Hk := Lib.hid (show ∀ W, Below w0.heap.size w0 W → W.heap[z]? = some (.cells #[.int .u8 x.pr, .int .u32 x.sr, .int .u32 x.ds, .int .u16 x.sp, .int .u16 x.dp] 37 (0, 0)) from fun W hb => blk_on hk0 hb)
  have Hlk := Lib.hid (show ∀ W, Below w0.heap.size w0 W → (Instr.lookup 70 (.map (some mo)) (.agg #[.int .u8 x.pr, .int .u32 x.sr, .int .u32 x.ds, .int .u16 x.sp, .int .u16 x.dp]) true).run Try.prog W = .ok (.tuple #[.int .u64 i2, .bool b2]) W from fun W hb => (h0.below hb).out.lookk hl)
  have Ew := Lib.hid ew
  have Hz := Lib.hid hz
  have Hb0 := Lib.hid hb0
  have HSz := Lib.hid hSz
  have hne : (i2 != id) = true := by simpa using hi
  clear h h0 hb0 hk0 ew hz he hSz hl hi
  go_enter Try.func15, Try.ntmps15
  go_upto_region 1 with (fail)
  rw [Ew.out]
  try rw [Hz.out]
  go_wp2_with fail
  refine Hp.out.mono ?_
  rintro e w1 ⟨rfl, hb⟩
  have Hb := Lib.hid hb
  have k4 := (Hw.out w1 hb).k4
  obtain ⟨a0, a1, a2, a3, a4⟩ := cells5 (Hk.out w1 hb)
  have hlk : ∀ k, (Instr.lookup 70 (.map (some mo)) (.agg #[.int .u8 x.pr, .int .u32 x.sr, .int .u32 x.ds, .int .u16 x.sp, .int .u16 x.dp]) true).run Try.prog (w1.drewN k) = .ok (.tuple #[.int .u64 i2, .bool b2]) (w1.drewN k) := fun k => Hlk.out _ (hb.trans (((But.refl (fun _ => False) w1).drewN k).below (fun _ h => h.elim) hb.size))
  clear hb
  go_wp2_with fail
  go_quiet (fail)
  obtain ⟨w2, ew2⟩ : ∃ w2, w1.drewN nq = w2 := ⟨_, rfl⟩
  have Hb2 := Lib.hid (show Below w0.heap.size w0 w2 by rw [← ew2]; exact Hb.out.trans (((But.refl (fun _ => False) w1).drewN nq).below (fun _ h => h.elim) Hb.out.size))
  rw [ew2]
  clear ew2 k4 a0 a1 a2 a3 a4 hlk
  subst eb2
  go_wp2_with fail
  go_ret
  exact ⟨rfl, below_trans Hb0.out Hb2.out⟩
set_option maxHeartbeats 2000000 in
theorem lead_some (id i2 : Int) (b2 : Bool) (k : Nat) (x : Tu) (hn : L.length ≤ 1000000) (he : atF id L = some k) (hl : LookT KO RO x i2 b2) (hi : b2 = true → i2 = id) :
    Calls Try.prog 15 #[.pointer (some ⟨g, 0, none⟩), .int .u64 id, .agg #[.int .u8 x.pr, .int .u32 x.sr, .int .u32 x.ds, .int .u16 x.sp, .int .u16 x.dp]] w
      (DropsM S g M last (leadF k x L) mi mo KI RI (KL (L.getD k f0).o x KO) (RL x (L.getD k f0).id RO) (.int .i64 0) w) := by
  have hk := (atF_some he).1
  obtain ⟨A, c, rfl⟩ := h.row.form
  obtain ⟨gu, o, rfl, hidx, -, -⟩ := fl_index_t h.row rfl hk
  obtain ⟨p, ep⟩ : ∃ p, o + k * 12 = p := ⟨_, rfl⟩
  obtain ⟨n, en⟩ : ∃ n, L.length = n := ⟨_, rfl⟩
  rw [ep] at hidx
  rw [en] at hidx h hk hn
  obtain ⟨u, eu⟩ : ∃ u, u = Value.slice (some ⟨gu, o, none⟩) n c := ⟨_, rfl⟩
  rw [← eu] at h
  have hn : L.length ≤ 1000000 := by omega
  obtain ⟨w0, ew⟩ : ∃ w0, w.alloc (.cells #[.int .u8 x.pr, .int .u32 x.sr, .int .u32 x.ds, .int .u16 x.sp, .int .u16 x.dp] 37) = w0 := ⟨_, rfl⟩
  obtain ⟨z, hz⟩ : ∃ z, w.heap.size = z := ⟨_, rfl⟩
  have hb0 : Below w.heap.size w w0 := by rw [← ew]; exact (Below.refl _ _).alloc (Nat.le_refl _) _
  have hk0 : w0.heap[z]? = some (.cells #[.int .u8 x.pr, .int .u32 x.sr, .int .u32 x.ds, .int .u16 x.sp, .int .u16 x.dp] 37 (0, 0)) := by rw [← ew, ← hz]; exact heap_alloc_new w _
  have h0 := h.below hb0
  have hSz : ∀ b, S b → b < z := fun b hb => by have := h.lt b hb; omega
  have Hp := Lib.hid (place_at S g M last L mi mo u KI RI KO RO w0 h0 id k 0 hn (by rw [he]; rfl))
  have Hw := Lib.hid (show ∀ W, Below w0.heap.size w0 W → TMem W S g M last L mi mo u KI RI KO RO from fun W hb => h0.below hb)
  have Hk := Lib.hid (show ∀ W, Below w0.heap.size w0 W → W.heap[z]? = some (.cells #[.int .u8 x.pr, .int .u32 x.sr, .int .u32 x.ds, .int .u16 x.sp, .int .u16 x.dp] 37 (0, 0)) from fun W hb => blk_on hk0 hb)
  have Hlk := Lib.hid (show ∀ W, Below w0.heap.size w0 W → (Instr.lookup 70 (.map (some mo)) (.agg #[.int .u8 x.pr, .int .u32 x.sr, .int .u32 x.ds, .int .u16 x.sp, .int .u16 x.dp]) true).run Try.prog W = .ok (.tuple #[.int .u64 i2, .bool b2]) W from fun W hb => (h0.below hb).out.lookk hl)
  have Ew := Lib.hid ew
  have Hz := Lib.hid hz
  have Hb0 := Lib.hid hb0
  have HSz := Lib.hid hSz
  have i0 : (0 : Int) ≤ (k : Int) := by omega
  have i1 : (k : Int) < (n : Int) := by omega
  have Hi := Lib.hid hi
  have Hen := Lib.hid en
  have Hep := Lib.hid ep
  have HSg := Lib.hid h.sg
  clear h h0 hb0 hk0 ew hz he hSz hl hi en ep
  go_enter Try.func15, Try.ntmps15
  go_upto_region 1 with (fail)
  rw [Ew.out]
  try rw [Hz.out]
  go_wp2_with fail
  refine Hp.out.mono ?_
  rintro e w1 ⟨rfl, hb⟩
  have Hb := Lib.hid hb
  have k4 := (Hw.out w1 hb).k4
  obtain ⟨a0, a1, a2, a3, a4⟩ := cells5 (Hk.out w1 hb)
  have hlk : ∀ k, (Instr.lookup 70 (.map (some mo)) (.agg #[.int .u8 x.pr, .int .u32 x.sr, .int .u32 x.ds, .int .u16 x.sp, .int .u16 x.dp]) true).run Try.prog (w1.drewN k) = .ok (.tuple #[.int .u64 i2, .bool b2]) (w1.drewN k) := fun k => Hlk.out _ (hb.trans (((But.refl (fun _ => False) w1).drewN k).below (fun _ h => h.elim) hb.size))
  clear hb
  go_wp2_with fail
  go_quiet (fail)
  obtain ⟨w2, ew2⟩ : ∃ w2, w1.drewN nq = w2 := ⟨_, rfl⟩
  have Hb2 := Lib.hid (show Below w0.heap.size w0 w2 by rw [← ew2]; exact Hb.out.trans (((But.refl (fun _ => False) w1).drewN nq).below (fun _ h => h.elim) Hb.out.size))
  rw [ew2]
  clear ew2 k4 a0 a1 a2 a3 a4 hlk
  subst eu
  obtain ⟨wd, ewd⟩ : ∃ wd, w2.drew = wd := ⟨_, rfl⟩
  have hbd : Below w0.heap.size w0 wd := by rw [← ewd]; exact Hb2.out.drew
  have hd := Hw.out wd hbd
  have Hlead := Lib.hid (lead_any S g M last L mi mo gu o n c p k KI RI KO RO x wd hd Hen.out hk Hep.out)
  have HSd := Lib.hid (show wd.cell? ⟨g, 5, none⟩ = some (.slice (some ⟨gu, o, none⟩) n c) ∧ (wd.cell? ⟨z, 0, none⟩ = some (.int .u8 x.pr) ∧ wd.cell? ⟨z, 1, none⟩ = some (.int .u32 x.sr) ∧ wd.cell? ⟨z, 2, none⟩ = some (.int .u32 x.ds) ∧ wd.cell? ⟨z, 3, none⟩ = some (.int .u16 x.sp) ∧ wd.cell? ⟨z, 4, none⟩ = some (.int .u16 x.dp)) from ⟨hd.k5, cells5 (Hk.out wd hbd)⟩)
  have HS := Lib.hid (fun (w4 : World) (hM : TMem w4 S g M last (leadF k x L) mi mo (.slice (some ⟨gu, o, none⟩) n c) KI RI (KL (L.getD k f0).o x KO) (RL x (L.getD k f0).id RO)) (hB : But S wd w4) =>
    show w4.cell? ⟨g, 5, none⟩ = some (.slice (some ⟨gu, o, none⟩) n c) ∧ (w4.cell? ⟨z, 0, none⟩ = some (.int .u8 x.pr) ∧ w4.cell? ⟨z, 1, none⟩ = some (.int .u32 x.sr) ∧ w4.cell? ⟨z, 2, none⟩ = some (.int .u32 x.ds) ∧ w4.cell? ⟨z, 3, none⟩ = some (.int .u16 x.sp) ∧ w4.cell? ⟨z, 4, none⟩ = some (.int .u16 x.dp)) from
      ⟨hM.k5, cells5 (hB.blk (Hk.out wd hbd) (fun e => by have := HSz.out z e; omega))⟩)
  have HF := Lib.hid (fun (w4 : World) (hM : TMem w4 S g M last (leadF k x L) mi mo (.slice (some ⟨gu, o, none⟩) n c) KI RI (KL (L.getD k f0).o x KO) (RL x (L.getD k f0).id RO)) (hB : But S wd w4) =>
    show DropsM S g M last (leadF k x L) mi mo KI RI (KL (L.getD k f0).o x KO) (RL x (L.getD k f0).id RO) (.int .i64 0) w (.returned (.int .i64 0)) w4 from
      ⟨rfl, S, _, hM, (But.of (below_trans Hb0.out hbd)).trans hB, fun k hk => .inl hk⟩)
  have Ewd := Lib.hid ewd
  clear hd hbd ewd
  have hcond : (b2 = true ∧ (i2 != id) = false) ∨ b2 = false := by
    cases b2 with
    | true => exact .inl ⟨rfl, by have := Hi.out rfl; simpa using this⟩
    | false => exact .inr rfl
  rcases hcond with ⟨rfl, hne⟩ | rfl
  all_goals
    go_wp2_with fail
    refine wp_region_held_drew (S := fun wd => wd.cell? ⟨g, 5, none⟩ = some (.slice (some ⟨gu, o, none⟩) n c) ∧ (wd.cell? ⟨z, 0, none⟩ = some (.int .u8 x.pr) ∧ wd.cell? ⟨z, 1, none⟩ = some (.int .u32 x.sr) ∧ wd.cell? ⟨z, 2, none⟩ = some (.int .u32 x.ds) ∧ wd.cell? ⟨z, 3, none⟩ = some (.int .u16 x.sp) ∧ wd.cell? ⟨z, 4, none⟩ = some (.int .u16 x.dp))) (by kernel_rfl) (by rw [Ewd.out]; exact HSd.out) (fun hHeld => ?_)
    rw [Ewd.out] at hHeld ⊢
    refine wpAnyH_take (i := 0) (oi := { dst := some 35, op := Go.Op.move (Go.Operand.tmp 0), type := 23, pos := "table.go:73", after := #[], guard := none }) (v := ?_) rfl (by kernel_rfl) (by kernel_rfl) (by kernel_rfl) (fun _ _ _ h => h) (Or.inl ⟨by rfl, ?_⟩) (by assumption) ?_
    rotate_left 1
    · intro w' hSw; (go_simp <;> (with_reducible rfl))
    (try simp only [Act.put, List.setIfInBounds_toArray, List.set_cons_zero, List.set_cons_succ])
    refine wpAnyH_take (i := 1) (oi := { dst := some 36, op := Go.Op.move (Go.Operand.tmp 0), type := 23, pos := "table.go:73", after := #[], guard := none }) (v := ?_) rfl (by kernel_rfl) (by kernel_rfl) (by kernel_rfl) (fun _ _ _ h => h) (Or.inl ⟨by rfl, ?_⟩) (by assumption) ?_
    rotate_left 1
    · intro w' hSw; (go_simp <;> (with_reducible rfl))
    (try simp only [Act.put, List.setIfInBounds_toArray, List.set_cons_zero, List.set_cons_succ])
    refine wpAnyH_take (i := 2) (oi := { dst := some 37, op := Go.Op.nilCheck (Go.Operand.tmp 36), type := 0, pos := "table.go:73", after := #[{ on := 1, ground := Go.Ground.data }], guard := none }) (v := ?_) rfl (by kernel_rfl) (by kernel_rfl) (by kernel_rfl) (fun _ _ _ h => h) (Or.inl ⟨by rfl, ?_⟩) (by assumption) ?_
    rotate_left 1
    · intro w' hSw; (go_simp <;> (with_reducible rfl))
    (try simp only [Act.put, List.setIfInBounds_toArray, List.set_cons_zero, List.set_cons_succ])
    refine wpAnyH_take (i := 3) (oi := { dst := some 38, op := Go.Op.fieldAddr 72 (Go.Operand.tmp 37) 5, type := 0, pos := "table.go:73", after := #[{ on := 2, ground := Go.Ground.data }], guard := none }) (v := ?_) rfl (by kernel_rfl) (by kernel_rfl) (by kernel_rfl) (fun _ _ _ h => h) (Or.inl ⟨by rfl, ?_⟩) (by assumption) ?_
    rotate_left 1
    · intro w' hSw; (go_simp <;> (with_reducible rfl))
    (try simp only [Act.put, List.setIfInBounds_toArray, List.set_cons_zero, List.set_cons_succ])
    refine wpAnyH_take (i := 4) (oi := { dst := some 39, op := Go.Op.load 61 (Go.Operand.tmp 38), type := 61, pos := "table.go:73", after := #[{ on := 3, ground := Go.Ground.data }], guard := none }) (v := ?_) rfl (by kernel_rfl) (by kernel_rfl) (by kernel_rfl) (fun _ _ _ h => h) (Or.inl ⟨by rfl, ?_⟩) (by assumption) ?_
    rotate_left 1
    · intro w' hSw; (go_simp <;> (with_reducible rfl))
    (try simp only [Act.put, List.setIfInBounds_toArray, List.set_cons_zero, List.set_cons_succ])
    refine wpAnyH_take (i := 5) (oi := { dst := some 40, op := Go.Op.move (Go.Operand.tmp 7), type := 3, pos := "table.go:73", after := #[], guard := none }) (v := ?_) rfl (by kernel_rfl) (by kernel_rfl) (by kernel_rfl) (fun _ _ _ h => h) (Or.inl ⟨by rfl, ?_⟩) (by assumption) ?_
    rotate_left 1
    · intro w' hSw; (go_simp <;> (with_reducible rfl))
    (try simp only [Act.put, List.setIfInBounds_toArray, List.set_cons_zero, List.set_cons_succ])
    refine wpAnyH_take (i := 6) (oi := { dst := some 41, op := Go.Op.indexAddr 61 (Go.Operand.tmp 39) (Go.Operand.tmp 40), type := 0, pos := "table.go:73", after := #[{ on := 4, ground := Go.Ground.data }, { on := 5, ground := Go.Ground.data }], guard := none }) (v := ?_) rfl (by kernel_rfl) (by kernel_rfl) (by kernel_rfl) (fun _ _ _ h => h) (Or.inl ⟨by rfl, ?_⟩) (by assumption) ?_
    rotate_left 1
    · intro w' hSw; (go_simp <;> (with_reducible rfl))
    (try simp only [Act.put, List.setIfInBounds_toArray, List.set_cons_zero, List.set_cons_succ])
    refine wpAnyH_take (i := 7) (oi := { dst := some 42, op := Go.Op.load 37 (Go.Operand.tmp 5), type := 37, pos := "table.go:73", after := #[], guard := none }) (v := ?_) rfl (by kernel_rfl) (by kernel_rfl) (by kernel_rfl) (fun _ _ _ h => h) (Or.inl ⟨by rfl, ?_⟩) (by assumption) ?_
    rotate_left 1
    · intro w' hSw; (go_simp <;> (with_reducible rfl))
    (try simp only [Act.put, List.setIfInBounds_toArray, List.set_cons_zero, List.set_cons_succ])
    refine wpAnyH_ready (rs := [8]) (by kernel_rfl) (by simp) ?_
    refine AllReadyH.cons (o := { dst := some 43, op := Go.Op.call { callee := Go.Callee.value (Go.Operand.func 38), args := #[Go.Operand.tmp 35, Go.Operand.tmp 41, Go.Operand.tmp 42], argTypes := #[23, 81, 37] }, type := 0, pos := "table.go:73", after := #[{ on := 0, ground := Go.Ground.data }, { on := 6, ground := Go.Ground.data }, { on := 7, ground := Go.Ground.data }], guard := none }) rfl (fun K hK => ?_) AllReadyH.nil
    go_simp
    (refine Hlead.out.mono ?_; rintro e w4 ⟨rfl, hM4, hB4⟩; have HS4 := Lib.hid (HS.out w4 hM4 hB4); have HF4 := Lib.hid (HF.out w4 hM4 hB4); clear hM4 hB4)
    refine hK.out _ _ ?_ (fun hHeld => ?_)
    · exact HS4.out
    clear hK K
    (try simp only [Act.put, List.setIfInBounds_toArray, List.set_cons_zero, List.set_cons_succ])
    refine wpAnyH_done (by kernel_rfl) ?_ _
    clear hHeld
    go_wp2_with fail
    go_ret
    exact HF4.out
end
end Go.Proofs.Ytnhlbohdlnjaaaa
