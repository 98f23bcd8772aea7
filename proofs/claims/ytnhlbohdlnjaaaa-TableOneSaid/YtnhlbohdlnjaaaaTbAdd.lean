/-
  The contract of package table's Add, over a table in memory.
-/
import Derived.Test.YtnhlbohdlnjaaaaTbLeadM
namespace Go.Proofs.Ytnhlbohdlnjaaaa
set_option maxRecDepth 10000
open Go.RowKit
set_option linter.unusedSimpArgs false
set_option linter.unusedVariables false

theorem TMem.relast {w : World} {S : Nat → Prop} {g : Nat} {M last : Int} {L : TL} {mi mo : Nat} {u : Value} {KI : Tu → Prop} {RI : Tu → Value} {KO : Tu → Prop} {RO : Tu → Value} (h : TMem w S g M last L mi mo u KI RI KO RO) (l2 : Int) :
    TMem (w.setCell ⟨g, 2, none⟩ (.int .u64 l2)) S g M l2 L mi mo u KI RI KO RO ∧ But (fun k => k = g) w (w.setCell ⟨g, 2, none⟩ (.int .u64 l2)) := by
  have hB : But (fun k => k = g) w (w.setCell ⟨g, 2, none⟩ (.int .u64 l2)) := (But.refl (fun k => k = g) w).setCell (p := ⟨g, 2, none⟩) rfl _
  refine ⟨⟨?_, h.inn.but hB (fun e => h.gi e.symm), h.out.but hB (fun e => h.go e.symm), h.row.but hB (fun b hb e => h.gu hb e.symm), h.im, h.sg, h.si, h.so, h.su, fun k hk => hB.lt (h.lt k hk)⟩, hB⟩
  have := heap_setCell_at h.box 2 (.int .u64 l2)
  simpa using this
theorem lead_last (L : TL) (f : Fl) (x : Tu) : leadF L.length x (L ++ [f]) = L ++ [{ f with o := x }] := by
  unfold leadF
  have e : (L ++ [f]).getD L.length f0 = f := by simp [List.getD]
  rw [e, List.set_append_right _ _ (Nat.le_refl _), Nat.sub_self]
  rfl
section
variable (S : Nat → Prop) (g : Nat) (M last : Int) (L : TL) (mi mo : Nat) (u : Value) (KI : Tu → Prop) (RI : Tu → Value) (KO : Tu → Prop) (RO : Tu → Value) (w : World) (h : TMem w S g M last L mi mo u KI RI KO RO)
include h
theorem add_zero (t x : Tu) (ht : t = zT) : Calls Try.prog 13 #[.pointer (some ⟨g, 0, none⟩), .agg #[.int .u8 t.pr, .int .u32 t.sr, .int .u32 t.ds, .int .u16 t.sp, .int .u16 t.dp], .agg #[.int .u8 x.pr, .int .u32 x.sr, .int .u32 x.ds, .int .u16 x.sp, .int .u16 x.dp]] w (TellsT (.tuple #[.int .u64 0, .int .u64 0, .int .i64 1]) w) := by
  have hd : decide (t = zT) = true := decide_eq_true ht
  clear ht
  obtain ⟨w0, ew⟩ : ∃ w0, (w.alloc (.cells #[.int .u8 t.pr, .int .u32 t.sr, .int .u32 t.ds, .int .u16 t.sp, .int .u16 t.dp] 37)).alloc (.cells #[.int .u8 x.pr, .int .u32 x.sr, .int .u32 x.ds, .int .u16 x.sp, .int .u16 x.dp] 37) = w0 := ⟨_, rfl⟩
  obtain ⟨z, hz⟩ : ∃ z, w.heap.size = z := ⟨_, rfl⟩
  have hb0 : Below w.heap.size w w0 := by rw [← ew]; exact ((Below.refl _ _).alloc (Nat.le_refl _) _).alloc (by simp) _
  have hk0 : w0.heap[z]? = some (.cells #[.int .u8 t.pr, .int .u32 t.sr, .int .u32 t.ds, .int .u16 t.sp, .int .u16 t.dp] 37 (0, 0)) := by rw [← ew, Below.heap_alloc _ _ _ (by simp [hz]), ← hz]; exact heap_alloc_new w _
  have hk1 : w0.heap[z + 1]? = some (.cells #[.int .u8 x.pr, .int .u32 x.sr, .int .u32 x.ds, .int .u16 x.sp, .int .u16 x.dp] 37 (0, 0)) := by
    rw [← ew, ← hz]; simpa using heap_alloc_new (w.alloc (.cells #[.int .u8 t.pr, .int .u32 t.sr, .int .u32 t.ds, .int .u16 t.sp, .int .u16 t.dp] 37)) (.cells #[.int .u8 x.pr, .int .u32 x.sr, .int .u32 x.ds, .int .u16 x.sp, .int .u16 x.dp] 37)
  have h0 := h.below hb0
  have hSz : ∀ b, S b → b < z := fun b hb => by have := h.lt b hb; omega
  have Hno := Lib.hid (tnone_no g w0 h0.k0)
  have Hk0 := Lib.hid (show ∀ W, Below w0.heap.size w0 W → W.heap[z]? = some (.cells #[.int .u8 t.pr, .int .u32 t.sr, .int .u32 t.ds, .int .u16 t.sp, .int .u16 t.dp] 37 (0, 0)) from fun W hb => blk_on hk0 hb)
  have Hk1 := Lib.hid (show ∀ W, Below w0.heap.size w0 W → W.heap[z + 1]? = some (.cells #[.int .u8 x.pr, .int .u32 x.sr, .int .u32 x.ds, .int .u16 x.sp, .int .u16 x.dp] 37 (0, 0)) from fun W hb => blk_on hk1 hb)
  have Hw := Lib.hid (show ∀ W, Below w0.heap.size w0 W → TMem W S g M last L mi mo u KI RI KO RO from fun W hb => h0.below hb)
  have Ew := Lib.hid ew
  have Hz := Lib.hid hz
  have Hb0 := Lib.hid hb0
  have HSz := Lib.hid hSz
  clear h h0 hb0 hk0 hk1 ew hz hSz
  go_enter Try.func13, Try.ntmps13
  go_upto_region 1 with (fail)
  rw [Ew.out]
  try rw [Hz.out]
  go_wp2_with fail
  refine Hno.out.mono ?_
  rintro e w1 ⟨rfl, rfl⟩
  obtain ⟨a0, a1, a2, a3, a4⟩ := cells5 (Hk0.out w0 (Below.refl _ _))
  go_wp2_with fail
  refine (zero_any t w0 _ rfl).mono ?_
  rintro e w1 ⟨rfl, hb1⟩
  have Hb1 := Lib.hid hb1
  clear a0 a1 a2 a3 a4 hb1
  rw [hd]
  go_wp2_with fail
  go_ret3
  exact ⟨rfl, below_trans Hb0.out Hb1.out⟩
theorem add_there (t x : Tu) (i1 i2 : Int) (b1 b2 : Bool) (ht : t ≠ zT) (hl1 : LookT KI RI t i1 b1) (hl2 : LookT KO RO x i2 b2) (hor : b1 = true ∨ b2 = true) :
    Calls Try.prog 13 #[.pointer (some ⟨g, 0, none⟩), .agg #[.int .u8 t.pr, .int .u32 t.sr, .int .u32 t.ds, .int .u16 t.sp, .int .u16 t.dp], .agg #[.int .u8 x.pr, .int .u32 x.sr, .int .u32 x.ds, .int .u16 x.sp, .int .u16 x.dp]] w (TellsT (.tuple #[.int .u64 0, .int .u64 0, .int .i64 9]) w) := by
  have hd : decide (t = zT) = false := decide_eq_false ht
  obtain ⟨bb, hbb⟩ : ∃ bb, (b1 || b2) = bb := ⟨_, rfl⟩
  have hbt : bb = true := by rw [← hbb]; rcases hor with rfl | rfl <;> simp
  clear ht hor
  obtain ⟨w0, ew⟩ : ∃ w0, (w.alloc (.cells #[.int .u8 t.pr, .int .u32 t.sr, .int .u32 t.ds, .int .u16 t.sp, .int .u16 t.dp] 37)).alloc (.cells #[.int .u8 x.pr, .int .u32 x.sr, .int .u32 x.ds, .int .u16 x.sp, .int .u16 x.dp] 37) = w0 := ⟨_, rfl⟩
  obtain ⟨z, hz⟩ : ∃ z, w.heap.size = z := ⟨_, rfl⟩
  have hb0 : Below w.heap.size w w0 := by rw [← ew]; exact ((Below.refl _ _).alloc (Nat.le_refl _) _).alloc (by simp) _
  have hk0 : w0.heap[z]? = some (.cells #[.int .u8 t.pr, .int .u32 t.sr, .int .u32 t.ds, .int .u16 t.sp, .int .u16 t.dp] 37 (0, 0)) := by rw [← ew, Below.heap_alloc _ _ _ (by simp [hz]), ← hz]; exact heap_alloc_new w _
  have hk1 : w0.heap[z + 1]? = some (.cells #[.int .u8 x.pr, .int .u32 x.sr, .int .u32 x.ds, .int .u16 x.sp, .int .u16 x.dp] 37 (0, 0)) := by
    rw [← ew, ← hz]; simpa using heap_alloc_new (w.alloc (.cells #[.int .u8 t.pr, .int .u32 t.sr, .int .u32 t.ds, .int .u16 t.sp, .int .u16 t.dp] 37)) (.cells #[.int .u8 x.pr, .int .u32 x.sr, .int .u32 x.ds, .int .u16 x.sp, .int .u16 x.dp] 37)
  have h0 := h.below hb0
  have hSz : ∀ b, S b → b < z := fun b hb => by have := h.lt b hb; omega
  have Hno := Lib.hid (tnone_no g w0 h0.k0)
  have Hk0 := Lib.hid (show ∀ W, Below w0.heap.size w0 W → W.heap[z]? = some (.cells #[.int .u8 t.pr, .int .u32 t.sr, .int .u32 t.ds, .int .u16 t.sp, .int .u16 t.dp] 37 (0, 0)) from fun W hb => blk_on hk0 hb)
  have Hk1 := Lib.hid (show ∀ W, Below w0.heap.size w0 W → W.heap[z + 1]? = some (.cells #[.int .u8 x.pr, .int .u32 x.sr, .int .u32 x.ds, .int .u16 x.sp, .int .u16 x.dp] 37 (0, 0)) from fun W hb => blk_on hk1 hb)
  have Hw := Lib.hid (show ∀ W, Below w0.heap.size w0 W → TMem W S g M last L mi mo u KI RI KO RO from fun W hb => h0.below hb)
  have Ew := Lib.hid ew
  have Hz := Lib.hid hz
  have Hb0 := Lib.hid hb0
  have HSz := Lib.hid hSz
  clear h h0 hb0 hk0 hk1 ew hz hSz
  go_enter Try.func13, Try.ntmps13
  go_upto_region 1 with (fail)
  rw [Ew.out]
  try rw [Hz.out]
  go_wp2_with fail
  refine Hno.out.mono ?_
  rintro e w1 ⟨rfl, rfl⟩
  obtain ⟨a0, a1, a2, a3, a4⟩ := cells5 (Hk0.out w0 (Below.refl _ _))
  go_wp2_with fail
  refine (zero_any t w0 _ rfl).mono ?_
  rintro e w1 ⟨rfl, hb1⟩
  have Hb1 := Lib.hid hb1
  clear a0 a1 a2 a3 a4 hb1
  rw [hd]
  obtain ⟨a0, a1, a2, a3, a4⟩ := cells5 (Hk0.out w1 Hb1.out)
  obtain ⟨c0, c1, c2, c3, c4⟩ := cells5 (Hk1.out w1 Hb1.out)
  go_wp2_with fail
  refine (has_at S g M last L mi mo u KI RI KO RO w1 (Hw.out w1 Hb1.out) t x i1 i2 b1 b2 bb hl1 hl2 hbb).mono ?_
  rintro e w2 ⟨rfl, hb2⟩
  have Hb2 := Lib.hid (below_trans Hb1.out hb2)
  clear hb2 a0 a1 a2 a3 a4 c0 c1 c2 c3 c4
  subst hbt
  go_wp2_with fail
  go_ret3
  exact ⟨rfl, below_trans Hb0.out Hb2.out⟩
theorem add_full (t x : Tu) (i1 i2 : Int) (ht : t ≠ zT) (hl1 : LookT KI RI t i1 false) (hl2 : LookT KO RO x i2 false) (hn : ¬ (L.length : Int) < M) (hL : L.length ≤ 1000000) (he : emF L = none) :
    Calls Try.prog 13 #[.pointer (some ⟨g, 0, none⟩), .agg #[.int .u8 t.pr, .int .u32 t.sr, .int .u32 t.ds, .int .u16 t.sp, .int .u16 t.dp], .agg #[.int .u8 x.pr, .int .u32 x.sr, .int .u32 x.ds, .int .u16 x.sp, .int .u16 x.dp]] w (TellsT (.tuple #[.int .u64 0, .int .u64 0, .int .i64 7]) w) := by
  have hd : decide (t = zT) = false := decide_eq_false ht
  obtain ⟨bb, hbb⟩ : ∃ bb, (false || false) = bb := ⟨_, rfl⟩
  have hbt : bb = false := by rw [← hbb]; rfl
  obtain ⟨b1, e1⟩ : ∃ b, b = false := ⟨false, rfl⟩
  obtain ⟨b2, e2⟩ : ∃ b, b = false := ⟨false, rfl⟩
  have hl1 : LookT KI RI t i1 b1 := by rw [e1]; exact hl1
  have hl2 : LookT KO RO x i2 b2 := by rw [e2]; exact hl2
  have hbb : (b1 || b2) = bb := by rw [e1, e2]; exact hbb
  clear ht
  obtain ⟨w0, ew⟩ : ∃ w0, (w.alloc (.cells #[.int .u8 t.pr, .int .u32 t.sr, .int .u32 t.ds, .int .u16 t.sp, .int .u16 t.dp] 37)).alloc (.cells #[.int .u8 x.pr, .int .u32 x.sr, .int .u32 x.ds, .int .u16 x.sp, .int .u16 x.dp] 37) = w0 := ⟨_, rfl⟩
  obtain ⟨z, hz⟩ : ∃ z, w.heap.size = z := ⟨_, rfl⟩
  have hb0 : Below w.heap.size w w0 := by rw [← ew]; exact ((Below.refl _ _).alloc (Nat.le_refl _) _).alloc (by simp) _
  have hk0 : w0.heap[z]? = some (.cells #[.int .u8 t.pr, .int .u32 t.sr, .int .u32 t.ds, .int .u16 t.sp, .int .u16 t.dp] 37 (0, 0)) := by rw [← ew, Below.heap_alloc _ _ _ (by simp [hz]), ← hz]; exact heap_alloc_new w _
  have hk1 : w0.heap[z + 1]? = some (.cells #[.int .u8 x.pr, .int .u32 x.sr, .int .u32 x.ds, .int .u16 x.sp, .int .u16 x.dp] 37 (0, 0)) := by
    rw [← ew, ← hz]; simpa using heap_alloc_new (w.alloc (.cells #[.int .u8 t.pr, .int .u32 t.sr, .int .u32 t.ds, .int .u16 t.sp, .int .u16 t.dp] 37)) (.cells #[.int .u8 x.pr, .int .u32 x.sr, .int .u32 x.ds, .int .u16 x.sp, .int .u16 x.dp] 37)
  have h0 := h.below hb0
  have hSz : ∀ b, S b → b < z := fun b hb => by have := h.lt b hb; omega
  have Hno := Lib.hid (tnone_no g w0 h0.k0)
  have Hk0 := Lib.hid (show ∀ W, Below w0.heap.size w0 W → W.heap[z]? = some (.cells #[.int .u8 t.pr, .int .u32 t.sr, .int .u32 t.ds, .int .u16 t.sp, .int .u16 t.dp] 37 (0, 0)) from fun W hb => blk_on hk0 hb)
  have Hk1 := Lib.hid (show ∀ W, Below w0.heap.size w0 W → W.heap[z + 1]? = some (.cells #[.int .u8 x.pr, .int .u32 x.sr, .int .u32 x.ds, .int .u16 x.sp, .int .u16 x.dp] 37 (0, 0)) from fun W hb => blk_on hk1 hb)
  have Hw := Lib.hid (show ∀ W, Below w0.heap.size w0 W → TMem W S g M last L mi mo u KI RI KO RO from fun W hb => h0.below hb)
  have Ew := Lib.hid ew
  have Hz := Lib.hid hz
  have Hb0 := Lib.hid hb0
  have HSz := Lib.hid hSz
  clear h h0 hb0 hk0 hk1 ew hz hSz
  go_enter Try.func13, Try.ntmps13
  go_upto_region 1 with (fail)
  rw [Ew.out]
  try rw [Hz.out]
  go_wp2_with fail
  refine Hno.out.mono ?_
  rintro e w1 ⟨rfl, rfl⟩
  obtain ⟨a0, a1, a2, a3, a4⟩ := cells5 (Hk0.out w0 (Below.refl _ _))
  go_wp2_with fail
  refine (zero_any t w0 _ rfl).mono ?_
  rintro e w1 ⟨rfl, hb1⟩
  have Hb1 := Lib.hid hb1
  clear a0 a1 a2 a3 a4 hb1
  rw [hd]
  obtain ⟨a0, a1, a2, a3, a4⟩ := cells5 (Hk0.out w1 Hb1.out)
  obtain ⟨c0, c1, c2, c3, c4⟩ := cells5 (Hk1.out w1 Hb1.out)
  go_wp2_with fail
  refine (has_at S g M last L mi mo u KI RI KO RO w1 (Hw.out w1 Hb1.out) t x i1 i2 b1 b2 bb hl1 hl2 hbb).mono ?_
  rintro e w2 ⟨rfl, hb2⟩
  have Hb2 := Lib.hid (below_trans Hb1.out hb2)
  clear hb2 a0 a1 a2 a3 a4 c0 c1 c2 c3 c4
  subst hbt
  have Hr := Lib.hid (room_full S g M last L mi mo u KI RI KO RO w2 (Hw.out w2 Hb2.out) (by omega) hL he)
  clear hn he hbb hl1 hl2 e1 e2
  go_wp2_with fail
  refine Hr.out.mono ?_
  rintro e w3 ⟨rfl, m, rfl⟩
  go_wp2_with fail
  go_ret3
  exact ⟨rfl, (below_trans Hb0.out Hb2.out).trans (((But.refl (fun _ => False) w2).drewN m).below (fun _ h => h.elim) (below_trans Hb0.out Hb2.out).size)⟩
set_option maxHeartbeats 4000000 in
theorem add_ok (t x : Tu) (i1 i2 wt : Int) (L1 : TL) (KI1 KO1 : Tu → Prop) (ht : t ≠ zT) (hl1 : LookT KI RI t i1 false) (hl2 : LookT KO RO x i2 false) (hlast : 0 ≤ last ∧ last ≤ 1000000) (hL1 : L1.length ≤ 1000000)
    (hroom : ∀ W, Below w.heap.size w W → Calls Try.prog 37 #[.pointer (some ⟨g, 0, none⟩)] W (DropsM S g M last L1 mi mo KI1 RI KO1 RO (.tuple #[.int .u64 wt, .int .i64 0]) W)) :
    Calls Try.prog 13 #[.pointer (some ⟨g, 0, none⟩), .agg #[.int .u8 t.pr, .int .u32 t.sr, .int .u32 t.ds, .int .u16 t.sp, .int .u16 t.dp], .agg #[.int .u8 x.pr, .int .u32 x.sr, .int .u32 x.ds, .int .u16 x.sp, .int .u16 x.dp]] w
      (DropsM S g M (last + 1) (L1 ++ [⟨last + 1, t, x, true⟩]) mi mo (fun a => a = t ∨ KI1 a) (fun a => if a = t then .int .u64 (last + 1) else RI a) (KL zT x KO1) (RL x (last + 1) RO) (.tuple #[.int .u64 (last + 1), .int .u64 wt, .int .i64 0]) w) := by
  have hd : decide (t = zT) = false := decide_eq_false ht
  obtain ⟨bb, hbb⟩ : ∃ bb, (false || false) = bb := ⟨_, rfl⟩
  have hbt : bb = false := by rw [← hbb]; rfl
  obtain ⟨b1, e1⟩ : ∃ b, b = false := ⟨false, rfl⟩
  obtain ⟨b2, e2⟩ : ∃ b, b = false := ⟨false, rfl⟩
  have hl1 : LookT KI RI t i1 b1 := by rw [e1]; exact hl1
  have hl2 : LookT KO RO x i2 b2 := by rw [e2]; exact hl2
  have hbb : (b1 || b2) = bb := by rw [e1, e2]; exact hbb
  obtain ⟨l2, el2⟩ : ∃ l2, last + 1 = l2 := ⟨_, rfl⟩
  have hwl : IntKind.u64.wrap (last + 1) = l2 := by
    rw [← el2]
    have e : IntKind.u64.wrap (last + 1) = (last + 1) % 18446744073709551616 := by simp [IntKind.wrap, IntKind.bits, IntKind.signed]
    rw [e]; omega
  have Hroom := Lib.hid hroom
  have Hl1 := Lib.hid hL1
  rw [el2]
  clear ht hlast hroom hL1
  obtain ⟨w0, ew⟩ : ∃ w0, (w.alloc (.cells #[.int .u8 t.pr, .int .u32 t.sr, .int .u32 t.ds, .int .u16 t.sp, .int .u16 t.dp] 37)).alloc (.cells #[.int .u8 x.pr, .int .u32 x.sr, .int .u32 x.ds, .int .u16 x.sp, .int .u16 x.dp] 37) = w0 := ⟨_, rfl⟩
  obtain ⟨z, hz⟩ : ∃ z, w.heap.size = z := ⟨_, rfl⟩
  have hb0 : Below w.heap.size w w0 := by rw [← ew]; exact ((Below.refl _ _).alloc (Nat.le_refl _) _).alloc (by simp) _
  have hk0 : w0.heap[z]? = some (.cells #[.int .u8 t.pr, .int .u32 t.sr, .int .u32 t.ds, .int .u16 t.sp, .int .u16 t.dp] 37 (0, 0)) := by rw [← ew, Below.heap_alloc _ _ _ (by simp [hz]), ← hz]; exact heap_alloc_new w _
  have hk1 : w0.heap[z + 1]? = some (.cells #[.int .u8 x.pr, .int .u32 x.sr, .int .u32 x.ds, .int .u16 x.sp, .int .u16 x.dp] 37 (0, 0)) := by
    rw [← ew, ← hz]; simpa using heap_alloc_new (w.alloc (.cells #[.int .u8 t.pr, .int .u32 t.sr, .int .u32 t.ds, .int .u16 t.sp, .int .u16 t.dp] 37)) (.cells #[.int .u8 x.pr, .int .u32 x.sr, .int .u32 x.ds, .int .u16 x.sp, .int .u16 x.dp] 37)
  have h0 := h.below hb0
  have hSz : ∀ b, S b → b < z := fun b hb => by have := h.lt b hb; omega
  have Hno := Lib.hid (tnone_no g w0 h0.k0)
  have Hk0 := Lib.hid (show ∀ W, Below w0.heap.size w0 W → W.heap[z]? = some (.cells #[.int .u8 t.pr, .int .u32 t.sr, .int .u32 t.ds, .int .u16 t.sp, .int .u16 t.dp] 37 (0, 0)) from fun W hb => blk_on hk0 hb)
  have Hk1 := Lib.hid (show ∀ W, Below w0.heap.size w0 W → W.heap[z + 1]? = some (.cells #[.int .u8 x.pr, .int .u32 x.sr, .int .u32 x.ds, .int .u16 x.sp, .int .u16 x.dp] 37 (0, 0)) from fun W hb => blk_on hk1 hb)
  have Hw := Lib.hid (show ∀ W, Below w0.heap.size w0 W → TMem W S g M last L mi mo u KI RI KO RO from fun W hb => h0.below hb)
  have Ew := Lib.hid ew
  have Hz := Lib.hid hz
  have Hb0 := Lib.hid hb0
  have HSz := Lib.hid hSz
  clear h h0 hb0 hk0 hk1 ew hz hSz
  go_enter Try.func13, Try.ntmps13
  go_upto_region 1 with (fail)
  rw [Ew.out]
  try rw [Hz.out]
  go_wp2_with fail
  refine Hno.out.mono ?_
  rintro e w1 ⟨rfl, rfl⟩
  obtain ⟨a0, a1, a2, a3, a4⟩ := cells5 (Hk0.out w0 (Below.refl _ _))
  go_wp2_with fail
  refine (zero_any t w0 _ rfl).mono ?_
  rintro e w1 ⟨rfl, hb1⟩
  have Hb1 := Lib.hid hb1
  clear a0 a1 a2 a3 a4 hb1
  rw [hd]
  obtain ⟨a0, a1, a2, a3, a4⟩ := cells5 (Hk0.out w1 Hb1.out)
  obtain ⟨c0, c1, c2, c3, c4⟩ := cells5 (Hk1.out w1 Hb1.out)
  go_wp2_with fail
  refine (has_at S g M last L mi mo u KI RI KO RO w1 (Hw.out w1 Hb1.out) t x i1 i2 b1 b2 bb hl1 hl2 hbb).mono ?_
  rintro e w2 ⟨rfl, hb2⟩
  have Hb2 := Lib.hid (below_trans Hb1.out hb2)
  clear hb2 a0 a1 a2 a3 a4 c0 c1 c2 c3 c4
  subst hbt
  clear hbb hl1 hl2 e1 e2
  have Hr := Lib.hid (Hroom.out w2 (below_trans Hb0.out Hb2.out))
  go_wp2_with fail
  refine Hr.out.mono ?_
  rintro e w3 ⟨rfl, S3, u3, hM3, hB3, hS3⟩
  -- behind makeRoom
  have hSz3 : ∀ b, S3 b → b ≠ z ∧ b ≠ z + 1 := fun b hb => by
    rcases hS3 b hb with e | e
    · have := HSz.out b e; omega
    · have h1 := lt_of_block (Hk1.out w2 Hb2.out); omega
  have hk3a := hB3.blk (Hk0.out w2 Hb2.out) (fun e => by have := HSz.out z e; omega)
  have hk3b := hB3.blk (Hk1.out w2 Hb2.out) (fun e => by have := HSz.out (z + 1) e; omega)
  have k2 := hM3.k2
  have f2 := hM3.free 2
  obtain ⟨w4, ew4⟩ : ∃ w4, w3.setCell ⟨g, 2, none⟩ (.int .u64 l2) = w4 := ⟨_, rfl⟩
  obtain ⟨hM4, hB4⟩ := hM3.relast l2
  rw [ew4] at hM4 hB4
  have hk4a := hB4.blk hk3a (fun e => (hSz3 g hM3.sg).1 e.symm)
  have hk4b := hB4.blk hk3b (fun e => (hSz3 g hM3.sg).2 e.symm)
  obtain ⟨wd4, ewd4⟩ : ∃ wd, w4.drew = wd := ⟨_, rfl⟩
  have hbd4 : But (fun _ => False) w4 wd4 := by rw [← ewd4]; exact (But.refl (fun _ => False) w4).drew
  have hMd := hM4.but hbd4 (fun _ _ h => h)
  have hkda := hbd4.blk hk4a (fun x => x)
  have hkdb := hbd4.blk hk4b (fun x => x)
  obtain ⟨w5, hr5, hm5, hB5⟩ := hMd.inn.put_u t (.int .u64 l2)
  have hM5 := hMd.turnI hB5 hm5
  have hk5a := hB5.blk hkda (fun e => (hSz3 mi hM3.si).1 e.symm)
  have hk5b := hB5.blk hkdb (fun e => (hSz3 mi hM3.si).2 e.symm)
  have HSd := Lib.hid (show (wd4.cell? ⟨g, 3, none⟩ = some (.map (some mi)) ∧ wd4.cell? ⟨g, 2, none⟩ = some (.int .u64 l2)) ∧ (wd4.cell? ⟨z, 0, none⟩ = some (.int .u8 t.pr) ∧ wd4.cell? ⟨z, 1, none⟩ = some (.int .u32 t.sr) ∧ wd4.cell? ⟨z, 2, none⟩ = some (.int .u32 t.ds) ∧ wd4.cell? ⟨z, 3, none⟩ = some (.int .u16 t.sp) ∧ wd4.cell? ⟨z, 4, none⟩ = some (.int .u16 t.dp)) from ⟨⟨hMd.k3, hMd.k2⟩, cells5 hkda⟩)
  have HS5 := Lib.hid (show (w5.cell? ⟨g, 3, none⟩ = some (.map (some mi)) ∧ w5.cell? ⟨g, 2, none⟩ = some (.int .u64 l2)) ∧ (w5.cell? ⟨z, 0, none⟩ = some (.int .u8 t.pr) ∧ w5.cell? ⟨z, 1, none⟩ = some (.int .u32 t.sr) ∧ w5.cell? ⟨z, 2, none⟩ = some (.int .u32 t.ds) ∧ w5.cell? ⟨z, 3, none⟩ = some (.int .u16 t.sp) ∧ w5.cell? ⟨z, 4, none⟩ = some (.int .u16 t.dp)) from ⟨⟨hM5.k3, hM5.k2⟩, cells5 hk5a⟩)
  have hB05 : But S w w5 := ((((But.of (below_trans Hb0.out Hb2.out)).trans hB3).trans2 hB4 (fun k hk e => by
    have h1 := (Hw.out w0 (Below.refl _ _)).sg
    exact e ▸ h1)).trans (hbd4.mono (fun _ _ h => h.elim))).trans2 hB5 (fun k hk e => by
    have h1 := (Hw.out w0 (Below.refl _ _)).si
    exact e ▸ h1)
  -- the list
  obtain ⟨wd5, ewd5⟩ : ∃ wd, w5.drew = wd := ⟨_, rfl⟩
  have hbd5 : But (fun _ => False) w5 wd5 := by rw [← ewd5]; exact (But.refl (fun _ => False) w5).drew
  have hMe := hM5.but hbd5 (fun _ _ h => h)
  have hkea := hbd5.blk hk5a (fun x => x)
  have hkeb := hbd5.blk hk5b (fun x => x)
  obtain ⟨w6, ew6⟩ : ∃ w6, wd5.alloc (.cells #[.int .u64 l2, .int .u8 t.pr, .int .u32 t.sr, .int .u32 t.ds, .int .u16 t.sp, .int .u16 t.dp, .int .u8 0, .int .u32 0, .int .u32 0, .int .u16 0, .int .u16 0, .bool true] 51) = w6 := ⟨_, rfl⟩
  obtain ⟨q, eq⟩ : ∃ q, wd5.heap.size = q := ⟨_, rfl⟩
  have hb6 : But (fun _ => False) wd5 w6 := by rw [← ew6]; exact (But.refl (fun _ => False) wd5).alloc _
  have hlx : w6.heap[q]? = some (.cells (flV ⟨l2, t, zT, true⟩).toArray 51 (0, 0)) := by rw [← ew6, ← eq]; exact heap_alloc_new wd5 _
  have hM6 := hMe.but hb6 (fun _ _ h => h)
  have hk6a := hb6.blk hkea (fun x => x)
  have hk6b := hb6.blk hkeb (fun x => x)
  obtain ⟨A, c, ev⟩ := hM6.row.form
  obtain ⟨m, em⟩ : ∃ m, L1.length = m := ⟨_, rfl⟩
  have hrow6 := hM6.row
  rw [em] at ev hrow6
  subst ev
  have hm1 : m ≤ 1000000 := by have := Hl1.out; omega
  obtain ⟨A4, c4, w7, hr7, hs7, hB7, ho7⟩ := flow_app_t w6 A m c q L1 ⟨l2, t, zT, true⟩ hrow6 hlx hm1
  have hM6' : TMem w6 S3 g M l2 L1 mi mo (.slice A m c) (fun a => a = t ∨ KI1 a) (fun a => if a = t then .int .u64 l2 else RI a) KO1 RO := hM6
  have hk7a := hB7.blk hk6a (fun e => (hSz3 z (hM6.su z e)).1 rfl)
  have hk7b := hB7.blk hk6b (fun e => (hSz3 (z + 1) (hM6.su (z + 1) e)).2 rfl)
  have hg7 : ∀ i, w7.cell? ⟨g, i, none⟩ = w6.cell? ⟨g, i, none⟩ := fun i => hB7.cell (p := ⟨g, i, none⟩) (hM6.lt g hM6.sg) (fun e => hM6.gu e rfl)
  have HSe := Lib.hid (show (wd5.cell? ⟨g, 5, none⟩ = some (.slice A m c) ∧ wd5.cell? ⟨g, 2, none⟩ = some (.int .u64 l2)) ∧ (wd5.cell? ⟨z, 0, none⟩ = some (.int .u8 t.pr) ∧ wd5.cell? ⟨z, 1, none⟩ = some (.int .u32 t.sr) ∧ wd5.cell? ⟨z, 2, none⟩ = some (.int .u32 t.ds) ∧ wd5.cell? ⟨z, 3, none⟩ = some (.int .u16 t.sp) ∧ wd5.cell? ⟨z, 4, none⟩ = some (.int .u16 t.dp)) from ⟨⟨hMe.k5, hMe.k2⟩, cells5 hkea⟩)
  have HS6 := Lib.hid (show (w6.cell? ⟨g, 5, none⟩ = some (.slice A m c) ∧ w6.cell? ⟨g, 2, none⟩ = some (.int .u64 l2)) ∧ (w6.cell? ⟨z, 0, none⟩ = some (.int .u8 t.pr) ∧ w6.cell? ⟨z, 1, none⟩ = some (.int .u32 t.sr) ∧ w6.cell? ⟨z, 2, none⟩ = some (.int .u32 t.ds) ∧ w6.cell? ⟨z, 3, none⟩ = some (.int .u16 t.sp) ∧ w6.cell? ⟨z, 4, none⟩ = some (.int .u16 t.dp)) from ⟨⟨hM6.k5, hM6.k2⟩, cells5 hk6a⟩)
  have HS7 := Lib.hid (show (w7.cell? ⟨g, 5, none⟩ = some (.slice A m c) ∧ w7.cell? ⟨g, 2, none⟩ = some (.int .u64 l2)) ∧ (w7.cell? ⟨z, 0, none⟩ = some (.int .u8 t.pr) ∧ w7.cell? ⟨z, 1, none⟩ = some (.int .u32 t.sr) ∧ w7.cell? ⟨z, 2, none⟩ = some (.int .u32 t.ds) ∧ w7.cell? ⟨z, 3, none⟩ = some (.int .u16 t.sp) ∧ w7.cell? ⟨z, 4, none⟩ = some (.int .u16 t.dp)) from ⟨⟨(hg7 5).trans hM6.k5, (hg7 2).trans hM6.k2⟩, cells5 hk7a⟩)
  obtain ⟨n1, en1⟩ : ∃ n1, m + 1 = n1 := ⟨_, rfl⟩
  rw [en1] at hr7 hs7 ho7
  have hlen : (L1 ++ [(⟨l2, t, zT, true⟩ : Fl)]).length = n1 := by simp [em, en1]
  obtain ⟨hM8, hB8, hS8, f85, k85⟩ := hM6.lay hB7 (u' := .slice A4 n1 c4) (L' := L1 ++ [⟨l2, t, zT, true⟩]) (by rw [hlen]; exact hs7) (fun b hb => by
    rcases ho7 with e | e
    · exact .inl (e ▸ hb)
    · rw [e] at hb; injection hb with hb; exact .inr (by omega))
  obtain ⟨w8, ew8⟩ : ∃ w8, w7.setCell ⟨g, 5, none⟩ (.slice A4 n1 c4) = w8 := ⟨_, rfl⟩
  rw [ew8] at hM8 hB8
  have hB68 : But S3 w6 w8 := hB8
  have hk8b := hB68.blk hk6b (fun e => (hSz3 (z + 1) e).2 rfl)
  have hw6 : w.heap.size ≤ w6.heap.size := by
    have a1 := hB05.size
    have a2 := hbd5.size
    have a3 := hb6.size
    omega
  have hB08 : But S w w8 := ((hB05.trans (hbd5.mono (fun _ _ h => h.elim))).trans (hb6.mono (fun _ _ h => h.elim))).trans2 hB68 (fun k hk e => by
    rcases hS3 k e with h1 | h1
    · exact h1
    · have := (below_trans Hb0.out Hb2.out).size; omega)
  have hS8' : ∀ k, (S3 k ∨ (Value.slice A4 n1 c4).ownBlock = some k) → S k ∨ w.heap.size ≤ k := fun k hk => by
    rcases hS8 k hk with h1 | h1
    · rcases hS3 k h1 with h2 | h2
      · exact .inl h2
      · have := (below_trans Hb0.out Hb2.out).size; exact .inr (by omega)
    · exact .inr (by omega)
  have hz8 : ¬ (S3 (z + 1) ∨ (Value.slice A4 n1 c4).ownBlock = some (z + 1)) := fun e => by
    rcases hS8 _ e with h1 | h1
    · exact (hSz3 _ h1).2 rfl
    · have := lt_of_block hk6b; omega
  -- the lead
  obtain ⟨wd8, ewd8⟩ : ∃ wd, w8.drew = wd := ⟨_, rfl⟩
  have hbd8 : But (fun _ => False) w8 wd8 := by rw [← ewd8]; exact (But.refl (fun _ => False) w8).drew
  have hM9 := hM8.but hbd8 (fun _ _ h => h)
  have hk9b := hbd8.blk hk8b (fun x => x)
  obtain ⟨gu, o, eA4, hidx, -, -⟩ := fl_index_t (A := A4) (n := n1) (c := c4) (L := L1 ++ [⟨l2, t, zT, true⟩]) (by have := hM9.row; rw [hlen] at this; exact this) hlen (j := m) (by omega)
  subst eA4
  obtain ⟨p, ep⟩ : ∃ p, o + m * 12 = p := ⟨_, rfl⟩
  rw [ep] at hidx
  have hgd : (L1 ++ [(⟨l2, t, zT, true⟩ : Fl)]).getD m f0 = ⟨l2, t, zT, true⟩ := by rw [← em]; simp [List.getD]
  have hld := lead_any _ g M l2 (L1 ++ [⟨l2, t, zT, true⟩]) mi mo gu o n1 c4 p m _ _ _ _ x wd8 hM9 hlen (by omega) ep
  rw [hgd, show leadF m x (L1 ++ [(⟨l2, t, zT, true⟩ : Fl)]) = L1 ++ [⟨l2, t, x, true⟩] by rw [← em]; exact lead_last _ _ _] at hld
  have Hlead := Lib.hid hld
  have HSf := Lib.hid (show wd8.cell? ⟨g, 5, none⟩ = some (.slice (some ⟨gu, o, none⟩) n1 c4) ∧ (wd8.cell? ⟨z + 1, 0, none⟩ = some (.int .u8 x.pr) ∧ wd8.cell? ⟨z + 1, 1, none⟩ = some (.int .u32 x.sr) ∧ wd8.cell? ⟨z + 1, 2, none⟩ = some (.int .u32 x.ds) ∧ wd8.cell? ⟨z + 1, 3, none⟩ = some (.int .u16 x.sp) ∧ wd8.cell? ⟨z + 1, 4, none⟩ = some (.int .u16 x.dp)) from ⟨hM9.k5, cells5 hk9b⟩)
  have HS := Lib.hid (fun (w9 : World) (hM : TMem w9 (fun k => S3 k ∨ (Value.slice (some ⟨gu, o, none⟩) n1 c4).ownBlock = some k) g M l2 (L1 ++ [⟨l2, t, x, true⟩]) mi mo (.slice (some ⟨gu, o, none⟩) n1 c4) (fun a => a = t ∨ KI1 a) (fun a => if a = t then .int .u64 l2 else RI a) (KL zT x KO1) (RL x l2 RO)) (hB : But (fun k => S3 k ∨ (Value.slice (some ⟨gu, o, none⟩) n1 c4).ownBlock = some k) wd8 w9) =>
    show w9.cell? ⟨g, 5, none⟩ = some (.slice (some ⟨gu, o, none⟩) n1 c4) ∧ (w9.cell? ⟨z + 1, 0, none⟩ = some (.int .u8 x.pr) ∧ w9.cell? ⟨z + 1, 1, none⟩ = some (.int .u32 x.sr) ∧ w9.cell? ⟨z + 1, 2, none⟩ = some (.int .u32 x.ds) ∧ w9.cell? ⟨z + 1, 3, none⟩ = some (.int .u16 x.sp) ∧ w9.cell? ⟨z + 1, 4, none⟩ = some (.int .u16 x.dp)) from
      ⟨hM.k5, cells5 (hB.blk hk9b hz8)⟩)
  have HF := Lib.hid (fun (w9 : World) (hM : TMem w9 (fun k => S3 k ∨ (Value.slice (some ⟨gu, o, none⟩) n1 c4).ownBlock = some k) g M l2 (L1 ++ [⟨l2, t, x, true⟩]) mi mo (.slice (some ⟨gu, o, none⟩) n1 c4) (fun a => a = t ∨ KI1 a) (fun a => if a = t then .int .u64 l2 else RI a) (KL zT x KO1) (RL x l2 RO)) (hB : But (fun k => S3 k ∨ (Value.slice (some ⟨gu, o, none⟩) n1 c4).ownBlock = some k) wd8 w9) =>
    show DropsM S g M l2 (L1 ++ [⟨l2, t, x, true⟩]) mi mo (fun a => a = t ∨ KI1 a) (fun a => if a = t then .int .u64 l2 else RI a) (KL zT x KO1) (RL x l2 RO) (.tuple #[.int .u64 l2, .int .u64 wt, .int .i64 0]) w (.returned (.tuple #[.int .u64 l2, .int .u64 wt, .int .i64 0])) w9 from
      ⟨rfl, _, _, hM, (hB08.trans (hbd8.mono (fun _ _ h => h.elim))).trans2 hB (fun k hk e => by
        rcases hS8' k e with h1 | h1
        · exact h1
        · omega), hS8'⟩)
  have Hr5 := Lib.hid hr5
  have Hr7 := Lib.hid hr7
  have Ew4 := Lib.hid ew4
  have Ewd4 := Lib.hid ewd4
  have Ewd5 := Lib.hid ewd5
  have Ew6 := Lib.hid ew6
  have Eq := Lib.hid eq
  have Ew8 := Lib.hid ew8
  have Ewd8 := Lib.hid ewd8
  have hsub : IntKind.i64.wrap ((n1 : Int) - 1) = (m : Int) := by rw [IntKind.wrap_i64]; omega
  have i0 : (0 : Int) ≤ (m : Int) := by omega
  have i1 : (m : Int) < (n1 : Int) := by omega
  have hSz3' := Lib.hid hSz3
  clear hM3 hB3 hS3 hSz3 hk3a hk3b hM4 hB4 hk4a hk4b hbd4 hMd hkda hkdb hm5 hB5 hM5 hk5a hk5b hB05 hbd5 hMe hkea hkeb hb6 hlx hM6 hk6a hk6b hrow6 hM6' hk7a hk7b hg7 hs7 hB7 ho7 hM8 hB8 hS8 hB68 hk8b hw6 hB08 hS8' hz8 hbd8 hM9 hk9b hld hgd hlen hr5 hr7 ew4 ewd4 ewd5 ew6 eq ew8 ewd8 ep en1 em hm1 hSz3' Hr Hroom Hw Hk0 Hk1 HSz el2
  go_upto_region 11 with (fail)
  rw [Ew4.out]
  clear k2 f2
  refine wp_region_held_drew (S := fun wd4 => (wd4.cell? ⟨g, 3, none⟩ = some (.map (some mi)) ∧ wd4.cell? ⟨g, 2, none⟩ = some (.int .u64 l2)) ∧ (wd4.cell? ⟨z, 0, none⟩ = some (.int .u8 t.pr) ∧ wd4.cell? ⟨z, 1, none⟩ = some (.int .u32 t.sr) ∧ wd4.cell? ⟨z, 2, none⟩ = some (.int .u32 t.ds) ∧ wd4.cell? ⟨z, 3, none⟩ = some (.int .u16 t.sp) ∧ wd4.cell? ⟨z, 4, none⟩ = some (.int .u16 t.dp))) (by kernel_rfl) (by rw [Ewd4.out]; exact HSd.out) (fun hHeld => ?_)
  rw [Ewd4.out] at hHeld ⊢
  refine wpAnyH_take (i := 0) (oi := { dst := some 34, op := Go.Op.move (Go.Operand.tmp 0), type := 23, pos := "table.go:58", after := #[], guard := none }) (v := ?_) rfl (by kernel_rfl) (by kernel_rfl) (by kernel_rfl) (fun _ _ _ h => h) (Or.inl ⟨by rfl, ?_⟩) (by assumption) ?_
  rotate_left 1
  · intro w' hSw; (go_simp <;> (with_reducible rfl))
  (try simp only [Act.put, List.setIfInBounds_toArray, List.set_cons_zero, List.set_cons_succ])
  refine wpAnyH_take (i := 1) (oi := { dst := some 35, op := Go.Op.nilCheck (Go.Operand.tmp 34), type := 0, pos := "table.go:58", after := #[{ on := 0, ground := Go.Ground.data }], guard := none }) (v := ?_) rfl (by kernel_rfl) (by kernel_rfl) (by kernel_rfl) (fun _ _ _ h => h) (Or.inl ⟨by rfl, ?_⟩) (by assumption) ?_
  rotate_left 1
  · intro w' hSw; (go_simp <;> (with_reducible rfl))
  (try simp only [Act.put, List.setIfInBounds_toArray, List.set_cons_zero, List.set_cons_succ])
  refine wpAnyH_take (i := 2) (oi := { dst := some 36, op := Go.Op.fieldAddr 72 (Go.Operand.tmp 35) 3, type := 0, pos := "table.go:58", after := #[{ on := 1, ground := Go.Ground.data }], guard := none }) (v := ?_) rfl (by kernel_rfl) (by kernel_rfl) (by kernel_rfl) (fun _ _ _ h => h) (Or.inl ⟨by rfl, ?_⟩) (by assumption) ?_
  rotate_left 1
  · intro w' hSw; (go_simp <;> (with_reducible rfl))
  (try simp only [Act.put, List.setIfInBounds_toArray, List.set_cons_zero, List.set_cons_succ])
  refine wpAnyH_take (i := 3) (oi := { dst := some 37, op := Go.Op.load 70 (Go.Operand.tmp 36), type := 70, pos := "table.go:58", after := #[{ on := 2, ground := Go.Ground.data }], guard := none }) (v := ?_) rfl (by kernel_rfl) (by kernel_rfl) (by kernel_rfl) (fun _ _ _ h => h) (Or.inl ⟨by rfl, ?_⟩) (by assumption) ?_
  rotate_left 1
  · intro w' hSw; (go_simp <;> (with_reducible rfl))
  (try simp only [Act.put, List.setIfInBounds_toArray, List.set_cons_zero, List.set_cons_succ])
  refine wpAnyH_take (i := 4) (oi := { dst := some 38, op := Go.Op.load 37 (Go.Operand.tmp 4), type := 37, pos := "table.go:58", after := #[], guard := none }) (v := ?_) rfl (by kernel_rfl) (by kernel_rfl) (by kernel_rfl) (fun _ _ _ h => h) (Or.inl ⟨by rfl, ?_⟩) (by assumption) ?_
  rotate_left 1
  · intro w' hSw; (go_simp <;> (with_reducible rfl))
  (try simp only [Act.put, List.setIfInBounds_toArray, List.set_cons_zero, List.set_cons_succ])
  refine wpAnyH_take (i := 5) (oi := { dst := some 39, op := Go.Op.move (Go.Operand.tmp 0), type := 23, pos := "table.go:58", after := #[], guard := none }) (v := ?_) rfl (by kernel_rfl) (by kernel_rfl) (by kernel_rfl) (fun _ _ _ h => h) (Or.inl ⟨by rfl, ?_⟩) (by assumption) ?_
  rotate_left 1
  · intro w' hSw; (go_simp <;> (with_reducible rfl))
  (try simp only [Act.put, List.setIfInBounds_toArray, List.set_cons_zero, List.set_cons_succ])
  refine wpAnyH_take (i := 6) (oi := { dst := some 40, op := Go.Op.nilCheck (Go.Operand.tmp 39), type := 0, pos := "table.go:58", after := #[{ on := 5, ground := Go.Ground.data }], guard := none }) (v := ?_) rfl (by kernel_rfl) (by kernel_rfl) (by kernel_rfl) (fun _ _ _ h => h) (Or.inl ⟨by rfl, ?_⟩) (by assumption) ?_
  rotate_left 1
  · intro w' hSw; (go_simp <;> (with_reducible rfl))
  (try simp only [Act.put, List.setIfInBounds_toArray, List.set_cons_zero, List.set_cons_succ])
  refine wpAnyH_take (i := 7) (oi := { dst := some 41, op := Go.Op.fieldAddr 72 (Go.Operand.tmp 40) 2, type := 0, pos := "table.go:58", after := #[{ on := 6, ground := Go.Ground.data }], guard := none }) (v := ?_) rfl (by kernel_rfl) (by kernel_rfl) (by kernel_rfl) (fun _ _ _ h => h) (Or.inl ⟨by rfl, ?_⟩) (by assumption) ?_
  rotate_left 1
  · intro w' hSw; (go_simp <;> (with_reducible rfl))
  (try simp only [Act.put, List.setIfInBounds_toArray, List.set_cons_zero, List.set_cons_succ])
  refine wpAnyH_take (i := 8) (oi := { dst := some 42, op := Go.Op.load 32 (Go.Operand.tmp 41), type := 32, pos := "table.go:58", after := #[{ on := 7, ground := Go.Ground.data }], guard := none }) (v := ?_) rfl (by kernel_rfl) (by kernel_rfl) (by kernel_rfl) (fun _ _ _ h => h) (Or.inl ⟨by rfl, ?_⟩) (by assumption) ?_
  rotate_left 1
  · intro w' hSw; (go_simp <;> (with_reducible rfl))
  (try simp only [Act.put, List.setIfInBounds_toArray, List.set_cons_zero, List.set_cons_succ])
  have hr5 := Hr5.out
  refine wpAnyH_ready (rs := [9]) (by kernel_rfl) (by simp) ?_
  refine AllReadyH.cons (o := { dst := none, op := Go.Op.mapUpdate 70 (Go.Operand.tmp 37) (Go.Operand.tmp 38) (Go.Operand.tmp 42), type := 0, pos := "table.go:58", after := #[{ on := 3, ground := Go.Ground.data }, { on := 4, ground := Go.Ground.data }, { on := 8, ground := Go.Ground.data }, { on := 0, ground := Go.Ground.phase }, { on := 1, ground := Go.Ground.phase }, { on := 2, ground := Go.Ground.phase }, { on := 3, ground := Go.Ground.phase }, { on := 4, ground := Go.Ground.phase }, { on := 5, ground := Go.Ground.phase }, { on := 6, ground := Go.Ground.phase }, { on := 7, ground := Go.Ground.phase }, { on := 8, ground := Go.Ground.phase }], guard := none }) rfl (fun K hK => ?_) AllReadyH.nil
  go_simp
  skip
  refine hK.out _ _ ?_ (fun hHeld => ?_)
  · exact HS5.out
  clear hK K
  (try simp only [Act.put, List.setIfInBounds_toArray, List.set_cons_zero, List.set_cons_succ])
  refine wpAnyH_done (by kernel_rfl) ?_ _
  clear hHeld
  go_wp2_with fail
  refine wp_region_heldL (S := fun wd4 => (wd4.cell? ⟨g, 5, none⟩ = some (.slice A m c) ∧ wd4.cell? ⟨g, 2, none⟩ = some (.int .u64 l2)) ∧ (wd4.cell? ⟨z, 0, none⟩ = some (.int .u8 t.pr) ∧ wd4.cell? ⟨z, 1, none⟩ = some (.int .u32 t.sr) ∧ wd4.cell? ⟨z, 2, none⟩ = some (.int .u32 t.ds) ∧ wd4.cell? ⟨z, 3, none⟩ = some (.int .u16 t.sp) ∧ wd4.cell? ⟨z, 4, none⟩ = some (.int .u16 t.dp))) 15 (by kernel_rfl) (by rw [Ewd5.out]; exact HSe.out) (fun hHeld => ?_)
  rw [Ewd5.out] at hHeld ⊢
  refine anyHL_take (i := 0) (oi := { dst := some 43, op := Go.Op.move (Go.Operand.tmp 0), type := 23, pos := "table.go:59", after := #[], guard := none }) (v := ?_) rfl (by kernel_rfl) (by kernel_rfl) (by kernel_rfl) (by kernel_rfl) (fun _ _ _ h => h) (Or.inl ⟨by rfl, ?_⟩) (by assumption) ?_
  rotate_left 1
  · intro w' hSw; (go_simp <;> (with_reducible rfl))
  (try simp only [Act.put, List.setIfInBounds_toArray, List.set_cons_zero, List.set_cons_succ])
  refine anyHL_take (i := 1) (oi := { dst := some 44, op := Go.Op.move (Go.Operand.tmp 0), type := 23, pos := "table.go:59", after := #[], guard := none }) (v := ?_) rfl (by kernel_rfl) (by kernel_rfl) (by kernel_rfl) (by kernel_rfl) (fun _ _ _ h => h) (Or.inl ⟨by rfl, ?_⟩) (by assumption) ?_
  rotate_left 1
  · intro w' hSw; (go_simp <;> (with_reducible rfl))
  (try simp only [Act.put, List.setIfInBounds_toArray, List.set_cons_zero, List.set_cons_succ])
  refine anyHL_take (i := 2) (oi := { dst := some 45, op := Go.Op.nilCheck (Go.Operand.tmp 44), type := 0, pos := "table.go:59", after := #[{ on := 1, ground := Go.Ground.data }], guard := none }) (v := ?_) rfl (by kernel_rfl) (by kernel_rfl) (by kernel_rfl) (by kernel_rfl) (fun _ _ _ h => h) (Or.inl ⟨by rfl, ?_⟩) (by assumption) ?_
  rotate_left 1
  · intro w' hSw; (go_simp <;> (with_reducible rfl))
  (try simp only [Act.put, List.setIfInBounds_toArray, List.set_cons_zero, List.set_cons_succ])
  refine anyHL_take (i := 3) (oi := { dst := some 46, op := Go.Op.fieldAddr 72 (Go.Operand.tmp 45) 5, type := 0, pos := "table.go:59", after := #[{ on := 2, ground := Go.Ground.data }], guard := none }) (v := ?_) rfl (by kernel_rfl) (by kernel_rfl) (by kernel_rfl) (by kernel_rfl) (fun _ _ _ h => h) (Or.inl ⟨by rfl, ?_⟩) (by assumption) ?_
  rotate_left 1
  · intro w' hSw; (go_simp <;> (with_reducible rfl))
  (try simp only [Act.put, List.setIfInBounds_toArray, List.set_cons_zero, List.set_cons_succ])
  refine anyHL_take (i := 4) (oi := { dst := some 47, op := Go.Op.load 61 (Go.Operand.tmp 46), type := 61, pos := "table.go:59", after := #[{ on := 3, ground := Go.Ground.data }], guard := none }) (v := ?_) rfl (by kernel_rfl) (by kernel_rfl) (by kernel_rfl) (by kernel_rfl) (fun _ _ _ h => h) (Or.inl ⟨by rfl, ?_⟩) (by assumption) ?_
  rotate_left 1
  · intro w' hSw; (go_simp <;> (with_reducible rfl))
  (try simp only [Act.put, List.setIfInBounds_toArray, List.set_cons_zero, List.set_cons_succ])
  refine anyHL_take (i := 5) (oi := { dst := some 48, op := Go.Op.move (Go.Operand.tmp 0), type := 23, pos := "table.go:59", after := #[], guard := none }) (v := ?_) rfl (by kernel_rfl) (by kernel_rfl) (by kernel_rfl) (by kernel_rfl) (fun _ _ _ h => h) (Or.inl ⟨by rfl, ?_⟩) (by assumption) ?_
  rotate_left 1
  · intro w' hSw; (go_simp <;> (with_reducible rfl))
  (try simp only [Act.put, List.setIfInBounds_toArray, List.set_cons_zero, List.set_cons_succ])
  refine anyHL_take (i := 6) (oi := { dst := some 49, op := Go.Op.nilCheck (Go.Operand.tmp 48), type := 0, pos := "table.go:59", after := #[{ on := 5, ground := Go.Ground.data }], guard := none }) (v := ?_) rfl (by kernel_rfl) (by kernel_rfl) (by kernel_rfl) (by kernel_rfl) (fun _ _ _ h => h) (Or.inl ⟨by rfl, ?_⟩) (by assumption) ?_
  rotate_left 1
  · intro w' hSw; (go_simp <;> (with_reducible rfl))
  (try simp only [Act.put, List.setIfInBounds_toArray, List.set_cons_zero, List.set_cons_succ])
  refine anyHL_take (i := 7) (oi := { dst := some 50, op := Go.Op.fieldAddr 72 (Go.Operand.tmp 49) 2, type := 0, pos := "table.go:59", after := #[{ on := 6, ground := Go.Ground.data }], guard := none }) (v := ?_) rfl (by kernel_rfl) (by kernel_rfl) (by kernel_rfl) (by kernel_rfl) (fun _ _ _ h => h) (Or.inl ⟨by rfl, ?_⟩) (by assumption) ?_
  rotate_left 1
  · intro w' hSw; (go_simp <;> (with_reducible rfl))
  (try simp only [Act.put, List.setIfInBounds_toArray, List.set_cons_zero, List.set_cons_succ])
  refine anyHL_take (i := 8) (oi := { dst := some 51, op := Go.Op.load 32 (Go.Operand.tmp 50), type := 32, pos := "table.go:59", after := #[{ on := 7, ground := Go.Ground.data }], guard := none }) (v := ?_) rfl (by kernel_rfl) (by kernel_rfl) (by kernel_rfl) (by kernel_rfl) (fun _ _ _ h => h) (Or.inl ⟨by rfl, ?_⟩) (by assumption) ?_
  rotate_left 1
  · intro w' hSw; (go_simp <;> (with_reducible rfl))
  (try simp only [Act.put, List.setIfInBounds_toArray, List.set_cons_zero, List.set_cons_succ])
  refine anyHL_take (i := 9) (oi := { dst := some 52, op := Go.Op.load 37 (Go.Operand.tmp 4), type := 37, pos := "table.go:59", after := #[], guard := none }) (v := ?_) rfl (by kernel_rfl) (by kernel_rfl) (by kernel_rfl) (by kernel_rfl) (fun _ _ _ h => h) (Or.inl ⟨by rfl, ?_⟩) (by assumption) ?_
  rotate_left 1
  · intro w' hSw; (go_simp <;> (with_reducible rfl))
  (try simp only [Act.put, List.setIfInBounds_toArray, List.set_cons_zero, List.set_cons_succ])
  refine anyHL_take (i := 10) (oi := { dst := some 53, op := Go.Op.build 51 #[(0, Go.Operand.tmp 51), (1, Go.Operand.tmp 52), (3, Go.Operand.const (Go.Value.bool true))], type := 51, pos := "table.go:59", after := #[{ on := 8, ground := Go.Ground.data }, { on := 9, ground := Go.Ground.data }], guard := none }) (v := ?_) rfl (by kernel_rfl) (by kernel_rfl) (by kernel_rfl) (by kernel_rfl) (fun _ _ _ h => h) (Or.inl ⟨by rfl, ?_⟩) (by assumption) ?_
  rotate_left 1
  · intro w' hSw; (go_simp <;> (with_reducible rfl))
  (try simp only [Act.put, List.setIfInBounds_toArray, List.set_cons_zero, List.set_cons_succ])
  refine anyHL_one (i := 11) (o := { dst := some 54, op := Go.Op.buildSlice 61 1 #[(0, Go.Operand.tmp 53)], type := 61, pos := "table.go:59", after := #[{ on := 10, ground := Go.Ground.data }], guard := none }) (by kernel_rfl) rfl (by kernel_rfl) (fun K hK => ?_)
  go_simp
  rw [Ew6.out, Eq.out]
  refine hK.out _ _ ?_ (fun hHeld => ?_)
  · exact HS6.out
  clear hK K
  (try simp only [Act.put, List.setIfInBounds_toArray, List.set_cons_zero, List.set_cons_succ])
  refine anyHL_one (i := 12) (o := { dst := some 55, op := Go.Op.call { callee := Go.Callee.builtin Go.Builtin.append, args := #[Go.Operand.tmp 47, Go.Operand.tmp 54], argTypes := #[61, 61] }, type := 61, pos := "table.go:59", after := #[{ on := 4, ground := Go.Ground.data }, { on := 11, ground := Go.Ground.data }], guard := none }) (by kernel_rfl) rfl (by kernel_rfl) (fun K hK => ?_)
  refine step_appX rfl (.tmp 47) (.tmp 54) _ _ rfl rfl _ _ _ w7 rfl rfl Hr7.out ?_
  refine hK.out _ _ ?_ (fun hHeld => ?_)
  · exact HS7.out
  clear hK K
  (try simp only [Act.put, List.setIfInBounds_toArray, List.set_cons_zero, List.set_cons_succ])
  refine anyHL_one (i := 13) (o := { dst := some 56, op := Go.Op.nilCheck (Go.Operand.tmp 43), type := 0, pos := "table.go:59", after := #[{ on := 0, ground := Go.Ground.data }, { on := 0, ground := Go.Ground.phase }, { on := 1, ground := Go.Ground.phase }, { on := 2, ground := Go.Ground.phase }, { on := 3, ground := Go.Ground.phase }, { on := 4, ground := Go.Ground.phase }, { on := 5, ground := Go.Ground.phase }, { on := 6, ground := Go.Ground.phase }, { on := 7, ground := Go.Ground.phase }, { on := 8, ground := Go.Ground.phase }, { on := 9, ground := Go.Ground.phase }, { on := 10, ground := Go.Ground.phase }, { on := 11, ground := Go.Ground.phase }, { on := 12, ground := Go.Ground.phase }], guard := none }) (by kernel_rfl) rfl (by kernel_rfl) (fun K hK => ?_)
  go_simp
  skip
  refine hK.out _ _ ?_ (fun hHeld => ?_)
  · exact HS7.out
  clear hK K
  (try simp only [Act.put, List.setIfInBounds_toArray, List.set_cons_zero, List.set_cons_succ])
  refine anyHL_take (i := 14) (oi := { dst := some 57, op := Go.Op.fieldAddr 72 (Go.Operand.tmp 56) 5, type := 0, pos := "table.go:59", after := #[{ on := 13, ground := Go.Ground.data }, { on := 0, ground := Go.Ground.phase }, { on := 1, ground := Go.Ground.phase }, { on := 2, ground := Go.Ground.phase }, { on := 3, ground := Go.Ground.phase }, { on := 4, ground := Go.Ground.phase }, { on := 5, ground := Go.Ground.phase }, { on := 6, ground := Go.Ground.phase }, { on := 7, ground := Go.Ground.phase }, { on := 8, ground := Go.Ground.phase }, { on := 9, ground := Go.Ground.phase }, { on := 10, ground := Go.Ground.phase }, { on := 11, ground := Go.Ground.phase }, { on := 12, ground := Go.Ground.phase }], guard := none }) (v := ?_) rfl (by kernel_rfl) (by kernel_rfl) (by kernel_rfl) (by kernel_rfl) (fun _ _ _ h => h) (Or.inl ⟨by rfl, ?_⟩) (by assumption) ?_
  rotate_left 1
  · intro w' hSw; (go_simp <;> (with_reducible rfl))
  (try simp only [Act.put, List.setIfInBounds_toArray, List.set_cons_zero, List.set_cons_succ])
  have q5 := HS7.out.1.1
  refine anyHL_last (o := { dst := none, op := Go.Op.store 61 (Go.Operand.tmp 57) (Go.Operand.tmp 55), type := 0, pos := "table.go:59", after := #[{ on := 14, ground := Go.Ground.data }, { on := 12, ground := Go.Ground.data }, { on := 12, ground := Go.Ground.chain }, { on := 0, ground := Go.Ground.phase }, { on := 1, ground := Go.Ground.phase }, { on := 2, ground := Go.Ground.phase }, { on := 3, ground := Go.Ground.phase }, { on := 4, ground := Go.Ground.phase }, { on := 5, ground := Go.Ground.phase }, { on := 6, ground := Go.Ground.phase }, { on := 7, ground := Go.Ground.phase }, { on := 8, ground := Go.Ground.phase }, { on := 9, ground := Go.Ground.phase }, { on := 10, ground := Go.Ground.phase }, { on := 11, ground := Go.Ground.phase }, { on := 12, ground := Go.Ground.phase }], guard := none }) (by kernel_rfl) rfl (by kernel_rfl) (fun K hK => ?_)
  go_simp
  rw [Ew8.out]
  refine hK.out _ _ ?_
  clear hK K
  (try simp only [Act.put, List.setIfInBounds_toArray, List.set_cons_zero, List.set_cons_succ])
  clear q5 f85 k85
  go_wp2_with fail
  refine wp_region_held_drew (S := fun wd8 => wd8.cell? ⟨g, 5, none⟩ = some (.slice (some ⟨gu, o, none⟩) n1 c4) ∧ (wd8.cell? ⟨z + 1, 0, none⟩ = some (.int .u8 x.pr) ∧ wd8.cell? ⟨z + 1, 1, none⟩ = some (.int .u32 x.sr) ∧ wd8.cell? ⟨z + 1, 2, none⟩ = some (.int .u32 x.ds) ∧ wd8.cell? ⟨z + 1, 3, none⟩ = some (.int .u16 x.sp) ∧ wd8.cell? ⟨z + 1, 4, none⟩ = some (.int .u16 x.dp))) (by kernel_rfl) (by rw [Ewd8.out]; exact HSf.out) (fun hHeld => ?_)
  rw [Ewd8.out] at hHeld ⊢
  refine wpAnyH_take (i := 0) (oi := { dst := some 58, op := Go.Op.move (Go.Operand.tmp 0), type := 23, pos := "table.go:60", after := #[], guard := none }) (v := ?_) rfl (by kernel_rfl) (by kernel_rfl) (by kernel_rfl) (fun _ _ _ h => h) (Or.inl ⟨by rfl, ?_⟩) (by assumption) ?_
  rotate_left 1
  · intro w' hSw; (go_simp <;> (with_reducible rfl))
  (try simp only [Act.put, List.setIfInBounds_toArray, List.set_cons_zero, List.set_cons_succ])
  refine wpAnyH_take (i := 1) (oi := { dst := some 59, op := Go.Op.move (Go.Operand.tmp 0), type := 23, pos := "table.go:60", after := #[], guard := none }) (v := ?_) rfl (by kernel_rfl) (by kernel_rfl) (by kernel_rfl) (fun _ _ _ h => h) (Or.inl ⟨by rfl, ?_⟩) (by assumption) ?_
  rotate_left 1
  · intro w' hSw; (go_simp <;> (with_reducible rfl))
  (try simp only [Act.put, List.setIfInBounds_toArray, List.set_cons_zero, List.set_cons_succ])
  refine wpAnyH_take (i := 2) (oi := { dst := some 60, op := Go.Op.nilCheck (Go.Operand.tmp 59), type := 0, pos := "table.go:60", after := #[{ on := 1, ground := Go.Ground.data }], guard := none }) (v := ?_) rfl (by kernel_rfl) (by kernel_rfl) (by kernel_rfl) (fun _ _ _ h => h) (Or.inl ⟨by rfl, ?_⟩) (by assumption) ?_
  rotate_left 1
  · intro w' hSw; (go_simp <;> (with_reducible rfl))
  (try simp only [Act.put, List.setIfInBounds_toArray, List.set_cons_zero, List.set_cons_succ])
  refine wpAnyH_take (i := 3) (oi := { dst := some 61, op := Go.Op.fieldAddr 72 (Go.Operand.tmp 60) 5, type := 0, pos := "table.go:60", after := #[{ on := 2, ground := Go.Ground.data }], guard := none }) (v := ?_) rfl (by kernel_rfl) (by kernel_rfl) (by kernel_rfl) (fun _ _ _ h => h) (Or.inl ⟨by rfl, ?_⟩) (by assumption) ?_
  rotate_left 1
  · intro w' hSw; (go_simp <;> (with_reducible rfl))
  (try simp only [Act.put, List.setIfInBounds_toArray, List.set_cons_zero, List.set_cons_succ])
  refine wpAnyH_take (i := 4) (oi := { dst := some 62, op := Go.Op.load 61 (Go.Operand.tmp 61), type := 61, pos := "table.go:60", after := #[{ on := 3, ground := Go.Ground.data }], guard := none }) (v := ?_) rfl (by kernel_rfl) (by kernel_rfl) (by kernel_rfl) (fun _ _ _ h => h) (Or.inl ⟨by rfl, ?_⟩) (by assumption) ?_
  rotate_left 1
  · intro w' hSw; (go_simp <;> (with_reducible rfl))
  (try simp only [Act.put, List.setIfInBounds_toArray, List.set_cons_zero, List.set_cons_succ])
  refine wpAnyH_take (i := 5) (oi := { dst := some 63, op := Go.Op.move (Go.Operand.tmp 0), type := 23, pos := "table.go:60", after := #[], guard := none }) (v := ?_) rfl (by kernel_rfl) (by kernel_rfl) (by kernel_rfl) (fun _ _ _ h => h) (Or.inl ⟨by rfl, ?_⟩) (by assumption) ?_
  rotate_left 1
  · intro w' hSw; (go_simp <;> (with_reducible rfl))
  (try simp only [Act.put, List.setIfInBounds_toArray, List.set_cons_zero, List.set_cons_succ])
  refine wpAnyH_take (i := 6) (oi := { dst := some 64, op := Go.Op.nilCheck (Go.Operand.tmp 63), type := 0, pos := "table.go:60", after := #[{ on := 5, ground := Go.Ground.data }], guard := none }) (v := ?_) rfl (by kernel_rfl) (by kernel_rfl) (by kernel_rfl) (fun _ _ _ h => h) (Or.inl ⟨by rfl, ?_⟩) (by assumption) ?_
  rotate_left 1
  · intro w' hSw; (go_simp <;> (with_reducible rfl))
  (try simp only [Act.put, List.setIfInBounds_toArray, List.set_cons_zero, List.set_cons_succ])
  refine wpAnyH_take (i := 7) (oi := { dst := some 65, op := Go.Op.fieldAddr 72 (Go.Operand.tmp 64) 5, type := 0, pos := "table.go:60", after := #[{ on := 6, ground := Go.Ground.data }], guard := none }) (v := ?_) rfl (by kernel_rfl) (by kernel_rfl) (by kernel_rfl) (fun _ _ _ h => h) (Or.inl ⟨by rfl, ?_⟩) (by assumption) ?_
  rotate_left 1
  · intro w' hSw; (go_simp <;> (with_reducible rfl))
  (try simp only [Act.put, List.setIfInBounds_toArray, List.set_cons_zero, List.set_cons_succ])
  refine wpAnyH_take (i := 8) (oi := { dst := some 66, op := Go.Op.load 61 (Go.Operand.tmp 65), type := 61, pos := "table.go:60", after := #[{ on := 7, ground := Go.Ground.data }], guard := none }) (v := ?_) rfl (by kernel_rfl) (by kernel_rfl) (by kernel_rfl) (fun _ _ _ h => h) (Or.inl ⟨by rfl, ?_⟩) (by assumption) ?_
  rotate_left 1
  · intro w' hSw; (go_simp <;> (with_reducible rfl))
  (try simp only [Act.put, List.setIfInBounds_toArray, List.set_cons_zero, List.set_cons_succ])
  refine wpAnyH_take (i := 9) (oi := { dst := some 67, op := Go.Op.call { callee := Go.Callee.builtin Go.Builtin.len, args := #[Go.Operand.tmp 66], argTypes := #[61] }, type := 3, pos := "table.go:60", after := #[{ on := 8, ground := Go.Ground.data }], guard := none }) (v := ?_) rfl (by kernel_rfl) (by kernel_rfl) (by kernel_rfl) (fun _ _ _ h => h) (Or.inl ⟨by rfl, ?_⟩) (by assumption) ?_
  rotate_left 1
  · intro w' hSw; (go_simp <;> (with_reducible rfl))
  (try simp only [Act.put, List.setIfInBounds_toArray, List.set_cons_zero, List.set_cons_succ])
  refine wpAnyH_take (i := 10) (oi := { dst := some 68, op := Go.Op.binOp Go.BinOp.sub 3 (Go.Operand.tmp 67) (Go.Operand.const (Go.Value.int Go.IntKind.i64 1)) 3, type := 3, pos := "table.go:60", after := #[{ on := 9, ground := Go.Ground.data }], guard := none }) (v := ?_) rfl (by kernel_rfl) (by kernel_rfl) (by kernel_rfl) (fun _ _ _ h => h) (Or.inl ⟨by rfl, ?_⟩) (by assumption) ?_
  rotate_left 1
  · intro w' hSw; (go_simp <;> (with_reducible rfl))
  (try simp only [Act.put, List.setIfInBounds_toArray, List.set_cons_zero, List.set_cons_succ])
  refine wpAnyH_take (i := 11) (oi := { dst := some 69, op := Go.Op.indexAddr 61 (Go.Operand.tmp 62) (Go.Operand.tmp 68), type := 0, pos := "table.go:60", after := #[{ on := 4, ground := Go.Ground.data }, { on := 10, ground := Go.Ground.data }], guard := none }) (v := ?_) rfl (by kernel_rfl) (by kernel_rfl) (by kernel_rfl) (fun _ _ _ h => h) (Or.inl ⟨by rfl, ?_⟩) (by assumption) ?_
  rotate_left 1
  · intro w' hSw; (go_simp <;> (with_reducible rfl))
  (try simp only [Act.put, List.setIfInBounds_toArray, List.set_cons_zero, List.set_cons_succ])
  refine wpAnyH_take (i := 12) (oi := { dst := some 70, op := Go.Op.load 37 (Go.Operand.tmp 5), type := 37, pos := "table.go:60", after := #[], guard := none }) (v := ?_) rfl (by kernel_rfl) (by kernel_rfl) (by kernel_rfl) (fun _ _ _ h => h) (Or.inl ⟨by rfl, ?_⟩) (by assumption) ?_
  rotate_left 1
  · intro w' hSw; (go_simp <;> (with_reducible rfl))
  (try simp only [Act.put, List.setIfInBounds_toArray, List.set_cons_zero, List.set_cons_succ])
  refine wpAnyH_ready (rs := [13]) (by kernel_rfl) (by simp) ?_
  refine AllReadyH.cons (o := { dst := some 71, op := Go.Op.call { callee := Go.Callee.value (Go.Operand.func 38), args := #[Go.Operand.tmp 58, Go.Operand.tmp 69, Go.Operand.tmp 70], argTypes := #[23, 81, 37] }, type := 0, pos := "table.go:60", after := #[{ on := 0, ground := Go.Ground.data }, { on := 11, ground := Go.Ground.data }, { on := 12, ground := Go.Ground.data }], guard := none }) rfl (fun K hK => ?_) AllReadyH.nil
  go_simp
  (refine Hlead.out.mono ?_; rintro e w9 ⟨rfl, hM9, hB9⟩; have HS9 := Lib.hid (HS.out w9 hM9 hB9); have HF9 := Lib.hid (HF.out w9 hM9 hB9); have k29 := hM9.k2; clear hM9 hB9)
  refine hK.out _ _ ?_ (fun hHeld => ?_)
  · exact HS9.out
  clear hK K
  (try simp only [Act.put, List.setIfInBounds_toArray, List.set_cons_zero, List.set_cons_succ])
  refine wpAnyH_done (by kernel_rfl) ?_ _
  clear hHeld
  go_wp2_with fail
  go_ret3
  exact HF9.out
end
end Go.Proofs.Ytnhlbohdlnjaaaa
