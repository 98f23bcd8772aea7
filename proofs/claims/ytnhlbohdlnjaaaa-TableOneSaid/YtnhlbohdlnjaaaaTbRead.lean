/-
  The contracts of package table's place, Inner, Outer, has, Len, over a table in memory.
-/
import Derived.Test.YtnhlbohdlnjaaaaTbMem
namespace Go.Proofs.Ytnhlbohdlnjaaaa
set_option maxRecDepth 10000
open Go.RowKit
set_option linter.unusedSimpArgs false
set_option linter.unusedVariables false

def TellsT (v : Value) (w : World) (e : Ending) (w' : World) : Prop := e = .returned v ∧ Below w.heap.size w w'
/-- What a map tells of a tuple. -/
def LookT (K : Tu → Prop) (R : Tu → Value) (t : Tu) (id : Int) (is_ : Bool) : Prop := (is_ = true ∧ K t ∧ R t = .int .u64 id) ∨ (is_ = false ∧ id = 0 ∧ ¬ K t)
theorem MTP.lookk {w : World} {b : Nat} {K : Tu → Prop} {R : Tu → Value} {t : Tu} {id : Int} {is_ : Bool} (h : MTP w b K R) (hl : LookT K R t id is_) :
    (Instr.lookup 70 (.map (some b)) (.agg #[.int .u8 t.pr, .int .u32 t.sr, .int .u32 t.ds, .int .u16 t.sp, .int .u16 t.dp]) true).run Try.prog w = .ok (.tuple #[.int .u64 id, .bool is_]) w := by
  rcases hl with ⟨rfl, h1, h2⟩ | ⟨rfl, rfl, h1⟩
  · rw [h.lookok_u h1, h2]
  · exact h.lookno_u h1
def plR (r : Option Nat) : Int × Int := match r with | none => (0, 6) | some k => ((k : Int), 0)
section
variable (S : Nat → Prop) (g : Nat) (M last : Int) (L : TL) (mi mo : Nat) (u : Value) (KI : Tu → Prop) (RI : Tu → Value) (KO : Tu → Prop) (RO : Tu → Value) (w : World) (h : TMem w S g M last L mi mo u KI RI KO RO)
include h
theorem inner_at (t : Tu) (id : Int) (is_ : Bool) (hl : LookT KI RI t id is_) :
    Calls Try.prog 23 #[.pointer (some ⟨g, 0, none⟩), .agg #[.int .u8 t.pr, .int .u32 t.sr, .int .u32 t.ds, .int .u16 t.sp, .int .u16 t.dp]] w (TellsT (.tuple #[.int .u64 id, .bool is_]) w) := by
  obtain ⟨w0, ew⟩ : ∃ w0, w.alloc (.cells #[.int .u8 t.pr, .int .u32 t.sr, .int .u32 t.ds, .int .u16 t.sp, .int .u16 t.dp] 37) = w0 := ⟨_, rfl⟩
  obtain ⟨z, hz⟩ : ∃ z, w.heap.size = z := ⟨_, rfl⟩
  have hb0 : Below w.heap.size w w0 := by rw [← ew]; exact (Below.refl _ _).alloc (Nat.le_refl _) _
  have hk0 : w0.heap[z]? = some (.cells #[.int .u8 t.pr, .int .u32 t.sr, .int .u32 t.ds, .int .u16 t.sp, .int .u16 t.dp] 37 (0, 0)) := by rw [← ew, ← hz]; exact heap_alloc_new w _
  have h0 := h.below hb0
  have Hno := Lib.hid (tnone_no g w0 h0.k0)
  have hlk : ∀ k, (Instr.lookup 70 (.map (some mi)) (.agg #[.int .u8 t.pr, .int .u32 t.sr, .int .u32 t.ds, .int .u16 t.sp, .int .u16 t.dp]) true).run Try.prog (w0.drewN k) = .ok (.tuple #[.int .u64 id, .bool is_]) (w0.drewN k) := fun k => (h0.drewN k).inn.lookk hl
  have k3 := h0.k3
  obtain ⟨a0, a1, a2, a3, a4⟩ := cells5 hk0
  have Hb0 := Lib.hid hb0
  have Ew := Lib.hid ew
  have Hz := Lib.hid hz
  clear h h0 hl hb0 hk0 ew hz
  go_enter Try.func23, Try.ntmps23
  go_upto_region 1 with (fail)
  rw [Ew.out]
  try rw [Hz.out]
  go_wp2_with fail
  refine Hno.out.mono ?_
  rintro e w1 ⟨rfl, rfl⟩
  go_wp2_with fail
  go_quiet (fail)
  go_wp2_with fail
  go_ret2
  exact ⟨rfl, Hb0.out.trans (((But.refl (fun _ => False) w0).drewN nq).below (fun _ h => h.elim) Hb0.out.size)⟩
theorem outer_at (t : Tu) (id : Int) (is_ : Bool) (hl : LookT KO RO t id is_) :
    Calls Try.prog 25 #[.pointer (some ⟨g, 0, none⟩), .agg #[.int .u8 t.pr, .int .u32 t.sr, .int .u32 t.ds, .int .u16 t.sp, .int .u16 t.dp]] w (TellsT (.tuple #[.int .u64 id, .bool is_]) w) := by
  obtain ⟨w0, ew⟩ : ∃ w0, w.alloc (.cells #[.int .u8 t.pr, .int .u32 t.sr, .int .u32 t.ds, .int .u16 t.sp, .int .u16 t.dp] 37) = w0 := ⟨_, rfl⟩
  obtain ⟨z, hz⟩ : ∃ z, w.heap.size = z := ⟨_, rfl⟩
  have hb0 : Below w.heap.size w w0 := by rw [← ew]; exact (Below.refl _ _).alloc (Nat.le_refl _) _
  have hk0 : w0.heap[z]? = some (.cells #[.int .u8 t.pr, .int .u32 t.sr, .int .u32 t.ds, .int .u16 t.sp, .int .u16 t.dp] 37 (0, 0)) := by rw [← ew, ← hz]; exact heap_alloc_new w _
  have h0 := h.below hb0
  have Hno := Lib.hid (tnone_no g w0 h0.k0)
  have hlk : ∀ k, (Instr.lookup 70 (.map (some mo)) (.agg #[.int .u8 t.pr, .int .u32 t.sr, .int .u32 t.ds, .int .u16 t.sp, .int .u16 t.dp]) true).run Try.prog (w0.drewN k) = .ok (.tuple #[.int .u64 id, .bool is_]) (w0.drewN k) := fun k => (h0.drewN k).out.lookk hl
  have k3 := h0.k4
  obtain ⟨a0, a1, a2, a3, a4⟩ := cells5 hk0
  have Hb0 := Lib.hid hb0
  have Ew := Lib.hid ew
  have Hz := Lib.hid hz
  clear h h0 hl hb0 hk0 ew hz
  go_enter Try.func25, Try.ntmps25
  go_upto_region 1 with (fail)
  rw [Ew.out]
  try rw [Hz.out]
  go_wp2_with fail
  refine Hno.out.mono ?_
  rintro e w1 ⟨rfl, rfl⟩
  go_wp2_with fail
  go_quiet (fail)
  go_wp2_with fail
  go_ret2
  exact ⟨rfl, Hb0.out.trans (((But.refl (fun _ => False) w0).drewN nq).below (fun _ h => h.elim) Hb0.out.size)⟩
theorem place_at (id x y : Int) (hn : L.length ≤ 1000000) (hx : plR (atF id L) = (x, y)) :
    Calls Try.prog 32 #[.pointer (some ⟨g, 0, none⟩), .int .u64 id] w (TellsT (.tuple #[.int .i64 x, .int .i64 y]) w) := by
  have hmf : ∀ (fn : Fn) (first cap : Array Value) (w : World), (Instr.makeFunc fn first cap).run Try.prog w = .ok (.func fn first cap) w := fun _ _ _ _ => rfl
  obtain ⟨w0, ew⟩ : ∃ w0, w.alloc (.cells #[.int .u64 id] 32) = w0 := ⟨_, rfl⟩
  obtain ⟨z, hz⟩ : ∃ z, w.heap.size = z := ⟨_, rfl⟩
  have hb0 : Below w.heap.size w w0 := by rw [← ew]; exact (Below.refl _ _).alloc (Nat.le_refl _) _
  have hk0 : w0.heap[z]? = some (.cells #[.int .u64 id] 32 (0, 0)) := by rw [← ew, ← hz]; exact heap_alloc_new w _
  have h0 := h.below hb0
  obtain ⟨n, en⟩ : ∃ n, L.length = n := ⟨_, rfl⟩
  obtain ⟨A, c, ev⟩ := h0.row.form
  have hr := h0.row
  have k5 := h0.k5
  rw [en] at ev hn hr
  rw [ev] at hr k5
  obtain ⟨⟨p, q⟩, epq⟩ : ∃ pq : Int × Bool, fiR (atF id L) = pq := ⟨_, rfl⟩
  have Hno := Lib.hid (tnone_no g w0 h0.k0)
  have Hf := Lib.hid (find_id g n c A L z id p q w0 k5 hr en hn (blk_cell hk0 0) epq)
  have Hb0 := Lib.hid hb0
  have Ew := Lib.hid ew
  have Hz := Lib.hid hz
  have Hxy := Lib.hid (show (q = true → x = p ∧ y = 0) ∧ (q = false → x = 0 ∧ y = 6) by
    revert epq hx
    cases atF id L with
    | none => intro h1 h2; simp only [fiR, plR, Prod.mk.injEq] at h1 h2; exact ⟨fun e => (by rw [← h2.2] at e; cases e), fun _ => ⟨h1.1.symm, h1.2.symm⟩⟩
    | some k => intro h1 h2; simp only [fiR, plR, Prod.mk.injEq] at h1 h2; exact ⟨fun _ => ⟨(by rw [← h1.1, ← h2.1]), h1.2.symm⟩, fun e => (by rw [← h2.2] at e; cases e)⟩)
  clear h h0 hx hb0 hk0 ew hz hr k5 epq ev en
  go_enter Try.func32, Try.ntmps32
  go_upto_region 1 with (fail)
  rw [Ew.out]
  try rw [Hz.out]
  go_wp2_with fail
  refine Hno.out.mono ?_
  rintro e w1 ⟨rfl, rfl⟩
  go_wp2_with fail
  refine Hf.out.mono ?_
  rintro e w1 ⟨rfl, nq, rfl⟩
  have HB := Lib.hid (Hb0.out.trans (((But.refl (fun _ => False) w0).drewN nq).below (fun _ h => h.elim) Hb0.out.size))
  cases q with
  | true =>
    obtain ⟨rfl, rfl⟩ := Hxy.out.1 rfl
    go_wp2_with fail
    go_ret2
    exact ⟨rfl, HB.out⟩
  | false =>
    obtain ⟨rfl, rfl⟩ := Hxy.out.2 rfl
    go_wp2_with fail
    go_ret2
    exact ⟨rfl, HB.out⟩
theorem len_at (n : Nat) (hn : L.length = n) : Calls Try.prog 12 #[.pointer (some ⟨g, 0, none⟩)] w (JustIs (.int .i64 (n : Int)) w) := by
  have Hno := Lib.hid (tnone_no g w h.k0)
  obtain ⟨A, c, ev⟩ := h.row.form
  have k5 := h.k5
  rw [ev, hn] at k5
  clear h ev hn
  go_enter Try.func12, Try.ntmps12
  go_wp2_with fail
  refine Hno.out.mono ?_
  rintro e w1 ⟨rfl, rfl⟩
  go_wp2_with fail
  go_ret
  exact ⟨rfl, rfl⟩
theorem has_at (t x : Tu) (i1 i2 : Int) (b1 b2 b : Bool) (hl1 : LookT KI RI t i1 b1) (hl2 : LookT KO RO x i2 b2) (hb : (b1 || b2) = b) :
    Calls Try.prog 36 #[.pointer (some ⟨g, 0, none⟩), .agg #[.int .u8 t.pr, .int .u32 t.sr, .int .u32 t.ds, .int .u16 t.sp, .int .u16 t.dp], .agg #[.int .u8 x.pr, .int .u32 x.sr, .int .u32 x.ds, .int .u16 x.sp, .int .u16 x.dp]] w (TellsT (.bool b) w) := by
  obtain ⟨w0, ew⟩ : ∃ w0, (w.alloc (.cells #[.int .u8 t.pr, .int .u32 t.sr, .int .u32 t.ds, .int .u16 t.sp, .int .u16 t.dp] 37)).alloc (.cells #[.int .u8 x.pr, .int .u32 x.sr, .int .u32 x.ds, .int .u16 x.sp, .int .u16 x.dp] 37) = w0 := ⟨_, rfl⟩
  obtain ⟨z, hz⟩ : ∃ z, w.heap.size = z := ⟨_, rfl⟩
  have hb0 : Below w.heap.size w w0 := by rw [← ew]; exact ((Below.refl _ _).alloc (Nat.le_refl _) _).alloc (by simp) _
  have hk0 : w0.heap[z]? = some (.cells #[.int .u8 t.pr, .int .u32 t.sr, .int .u32 t.ds, .int .u16 t.sp, .int .u16 t.dp] 37 (0, 0)) := by rw [← ew, Below.heap_alloc _ _ _ (by simp [hz]), ← hz]; exact heap_alloc_new w _
  have hk1 : w0.heap[z + 1]? = some (.cells #[.int .u8 x.pr, .int .u32 x.sr, .int .u32 x.ds, .int .u16 x.sp, .int .u16 x.dp] 37 (0, 0)) := by
    rw [← ew, ← hz]; simpa using heap_alloc_new (w.alloc (.cells #[.int .u8 t.pr, .int .u32 t.sr, .int .u32 t.ds, .int .u16 t.sp, .int .u16 t.dp] 37)) (.cells #[.int .u8 x.pr, .int .u32 x.sr, .int .u32 x.ds, .int .u16 x.sp, .int .u16 x.dp] 37)
  have h0 := h.below hb0
  have hlk1 : ∀ k, (Instr.lookup 70 (.map (some mi)) (.agg #[.int .u8 t.pr, .int .u32 t.sr, .int .u32 t.ds, .int .u16 t.sp, .int .u16 t.dp]) true).run Try.prog (w0.drewN k) = .ok (.tuple #[.int .u64 i1, .bool b1]) (w0.drewN k) := fun k => (h0.drewN k).inn.lookk hl1
  have hlk2 : ∀ k, (Instr.lookup 70 (.map (some mo)) (.agg #[.int .u8 x.pr, .int .u32 x.sr, .int .u32 x.ds, .int .u16 x.sp, .int .u16 x.dp]) true).run Try.prog (w0.drewN k) = .ok (.tuple #[.int .u64 i2, .bool b2]) (w0.drewN k) := fun k => (h0.drewN k).out.lookk hl2
  have k3 := h0.k3
  have k4 := h0.k4
  obtain ⟨a0, a1, a2, a3, a4⟩ := cells5 hk0
  obtain ⟨c0, c1, c2, c3, c4⟩ := cells5 hk1
  have Hb0 := Lib.hid hb0
  have Ew := Lib.hid ew
  have Hz := Lib.hid hz
  have Hbb := Lib.hid hb
  clear h h0 hl1 hl2 hb0 hk0 hk1 ew hz hb
  go_enter Try.func36, Try.ntmps36
  go_upto_region 1 with (fail)
  rw [Ew.out]
  try rw [Hz.out]
  go_quiet (fail)
  have hlk3 : ∀ k, (Instr.lookup 70 (.map (some mo)) (.agg #[.int .u8 x.pr, .int .u32 x.sr, .int .u32 x.ds, .int .u16 x.sp, .int .u16 x.dp]) true).run Try.prog ((w0.drewN nq).drewN k) = .ok (.tuple #[.int .u64 i2, .bool b2]) ((w0.drewN nq).drewN k) := fun k => by rw [World.drewN_drewN]; exact hlk2 _
  have k4' : (w0.drewN nq).cell? ⟨g, 4, none⟩ = some (.map (some mo)) := k4
  obtain ⟨w9, ew9⟩ : ∃ w9, w0.drewN nq = w9 := ⟨_, rfl⟩
  have d0 : w9.cell? ⟨z + 1, 0, none⟩ = some (.int .u8 x.pr) := by rw [← ew9]; exact c0
  have d1 : w9.cell? ⟨z + 1, 1, none⟩ = some (.int .u32 x.sr) := by rw [← ew9]; exact c1
  have d2 : w9.cell? ⟨z + 1, 2, none⟩ = some (.int .u32 x.ds) := by rw [← ew9]; exact c2
  have d3 : w9.cell? ⟨z + 1, 3, none⟩ = some (.int .u16 x.sp) := by rw [← ew9]; exact c3
  have d4 : w9.cell? ⟨z + 1, 4, none⟩ = some (.int .u16 x.dp) := by rw [← ew9]; exact c4
  rw [ew9] at hlk3 k4' ⊢
  have HB9 := Lib.hid (show Below w.heap.size w w9 by
    rw [← ew9]
    exact Hb0.out.trans (((But.refl (fun _ => False) w0).drewN nq).below (fun _ h => h.elim) Hb0.out.size))
  clear c0 c1 c2 c3 c4 a0 a1 a2 a3 a4 hlk1 hlk2 k3 k4 ew9
  go_wp2_with fail
  go_quiet (fail)
  have HB := Lib.hid (HB9.out.trans (((But.refl (fun _ => False) w9).drewN nq).below (fun _ h => h.elim) HB9.out.size))
  cases b1 with
  | true =>
    go_wp2_with fail
    go_ret
    exact ⟨by rw [← Hbb.out]; rfl, HB.out⟩
  | false =>
    go_wp2_with fail
    go_ret
    exact ⟨by rw [← Hbb.out]; rfl, HB.out⟩
end
end Go.Proofs.Ytnhlbohdlnjaaaa
