/-
  Texts laid together: But, IcmpRef, Whole, Wire.
-/
import Derived.Test.YtoegfgbalcholaaZD01
import Derived.Test.YtoegfgbalcholaaZD02
import Derived.Test.YtoegfgbalcholaaZD04
import Derived.Test.YtoegfgbalcholaaZD05
import Derived.Deep.CutRange
import Derived.RegionTactic
import Derived.Laws.BitsLemmas
import Derived.Deep.WholeRow
import Derived.WalkSmall
import Derived.Deep.LoopGhost
import Derived.LoopTactic
import Derived.Outline
import Derived.Lib.Hide
import Derived.Deep.QuietTactic
import Derived.BigQuiet
import Derived.Lib.Builder
import Derived.Lib.SliceRun
import Derived.Laws.StructEq

/-
  'But S w w'': of what was there, nothing but the blocks in S has turned. No function of the program.
-/
namespace Go.Proofs.Ytoegfgbalcholaa
set_option maxRecDepth 10000
open Go.RowKit

/-- Of what was there, nothing but the blocks in S has turned; the streams are as they were. -/
structure But (S : Nat → Prop) (w w' : World) : Prop where
  os : w'.os = w.os
  tape : w'.tape = w.tape
  output : w'.output = w.output
  size : w.heap.size ≤ w'.heap.size
  block : ∀ k, k < w.heap.size → ¬ S k → w'.heap[k]? = w.heap[k]?

variable {S S' : Nat → Prop} {a b c w w' : World}
theorem But.refl (S : Nat → Prop) (w : World) : But S w w := ⟨rfl, rfl, rfl, Nat.le_refl _, fun _ _ _ => rfl⟩
theorem But.trans (h : But S a b) (k : But S b c) : But S a c :=
  ⟨k.os.trans h.os, k.tape.trans h.tape, k.output.trans h.output, Nat.le_trans h.size k.size, fun i hi hs => (k.block i (Nat.lt_of_lt_of_le hi h.size) hs).trans (h.block i hi hs)⟩
theorem But.mono (h : But S w w') (hS : ∀ k, k < w.heap.size → S k → S' k) : But S' w w' := ⟨h.os, h.tape, h.output, h.size, fun k hk hn => h.block k hk (fun hs => hn (hS k hk hs))⟩
/-- Two steps, each with its own blocks. -/
theorem But.trans2 (h : But S a b) (k : But S' b c) (hS : ∀ k, k < a.heap.size → S' k → S k) : But S a c :=
  ⟨k.os.trans h.os, k.tape.trans h.tape, k.output.trans h.output, Nat.le_trans h.size k.size, fun i hi hs => (k.block i (Nat.lt_of_lt_of_le hi h.size) (fun x => hs (hS i hi x))).trans (h.block i hi hs)⟩
theorem But.setCell (h : But S a w) {p : Addr} (hp : S p.block) (u : Value) : But S a (w.setCell p u) :=
  h.trans ⟨rfl, rfl, rfl, by simp [World.setCell], fun k _ hn => Below.heap_setCell _ _ _ _ (fun e => hn (e ▸ hp))⟩
/-- A store into a block that is new. -/
theorem But.setNew (h : But S a w) {p : Addr} (hp : a.heap.size ≤ p.block) (u : Value) : But S a (w.setCell p u) :=
  ⟨h.os, h.tape, h.output, by have := h.size; simpa [World.setCell] using this, fun k hk hn => (Below.heap_setCell _ _ _ _ (by omega)).trans (h.block k hk hn)⟩
theorem But.alloc (h : But S a w) (o : Obj) : But S a (w.alloc o) :=
  ⟨h.os, h.tape, h.output, by have := h.size; simp; omega, fun k hk hn => (Below.heap_alloc _ _ _ (Nat.lt_of_lt_of_le hk h.size)).trans (h.block k hk hn)⟩
theorem But.drawn (h : But S a w) (n : Nat) : But S a { w with drawn := n } := ⟨h.os, h.tape, h.output, h.size, h.block⟩
theorem But.drew (h : But S a w) : But S a w.drew := ⟨h.os, h.tape, h.output, h.size, h.block⟩
theorem But.below {B : Nat} (h : But S w w') (hS : ∀ k, S k → B ≤ k) (hB : B ≤ w.heap.size) : Below B w w' := ⟨h.os, h.tape, h.output, h.size, fun k hk => h.block k (by omega) (fun hs => by have := hS k hs; omega)⟩
theorem But.old (h : But S w w') (hS : ∀ k, S k → w.heap.size ≤ k) : Below w.heap.size w w' := h.below hS (Nat.le_refl _)
theorem But.of (h : Below w.heap.size w w') : But S w w' := ⟨h.os, h.tape, h.output, h.size, fun k hk _ => h.block k hk⟩
theorem But.cell (h : But S w w') {p : Addr} (hp : p.block < w.heap.size) (hn : ¬ S p.block) : w'.cell? p = w.cell? p := World.cell?_of_block (w := w) (h.block p.block hp hn)
theorem But.lt {k : Nat} (h : But S w w') (hk : k < w.heap.size) : k < w'.heap.size := Nat.lt_of_lt_of_le hk h.size

theorem lt_of_block {w : World} {g : Nat} {o : Obj} (h : w.heap[g]? = some o) : g < w.heap.size := by
  rcases Nat.lt_or_ge g w.heap.size with h' | h'
  · exact h'
  · rw [Array.getElem?_eq_none h'] at h; cases h
theorem But.blk {k : Nat} {o : Obj} (h : But S w w') (hb : w.heap[k]? = some o) (hn : ¬ S k) : w'.heap[k]? = some o := (h.block k (lt_of_block hb) hn).trans hb

theorem Rd.but {A : Option Addr} {n : Nat} {l : List Int} (h : Rd w A n l) (hb : But S w w') (hn : ∀ g o, A = some ⟨g, o, none⟩ → 0 < n → ¬ S g) : Rd w' A n l :=
  ⟨h.len, h.byte, fun h0 => by
    obtain ⟨g, o, e, hlt, hc⟩ := h.at_ h0
    exact ⟨g, o, e, hb.lt hlt, fun i hi => by rw [hb.cell (p := ⟨g, o + i, none⟩) hlt (hn g o e h0)]; exact hc i hi⟩⟩

/-- A part of a row of bytes. -/
theorem Rd.drop_ {A : Option Addr} {n m : Nat} {l : List Int} {k : Nat} {g o : Nat} (h : Rd w A n l) (hA : A = some ⟨g, o, none⟩) (hk : n = k + m) : Rd w (some ⟨g, o + k, none⟩) m (l.drop k) := by
  subst hk
  refine ⟨by rw [List.length_drop, h.len]; omega, fun x hx => h.byte x (List.mem_of_mem_drop hx), fun h0 => ?_⟩
  obtain ⟨b, o', e, hlt, hc⟩ := h.at_ (by omega)
  rw [hA] at e
  injection e with e
  injection e with e1 e2
  subst e1; subst e2
  refine ⟨_, _, rfl, hlt, fun i hi => ?_⟩
  rw [Nat.add_assoc, hc (k + i) (by omega)]
  simp [List.getD, List.getElem?_drop]

/-- Rows of bytes and other things do not lie in one block. -/
theorem Rd.apart {A : Option Addr} {n : Nat} {l : List Int} {g o k : Nat} {cs : Array Value} {t : TypeId} {fr : Nat × Nat} (h : Rd w A n l) (hA : A = some ⟨g, o, none⟩) (h0 : 0 < n)
    (hk : w.heap[k]? = some (.cells cs t fr)) (hcs : ∀ (j : Nat) (x : Int), cs[j]? ≠ some (Value.int .u8 x)) : g ≠ k := by
  intro e
  subst e
  obtain ⟨b, o', e, hlt, hc⟩ := h.at_ h0
  rw [hA] at e
  injection e with e
  injection e with e1 e2
  subst e1; subst e2
  have := hc 0 h0
  simp [World.cell?, hk] at this
  exact hcs _ _ this

/-- A block that is known whole. -/
theorem blk_cell {w : World} {g : Nat} {C : Array Value} {t : TypeId} {fr : Nat × Nat} (h : w.heap[g]? = some (.cells C t fr)) (i : Nat) : w.cell? ⟨g, i, none⟩ = C[i]? := by simp [World.cell?, h]
theorem blk_free {w : World} {g : Nat} {C : Array Value} {t : TypeId} (h : w.heap[g]? = some (.cells C t (0, 0))) (i : Nat) : w.frozen? ⟨g, i, none⟩ = false := by simp [World.frozen?, h]
theorem blk_on {w w' : World} {g : Nat} {o : Obj} (h : w.heap[g]? = some o) (hb : Below w.heap.size w w') : w'.heap[g]? = some o := (hb.block g (lt_of_block h)).trans h
theorem OwnB.but {S : Nat → Prop} {w w' : World} {B : Nat} {A : Option Addr} {n c : Nat} {l : List Int} (h : OwnB w B A n c l) (hb : But S w w') (hS : ∀ k, B ≤ k → ¬ S k) : OwnB w' B A n c l := by
  refine ⟨h.1, ?_⟩
  rcases h.2 with h0 | ⟨g, cap, cur, e, hB, hc, hrest⟩
  · exact .inl h0
  · exact .inr ⟨g, cap, cur, e, hB, hb.blk hc (hS g hB), hrest⟩
end Go.Proofs.Ytoegfgbalcholaa

/-
  The document's own answers for messages (culvertref08): Sort, Echo, WithId, Same.
-/
namespace Go.Proofs.Ytoegfgbalcholaa
set_option maxRecDepth 10000
open Go.RowKit

theorem cells4 {w : World} {g : Nat} {u0 u1 u2 u3 : Value} {t : TypeId} (h : w.heap[g]? = some (.cells #[u0, u1, u2, u3] t (0, 0))) : w.cell? ⟨g, 0, none⟩ = some u0 ∧ w.cell? ⟨g, 1, none⟩ = some u1 ∧ w.cell? ⟨g, 2, none⟩ = some u2 ∧ w.cell? ⟨g, 3, none⟩ = some u3 := ⟨by rw [blk_cell h]; rfl, by rw [blk_cell h]; rfl, by rw [blk_cell h]; rfl, by rw [blk_cell h]; rfl⟩
def IntIs (x : Int) (w : World) (e : Ending) (w' : World) : Prop := e = .returned (.int .i64 x) ∧ Below w.heap.size w w'
theorem sort_echo (ty cd : Int) : echoM ty cd = true ∧ (sortM ty cd = 1 ∨ sortM ty cd = 2) ∨ echoM ty cd = false ∧ (sortM ty cd = 0 ∨ sortM ty cd = 3) := by
  unfold echoM sortM
  by_cases h1 : ty = 8 ∧ cd = 0
  · obtain ⟨rfl, rfl⟩ := h1; simp
  · by_cases h2 : ty = 0 ∧ cd = 0
    · obtain ⟨rfl, rfl⟩ := h2; simp
    · rw [if_neg h1, if_neg h2]
      refine .inr ⟨by (simp <;> omega), ?_⟩
      split
      · exact .inr rfl
      · exact .inl rfl
/-- An echo's id and number. -/
def EchoIs (ty cd rs : Int) (w : World) (e : Ending) (w' : World) : Prop :=
  (if echoM ty cd = true then e = .returned (.tuple #[.int .u16 (rs / 65536), .int .u16 (rs % 65536), .bool true]) else e = .returned (.tuple #[.int .u16 0, .int .u16 0, .bool false])) ∧ Below w.heap.size w w'
theorem withM_yes {s : Msg} (h : echoM s.ty s.cd = true) (id : Int) : withM s id = ⟨s.ty, s.cd, 65536 * id + s.rs % 65536, s.d⟩ := by unfold withM; rw [if_pos h]
theorem withM_no {s : Msg} (h : ¬ echoM s.ty s.cd = true) (id : Int) : withM s id = s := by unfold withM; rw [if_neg h]
theorem set_cell4 {w : World} {q : Nat} {u0 u1 u2 u3 : Value} {t : TypeId} (h : w.heap[q]? = some (.cells #[u0, u1, u2, u3] t (0, 0))) (v : Value) : (w.setCell ⟨q, 2, none⟩ v).heap[q]? = some (.cells #[u0, u1, v, u3] t (0, 0)) := by
  simp [World.setCell, Array.getElem?_modify, h]
theorem set4_blk {w : World} {q : Nat} {u0 u1 u2 u3 : Value} {t : TypeId} (h : w.heap[q]? = some (.cells #[u0, u1, u2, u3] t (0, 0))) (v0 v1 v2 v3 : Value) :
    ((((w.setCell ⟨q, 0, none⟩ v0).setCell ⟨q, 1, none⟩ v1).setCell ⟨q, 2, none⟩ v2).setCell ⟨q, 3, none⟩ v3).heap[q]? = some (.cells #[v0, v1, v2, v3] t (0, 0)) := by
  simp [World.setCell, Array.getElem?_modify, h]
theorem other_blk {w : World} {q p i : Nat} {o : Obj} (h : w.heap[q]? = some o) (hn : p ≠ q) (v : Value) : (w.setCell ⟨p, i, none⟩ v).heap[q]? = some o := by
  simp [World.setCell, Array.getElem?_modify, h, hn]
end Go.Proofs.Ytoegfgbalcholaa

/-
  A whole struct of many cells into the block that was made last, as one operation of a walk (cell by cell it is more than the kernel's memory from some 20 cells on). No function of the program.
-/
namespace Go.Proofs.Ytoegfgbalcholaa
set_option maxRecDepth 10000
open Go.RowKit

theorem wp_store_new {P : Program} {o : Oper} {a : Act} {K : Act → World → Prop} {Q : Exit → Act → World → Prop} (t : TypeId) (p x : Operand) (ho : o.op = .store t p x) (hd : o.dst = none) (W : World) (c c' : Array Value)
    (hp : a.eval p = .pointer (some ⟨W.heap.size, 0, none⟩)) (hx : a.eval x = .agg c') (hi : (P.info? t).map (·.size) = some c'.size) (hs : c.size = c'.size) (h1 : c'.all (·.oneCell') = true)
    (h : K a (W.alloc (.cells c' t))) : o.wp P a (W.alloc (.cells c t)) K Q := by
  unfold Oper.wp execOp
  simp only [ho, hp, hx, Sem.run_bind, run_storeAt_new W t c c' hi hs h1, Result.andThen_ok, Sem.run_pure]
  rw [Oper.upon_skip, hd]
  exact h
/-- A whole struct out of its block. -/
theorem wp_load_row {P : Program} {o : Oper} {a : Act} {w : World} {K : Act → World → Prop} {Q : Exit → Act → World → Prop} (t : TypeId) (p : Operand) (ho : o.op = .load t p) (g : Nat) (cs : Array Value) (ty : TypeId) (fr : Nat × Nat) (d : TypeDesc)
    (hg : w.heap[g]? = some (.cells cs ty fr)) (hp : a.eval p = .pointer (some ⟨g, 0, none⟩)) (hu : P.underlying t = some d) (hd : (match d with | .struct _ | .array _ _ => true | _ => false) = true) (hi : (P.info? t).map (·.size) = some cs.size)
    (h : K (a.put o.dst (.agg cs)) w) : o.wp P a w K Q := by
  unfold Oper.wp execOp
  simp only [ho, hp, Instr.loadAt, Instr.sureAddr, Sem.run_bind, Sem.run_pure, Result.andThen, run_loadVar_row w g ty t cs fr d hg hu hd hi]
  rw [Oper.upon_value]
  exact h
theorem results_row_tmp {P : Program} {fn : Func} {p q : Tmp} {ty : TypeId} (h : fn.results = #[.cell p ty, .tmp q]) (tmps : Array Value) (w : World) (g : Nat) (t : TypeId) (cs : Array Value) (fr : Nat × Nat) (d : TypeDesc) (v : Value)
    (hp : tmps.getD p undef = .pointer (some ⟨g, 0, none⟩)) (hv : tmps.getD q undef = v) (hg : w.heap[g]? = some (.cells cs t fr))
    (hu : P.underlying ty = some d) (hd : (match d with | .struct _ | .array _ _ => true | _ => false) = true) (hi : (P.info? ty).map (·.size) = some cs.size) :
    (results fn tmps).run P w = .ok (.tuple #[.agg cs, v]) w := by
  have hp' : tmps[p]?.getD undef = .pointer (some ⟨g, 0, none⟩) := by simpa using hp
  have hv' : tmps[q]?.getD undef = v := by simpa using hv
  simp [results, h, hp', hv', asAddr, run_loadVar_row w g t ty cs fr d hg hu hd hi]
theorem exec_row {P : Program} {o : Oper} {a : Act} {w : World} (t : TypeId) (p : Operand) (ho : o.op = .load t p) (g : Nat) (cs : Array Value) (ty : TypeId) (fr : Nat × Nat) (d : TypeDesc)
    (hg : w.heap[g]? = some (.cells cs ty fr)) (hp : a.eval p = .pointer (some ⟨g, 0, none⟩)) (hu : P.underlying t = some d) (hd : (match d with | .struct _ | .array _ _ => true | _ => false) = true) (hi : (P.info? t).map (·.size) = some cs.size) :
    (execOp a.eval o).run P w = .ok (.value (.agg cs)) w := by
  unfold execOp
  simp only [ho, hp, Instr.loadAt, Instr.sureAddr, Sem.run_bind, Sem.run_pure, Result.andThen, run_loadVar_row w g ty t cs fr d hg hu hd hi]
/-- A whole struct into a block, at a step of a region that draws its order. -/
theorem step_row {P : Program} {ops : Array Oper} {o : Oper} {a : Act} {w : World} {K : Act → World → Prop} {Q : Exit → Act → World → Prop} {E : Prop} (hgd : o.guard = none) (ty : TypeId) (x y : Operand) (ho : o.op = .store ty x y)
    (g : Nat) (cells : Array Value) (hx : a.eval x = .pointer (some ⟨g, 0, none⟩)) (hy : a.eval y = .agg cells) (t : TypeId) (old : Array Value) (hg : w.heap[g]? = some (.cells old t (0, 0))) (hi : (P.info? ty).map (·.size) = some cells.size)
    (hold : old.size = cells.size) (h1 : cells.all (·.oneCell') = true) (h : K (a.put o.dst undef) (w.setRow g cells)) : if Region.wanted o (yielded ops a.tmps) = true then o.wp P a w K Q else E := by
  rw [if_pos (by simp [Region.wanted, hgd])]
  exact wp_store_row ty x y ho g cells hx hy t old hg hi hold h1 h
end Go.Proofs.Ytoegfgbalcholaa

/-
  The contracts of package wire's readers: shut, Left, At, Fail, End, take, number, U8, U16, U32, Bytes, Rest, of a reader that is open.
-/
namespace Go.Proofs.Ytoegfgbalcholaa
set_option maxRecDepth 10000
open Go.RowKit

/-- The reader's own block: the reader in block g has A n c left, 'at' were read, e is what it gave up with. -/
def rdrBlock (g : Nat) (A : Option Addr) (n c : Nat) (at_ e : Int) : Obj := .cells #[.pointer (some ⟨g, 0, none⟩), .slice A n c, .int .i64 at_, .int .i64 e] 121 (0, 0)
/-- Where a slice may begin: nowhere, or at a plain place. -/
def SlAt (A : Option Addr) (c : Nat) : Prop := (A = none ∧ c = 0) ∨ ∃ b o, A = some ⟨b, o, none⟩
/-- A reader that is open: in block g, l is left, 'at' bytes were read, and it has not given up; it and its bytes lie from block B on. -/
def Rdr (w : World) (B g : Nat) (l : List Int) (at_ : Int) : Prop := ∃ A n c, n ≤ c ∧ c ≤ maxLen ∧ SlAt A c ∧ (B ≤ g ∧ ∀ b o, A = some ⟨b, o, none⟩ → B ≤ b ∧ b < g) ∧ (0 ≤ at_ ∧ at_ + (l.length : Int) ≤ 9223372036854775807) ∧ w.heap[g]? = some (rdrBlock g A n c at_ 0) ∧ Rd w A n l
/-- One that gave up with e. -/
def Gave (w : World) (g : Nat) (e : Int) : Prop := ∃ A n c at_, w.heap[g]? = some (rdrBlock g A n c at_ e)

structure RdrC (w : World) (g : Nat) (A : Option Addr) (n c : Nat) (at_ e : Int) : Prop where
  c0 : w.cell? ⟨g, 0, none⟩ = some (.pointer (some ⟨g, 0, none⟩))
  c1 : w.cell? ⟨g, 1, none⟩ = some (.slice A n c)
  c2 : w.cell? ⟨g, 2, none⟩ = some (.int .i64 at_)
  c3 : w.cell? ⟨g, 3, none⟩ = some (.int .i64 e)
  f0 : w.frozen? ⟨g, 0, none⟩ = false
  f1 : w.frozen? ⟨g, 1, none⟩ = false
  f2 : w.frozen? ⟨g, 2, none⟩ = false
  f3 : w.frozen? ⟨g, 3, none⟩ = false
theorem rdrC {w : World} {g : Nat} {A : Option Addr} {n c : Nat} {at_ e : Int} (h : w.heap[g]? = some (rdrBlock g A n c at_ e)) : RdrC w g A n c at_ e := by
  unfold rdrBlock at h
  refine ⟨?_, ?_, ?_, ?_, ?_, ?_, ?_, ?_⟩ <;> simp [World.cell?, World.frozen?, h]

theorem info_rdr : (Try.prog.info? 121).isSome = true := by kernel_rfl
theorem ptr_same (g : Nat) (w : World) : (binOp .neq 92 (.pointer (some ⟨g, 0, none⟩)) (.pointer (some ⟨g, 0, none⟩))).run Try.prog w = .ok (.bool false) w := by
  obtain ⟨j, hj⟩ := Option.isSome_iff_exists.1 info_rdr
  exact Lib.run_neq_ptr_same w _ Try.underlying92 hj
theorem info_gave : (Try.prog.info? 124).map (·.comparable) = some true := by kernel_rfl
theorem gave_fields : Try.prog.underlying 124 = some (.struct (Try.prog.fieldsOf 124)) := by kernel_rfl
theorem gave_fieldList : (Try.prog.fieldsOf 124).toList.map (fun f => (f.name, f.type, f.offset)) = [("reader", 92, 0)] := by kernel_rfl
theorem gave_held : Try.prog.stoodInHeld 124 = false := by kernel_rfl
theorem gave_same (g : Nat) (w : World) : (binOp .neq 20 (.iface 124 (.agg #[.pointer (some ⟨g, 0, none⟩)])) (.iface 124 (.agg #[.pointer (some ⟨g, 0, none⟩)]))).run Try.prog w = .ok (.bool false) w := by
  obtain ⟨j, hj⟩ := Option.isSome_iff_exists.1 info_rdr
  obtain ⟨i, hi, hcc⟩ : ∃ i, Try.prog.info? 124 = some i ∧ i.comparable = true := by
    have := info_gave
    cases hi : Try.prog.info? 124 with
    | none => simp [hi] at this
    | some i => exact ⟨i, rfl, by simpa [hi] using this⟩
  have hp : ∀ d : Nat, (Op.equalIn (d + 1) 92 (.pointer (some ⟨g, 0, none⟩)) (.pointer (some ⟨g, 0, none⟩))).run Try.prog w = .ok true w := fun d => by
    simp [Op.equalIn, run_underlying Try.underlying92, sizeOf, typeInfo, hj, run_sameAddr_same]
  have hs : ∀ d : Nat, (Op.equalIn (d + 2) 124 (.agg #[.pointer (some ⟨g, 0, none⟩)]) (.agg #[.pointer (some ⟨g, 0, none⟩)])).run Try.prog w = .ok true w := fun d => by
    rw [run_equalIn_struct w (d + 1) _ _ _ gave_fields gave_held]
    have hl := gave_fieldList
    generalize (Try.prog.fieldsOf 124).toList = fs at hl
    obtain ⟨f, rfl⟩ : ∃ f, fs = [f] := List.length_eq_one_iff.1 (by have := congrArg List.length hl; simpa using this)
    simp at hl
    obtain ⟨h1, h2, h3⟩ := hl
    simp [Op.eqFields, h1, h2, h3, part, hp, sizeOf, typeInfo]
  have h : ∀ d : Nat, (Op.equalIn (d + 1) 20 (.iface 124 (.agg #[.pointer (some ⟨g, 0, none⟩)])) (.iface 124 (.agg #[.pointer (some ⟨g, 0, none⟩)]))).run Try.prog w = (Op.equalIn d 124 (.agg #[.pointer (some ⟨g, 0, none⟩)]) (.agg #[.pointer (some ⟨g, 0, none⟩)])).run Try.prog w := fun d => by
    simp [Op.equalIn, run_underlying Try.underlying20, typeInfo, hi, hcc]
  simp only [binOp]
  simp [Op.equal, Op.maxDepth, h 9999, hs 9997]

theorem shut_any (g : Nat) (w : World) (h : w.cell? ⟨g, 0, none⟩ = some (.pointer (some ⟨g, 0, none⟩))) :
    Calls Try.prog 75 #[.pointer (some ⟨g, 0, none⟩)] w fun e w' => e = .returned (.bool false) ∧ w = w' := by
  have hne := ptr_same g
  go_enter Try.func75, Try.ntmps75
  go_wp2
  go_ret
  exact ⟨rfl, rfl⟩

theorem left_any (g : Nat) (A : Option Addr) (n c : Nat) (at_ e : Int) (w : World) (h : w.heap[g]? = some (rdrBlock g A n c at_ e)) :
    Calls Try.prog 46 #[.pointer (some ⟨g, 0, none⟩)] w fun e w' => e = .returned (.int .i64 (n : Int)) ∧ w = w' := by
  obtain ⟨c0, c1, c2, c3, f0, f1, f2, f3⟩ := rdrC h
  clear h
  go_enter Try.func46, Try.ntmps46
  go_wp2_with (go_at_call 75; refine (shut_any g _ (by assumption)).mono ?_; rintro e w' ⟨rfl, rfl⟩)
  go_ret
  exact ⟨rfl, rfl⟩

/-- What a reader's panic looks like from outside. -/
def gaveUp (g : Nat) : List PanicEntry := [{ v := .iface 124 (.agg #[.pointer (some ⟨g, 0, none⟩)]), recovered := false }]

theorem setCell_block {w : World} {b i : Nat} {cells : Array Value} {ty : TypeId} {ro : Nat × Nat} (hb : w.heap[b]? = some (.cells cells ty ro)) (u : Value) :
    (w.setCell ⟨b, i, none⟩ u).heap[b]? = some (.cells (cells.set! i u) ty ro) := by
  rw [Joins.block_setCell hb u]; simp
theorem set_left {w : World} {g : Nat} {A : Option Addr} {n c : Nat} {at_ e : Int} (h : w.heap[g]? = some (rdrBlock g A n c at_ e)) (A' : Option Addr) (n' c' : Nat) : (w.setCell ⟨g, 1, none⟩ (.slice A' n' c')).heap[g]? = some (rdrBlock g A' n' c' at_ e) := by
  rw [rdrBlock, setCell_block h]; simp
theorem set_at {w : World} {g : Nat} {A : Option Addr} {n c : Nat} {at_ e : Int} (h : w.heap[g]? = some (rdrBlock g A n c at_ e)) (x : Int) : (w.setCell ⟨g, 2, none⟩ (.int .i64 x)).heap[g]? = some (rdrBlock g A n c x e) := by
  rw [rdrBlock, setCell_block h]; simp
theorem set_err {w : World} {g : Nat} {A : Option Addr} {n c : Nat} {at_ e : Int} (h : w.heap[g]? = some (rdrBlock g A n c at_ e)) (x : Int) : (w.setCell ⟨g, 3, none⟩ (.int .i64 x)).heap[g]? = some (rdrBlock g A n c at_ x) := by
  rw [rdrBlock, setCell_block h]; simp

theorem fail_ok (g : Nat) (w : World) : 
    Calls Try.prog 47 #[.pointer (some ⟨g, 0, none⟩), .int .i64 0] w fun e w' => e = .returned (.tuple #[]) ∧ w = w' := by
  go_enter Try.func47, Try.ntmps47
  go_wp2
  refine bodyPost_ret (results_none rfl _ _ _) rfl ?_
  exact ⟨rfl, rfl⟩

/-- The reader gives up with x. -/
def GivesUp (g : Nat) (x : Int) (w : World) (e : Ending) (w' : World) : Prop := e = .panicked (gaveUp g) ∧ Gave w' g x ∧ But (fun k => k = g) w w'

theorem fail_err (g : Nat) (A : Option Addr) (n c : Nat) (at_ x : Int) (w : World) (h : w.heap[g]? = some (rdrBlock g A n c at_ 0)) (hx : x ≠ 0) : 
    Calls Try.prog 47 #[.pointer (some ⟨g, 0, none⟩), .int .i64 x] w (GivesUp g x w) := by
  obtain ⟨c0, c1, c2, c3, f0, f1, f2, f3⟩ := rdrC h
  have Hw := Lib.hid (set_err h x)
  have hx : (x == 0) = false := by simpa using hx
  clear h
  go_enter Try.func47, Try.ntmps47
  go_wp2_with (go_at_call 75; refine (shut_any g _ (by assumption)).mono ?_; rintro e w' ⟨rfl, rfl⟩)
  exact ⟨rfl, rfl, ⟨_, _, _, _, Hw.out⟩, (But.refl (fun k => k = g) _).setCell (p := ⟨g, 3, none⟩) rfl _⟩

theorem rdr_apart {w : World} {g b o n : Nat} {l : List Int} {A : Option Addr} {A' : Option Addr} {n' c' : Nat} {at_ e : Int} (h : Rd w A n l) (hA : A = some ⟨b, o, none⟩) (h0 : 0 < n) (hg : w.heap[g]? = some (rdrBlock g A' n' c' at_ e)) : b ≠ g :=
  h.apart hA h0 hg (fun j x => by
    match j with
    | 0 => simp
    | 1 => simp
    | 2 => simp
    | 3 => simp
    | j + 4 => simp)

/-- The next k bytes are told where they stand, and are read. -/
def TakeIs (B g : Nat) (l : List Int) (at_ : Int) (k : Nat) (w : World) (e : Ending) (w' : World) : Prop :=
  ∃ A c, e = .returned (.slice A k c) ∧ k ≤ c ∧ SlAt A c ∧ Rd w' A k (l.take k) ∧ Rdr w' B g (l.drop k) (at_ + k) ∧ But (fun x => x = g) w w'

theorem take_none (B g : Nat) (at_ : Int) (w : World) (hB : B ≤ g) (ha : 0 ≤ at_ ∧ at_ ≤ 9223372036854775807) (hg : w.heap[g]? = some (rdrBlock g none 0 0 at_ 0)) :
    Calls Try.prog 77 #[.pointer (some ⟨g, 0, none⟩), .int .i64 0] w (TakeIs B g [] at_ 0 w) := by
  obtain ⟨c0, c1, c2, c3, f0, f1, f2, f3⟩ := rdrC hg
  have Hw := Lib.hid (set_at (set_left hg none 0 0) at_)
  have Ha := Lib.hid ha
  obtain ⟨a0, a1⟩ := ha
  clear hg
  go_enter Try.func77, Try.ntmps77
  go_wp2_with (first | (go_at_call 75; refine (shut_any g _ (by assumption)).mono ?_; rintro e w' ⟨rfl, rfl⟩) | (go_at_call 47; refine (fail_ok g _).mono ?_; rintro e w' ⟨rfl, rfl⟩))
  go_ret
  have hb : But (fun x => x = g) w ((w.setCell ⟨g, 1, none⟩ (.slice none 0 0)).setCell ⟨g, 2, none⟩ (.int .i64 at_)) := ((But.refl (fun k => k = g) _).setCell (p := ⟨g, 1, none⟩) rfl _).setCell (p := ⟨g, 2, none⟩) rfl _
  exact ⟨none, 0, rfl, Nat.le_refl _, .inl ⟨rfl, rfl⟩, Rd.nil _ _, ⟨none, 0, 0, Nat.le_refl _, by simp [maxLen], .inl ⟨rfl, rfl⟩, ⟨hB, fun _ _ e => by cases e⟩, by simpa using Ha.out, by simpa using Hw.out, Rd.nil _ _⟩, hb⟩

theorem take_some (B g b o n c k : Nat) (l : List Int) (at_ : Int) (w : World) (hkn : k ≤ n) (hnc : n ≤ c) (hc : c ≤ maxLen) (hB : B ≤ g ∧ B ≤ b ∧ b < g) (ha : 0 ≤ at_ ∧ at_ + (l.length : Int) ≤ 9223372036854775807) (hr : Rd w (some ⟨b, o, none⟩) n l) (hg : w.heap[g]? = some (rdrBlock g (some ⟨b, o, none⟩) n c at_ 0)) :
    Calls Try.prog 77 #[.pointer (some ⟨g, 0, none⟩), .int .i64 (k : Int)] w (TakeIs B g l at_ k w) := by
  obtain ⟨c0, c1, c2, c3, f0, f1, f2, f3⟩ := rdrC hg
  obtain ⟨m, hm⟩ : ∃ m, n = k + m := ⟨n - k, by omega⟩
  subst hm
  have hlen := hr.len
  have hb : ∀ v u, But (fun x => x = g) w ((w.setCell ⟨g, 1, none⟩ v).setCell ⟨g, 2, none⟩ u) := fun v u => ((But.refl (fun k => k = g) _).setCell (p := ⟨g, 1, none⟩) rfl _).setCell (p := ⟨g, 2, none⟩) rfl _
  have Hw := fun A n c => Lib.hid (set_at (set_left hg A n c) (at_ + k))
  have Ht := fun v u => Lib.hid ((hr.take hkn).but (hb v u) (fun b' o' e h0 he => by injection e with e; injection e with e1 e2; exact rdr_apart hr rfl (by omega) hg (e1.trans he)))
  have Hd := fun v u => Lib.hid ((hr.drop_ rfl rfl).but (hb v u) (fun b' o' e h0 he => by injection e with e; injection e with e1 e2; exact rdr_apart hr rfl (by omega) hg (e1.trans he)))
  have Ha := Lib.hid (show 0 ≤ at_ + (k : Int) ∧ at_ + (k : Int) + ((l.drop k).length : Int) ≤ 9223372036854775807 by rw [List.length_drop, hlen]; omega)
  have a1 : at_ + (k : Int) ≤ 9223372036854775807 := by omega
  have a0 := ha.1
  unfold maxLen at hc
  have Hb := Lib.hid hb
  clear hg hr hlen hb ha
  go_enter Try.func77, Try.ntmps77
  by_cases hkc : k = c
  · subst hkc
    have hm0 : m = 0 := by omega
    subst hm0
    go_wp2_with (first | (go_at_call 75; refine (shut_any g _ (by assumption)).mono ?_; rintro e w' ⟨rfl, rfl⟩) | (go_at_call 47; refine (fail_ok g _).mono ?_; rintro e w' ⟨rfl, rfl⟩))
    go_ret
    have h0 := (Hd (.slice (some ⟨b, o, none⟩) 0 0) (.int .i64 (at_ + k))).out
    have hl : l.drop k = [] := List.eq_nil_of_length_eq_zero h0.len
    exact ⟨_, _, rfl, Nat.le_refl _, .inr ⟨b, o, rfl⟩, (Ht _ _).out, ⟨some ⟨b, o, none⟩, 0, 0, Nat.le_refl _, by simp [maxLen], .inr ⟨b, o, rfl⟩, ⟨hB.1, fun _ _ e => by injection e with e; injection e with e1 _; rw [← e1]; exact hB.2⟩, Ha.out, (Hw _ _ _).out, by rw [hl]; exact Rd.nil _ _⟩, Hb.out _ _⟩
  · have hkc : k < c := by omega
    go_wp2_with (first | (go_at_call 75; refine (shut_any g _ (by assumption)).mono ?_; rintro e w' ⟨rfl, rfl⟩) | (go_at_call 47; refine (fail_ok g _).mono ?_; rintro e w' ⟨rfl, rfl⟩))
    go_ret
    exact ⟨_, _, rfl, by omega, .inr ⟨b, o, rfl⟩, (Ht _ _).out, ⟨some ⟨b, o + k, none⟩, m, c - k, by omega, by unfold maxLen; omega, .inr ⟨b, o + k, rfl⟩, ⟨hB.1, fun _ _ e => by injection e with e; injection e with e1 _; rw [← e1]; exact hB.2⟩, Ha.out, (Hw _ _ _).out, (Hd _ _).out⟩, Hb.out _ _⟩

theorem take_ok (B g k : Nat) (l : List Int) (at_ : Int) (w : World) (hk : k ≤ l.length) (h : Rdr w B g l at_) :
    Calls Try.prog 77 #[.pointer (some ⟨g, 0, none⟩), .int .i64 (k : Int)] w (TakeIs B g l at_ k w) := by
  obtain ⟨A, n, c, hnc, hc, hs, hB, ha, hg, hr⟩ := h
  have hlen := hr.len
  rcases hs with ⟨rfl, rfl⟩ | ⟨b, o, rfl⟩
  · obtain rfl : n = 0 := by omega
    have hl : l = [] := List.eq_nil_of_length_eq_zero hlen
    subst hl
    obtain rfl : k = 0 := by simpa using hk
    exact take_none B g at_ w hB.1 (by simpa using ha) hg
  · exact take_some B g b o n c k l at_ w (by omega) hnc hc ⟨hB.1, hB.2 b o rfl⟩ ha hr hg

theorem take_short (B g : Nat) (k : Int) (l : List Int) (at_ : Int) (w : World) (hk : (l.length : Int) < k) (h : Rdr w B g l at_) :
    Calls Try.prog 77 #[.pointer (some ⟨g, 0, none⟩), .int .i64 k] w (GivesUp g 4 w) := by
  obtain ⟨A, n, c, hnc, hc, hs, hB, ha, hg, hr⟩ := h
  have hlen := hr.len
  obtain ⟨c0, c1, c2, c3, f0, f1, f2, f3⟩ := rdrC hg
  have hk : (n : Int) < k := by omega
  have hk0 : 0 ≤ k := by omega
  have Hf := Lib.hid (fail_err g A n c at_ 4 w hg (by decide))
  clear hg hr hlen ha hs
  go_enter Try.func77, Try.ntmps77
  go_wp2_with (first | (go_at_call 75; refine (shut_any g _ (by assumption)).mono ?_; rintro e w' ⟨rfl, rfl⟩) | (go_at_call 47; with_reducible refine (fail_ok g _).mono ?_; rintro e w' ⟨rfl, rfl⟩))
  refine Hf.out.mono ?_
  rintro e w' ⟨rfl, h⟩
  exact ⟨rfl, rfl, h⟩

/-- The highest byte first. -/
def beNum (l : List Int) : Int := l.foldl (fun a x => a * 256 + x) 0

theorem number_short (B g k : Nat) (l : List Int) (at_ : Int) (w : World) (hk : l.length < k) (h : Rdr w B g l at_) :
    Calls Try.prog 76 #[.pointer (some ⟨g, 0, none⟩), .int .i64 (k : Int)] w (GivesUp g 4 w) := by
  have Ht := Lib.hid (take_short B g k l at_ w (by omega) h)
  clear h
  go_enter Try.func76, Try.ntmps76
  go_wp2_with fail
  refine Ht.out.mono ?_
  rintro e w' ⟨rfl, h⟩
  exact ⟨rfl, rfl, h⟩

/-- The next k bytes as a number; they are read. -/
def NumIs (kd : IntKind) (B g : Nat) (l : List Int) (at_ : Int) (k : Nat) (w : World) (e : Ending) (w' : World) : Prop :=
  e = .returned (.int kd (beNum (l.take k))) ∧ Rdr w' B g (l.drop k) (at_ + k) ∧ But (fun x => x = g) w w'

theorem beNum_snoc (l : List Int) (x : Int) : beNum (l ++ [x]) = beNum l * 256 + x := by simp [beNum]
theorem beNum_bd (l : List Int) (h : ∀ x ∈ l, 0 ≤ x ∧ x < 256) : 0 ≤ beNum l ∧ beNum l < 256 ^ l.length := by
  obtain ⟨n, hn⟩ : ∃ n, l.length = n := ⟨_, rfl⟩
  induction n generalizing l with
  | zero => rw [List.eq_nil_of_length_eq_zero hn]; simp [beNum]
  | succ n ih =>
    have hl : l ≠ [] := by intro e; rw [e] at hn; simp at hn
    rw [← List.dropLast_concat_getLast hl, beNum_snoc]
    have h1 := ih l.dropLast (fun y hy => h y (List.dropLast_subset l hy)) (by rw [List.length_dropLast]; omega)
    have h2 := h (l.getLast hl) (List.getLast_mem hl)
    rw [List.length_append, List.length_singleton, Int.pow_succ]
    omega
theorem beNum_lt (l : List Int) (h : ∀ x ∈ l, 0 ≤ x ∧ x < 256) : (l.length ≤ 4 → beNum l < 4294967296) ∧ (l.length ≤ 3 → beNum l < 16777216) ∧ (l.length ≤ 2 → beNum l < 65536) ∧ (l.length ≤ 1 → beNum l < 256) := by
  match l, h with
  | [], _ => simp [beNum]
  | [a], h =>
    have h0 := h a (by simp)
    simp [beNum]; omega
  | [a, b], h =>
    have h0 := h a (by simp); have h1 := h b (by simp)
    simp [beNum]; omega
  | [a, b, c], h =>
    have h0 := h a (by simp); have h1 := h b (by simp); have h2 := h c (by simp)
    simp [beNum]; omega
  | [a, b, c, d], h =>
    have h0 := h a (by simp); have h1 := h b (by simp); have h2 := h c (by simp); have h3 := h d (by simp)
    simp [beNum]; omega
  | a :: b :: c :: d :: e :: l, _ => simp
theorem take_snoc_getD (l : List Int) (k : Nat) (h : k < l.length) : l.take (k + 1) = l.take k ++ [l.getD k 0] := by
  rw [List.take_succ_eq_append_getElem h]; simp [List.getD, List.getElem?_eq_getElem h]
theorem getD_mem (l : List Int) (h : ∀ x ∈ l, 0 ≤ x ∧ x < 256) (k : Nat) : 0 ≤ l.getD k 0 ∧ l.getD k 0 < 256 := by
  by_cases hk : k < l.length
  · have := h (l[k]) (List.getElem_mem hk)
    simpa [List.getD, List.getElem?_eq_getElem hk] using this
  · simp [List.getD, List.getElem?_eq_none (by omega : l.length ≤ k)]

theorem number_ok (B g k : Nat) (l : List Int) (at_ : Int) (w : World) (hk : k ≤ l.length) (hk4 : k ≤ 4) (h : Rdr w B g l at_) :
    Calls Try.prog 76 #[.pointer (some ⟨g, 0, none⟩), .int .i64 (k : Int)] w (NumIs .u32 B g l at_ k w) := by
  have Ht := Lib.hid (take_ok B g k l at_ w hk h)
  clear h
  go_enter Try.func76, Try.ntmps76
  go_wp2_with fail
  refine Ht.out.mono ?_
  rintro e w1 ⟨A, c, rfl, hkc, hs, hr, hR, hb⟩
  have HR := Lib.hid hR
  have Hb := Lib.hid hb
  have hlen := hr.len
  clear hR hb hs
  obtain ⟨lt, el⟩ : ∃ lt, lt = l.take k := ⟨_, rfl⟩
  rw [← el] at hr hlen
  have El := Lib.hid el
  have Hlen := Lib.hid hlen
  clear el hlen
  go_wp2_with fail
  go_loopg [5, 12] k (fun gk a i wr => ∃ j : Nat, Hid (gk + j = k) ∧ j ≤ k ∧ i = .int .i64 (j : Int) ∧ a = .int .u32 (beNum (lt.take j)) ∧ wr = w1)
  case atStart => exact ⟨0, rfl, Nat.zero_le _, rfl, rfl, rfl⟩
  case round =>
    obtain ⟨j, hgk, hj, rfl, rfl, rfl⟩ := hrel
    by_cases hlt : j < k
    · obtain ⟨q, hrunq, hcellq, hqb⟩ := hr.index (c := c) hlt
      have hx := getD_mem lt hr.byte j
      have hn0 := (beNum_bd (lt.take j) (fun x hx => hr.byte x (List.mem_of_mem_take hx))).1
      have hn1 := (beNum_lt (lt.take j) (fun x hx => hr.byte x (List.mem_of_mem_take hx))).2.1 (by rw [List.length_take]; omega)
      have Hs := Lib.hid (take_snoc_getD lt j (by rw [Hlen.out]; exact hlt))
      obtain ⟨x, ex⟩ : ∃ x, lt.getD j 0 = x := ⟨_, rfl⟩
      obtain ⟨y, ey⟩ : ∃ y, beNum (lt.take j) = y := ⟨_, rfl⟩
      rw [ex] at hcellq hx
      rw [ey] at hn0 hn1 ⊢
      have hor := or32 y x ⟨hn0, hn1⟩ hx
      have Hy := Lib.hid (show beNum (lt.take (j + 1)) = y * 256 + x by rw [Hs.out, beNum_snoc, ex, ey])
      clear ex ey
      obtain ⟨hx0, hx1⟩ := hx
      go_wp2_with fail
      go_roundg (gk - 1)
      case measure => have := hgk.out; omega
      case rel => exact ⟨j + 1, by have := hgk.out; show gk - 1 + (j + 1) = _; omega, by omega, by go_num, by rw [Hy.out], rfl⟩
    · obtain rfl : j = k := by omega
      go_wp2_with fail
      go_ret
      refine ⟨?_, HR.out, Hb.out⟩
      have h1 := El.out
      have h2 := Hlen.out
      show Ending.returned (Value.int .u32 (beNum (lt.take j))) = _
      rw [← h1, List.take_of_length_le (by omega)]

theorem u8_ok (B g : Nat) (l : List Int) (at_ : Int) (w : World) (hk : 1 ≤ l.length) (hl : ∀ x ∈ l, 0 ≤ x ∧ x < 256) (h : Rdr w B g l at_) :
    Calls Try.prog 48 #[.pointer (some ⟨g, 0, none⟩)] w (NumIs .u8 B g l at_ 1 w) := by
  have Hn := Lib.hid (number_ok B g 1 l at_ w hk (by omega) h)
  have h0 := (beNum_bd (l.take 1) (fun x hx => hl x (List.mem_of_mem_take hx))).1
  have h1 := (beNum_lt (l.take 1) (fun x hx => hl x (List.mem_of_mem_take hx))).2.2.2 (by rw [List.length_take]; omega)
  clear h hl
  unfold NumIs at Hn ⊢
  obtain ⟨y, ey⟩ : ∃ y, beNum (l.take 1) = y := ⟨_, rfl⟩
  rw [ey] at h0 h1 Hn ⊢
  clear ey
  go_enter Try.func48, Try.ntmps48
  go_wp2_with fail
  refine Hn.out.mono ?_
  rintro e w' ⟨rfl, h⟩
  have Hh := Lib.hid h
  clear h
  go_wp2_with fail
  go_ret
  exact ⟨rfl, Hh.out⟩

theorem u16_ok (B g : Nat) (l : List Int) (at_ : Int) (w : World) (hk : 2 ≤ l.length) (hl : ∀ x ∈ l, 0 ≤ x ∧ x < 256) (h : Rdr w B g l at_) :
    Calls Try.prog 50 #[.pointer (some ⟨g, 0, none⟩)] w (NumIs .u16 B g l at_ 2 w) := by
  have Hn := Lib.hid (number_ok B g 2 l at_ w hk (by omega) h)
  have h0 := (beNum_bd (l.take 2) (fun x hx => hl x (List.mem_of_mem_take hx))).1
  have h1 := (beNum_lt (l.take 2) (fun x hx => hl x (List.mem_of_mem_take hx))).2.2.1 (by rw [List.length_take]; omega)
  clear h hl
  unfold NumIs at Hn ⊢
  obtain ⟨y, ey⟩ : ∃ y, beNum (l.take 2) = y := ⟨_, rfl⟩
  rw [ey] at h0 h1 Hn ⊢
  clear ey
  go_enter Try.func50, Try.ntmps50
  go_wp2_with fail
  refine Hn.out.mono ?_
  rintro e w' ⟨rfl, h⟩
  have Hh := Lib.hid h
  clear h
  go_wp2_with fail
  go_ret
  exact ⟨rfl, Hh.out⟩

theorem u32_ok (B g : Nat) (l : List Int) (at_ : Int) (w : World) (hk : 4 ≤ l.length) (h : Rdr w B g l at_) :
    Calls Try.prog 51 #[.pointer (some ⟨g, 0, none⟩)] w (NumIs .u32 B g l at_ 4 w) := by
  have Hn := Lib.hid (number_ok B g 4 l at_ w hk (by omega) h)
  clear h
  go_enter Try.func51, Try.ntmps51
  go_wp2_with fail
  refine Hn.out.mono ?_
  rintro e w' ⟨rfl, h⟩
  have Hh := Lib.hid h
  clear h
  go_wp2_with fail
  go_ret
  exact ⟨rfl, Hh.out⟩

theorem u16_short (B g : Nat) (l : List Int) (at_ : Int) (w : World) (hk : l.length < 2) (h : Rdr w B g l at_) :
    Calls Try.prog 50 #[.pointer (some ⟨g, 0, none⟩)] w (GivesUp g 4 w) := by
  have Hn := Lib.hid (number_short B g 2 l at_ w hk h)
  clear h
  go_enter Try.func50, Try.ntmps50
  go_wp2_with fail
  refine Hn.out.mono ?_
  rintro e w' ⟨rfl, h⟩
  exact ⟨rfl, rfl, h⟩
theorem u32_short (B g : Nat) (l : List Int) (at_ : Int) (w : World) (hk : l.length < 4) (h : Rdr w B g l at_) :
    Calls Try.prog 51 #[.pointer (some ⟨g, 0, none⟩)] w (GivesUp g 4 w) := by
  have Hn := Lib.hid (number_short B g 4 l at_ w hk h)
  clear h
  go_enter Try.func51, Try.ntmps51
  go_wp2_with fail
  refine Hn.out.mono ?_
  rintro e w' ⟨rfl, h⟩
  exact ⟨rfl, rfl, h⟩

/-- Rows of bytes told: a row of the call's own. -/
def BytesAre (B g : Nat) (l rest : List Int) (at_ : Int) (w : World) (e : Ending) (w' : World) : Prop :=
  ∃ A c, e = .returned (.slice A l.length c) ∧ l.length ≤ c ∧ c ≤ maxLen ∧ OwnB w' w.heap.size A l.length c l ∧ Rdr w' B g rest at_ ∧ But (fun x => x = g) w w'

theorem clone_any (A : Option Addr) (n c : Nat) (l : List Int) (w : World) (hn : n ≤ 140737488355328) (h : Rd w A n l) :
    Calls Try.prog 73 #[.slice A n c] w (RowIs n l w) := by
  have hnil : ∀ W : World, (binOp .eql 22 (.slice A n c) (.slice none 0 0)).run Try.prog W = .ok (.bool A.isNone) W := fun W => Lib.run_eql_slice_nil W _ _ A n c 0 0 Try.underlying22
  cases A with
  | none =>
    obtain rfl : n = 0 := by
      rcases Nat.eq_zero_or_pos n with h0 | h0
      · exact h0
      · obtain ⟨b, o, e, _⟩ := h.at_ h0; cases e
    have hl : l = [] := List.eq_nil_of_length_eq_zero h.len
    subst hl
    have Ho := Lib.hid (OwnB.nil w w.heap.size)
    clear h
    go_enter Try.func73, Try.ntmps73
    go_wp2_with fail
    go_ret
    exact ⟨none, 0, rfl, Nat.le_refl _, by simp [maxLen], Ho.out, Below.refl _ _⟩
  | some a =>
    have hb := (Below.refl w.heap.size w).alloc (Nat.le_refl _) (.cells #[] 5)
    have Ho := Lib.hid (OwnB.made (w := w.alloc (.cells #[] 5)) (B := w.heap.size) (g := w.heap.size) (cap := 0) (cur := #[]) (heap_alloc_new w _) (Nat.le_refl _) (by simp [maxLen]) rfl)
    have Hr := Lib.hid (h.below hb)
    have Hb := Lib.hid hb
    clear h hb
    go_enter Try.func73, Try.ntmps73
    go_wp2_with (refine wpList_app rfl (.tmp 5) (.tmp 6) rfl w.heap.size (some ⟨w.heap.size, 0, none⟩) (some a) 0 0 n c [] l rfl rfl Ho.out Hr.out (by omega) (by simp) ?_; intro A2 c2 w2 hown2 _ hb2 _)
    go_ret
    have h2 := hown2
    rw [Nat.zero_add, List.nil_append] at h2
    exact ⟨A2, c2, by simp, h2.cap, h2.capMax, h2, Hb.out.trans hb2⟩

theorem Rdr.but {S : Nat → Prop} {w w' : World} {B g : Nat} {l : List Int} {at_ : Int} (h : Rdr w B g l at_) (hb : But S w w') (hS : ∀ k, S k → k < B) : Rdr w' B g l at_ := by
  obtain ⟨A, n, c, hnc, hc, hs, hB, ha, hg, hr⟩ := h
  refine ⟨A, n, c, hnc, hc, hs, hB, ha, hb.blk hg (fun x => by have := hS _ x; omega), hr.but hb (fun b o e _ x => by have := hB.2 b o e; have := hS _ x; omega)⟩
theorem Rdr.below {w w' : World} {B g : Nat} {l : List Int} {at_ : Int} (h : Rdr w B g l at_) (hb : Below w.heap.size w w') : Rdr w' B g l at_ :=
  h.but (But.of (S := fun _ => False) hb) (fun _ x => x.elim)
theorem Rdr.bytes {w : World} {B g : Nat} {l : List Int} {at_ : Int} (h : Rdr w B g l at_) : ∀ x ∈ l, 0 ≤ x ∧ x < 256 := by
  obtain ⟨A, n, c, hnc, hc, hs, hB, ha, hg, hr⟩ := h
  exact hr.byte

theorem bytes_ok (B g k : Nat) (l : List Int) (at_ : Int) (w : World) (hk : k ≤ l.length) (hl : l.length ≤ 140737488355328) (h : Rdr w B g l at_) :
    Calls Try.prog 49 #[.pointer (some ⟨g, 0, none⟩), .int .i64 (k : Int)] w (BytesAre B g (l.take k) (l.drop k) (at_ + k) w) := by
  have Ht := Lib.hid (take_ok B g k l at_ w hk h)
  have hlk : (l.take k).length = k := by rw [List.length_take]; omega
  have hk2 : k ≤ 140737488355328 := by omega
  have Hlk := Lib.hid hlk
  clear h hlk
  unfold BytesAre
  rw [Hlk.out]
  go_enter Try.func49, Try.ntmps49
  go_wp2_with fail
  refine Ht.out.mono ?_
  rintro e w1 ⟨A, c, rfl, hkc, hs, hr, hR, hb⟩
  have HR := Lib.hid hR
  have Hb := Lib.hid hb
  clear hR hb
  go_wp2_with fail
  refine (clone_any A k c _ w1 hk2 hr).mono ?_
  rintro e w2 ⟨A2, c2, rfl, hkc2, hc2, hown, hb2⟩
  have Hown := Lib.hid hown
  have Hb2 := Lib.hid hb2
  clear hown hb2
  go_wp2_with fail
  go_ret
  exact ⟨A2, c2, rfl, hkc2, hc2, Hown.out.mono Hb.out.size, HR.out.below Hb2.out, Hb.out.trans (But.of Hb2.out)⟩

theorem bytes_short (B g : Nat) (k : Int) (l : List Int) (at_ : Int) (w : World) (hk : (l.length : Int) < k) (h : Rdr w B g l at_) :
    Calls Try.prog 49 #[.pointer (some ⟨g, 0, none⟩), .int .i64 k] w (GivesUp g 4 w) := by
  have Hn := Lib.hid (take_short B g k l at_ w hk h)
  clear h
  go_enter Try.func49, Try.ntmps49
  go_wp2_with fail
  refine Hn.out.mono ?_
  rintro e w' ⟨rfl, h⟩
  exact ⟨rfl, rfl, h⟩

theorem left_ok (B g : Nat) (l : List Int) (at_ : Int) (w : World) (h : Rdr w B g l at_) :
    Calls Try.prog 46 #[.pointer (some ⟨g, 0, none⟩)] w fun e w' => e = .returned (.int .i64 (l.length : Int)) ∧ w = w' := by
  obtain ⟨A, n, c, hnc, hc, hs, hB, ha, hg, hr⟩ := h
  rw [hr.len]
  exact left_any g A n c at_ 0 w hg

theorem fail_any (B g : Nat) (x : Int) (l : List Int) (at_ : Int) (w : World) (hx : x ≠ 0) (h : Rdr w B g l at_) :
    Calls Try.prog 47 #[.pointer (some ⟨g, 0, none⟩), .int .i64 x] w (GivesUp g x w) := by
  obtain ⟨A, n, c, hnc, hc, hs, hB, ha, hg, hr⟩ := h
  exact fail_err g A n c at_ x w hg hx

/-- A number is told and read; of what was there only the reader has turned. -/
def ToldIs (kd : IntKind) (x : Int) (B g : Nat) (rest : List Int) (at_ : Int) (w : World) (e : Ending) (w' : World) : Prop :=
  e = .returned (.int kd x) ∧ Rdr w' B g rest at_ ∧ But (fun k => k = g) w w'
theorem u8_told (B g : Nat) (x : Int) (l : List Int) (at_ : Int) (w : World) (h : Rdr w B g (x :: l) at_) :
    Calls Try.prog 48 #[.pointer (some ⟨g, 0, none⟩)] w (ToldIs .u8 x B g l (at_ + 1) w) :=
  (u8_ok B g (x :: l) at_ w (by simp) h.bytes h).mono fun e w' ⟨he, hr, hb⟩ => ⟨by rw [he]; simp [beNum], by simpa using hr, hb⟩
theorem u16_told (B g : Nat) (x y : Int) (l : List Int) (at_ : Int) (w : World) (h : Rdr w B g (x :: y :: l) at_) :
    Calls Try.prog 50 #[.pointer (some ⟨g, 0, none⟩)] w (ToldIs .u16 (x * 256 + y) B g l (at_ + 2) w) :=
  (u16_ok B g (x :: y :: l) at_ w (by simp) h.bytes h).mono fun e w' ⟨he, hr, hb⟩ => ⟨by rw [he]; simp [beNum], by simpa using hr, hb⟩
theorem u32_told (B g : Nat) (a b c d : Int) (l : List Int) (at_ : Int) (w : World) (h : Rdr w B g (a :: b :: c :: d :: l) at_) :
    Calls Try.prog 51 #[.pointer (some ⟨g, 0, none⟩)] w (ToldIs .u32 (((a * 256 + b) * 256 + c) * 256 + d) B g l (at_ + 4) w) :=
  (u32_ok B g (a :: b :: c :: d :: l) at_ w (by simp) h).mono fun e w' ⟨he, hr, hb⟩ => ⟨by rw [he]; simp [beNum], by simpa using hr, hb⟩
/-- Rows of bytes told, the lists by name. -/
theorem bytes_told (B g k : Nat) (l l1 l2 : List Int) (at_ : Int) (w : World) (hk : l1.length = k) (hl : l = l1 ++ l2) (hlen : l.length ≤ 140737488355328) (h : Rdr w B g l at_) :
    Calls Try.prog 49 #[.pointer (some ⟨g, 0, none⟩), .int .i64 (k : Int)] w (BytesAre B g l1 l2 (at_ + k) w) := by
  have hb := bytes_ok B g k l at_ w (by rw [hl, List.length_append]; omega) hlen h
  rw [hl, List.take_left' hk, List.drop_left' hk] at hb
  exact hb

/-- The same, the length by name. -/
def BytesIs (B g k : Nat) (l rest : List Int) (at_ : Int) (w : World) (e : Ending) (w' : World) : Prop :=
  ∃ A c, e = .returned (.slice A k c) ∧ k ≤ c ∧ c ≤ maxLen ∧ OwnB w' w.heap.size A k c l ∧ Rdr w' B g rest at_ ∧ But (fun x => x = g) w w'
theorem bytes_is (B g k : Nat) (l l1 l2 : List Int) (at_ : Int) (w : World) (hk : l1.length = k) (hl : l = l1 ++ l2) (hlen : l.length ≤ 140737488355328) (h : Rdr w B g l at_) :
    Calls Try.prog 49 #[.pointer (some ⟨g, 0, none⟩), .int .i64 (k : Int)] w (BytesIs B g k l1 l2 (at_ + k) w) := by
  have := bytes_told B g k l l1 l2 at_ w hk hl hlen h
  subst hk
  exact this
/-- A variable that a closure captures. -/
def Box (w : World) (p : Nat) (t : TypeId) (v : Value) : Prop := w.heap[p]? = some (.cells #[v] t (0, 0))
theorem Box.cell {w : World} {p : Nat} {t : TypeId} {v : Value} (h : Box w p t v) : w.cell? ⟨p, 0, none⟩ = some v := by
  unfold Box at h; simp [World.cell?, h]
theorem Box.free {w : World} {p : Nat} {t : TypeId} {v : Value} (h : Box w p t v) : w.frozen? ⟨p, 0, none⟩ = false := by
  unfold Box at h; simp [World.frozen?, h]
theorem Box.set_ {w : World} {p : Nat} {t : TypeId} {v : Value} (h : Box w p t v) (u : Value) : Box (w.setCell ⟨p, 0, none⟩ u) p t u := by
  unfold Box at h ⊢; rw [setCell_block h]; simp
theorem Box.but {S : Nat → Prop} {w w' : World} {p : Nat} {t : TypeId} {v : Value} (h : Box w p t v) (hb : But S w w') (hS : ¬ S p) : Box w' p t v := hb.blk h hS
theorem Box.below {w w' : World} {B p : Nat} {t : TypeId} {v : Value} (h : Box w p t v) (hb : Below B w w') (hp : p < B) : Box w' p t v := (hb.block p hp).trans h
theorem Box.lt {w : World} {p : Nat} {t : TypeId} {v : Value} (h : Box w p t v) : p < w.heap.size := lt_of_block h
theorem Box.new (w : World) (t : TypeId) (v : Value) : Box (w.alloc (.cells #[v] t)) w.heap.size t v := heap_alloc_new w _
theorem Box.other {w : World} {p : Nat} {t : TypeId} {v : Value} (h : Box w p t v) (q : Addr) (hq : p ≠ q.block) (u : Value) : Box (w.setCell q u) p t v := (Below.heap_setCell _ _ _ _ hq).trans h
theorem Box.alloc {w : World} {p : Nat} {t : TypeId} {v : Value} (h : Box w p t v) (o : Obj) : Box (w.alloc o) p t v := (Below.heap_alloc _ _ _ h.lt).trans h

end Go.Proofs.Ytoegfgbalcholaa
