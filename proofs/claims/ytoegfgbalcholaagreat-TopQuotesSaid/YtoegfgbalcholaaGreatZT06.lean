/-
  Texts laid together: But, Wire, WireRead, SumNum.
-/
import Derived.Test.YtoegfgbalcholaaGreatZT02
import Derived.Test.YtoegfgbalcholaaGreatZT03
import Derived.Test.YtoegfgbalcholaaGreatZT04
import Derived.WalkSmall
import Derived.Deep.LoopGhost
import Derived.LoopTactic
import Derived.Outline
import Derived.Lib.Hide
import Derived.Deep.QuietTactic
import Derived.BigQuiet
import Derived.Lib.Builder
import Derived.Lib.SliceRun
import Derived.Laws.StructEq
import Derived.Defers
import Derived.Recover
import Derived.Test.YtoegfgbalcholaaGreatZT01

/-
  'But S w w'': of what was there, nothing but the blocks in S has turned. No function of the program.
-/
namespace Go.Proofs.YtoegfgbalcholaaGreat
set_option maxRecDepth 10000
open Go.RowKit

/-- Of what was there, nothing but the blocks in S has turned; the streams are as they were. -/
structure But (S : Nat → Prop) (w w' : World) : Prop where
  os : w'.os = w.os
  tape : w'.tape = w.tape
  output : w'.output = w.output
  size : w.heap.size ≤ w'.heap.size
  block : ∀ k, k < w.heap.size → ¬ S k → w'.heap[k]? = w.heap[k]?

variable {S S' : Nat → Prop} {a b c w w' : World}
theorem But.refl (S : Nat → Prop) (w : World) : But S w w := ⟨rfl, rfl, rfl, Nat.le_refl _, fun _ _ _ => rfl⟩
theorem But.trans (h : But S a b) (k : But S b c) : But S a c :=
  ⟨k.os.trans h.os, k.tape.trans h.tape, k.output.trans h.output, Nat.le_trans h.size k.size, fun i hi hs => (k.block i (Nat.lt_of_lt_of_le hi h.size) hs).trans (h.block i hi hs)⟩
theorem But.mono (h : But S w w') (hS : ∀ k, k < w.heap.size → S k → S' k) : But S' w w' := ⟨h.os, h.tape, h.output, h.size, fun k hk hn => h.block k hk (fun hs => hn (hS k hk hs))⟩
/-- Two steps, each with its own blocks. -/
theorem But.trans2 (h : But S a b) (k : But S' b c) (hS : ∀ k, k < a.heap.size → S' k → S k) : But S a c :=
  ⟨k.os.trans h.os, k.tape.trans h.tape, k.output.trans h.output, Nat.le_trans h.size k.size, fun i hi hs => (k.block i (Nat.lt_of_lt_of_le hi h.size) (fun x => hs (hS i hi x))).trans (h.block i hi hs)⟩
theorem But.setCell (h : But S a w) {p : Addr} (hp : S p.block) (u : Value) : But S a (w.setCell p u) :=
  h.trans ⟨rfl, rfl, rfl, by simp [World.setCell], fun k _ hn => Below.heap_setCell _ _ _ _ (fun e => hn (e ▸ hp))⟩
/-- A store into a block that is new. -/
theorem But.setNew (h : But S a w) {p : Addr} (hp : a.heap.size ≤ p.block) (u : Value) : But S a (w.setCell p u) :=
  ⟨h.os, h.tape, h.output, by have := h.size; simpa [World.setCell] using this, fun k hk hn => (Below.heap_setCell _ _ _ _ (by omega)).trans (h.block k hk hn)⟩
theorem But.alloc (h : But S a w) (o : Obj) : But S a (w.alloc o) :=
  ⟨h.os, h.tape, h.output, by have := h.size; simp; omega, fun k hk hn => (Below.heap_alloc _ _ _ (Nat.lt_of_lt_of_le hk h.size)).trans (h.block k hk hn)⟩
theorem But.drawn (h : But S a w) (n : Nat) : But S a { w with drawn := n } := ⟨h.os, h.tape, h.output, h.size, h.block⟩
theorem But.drewN (h : But S a w) (n : Nat) : But S a (w.drewN n) := ⟨h.os, h.tape, h.output, h.size, h.block⟩
theorem But.drew (h : But S a w) : But S a w.drew := ⟨h.os, h.tape, h.output, h.size, h.block⟩
theorem But.below {B : Nat} (h : But S w w') (hS : ∀ k, S k → B ≤ k) (hB : B ≤ w.heap.size) : Below B w w' := ⟨h.os, h.tape, h.output, h.size, fun k hk => h.block k (by omega) (fun hs => by have := hS k hs; omega)⟩
theorem But.old (h : But S w w') (hS : ∀ k, S k → w.heap.size ≤ k) : Below w.heap.size w w' := h.below hS (Nat.le_refl _)
theorem But.of (h : Below w.heap.size w w') : But S w w' := ⟨h.os, h.tape, h.output, h.size, fun k hk _ => h.block k hk⟩
theorem But.cell (h : But S w w') {p : Addr} (hp : p.block < w.heap.size) (hn : ¬ S p.block) : w'.cell? p = w.cell? p := World.cell?_of_block (w := w) (h.block p.block hp hn)
theorem But.lt {k : Nat} (h : But S w w') (hk : k < w.heap.size) : k < w'.heap.size := Nat.lt_of_lt_of_le hk h.size

theorem lt_of_block {w : World} {g : Nat} {o : Obj} (h : w.heap[g]? = some o) : g < w.heap.size := by
  rcases Nat.lt_or_ge g w.heap.size with h' | h'
  · exact h'
  · rw [Array.getElem?_eq_none h'] at h; cases h
theorem But.blk {k : Nat} {o : Obj} (h : But S w w') (hb : w.heap[k]? = some o) (hn : ¬ S k) : w'.heap[k]? = some o := (h.block k (lt_of_block hb) hn).trans hb

theorem Rd.but {A : Option Addr} {n : Nat} {l : List Int} (h : Rd w A n l) (hb : But S w w') (hn : ∀ g o, A = some ⟨g, o, none⟩ → 0 < n → ¬ S g) : Rd w' A n l :=
  ⟨h.len, h.byte, fun h0 => by
    obtain ⟨g, o, e, hlt, hc⟩ := h.at_ h0
    exact ⟨g, o, e, hb.lt hlt, fun i hi => by rw [hb.cell (p := ⟨g, o + i, none⟩) hlt (hn g o e h0)]; exact hc i hi⟩⟩

/-- A part of a row of bytes. -/
theorem Rd.drop_ {A : Option Addr} {n m : Nat} {l : List Int} {k : Nat} {g o : Nat} (h : Rd w A n l) (hA : A = some ⟨g, o, none⟩) (hk : n = k + m) : Rd w (some ⟨g, o + k, none⟩) m (l.drop k) := by
  subst hk
  refine ⟨by rw [List.length_drop, h.len]; omega, fun x hx => h.byte x (List.mem_of_mem_drop hx), fun h0 => ?_⟩
  obtain ⟨b, o', e, hlt, hc⟩ := h.at_ (by omega)
  rw [hA] at e
  injection e with e
  injection e with e1 e2
  subst e1; subst e2
  refine ⟨_, _, rfl, hlt, fun i hi => ?_⟩
  rw [Nat.add_assoc, hc (k + i) (by omega)]
  simp [List.getD, List.getElem?_drop]

/-- Rows of bytes and other things do not lie in one block. -/
theorem Rd.apart {A : Option Addr} {n : Nat} {l : List Int} {g o k : Nat} {cs : Array Value} {t : TypeId} {fr : Nat × Nat} (h : Rd w A n l) (hA : A = some ⟨g, o, none⟩) (h0 : 0 < n)
    (hk : w.heap[k]? = some (.cells cs t fr)) (hcs : ∀ (j : Nat) (x : Int), cs[j]? ≠ some (Value.int .u8 x)) : g ≠ k := by
  intro e
  subst e
  obtain ⟨b, o', e, hlt, hc⟩ := h.at_ h0
  rw [hA] at e
  injection e with e
  injection e with e1 e2
  subst e1; subst e2
  have := hc 0 h0
  simp [World.cell?, hk] at this
  exact hcs _ _ this

/-- A block that is known whole. -/
theorem blk_cell {w : World} {g : Nat} {C : Array Value} {t : TypeId} {fr : Nat × Nat} (h : w.heap[g]? = some (.cells C t fr)) (i : Nat) : w.cell? ⟨g, i, none⟩ = C[i]? := by simp [World.cell?, h]
theorem blk_free {w : World} {g : Nat} {C : Array Value} {t : TypeId} (h : w.heap[g]? = some (.cells C t (0, 0))) (i : Nat) : w.frozen? ⟨g, i, none⟩ = false := by simp [World.frozen?, h]
theorem blk_on {w w' : World} {g : Nat} {o : Obj} (h : w.heap[g]? = some o) (hb : Below w.heap.size w w') : w'.heap[g]? = some o := (hb.block g (lt_of_block h)).trans h
theorem OwnB.but {S : Nat → Prop} {w w' : World} {B : Nat} {A : Option Addr} {n c : Nat} {l : List Int} (h : OwnB w B A n c l) (hb : But S w w') (hS : ∀ k, B ≤ k → ¬ S k) : OwnB w' B A n c l := by
  refine ⟨h.1, ?_⟩
  rcases h.2 with h0 | ⟨g, cap, cur, e, hB, hc, hrest⟩
  · exact .inl h0
  · exact .inr ⟨g, cap, cur, e, hB, hb.blk hc (hS g hB), hrest⟩
end Go.Proofs.YtoegfgbalcholaaGreat

/-
  The contracts of package wire's readers: shut, Left, At, Fail, End, take, number, U8, U16, U32, Bytes, Rest, of a reader that is open.
-/
namespace Go.Proofs.YtoegfgbalcholaaGreat
set_option maxRecDepth 10000
open Go.RowKit

/-- The reader's own block: the reader in block g has A n c left, 'at' were read, e is what it gave up with. -/
def rdrBlock (g : Nat) (A : Option Addr) (n c : Nat) (at_ e : Int) : Obj := .cells #[.pointer (some ⟨g, 0, none⟩), .slice A n c, .int .i64 at_, .int .i64 e] 152 (0, 0)
/-- Where a slice may begin: nowhere, or at a plain place. -/
def SlAt (A : Option Addr) (c : Nat) : Prop := (A = none ∧ c = 0) ∨ ∃ b o, A = some ⟨b, o, none⟩
/-- A reader that is open: in block g, l is left, 'at' bytes were read, and it has not given up; it and its bytes lie from block B on. -/
def Rdr (w : World) (B g : Nat) (l : List Int) (at_ : Int) : Prop := ∃ A n c, n ≤ c ∧ c ≤ maxLen ∧ SlAt A c ∧ (B ≤ g ∧ ∀ b o, A = some ⟨b, o, none⟩ → B ≤ b ∧ b < g) ∧ (0 ≤ at_ ∧ at_ + (l.length : Int) ≤ 9223372036854775807) ∧ w.heap[g]? = some (rdrBlock g A n c at_ 0) ∧ Rd w A n l
/-- One that gave up with e. -/
def Gave (w : World) (g : Nat) (e : Int) : Prop := ∃ A n c at_, w.heap[g]? = some (rdrBlock g A n c at_ e)

structure RdrC (w : World) (g : Nat) (A : Option Addr) (n c : Nat) (at_ e : Int) : Prop where
  c0 : w.cell? ⟨g, 0, none⟩ = some (.pointer (some ⟨g, 0, none⟩))
  c1 : w.cell? ⟨g, 1, none⟩ = some (.slice A n c)
  c2 : w.cell? ⟨g, 2, none⟩ = some (.int .i64 at_)
  c3 : w.cell? ⟨g, 3, none⟩ = some (.int .i64 e)
  f0 : w.frozen? ⟨g, 0, none⟩ = false
  f1 : w.frozen? ⟨g, 1, none⟩ = false
  f2 : w.frozen? ⟨g, 2, none⟩ = false
  f3 : w.frozen? ⟨g, 3, none⟩ = false
theorem rdrC {w : World} {g : Nat} {A : Option Addr} {n c : Nat} {at_ e : Int} (h : w.heap[g]? = some (rdrBlock g A n c at_ e)) : RdrC w g A n c at_ e := by
  unfold rdrBlock at h
  refine ⟨?_, ?_, ?_, ?_, ?_, ?_, ?_, ?_⟩ <;> simp [World.cell?, World.frozen?, h]

theorem info_rdr : (Tryz.prog.info? 152).isSome = true := by kernel_rfl
theorem ptr_same (g : Nat) (w : World) : (binOp .neq 106 (.pointer (some ⟨g, 0, none⟩)) (.pointer (some ⟨g, 0, none⟩))).run Tryz.prog w = .ok (.bool false) w := by
  obtain ⟨j, hj⟩ := Option.isSome_iff_exists.1 info_rdr
  exact Lib.run_neq_ptr_same w _ Tryz.underlying106 hj
theorem info_gave : (Tryz.prog.info? 157).map (·.comparable) = some true := by kernel_rfl
theorem gave_fields : Tryz.prog.underlying 157 = some (.struct (Tryz.prog.fieldsOf 157)) := by kernel_rfl
theorem gave_fieldList : (Tryz.prog.fieldsOf 157).toList.map (fun f => (f.name, f.type, f.offset)) = [("reader", 106, 0)] := by kernel_rfl
theorem gave_held : Tryz.prog.stoodInHeld 157 = false := by kernel_rfl
theorem gave_same (g : Nat) (w : World) : (binOp .neq 20 (.iface 157 (.agg #[.pointer (some ⟨g, 0, none⟩)])) (.iface 157 (.agg #[.pointer (some ⟨g, 0, none⟩)]))).run Tryz.prog w = .ok (.bool false) w := by
  obtain ⟨j, hj⟩ := Option.isSome_iff_exists.1 info_rdr
  obtain ⟨i, hi, hcc⟩ : ∃ i, Tryz.prog.info? 157 = some i ∧ i.comparable = true := by
    have := info_gave
    cases hi : Tryz.prog.info? 157 with
    | none => simp [hi] at this
    | some i => exact ⟨i, rfl, by simpa [hi] using this⟩
  have hp : ∀ d : Nat, (Op.equalIn (d + 1) 106 (.pointer (some ⟨g, 0, none⟩)) (.pointer (some ⟨g, 0, none⟩))).run Tryz.prog w = .ok true w := fun d => by
    simp [Op.equalIn, run_underlying Tryz.underlying106, sizeOf, typeInfo, hj, run_sameAddr_same]
  have hs : ∀ d : Nat, (Op.equalIn (d + 2) 157 (.agg #[.pointer (some ⟨g, 0, none⟩)]) (.agg #[.pointer (some ⟨g, 0, none⟩)])).run Tryz.prog w = .ok true w := fun d => by
    rw [run_equalIn_struct w (d + 1) _ _ _ gave_fields gave_held]
    have hl := gave_fieldList
    generalize (Tryz.prog.fieldsOf 157).toList = fs at hl
    obtain ⟨f, rfl⟩ : ∃ f, fs = [f] := List.length_eq_one_iff.1 (by have := congrArg List.length hl; simpa using this)
    simp at hl
    obtain ⟨h1, h2, h3⟩ := hl
    simp [Op.eqFields, h1, h2, h3, part, hp, sizeOf, typeInfo]
  have h : ∀ d : Nat, (Op.equalIn (d + 1) 20 (.iface 157 (.agg #[.pointer (some ⟨g, 0, none⟩)])) (.iface 157 (.agg #[.pointer (some ⟨g, 0, none⟩)]))).run Tryz.prog w = (Op.equalIn d 157 (.agg #[.pointer (some ⟨g, 0, none⟩)]) (.agg #[.pointer (some ⟨g, 0, none⟩)])).run Tryz.prog w := fun d => by
    simp [Op.equalIn, run_underlying Tryz.underlying20, typeInfo, hi, hcc]
  simp only [binOp]
  simp [Op.equal, Op.maxDepth, h 9999, hs 9997]

theorem shut_any (g : Nat) (w : World) (h : w.cell? ⟨g, 0, none⟩ = some (.pointer (some ⟨g, 0, none⟩))) :
    Calls Tryz.prog 96 #[.pointer (some ⟨g, 0, none⟩)] w fun e w' => e = .returned (.bool false) ∧ w = w' := by
  have hne := ptr_same g
  go_enter Tryz.func96, Tryz.ntmps96
  go_wp2
  go_ret
  exact ⟨rfl, rfl⟩

theorem left_any (g : Nat) (A : Option Addr) (n c : Nat) (at_ e : Int) (w : World) (h : w.heap[g]? = some (rdrBlock g A n c at_ e)) :
    Calls Tryz.prog 83 #[.pointer (some ⟨g, 0, none⟩)] w fun e w' => e = .returned (.int .i64 (n : Int)) ∧ w = w' := by
  obtain ⟨c0, c1, c2, c3, f0, f1, f2, f3⟩ := rdrC h
  clear h
  go_enter Tryz.func83, Tryz.ntmps83
  go_wp2_with (go_at_call 96; refine (shut_any g _ (by assumption)).mono ?_; rintro e w' ⟨rfl, rfl⟩)
  go_ret
  exact ⟨rfl, rfl⟩

/-- What a reader's panic looks like from outside. -/
def gaveUp (g : Nat) : List PanicEntry := [{ v := .iface 157 (.agg #[.pointer (some ⟨g, 0, none⟩)]), recovered := false }]

theorem setCell_block {w : World} {b i : Nat} {cells : Array Value} {ty : TypeId} {ro : Nat × Nat} (hb : w.heap[b]? = some (.cells cells ty ro)) (u : Value) :
    (w.setCell ⟨b, i, none⟩ u).heap[b]? = some (.cells (cells.set! i u) ty ro) := by
  rw [Joins.block_setCell hb u]; simp
theorem set_left {w : World} {g : Nat} {A : Option Addr} {n c : Nat} {at_ e : Int} (h : w.heap[g]? = some (rdrBlock g A n c at_ e)) (A' : Option Addr) (n' c' : Nat) : (w.setCell ⟨g, 1, none⟩ (.slice A' n' c')).heap[g]? = some (rdrBlock g A' n' c' at_ e) := by
  rw [rdrBlock, setCell_block h]; simp
theorem set_at {w : World} {g : Nat} {A : Option Addr} {n c : Nat} {at_ e : Int} (h : w.heap[g]? = some (rdrBlock g A n c at_ e)) (x : Int) : (w.setCell ⟨g, 2, none⟩ (.int .i64 x)).heap[g]? = some (rdrBlock g A n c x e) := by
  rw [rdrBlock, setCell_block h]; simp
theorem set_err {w : World} {g : Nat} {A : Option Addr} {n c : Nat} {at_ e : Int} (h : w.heap[g]? = some (rdrBlock g A n c at_ e)) (x : Int) : (w.setCell ⟨g, 3, none⟩ (.int .i64 x)).heap[g]? = some (rdrBlock g A n c at_ x) := by
  rw [rdrBlock, setCell_block h]; simp

theorem fail_ok (g : Nat) (w : World) : 
    Calls Tryz.prog 50 #[.pointer (some ⟨g, 0, none⟩), .int .i64 0] w fun e w' => e = .returned (.tuple #[]) ∧ w = w' := by
  go_enter Tryz.func50, Tryz.ntmps50
  go_wp2
  refine bodyPost_ret (results_none rfl _ _ _) rfl ?_
  exact ⟨rfl, rfl⟩

/-- The reader gives up with x. -/
def GivesUp (g : Nat) (x : Int) (w : World) (e : Ending) (w' : World) : Prop := e = .panicked (gaveUp g) ∧ Gave w' g x ∧ But (fun k => k = g) w w'

theorem fail_err (g : Nat) (A : Option Addr) (n c : Nat) (at_ x : Int) (w : World) (h : w.heap[g]? = some (rdrBlock g A n c at_ 0)) (hx : x ≠ 0) : 
    Calls Tryz.prog 50 #[.pointer (some ⟨g, 0, none⟩), .int .i64 x] w (GivesUp g x w) := by
  obtain ⟨c0, c1, c2, c3, f0, f1, f2, f3⟩ := rdrC h
  have Hw := Lib.hid (set_err h x)
  have hx : (x == 0) = false := by simpa using hx
  clear h
  go_enter Tryz.func50, Tryz.ntmps50
  go_wp2_with (go_at_call 96; refine (shut_any g _ (by assumption)).mono ?_; rintro e w' ⟨rfl, rfl⟩)
  exact ⟨rfl, rfl, ⟨_, _, _, _, Hw.out⟩, (But.refl (fun k => k = g) _).setCell (p := ⟨g, 3, none⟩) rfl _⟩

theorem rdr_apart {w : World} {g b o n : Nat} {l : List Int} {A : Option Addr} {A' : Option Addr} {n' c' : Nat} {at_ e : Int} (h : Rd w A n l) (hA : A = some ⟨b, o, none⟩) (h0 : 0 < n) (hg : w.heap[g]? = some (rdrBlock g A' n' c' at_ e)) : b ≠ g :=
  h.apart hA h0 hg (fun j x => by
    match j with
    | 0 => simp
    | 1 => simp
    | 2 => simp
    | 3 => simp
    | j + 4 => simp)

/-- The next k bytes are told where they stand, and are read. -/
def TakeIs (B g : Nat) (l : List Int) (at_ : Int) (k : Nat) (w : World) (e : Ending) (w' : World) : Prop :=
  ∃ A c, e = .returned (.slice A k c) ∧ k ≤ c ∧ SlAt A c ∧ Rd w' A k (l.take k) ∧ Rdr w' B g (l.drop k) (at_ + k) ∧ But (fun x => x = g) w w'

theorem take_none (B g : Nat) (at_ : Int) (w : World) (hB : B ≤ g) (ha : 0 ≤ at_ ∧ at_ ≤ 9223372036854775807) (hg : w.heap[g]? = some (rdrBlock g none 0 0 at_ 0)) :
    Calls Tryz.prog 108 #[.pointer (some ⟨g, 0, none⟩), .int .i64 0] w (TakeIs B g [] at_ 0 w) := by
  obtain ⟨c0, c1, c2, c3, f0, f1, f2, f3⟩ := rdrC hg
  have Hw := Lib.hid (set_at (set_left hg none 0 0) at_)
  have Ha := Lib.hid ha
  obtain ⟨a0, a1⟩ := ha
  clear hg
  go_enter Tryz.func108, Tryz.ntmps108
  go_wp2_with (first | (go_at_call 96; refine (shut_any g _ (by assumption)).mono ?_; rintro e w' ⟨rfl, rfl⟩) | (go_at_call 50; refine (fail_ok g _).mono ?_; rintro e w' ⟨rfl, rfl⟩))
  go_ret
  have hb : But (fun x => x = g) w ((w.setCell ⟨g, 1, none⟩ (.slice none 0 0)).setCell ⟨g, 2, none⟩ (.int .i64 at_)) := ((But.refl (fun k => k = g) _).setCell (p := ⟨g, 1, none⟩) rfl _).setCell (p := ⟨g, 2, none⟩) rfl _
  exact ⟨none, 0, rfl, Nat.le_refl _, .inl ⟨rfl, rfl⟩, Rd.nil _ _, ⟨none, 0, 0, Nat.le_refl _, by simp [maxLen], .inl ⟨rfl, rfl⟩, ⟨hB, fun _ _ e => by cases e⟩, by simpa using Ha.out, by simpa using Hw.out, Rd.nil _ _⟩, hb⟩

theorem take_some (B g b o n c k : Nat) (l : List Int) (at_ : Int) (w : World) (hkn : k ≤ n) (hnc : n ≤ c) (hc : c ≤ maxLen) (hB : B ≤ g ∧ B ≤ b ∧ b < g) (ha : 0 ≤ at_ ∧ at_ + (l.length : Int) ≤ 9223372036854775807) (hr : Rd w (some ⟨b, o, none⟩) n l) (hg : w.heap[g]? = some (rdrBlock g (some ⟨b, o, none⟩) n c at_ 0)) :
    Calls Tryz.prog 108 #[.pointer (some ⟨g, 0, none⟩), .int .i64 (k : Int)] w (TakeIs B g l at_ k w) := by
  obtain ⟨c0, c1, c2, c3, f0, f1, f2, f3⟩ := rdrC hg
  obtain ⟨m, hm⟩ : ∃ m, n = k + m := ⟨n - k, by omega⟩
  subst hm
  have hlen := hr.len
  have hb : ∀ v u, But (fun x => x = g) w ((w.setCell ⟨g, 1, none⟩ v).setCell ⟨g, 2, none⟩ u) := fun v u => ((But.refl (fun k => k = g) _).setCell (p := ⟨g, 1, none⟩) rfl _).setCell (p := ⟨g, 2, none⟩) rfl _
  have Hw := fun A n c => Lib.hid (set_at (set_left hg A n c) (at_ + k))
  have Ht := fun v u => Lib.hid ((hr.take hkn).but (hb v u) (fun b' o' e h0 he => by injection e with e; injection e with e1 e2; exact rdr_apart hr rfl (by omega) hg (e1.trans he)))
  have Hd := fun v u => Lib.hid ((hr.drop_ rfl rfl).but (hb v u) (fun b' o' e h0 he => by injection e with e; injection e with e1 e2; exact rdr_apart hr rfl (by omega) hg (e1.trans he)))
  have Ha := Lib.hid (show 0 ≤ at_ + (k : Int) ∧ at_ + (k : Int) + ((l.drop k).length : Int) ≤ 9223372036854775807 by rw [List.length_drop, hlen]; omega)
  have a1 : at_ + (k : Int) ≤ 9223372036854775807 := by omega
  have a0 := ha.1
  unfold maxLen at hc
  have Hb := Lib.hid hb
  clear hg hr hlen hb ha
  go_enter Tryz.func108, Tryz.ntmps108
  by_cases hkc : k = c
  · subst hkc
    have hm0 : m = 0 := by omega
    subst hm0
    go_wp2_with (first | (go_at_call 96; refine (shut_any g _ (by assumption)).mono ?_; rintro e w' ⟨rfl, rfl⟩) | (go_at_call 50; refine (fail_ok g _).mono ?_; rintro e w' ⟨rfl, rfl⟩))
    go_ret
    have h0 := (Hd (.slice (some ⟨b, o, none⟩) 0 0) (.int .i64 (at_ + k))).out
    have hl : l.drop k = [] := List.eq_nil_of_length_eq_zero h0.len
    exact ⟨_, _, rfl, Nat.le_refl _, .inr ⟨b, o, rfl⟩, (Ht _ _).out, ⟨some ⟨b, o, none⟩, 0, 0, Nat.le_refl _, by simp [maxLen], .inr ⟨b, o, rfl⟩, ⟨hB.1, fun _ _ e => by injection e with e; injection e with e1 _; rw [← e1]; exact hB.2⟩, Ha.out, (Hw _ _ _).out, by rw [hl]; exact Rd.nil _ _⟩, Hb.out _ _⟩
  · have hkc : k < c := by omega
    go_wp2_with (first | (go_at_call 96; refine (shut_any g _ (by assumption)).mono ?_; rintro e w' ⟨rfl, rfl⟩) | (go_at_call 50; refine (fail_ok g _).mono ?_; rintro e w' ⟨rfl, rfl⟩))
    go_ret
    exact ⟨_, _, rfl, by omega, .inr ⟨b, o, rfl⟩, (Ht _ _).out, ⟨some ⟨b, o + k, none⟩, m, c - k, by omega, by unfold maxLen; omega, .inr ⟨b, o + k, rfl⟩, ⟨hB.1, fun _ _ e => by injection e with e; injection e with e1 _; rw [← e1]; exact hB.2⟩, Ha.out, (Hw _ _ _).out, (Hd _ _).out⟩, Hb.out _ _⟩

theorem take_ok (B g k : Nat) (l : List Int) (at_ : Int) (w : World) (hk : k ≤ l.length) (h : Rdr w B g l at_) :
    Calls Tryz.prog 108 #[.pointer (some ⟨g, 0, none⟩), .int .i64 (k : Int)] w (TakeIs B g l at_ k w) := by
  obtain ⟨A, n, c, hnc, hc, hs, hB, ha, hg, hr⟩ := h
  have hlen := hr.len
  rcases hs with ⟨rfl, rfl⟩ | ⟨b, o, rfl⟩
  · obtain rfl : n = 0 := by omega
    have hl : l = [] := List.eq_nil_of_length_eq_zero hlen
    subst hl
    obtain rfl : k = 0 := by simpa using hk
    exact take_none B g at_ w hB.1 (by simpa using ha) hg
  · exact take_some B g b o n c k l at_ w (by omega) hnc hc ⟨hB.1, hB.2 b o rfl⟩ ha hr hg

theorem take_short (B g : Nat) (k : Int) (l : List Int) (at_ : Int) (w : World) (hk : (l.length : Int) < k) (h : Rdr w B g l at_) :
    Calls Tryz.prog 108 #[.pointer (some ⟨g, 0, none⟩), .int .i64 k] w (GivesUp g 4 w) := by
  obtain ⟨A, n, c, hnc, hc, hs, hB, ha, hg, hr⟩ := h
  have hlen := hr.len
  obtain ⟨c0, c1, c2, c3, f0, f1, f2, f3⟩ := rdrC hg
  have hk : (n : Int) < k := by omega
  have hk0 : 0 ≤ k := by omega
  have Hf := Lib.hid (fail_err g A n c at_ 4 w hg (by decide))
  clear hg hr hlen ha hs
  go_enter Tryz.func108, Tryz.ntmps108
  go_wp2_with (first | (go_at_call 96; refine (shut_any g _ (by assumption)).mono ?_; rintro e w' ⟨rfl, rfl⟩) | (go_at_call 50; with_reducible refine (fail_ok g _).mono ?_; rintro e w' ⟨rfl, rfl⟩))
  refine Hf.out.mono ?_
  rintro e w' ⟨rfl, h⟩
  exact ⟨rfl, rfl, h⟩

/-- The highest byte first. -/
def beNum (l : List Int) : Int := l.foldl (fun a x => a * 256 + x) 0

theorem number_short (B g k : Nat) (l : List Int) (at_ : Int) (w : World) (hk : l.length < k) (h : Rdr w B g l at_) :
    Calls Tryz.prog 95 #[.pointer (some ⟨g, 0, none⟩), .int .i64 (k : Int)] w (GivesUp g 4 w) := by
  have Ht := Lib.hid (take_short B g k l at_ w (by omega) h)
  clear h
  go_enter Tryz.func95, Tryz.ntmps95
  go_wp2_with fail
  refine Ht.out.mono ?_
  rintro e w' ⟨rfl, h⟩
  exact ⟨rfl, rfl, h⟩

/-- The next k bytes as a number; they are read. -/
def NumIs (kd : IntKind) (B g : Nat) (l : List Int) (at_ : Int) (k : Nat) (w : World) (e : Ending) (w' : World) : Prop :=
  e = .returned (.int kd (beNum (l.take k))) ∧ Rdr w' B g (l.drop k) (at_ + k) ∧ But (fun x => x = g) w w'

theorem beNum_snoc (l : List Int) (x : Int) : beNum (l ++ [x]) = beNum l * 256 + x := by simp [beNum]
theorem beNum_bd (l : List Int) (h : ∀ x ∈ l, 0 ≤ x ∧ x < 256) : 0 ≤ beNum l ∧ beNum l < 256 ^ l.length := by
  obtain ⟨n, hn⟩ : ∃ n, l.length = n := ⟨_, rfl⟩
  induction n generalizing l with
  | zero => rw [List.eq_nil_of_length_eq_zero hn]; simp [beNum]
  | succ n ih =>
    have hl : l ≠ [] := by intro e; rw [e] at hn; simp at hn
    rw [← List.dropLast_concat_getLast hl, beNum_snoc]
    have h1 := ih l.dropLast (fun y hy => h y (List.dropLast_subset l hy)) (by rw [List.length_dropLast]; omega)
    have h2 := h (l.getLast hl) (List.getLast_mem hl)
    rw [List.length_append, List.length_singleton, Int.pow_succ]
    omega
theorem beNum_lt (l : List Int) (h : ∀ x ∈ l, 0 ≤ x ∧ x < 256) : (l.length ≤ 4 → beNum l < 4294967296) ∧ (l.length ≤ 3 → beNum l < 16777216) ∧ (l.length ≤ 2 → beNum l < 65536) ∧ (l.length ≤ 1 → beNum l < 256) := by
  match l, h with
  | [], _ => simp [beNum]
  | [a], h =>
    have h0 := h a (by simp)
    simp [beNum]; omega
  | [a, b], h =>
    have h0 := h a (by simp); have h1 := h b (by simp)
    simp [beNum]; omega
  | [a, b, c], h =>
    have h0 := h a (by simp); have h1 := h b (by simp); have h2 := h c (by simp)
    simp [beNum]; omega
  | [a, b, c, d], h =>
    have h0 := h a (by simp); have h1 := h b (by simp); have h2 := h c (by simp); have h3 := h d (by simp)
    simp [beNum]; omega
  | a :: b :: c :: d :: e :: l, _ => simp
theorem take_snoc_getD (l : List Int) (k : Nat) (h : k < l.length) : l.take (k + 1) = l.take k ++ [l.getD k 0] := by
  rw [List.take_succ_eq_append_getElem h]; simp [List.getD, List.getElem?_eq_getElem h]
theorem getD_mem (l : List Int) (h : ∀ x ∈ l, 0 ≤ x ∧ x < 256) (k : Nat) : 0 ≤ l.getD k 0 ∧ l.getD k 0 < 256 := by
  by_cases hk : k < l.length
  · have := h (l[k]) (List.getElem_mem hk)
    simpa [List.getD, List.getElem?_eq_getElem hk] using this
  · simp [List.getD, List.getElem?_eq_none (by omega : l.length ≤ k)]

theorem number_ok (B g k : Nat) (l : List Int) (at_ : Int) (w : World) (hk : k ≤ l.length) (hk4 : k ≤ 4) (h : Rdr w B g l at_) :
    Calls Tryz.prog 95 #[.pointer (some ⟨g, 0, none⟩), .int .i64 (k : Int)] w (NumIs .u32 B g l at_ k w) := by
  have Ht := Lib.hid (take_ok B g k l at_ w hk h)
  clear h
  go_enter Tryz.func95, Tryz.ntmps95
  go_wp2_with fail
  refine Ht.out.mono ?_
  rintro e w1 ⟨A, c, rfl, hkc, hs, hr, hR, hb⟩
  have HR := Lib.hid hR
  have Hb := Lib.hid hb
  have hlen := hr.len
  clear hR hb hs
  obtain ⟨lt, el⟩ : ∃ lt, lt = l.take k := ⟨_, rfl⟩
  rw [← el] at hr hlen
  have El := Lib.hid el
  have Hlen := Lib.hid hlen
  clear el hlen
  go_wp2_with fail
  go_loopg [5, 12] k (fun gk a i wr => ∃ j : Nat, Hid (gk + j = k) ∧ j ≤ k ∧ i = .int .i64 (j : Int) ∧ a = .int .u32 (beNum (lt.take j)) ∧ wr = w1)
  case atStart => exact ⟨0, rfl, Nat.zero_le _, rfl, rfl, rfl⟩
  case round =>
    obtain ⟨j, hgk, hj, rfl, rfl, rfl⟩ := hrel
    by_cases hlt : j < k
    · obtain ⟨q, hrunq, hcellq, hqb⟩ := hr.index (c := c) hlt
      have hx := getD_mem lt hr.byte j
      have hn0 := (beNum_bd (lt.take j) (fun x hx => hr.byte x (List.mem_of_mem_take hx))).1
      have hn1 := (beNum_lt (lt.take j) (fun x hx => hr.byte x (List.mem_of_mem_take hx))).2.1 (by rw [List.length_take]; omega)
      have Hs := Lib.hid (take_snoc_getD lt j (by rw [Hlen.out]; exact hlt))
      obtain ⟨x, ex⟩ : ∃ x, lt.getD j 0 = x := ⟨_, rfl⟩
      obtain ⟨y, ey⟩ : ∃ y, beNum (lt.take j) = y := ⟨_, rfl⟩
      rw [ex] at hcellq hx
      rw [ey] at hn0 hn1 ⊢
      have hor := or32 y x ⟨hn0, hn1⟩ hx
      have Hy := Lib.hid (show beNum (lt.take (j + 1)) = y * 256 + x by rw [Hs.out, beNum_snoc, ex, ey])
      clear ex ey
      obtain ⟨hx0, hx1⟩ := hx
      go_wp2_with fail
      go_roundg (gk - 1)
      case measure => have := hgk.out; omega
      case rel => exact ⟨j + 1, by have := hgk.out; show gk - 1 + (j + 1) = _; omega, by omega, by go_num, by rw [Hy.out], rfl⟩
    · obtain rfl : j = k := by omega
      go_wp2_with fail
      go_ret
      refine ⟨?_, HR.out, Hb.out⟩
      have h1 := El.out
      have h2 := Hlen.out
      show Ending.returned (Value.int .u32 (beNum (lt.take j))) = _
      rw [← h1, List.take_of_length_le (by omega)]

theorem u8_ok (B g : Nat) (l : List Int) (at_ : Int) (w : World) (hk : 1 ≤ l.length) (hl : ∀ x ∈ l, 0 ≤ x ∧ x < 256) (h : Rdr w B g l at_) :
    Calls Tryz.prog 47 #[.pointer (some ⟨g, 0, none⟩)] w (NumIs .u8 B g l at_ 1 w) := by
  have Hn := Lib.hid (number_ok B g 1 l at_ w hk (by omega) h)
  have h0 := (beNum_bd (l.take 1) (fun x hx => hl x (List.mem_of_mem_take hx))).1
  have h1 := (beNum_lt (l.take 1) (fun x hx => hl x (List.mem_of_mem_take hx))).2.2.2 (by rw [List.length_take]; omega)
  clear h hl
  unfold NumIs at Hn ⊢
  obtain ⟨y, ey⟩ : ∃ y, beNum (l.take 1) = y := ⟨_, rfl⟩
  rw [ey] at h0 h1 Hn ⊢
  clear ey
  go_enter Tryz.func47, Tryz.ntmps47
  go_wp2_with fail
  refine Hn.out.mono ?_
  rintro e w' ⟨rfl, h⟩
  have Hh := Lib.hid h
  clear h
  go_wp2_with fail
  go_ret
  exact ⟨rfl, Hh.out⟩

theorem u16_ok (B g : Nat) (l : List Int) (at_ : Int) (w : World) (hk : 2 ≤ l.length) (hl : ∀ x ∈ l, 0 ≤ x ∧ x < 256) (h : Rdr w B g l at_) :
    Calls Tryz.prog 48 #[.pointer (some ⟨g, 0, none⟩)] w (NumIs .u16 B g l at_ 2 w) := by
  have Hn := Lib.hid (number_ok B g 2 l at_ w hk (by omega) h)
  have h0 := (beNum_bd (l.take 2) (fun x hx => hl x (List.mem_of_mem_take hx))).1
  have h1 := (beNum_lt (l.take 2) (fun x hx => hl x (List.mem_of_mem_take hx))).2.2.1 (by rw [List.length_take]; omega)
  clear h hl
  unfold NumIs at Hn ⊢
  obtain ⟨y, ey⟩ : ∃ y, beNum (l.take 2) = y := ⟨_, rfl⟩
  rw [ey] at h0 h1 Hn ⊢
  clear ey
  go_enter Tryz.func48, Tryz.ntmps48
  go_wp2_with fail
  refine Hn.out.mono ?_
  rintro e w' ⟨rfl, h⟩
  have Hh := Lib.hid h
  clear h
  go_wp2_with fail
  go_ret
  exact ⟨rfl, Hh.out⟩

theorem u32_ok (B g : Nat) (l : List Int) (at_ : Int) (w : World) (hk : 4 ≤ l.length) (h : Rdr w B g l at_) :
    Calls Tryz.prog 49 #[.pointer (some ⟨g, 0, none⟩)] w (NumIs .u32 B g l at_ 4 w) := by
  have Hn := Lib.hid (number_ok B g 4 l at_ w hk (by omega) h)
  clear h
  go_enter Tryz.func49, Tryz.ntmps49
  go_wp2_with fail
  refine Hn.out.mono ?_
  rintro e w' ⟨rfl, h⟩
  have Hh := Lib.hid h
  clear h
  go_wp2_with fail
  go_ret
  exact ⟨rfl, Hh.out⟩

theorem u8_short (B g : Nat) (l : List Int) (at_ : Int) (w : World) (hk : l.length < 1) (h : Rdr w B g l at_) :
    Calls Tryz.prog 47 #[.pointer (some ⟨g, 0, none⟩)] w (GivesUp g 4 w) := by
  have Hn := Lib.hid (number_short B g 1 l at_ w hk h)
  clear h
  go_enter Tryz.func47, Tryz.ntmps47
  go_wp2_with fail
  refine Hn.out.mono ?_
  rintro e w' ⟨rfl, h⟩
  exact ⟨rfl, rfl, h⟩
theorem u16_short (B g : Nat) (l : List Int) (at_ : Int) (w : World) (hk : l.length < 2) (h : Rdr w B g l at_) :
    Calls Tryz.prog 48 #[.pointer (some ⟨g, 0, none⟩)] w (GivesUp g 4 w) := by
  have Hn := Lib.hid (number_short B g 2 l at_ w hk h)
  clear h
  go_enter Tryz.func48, Tryz.ntmps48
  go_wp2_with fail
  refine Hn.out.mono ?_
  rintro e w' ⟨rfl, h⟩
  exact ⟨rfl, rfl, h⟩
theorem u32_short (B g : Nat) (l : List Int) (at_ : Int) (w : World) (hk : l.length < 4) (h : Rdr w B g l at_) :
    Calls Tryz.prog 49 #[.pointer (some ⟨g, 0, none⟩)] w (GivesUp g 4 w) := by
  have Hn := Lib.hid (number_short B g 4 l at_ w hk h)
  clear h
  go_enter Tryz.func49, Tryz.ntmps49
  go_wp2_with fail
  refine Hn.out.mono ?_
  rintro e w' ⟨rfl, h⟩
  exact ⟨rfl, rfl, h⟩

/-- Rows of bytes told: a row of the call's own. -/
def BytesAre (B g : Nat) (l rest : List Int) (at_ : Int) (w : World) (e : Ending) (w' : World) : Prop :=
  ∃ A c, e = .returned (.slice A l.length c) ∧ l.length ≤ c ∧ c ≤ maxLen ∧ OwnB w' w.heap.size A l.length c l ∧ Rdr w' B g rest at_ ∧ But (fun x => x = g) w w'

theorem clone_any (A : Option Addr) (n c : Nat) (l : List Int) (w : World) (hn : n ≤ 140737488355328) (h : Rd w A n l) :
    Calls Tryz.prog 93 #[.slice A n c] w (RowIs n l w) := by
  have hnil : ∀ W : World, (binOp .eql 24 (.slice A n c) (.slice none 0 0)).run Tryz.prog W = .ok (.bool A.isNone) W := fun W => Lib.run_eql_slice_nil W _ _ A n c 0 0 Tryz.underlying24
  cases A with
  | none =>
    obtain rfl : n = 0 := by
      rcases Nat.eq_zero_or_pos n with h0 | h0
      · exact h0
      · obtain ⟨b, o, e, _⟩ := h.at_ h0; cases e
    have hl : l = [] := List.eq_nil_of_length_eq_zero h.len
    subst hl
    have Ho := Lib.hid (OwnB.nil w w.heap.size)
    clear h
    go_enter Tryz.func93, Tryz.ntmps93
    go_wp2_with fail
    go_ret
    exact ⟨none, 0, rfl, Nat.le_refl _, by simp [maxLen], Ho.out, Below.refl _ _⟩
  | some a =>
    have hb := (Below.refl w.heap.size w).alloc (Nat.le_refl _) (.cells #[] 5)
    have Ho := Lib.hid (OwnB.made (w := w.alloc (.cells #[] 5)) (B := w.heap.size) (g := w.heap.size) (cap := 0) (cur := #[]) (heap_alloc_new w _) (Nat.le_refl _) (by simp [maxLen]) rfl)
    have Hr := Lib.hid (h.below hb)
    have Hb := Lib.hid hb
    clear h hb
    go_enter Tryz.func93, Tryz.ntmps93
    go_wp2_with (refine wpList_app rfl (.tmp 5) (.tmp 6) rfl w.heap.size (some ⟨w.heap.size, 0, none⟩) (some a) 0 0 n c [] l rfl rfl Ho.out Hr.out (by omega) (by simp) ?_; intro A2 c2 w2 hown2 _ hb2 _)
    go_ret
    have h2 := hown2
    rw [Nat.zero_add, List.nil_append] at h2
    exact ⟨A2, c2, by simp, h2.cap, h2.capMax, h2, Hb.out.trans hb2⟩

theorem Rdr.but {S : Nat → Prop} {w w' : World} {B g : Nat} {l : List Int} {at_ : Int} (h : Rdr w B g l at_) (hb : But S w w') (hS : ∀ k, S k → k < B) : Rdr w' B g l at_ := by
  obtain ⟨A, n, c, hnc, hc, hs, hB, ha, hg, hr⟩ := h
  refine ⟨A, n, c, hnc, hc, hs, hB, ha, hb.blk hg (fun x => by have := hS _ x; omega), hr.but hb (fun b o e _ x => by have := hB.2 b o e; have := hS _ x; omega)⟩
/-- The same: what has turned lies ahead of the reading, or is younger than the reader. -/
theorem Rdr.butY {S : Nat → Prop} {w w' : World} {B g : Nat} {l : List Int} {at_ : Int} (h : Rdr w B g l at_) (hb : But S w w') (hS : ∀ k, S k → k < B ∨ g < k) : Rdr w' B g l at_ := by
  obtain ⟨A, n, c, hnc, hc, hs, hB, ha, hg, hr⟩ := h
  refine ⟨A, n, c, hnc, hc, hs, hB, ha, hb.blk hg (fun x => by have := hS _ x; omega), hr.but hb (fun b o e _ x => by have := hB.2 b o e; have := hS _ x; omega)⟩
theorem Rdr.below {w w' : World} {B g : Nat} {l : List Int} {at_ : Int} (h : Rdr w B g l at_) (hb : Below w.heap.size w w') : Rdr w' B g l at_ :=
  h.but (But.of (S := fun _ => False) hb) (fun _ x => x.elim)
theorem Rdr.bytes {w : World} {B g : Nat} {l : List Int} {at_ : Int} (h : Rdr w B g l at_) : ∀ x ∈ l, 0 ≤ x ∧ x < 256 := by
  obtain ⟨A, n, c, hnc, hc, hs, hB, ha, hg, hr⟩ := h
  exact hr.byte

theorem bytes_ok (B g k : Nat) (l : List Int) (at_ : Int) (w : World) (hk : k ≤ l.length) (hl : l.length ≤ 140737488355328) (h : Rdr w B g l at_) :
    Calls Tryz.prog 70 #[.pointer (some ⟨g, 0, none⟩), .int .i64 (k : Int)] w (BytesAre B g (l.take k) (l.drop k) (at_ + k) w) := by
  have Ht := Lib.hid (take_ok B g k l at_ w hk h)
  have hlk : (l.take k).length = k := by rw [List.length_take]; omega
  have hk2 : k ≤ 140737488355328 := by omega
  have Hlk := Lib.hid hlk
  clear h hlk
  unfold BytesAre
  rw [Hlk.out]
  go_enter Tryz.func70, Tryz.ntmps70
  go_wp2_with fail
  refine Ht.out.mono ?_
  rintro e w1 ⟨A, c, rfl, hkc, hs, hr, hR, hb⟩
  have HR := Lib.hid hR
  have Hb := Lib.hid hb
  clear hR hb
  go_wp2_with fail
  refine (clone_any A k c _ w1 hk2 hr).mono ?_
  rintro e w2 ⟨A2, c2, rfl, hkc2, hc2, hown, hb2⟩
  have Hown := Lib.hid hown
  have Hb2 := Lib.hid hb2
  clear hown hb2
  go_wp2_with fail
  go_ret
  exact ⟨A2, c2, rfl, hkc2, hc2, Hown.out.mono Hb.out.size, HR.out.below Hb2.out, Hb.out.trans (But.of Hb2.out)⟩

theorem bytes_short (B g : Nat) (k : Int) (l : List Int) (at_ : Int) (w : World) (hk : (l.length : Int) < k) (h : Rdr w B g l at_) :
    Calls Tryz.prog 70 #[.pointer (some ⟨g, 0, none⟩), .int .i64 k] w (GivesUp g 4 w) := by
  have Hn := Lib.hid (take_short B g k l at_ w hk h)
  clear h
  go_enter Tryz.func70, Tryz.ntmps70
  go_wp2_with fail
  refine Hn.out.mono ?_
  rintro e w' ⟨rfl, h⟩
  exact ⟨rfl, rfl, h⟩

theorem left_ok (B g : Nat) (l : List Int) (at_ : Int) (w : World) (h : Rdr w B g l at_) :
    Calls Tryz.prog 83 #[.pointer (some ⟨g, 0, none⟩)] w fun e w' => e = .returned (.int .i64 (l.length : Int)) ∧ w = w' := by
  obtain ⟨A, n, c, hnc, hc, hs, hB, ha, hg, hr⟩ := h
  rw [hr.len]
  exact left_any g A n c at_ 0 w hg

theorem fail_any (B g : Nat) (x : Int) (l : List Int) (at_ : Int) (w : World) (hx : x ≠ 0) (h : Rdr w B g l at_) :
    Calls Tryz.prog 50 #[.pointer (some ⟨g, 0, none⟩), .int .i64 x] w (GivesUp g x w) := by
  obtain ⟨A, n, c, hnc, hc, hs, hB, ha, hg, hr⟩ := h
  exact fail_err g A n c at_ x w hg hx

theorem rest_ok (B g : Nat) (l : List Int) (at_ : Int) (w : World) (hl : l.length ≤ 140737488355328) (h : Rdr w B g l at_) :
    Calls Tryz.prog 51 #[.pointer (some ⟨g, 0, none⟩)] w (BytesAre B g l [] (at_ + l.length) w) := by
  have Hl := Lib.hid (left_ok B g l at_ w h)
  have hb := bytes_ok B g l.length l at_ w (Nat.le_refl _) hl h
  rw [List.take_length, List.drop_length] at hb
  have Hb := Lib.hid hb
  clear h hb
  go_enter Tryz.func51, Tryz.ntmps51
  go_wp2_with fail
  refine Hl.out.mono ?_
  rintro e w' ⟨rfl, rfl⟩
  go_wp2_with fail
  refine Hb.out.mono ?_
  rintro e w' ⟨A, c, rfl, h⟩
  have Hh := Lib.hid h
  clear h
  go_wp2_with fail
  go_ret
  exact ⟨A, c, rfl, Hh.out⟩

/-- A number is told and read; of what was there only the reader has turned. -/
def ToldIs (kd : IntKind) (x : Int) (B g : Nat) (rest : List Int) (at_ : Int) (w : World) (e : Ending) (w' : World) : Prop :=
  e = .returned (.int kd x) ∧ Rdr w' B g rest at_ ∧ But (fun k => k = g) w w'
theorem u8_told (B g : Nat) (x : Int) (l : List Int) (at_ : Int) (w : World) (h : Rdr w B g (x :: l) at_) :
    Calls Tryz.prog 47 #[.pointer (some ⟨g, 0, none⟩)] w (ToldIs .u8 x B g l (at_ + 1) w) :=
  (u8_ok B g (x :: l) at_ w (by simp) h.bytes h).mono fun e w' ⟨he, hr, hb⟩ => ⟨by rw [he]; simp [beNum], by simpa using hr, hb⟩
theorem u16_told (B g : Nat) (x y : Int) (l : List Int) (at_ : Int) (w : World) (h : Rdr w B g (x :: y :: l) at_) :
    Calls Tryz.prog 48 #[.pointer (some ⟨g, 0, none⟩)] w (ToldIs .u16 (x * 256 + y) B g l (at_ + 2) w) :=
  (u16_ok B g (x :: y :: l) at_ w (by simp) h.bytes h).mono fun e w' ⟨he, hr, hb⟩ => ⟨by rw [he]; simp [beNum], by simpa using hr, hb⟩
theorem u32_told (B g : Nat) (a b c d : Int) (l : List Int) (at_ : Int) (w : World) (h : Rdr w B g (a :: b :: c :: d :: l) at_) :
    Calls Tryz.prog 49 #[.pointer (some ⟨g, 0, none⟩)] w (ToldIs .u32 (((a * 256 + b) * 256 + c) * 256 + d) B g l (at_ + 4) w) :=
  (u32_ok B g (a :: b :: c :: d :: l) at_ w (by simp) h).mono fun e w' ⟨he, hr, hb⟩ => ⟨by rw [he]; simp [beNum], by simpa using hr, hb⟩
/-- Rows of bytes told, the lists by name. -/
theorem bytes_told (B g k : Nat) (l l1 l2 : List Int) (at_ : Int) (w : World) (hk : l1.length = k) (hl : l = l1 ++ l2) (hlen : l.length ≤ 140737488355328) (h : Rdr w B g l at_) :
    Calls Tryz.prog 70 #[.pointer (some ⟨g, 0, none⟩), .int .i64 (k : Int)] w (BytesAre B g l1 l2 (at_ + k) w) := by
  have hb := bytes_ok B g k l at_ w (by rw [hl, List.length_append]; omega) hlen h
  rw [hl, List.take_left' hk, List.drop_left' hk] at hb
  exact hb

/-- The same, the length by name. -/
def BytesIs (B g k : Nat) (l rest : List Int) (at_ : Int) (w : World) (e : Ending) (w' : World) : Prop :=
  ∃ A c, e = .returned (.slice A k c) ∧ k ≤ c ∧ c ≤ maxLen ∧ OwnB w' w.heap.size A k c l ∧ Rdr w' B g rest at_ ∧ But (fun x => x = g) w w'
theorem bytes_is (B g k : Nat) (l l1 l2 : List Int) (at_ : Int) (w : World) (hk : l1.length = k) (hl : l = l1 ++ l2) (hlen : l.length ≤ 140737488355328) (h : Rdr w B g l at_) :
    Calls Tryz.prog 70 #[.pointer (some ⟨g, 0, none⟩), .int .i64 (k : Int)] w (BytesIs B g k l1 l2 (at_ + k) w) := by
  have := bytes_told B g k l l1 l2 at_ w hk hl hlen h
  subst hk
  exact this
theorem rest_is (B g k : Nat) (l : List Int) (at_ : Int) (w : World) (hk : l.length = k) (hl : k ≤ 140737488355328) (h : Rdr w B g l at_) :
    Calls Tryz.prog 51 #[.pointer (some ⟨g, 0, none⟩)] w (BytesIs B g k l [] (at_ + k) w) := by
  subst hk
  exact rest_ok B g l at_ w hl h

/-- A variable that a closure captures. -/
def Box (w : World) (p : Nat) (t : TypeId) (v : Value) : Prop := w.heap[p]? = some (.cells #[v] t (0, 0))
theorem Box.cell {w : World} {p : Nat} {t : TypeId} {v : Value} (h : Box w p t v) : w.cell? ⟨p, 0, none⟩ = some v := by
  unfold Box at h; simp [World.cell?, h]
theorem Box.free {w : World} {p : Nat} {t : TypeId} {v : Value} (h : Box w p t v) : w.frozen? ⟨p, 0, none⟩ = false := by
  unfold Box at h; simp [World.frozen?, h]
theorem Box.set_ {w : World} {p : Nat} {t : TypeId} {v : Value} (h : Box w p t v) (u : Value) : Box (w.setCell ⟨p, 0, none⟩ u) p t u := by
  unfold Box at h ⊢; rw [setCell_block h]; simp
theorem Box.but {S : Nat → Prop} {w w' : World} {p : Nat} {t : TypeId} {v : Value} (h : Box w p t v) (hb : But S w w') (hS : ¬ S p) : Box w' p t v := hb.blk h hS
theorem Box.below {w w' : World} {B p : Nat} {t : TypeId} {v : Value} (h : Box w p t v) (hb : Below B w w') (hp : p < B) : Box w' p t v := (hb.block p hp).trans h
theorem Box.lt {w : World} {p : Nat} {t : TypeId} {v : Value} (h : Box w p t v) : p < w.heap.size := lt_of_block h
theorem Box.new (w : World) (t : TypeId) (v : Value) : Box (w.alloc (.cells #[v] t)) w.heap.size t v := heap_alloc_new w _
theorem Box.other {w : World} {p : Nat} {t : TypeId} {v : Value} (h : Box w p t v) (q : Addr) (hq : p ≠ q.block) (u : Value) : Box (w.setCell q u) p t v := (Below.heap_setCell _ _ _ _ hq).trans h
theorem Box.alloc {w : World} {p : Nat} {t : TypeId} {v : Value} (h : Box w p t v) (o : Obj) : Box (w.alloc o) p t v := (Below.heap_alloc _ _ _ h.lt).trans h

end Go.Proofs.YtoegfgbalcholaaGreat

/-
  The contract of package wire's Read over a function value that is handed in: what the function does is asked as a premise.
-/
namespace Go.Proofs.YtoegfgbalcholaaGreat
set_option maxRecDepth 10000
open Go.RowKit

/-- The deferred function of during, of a frame that returns: the error is told, the reader is shut. -/
theorem catch_idle (g p q : Nat) (A : Option Addr) (n c : Nat) (at_ x y : Int) (w : World) (hpq : p ≠ q) (hgq : g ≠ q) (hgp : g ≠ p) (hg : w.heap[g]? = some (rdrBlock g A n c at_ x)) (hp : w.heap[p]? = some (.cells #[.pointer (some ⟨g, 0, none⟩)] 106 (0, 0))) (hq : w.heap[q]? = some (.cells #[.int .i64 y] 40 (0, 0))) :
    CallsD Tryz.prog 116 #[.pointer (some ⟨p, 0, none⟩), .pointer (some ⟨q, 0, none⟩)] .returning w fun e u' w' => e = .returned (.tuple #[]) ∧ u' = .returning ∧ w'.cell? ⟨q, 0, none⟩ = some (.int .i64 x) ∧ But (fun k => k = g ∨ k = q) w w' := by
  obtain ⟨c0, c1, c2, c3, f0, f1, f2, f3⟩ := rdrC hg
  have hpc : w.cell? ⟨p, 0, none⟩ = some (.pointer (some ⟨g, 0, none⟩)) := by simp [World.cell?, hp]
  have hqc : w.cell? ⟨q, 0, none⟩ = some (.int .i64 y) := by simp [World.cell?, hq]
  have hqf : w.frozen? ⟨q, 0, none⟩ = false := by simp [World.frozen?, hq]
  have hqp := hpq.symm
  have hqg := hgq.symm
  have hpg := hgp.symm
  have hsame := gave_same g
  have Hb : Hid (But (fun k => k = g ∨ k = q) w (((((w.setCell ⟨q, 0, none⟩ (.int .i64 x)).setCell ⟨g, 0, none⟩ (.pointer none)).setCell ⟨g, 1, none⟩ (.slice none 0 0)).setCell ⟨g, 2, none⟩ (.int .i64 0)).setCell ⟨g, 3, none⟩ (.int .i64 0))) :=
    (((((But.refl (fun k => k = g ∨ k = q) w).setCell (p := ⟨q, 0, none⟩) (.inr rfl) _).setCell (p := ⟨g, 0, none⟩) (.inl rfl) _).setCell (p := ⟨g, 1, none⟩) (.inl rfl) _).setCell (p := ⟨g, 2, none⟩) (.inl rfl) _).setCell (p := ⟨g, 3, none⟩) (.inl rfl) _
  refine callsD_of_wpS Tryz.func116 rfl fun c₀ cs hu => ?_
  simp only [Tryz.ntmps116, List.size_toArray, List.length_cons, List.length_nil, Nat.reduceAdd, Nat.reduceSub, Array.replicate_succ, Array.replicate_zero, List.push_toArray, List.append_toArray, List.nil_append, List.cons_append]
  apply wpS_seq
  refine wpS_of_wp ?_
  go_wp2_with fail
  refine (show Code.wpS _ _ _ _ _ _ from ?_)
  apply wpS_seq
  refine wpS_of_wp ?_
  go_wp2_with fail
  refine (show Code.wpS _ _ _ _ _ _ from ?_)
  apply wpS_seq
  apply wpS_region
  simp [wpOpsS, go_sem, recoverD, hu, Exit.thenS]
  apply wpS_seq
  refine wpS_of_wp ?_
  go_wp2_with fail
  refine (show Code.wpS _ _ _ _ _ _ from ?_)
  refine wpS_cond (t := false) rfl ?_
  simp only [Bool.false_eq_true, if_false]
  refine wpS_of_wp (wp_skip ?_)
  refine ⟨rfl, _, by cases c₀; simp_all, .tuple #[], by simp [results, Tryz.results116], rfl, rfl, ?_, Hb.out⟩
  go_simp
/-- The deferred function of during, of a frame that panics with the reader's own panic: the error is told, the reader is shut, and the panic is taken back. -/
theorem catch_gave (g p q : Nat) (A : Option Addr) (n c : Nat) (at_ x y : Int) (w : World) (hpq : p ≠ q) (hgq : g ≠ q) (hgp : g ≠ p) (hg : w.heap[g]? = some (rdrBlock g A n c at_ x)) (hp : w.heap[p]? = some (.cells #[.pointer (some ⟨g, 0, none⟩)] 106 (0, 0))) (hq : w.heap[q]? = some (.cells #[.int .i64 y] 40 (0, 0))) :
    CallsD Tryz.prog 116 #[.pointer (some ⟨p, 0, none⟩), .pointer (some ⟨q, 0, none⟩)] (.panicking (gaveUp g)) w fun e u' w' => e = .returned (.tuple #[]) ∧ u' = .panicking [{ v := .iface 157 (.agg #[.pointer (some ⟨g, 0, none⟩)]), recovered := true }] ∧ w'.cell? ⟨q, 0, none⟩ = some (.int .i64 x) ∧ But (fun k => k = g ∨ k = q) w w' := by
  obtain ⟨c0, c1, c2, c3, f0, f1, f2, f3⟩ := rdrC hg
  have hpc : w.cell? ⟨p, 0, none⟩ = some (.pointer (some ⟨g, 0, none⟩)) := by simp [World.cell?, hp]
  have hqc : w.cell? ⟨q, 0, none⟩ = some (.int .i64 y) := by simp [World.cell?, hq]
  have hqf : w.frozen? ⟨q, 0, none⟩ = false := by simp [World.frozen?, hq]
  have hqp := hpq.symm
  have hqg := hgq.symm
  have hpg := hgp.symm
  have hsame := gave_same g
  have Hb : Hid (But (fun k => k = g ∨ k = q) w (((((w.setCell ⟨q, 0, none⟩ (.int .i64 x)).setCell ⟨g, 0, none⟩ (.pointer none)).setCell ⟨g, 1, none⟩ (.slice none 0 0)).setCell ⟨g, 2, none⟩ (.int .i64 0)).setCell ⟨g, 3, none⟩ (.int .i64 0))) :=
    (((((But.refl (fun k => k = g ∨ k = q) w).setCell (p := ⟨q, 0, none⟩) (.inr rfl) _).setCell (p := ⟨g, 0, none⟩) (.inl rfl) _).setCell (p := ⟨g, 1, none⟩) (.inl rfl) _).setCell (p := ⟨g, 2, none⟩) (.inl rfl) _).setCell (p := ⟨g, 3, none⟩) (.inl rfl) _
  refine callsD_of_wpS Tryz.func116 rfl fun c₀ cs hu => ?_
  simp only [Tryz.ntmps116, List.size_toArray, List.length_cons, List.length_nil, Nat.reduceAdd, Nat.reduceSub, Array.replicate_succ, Array.replicate_zero, List.push_toArray, List.append_toArray, List.nil_append, List.cons_append]
  apply wpS_seq
  refine wpS_of_wp ?_
  go_wp2_with fail
  refine (show Code.wpS _ _ _ _ _ _ from ?_)
  apply wpS_seq
  refine wpS_of_wp ?_
  go_wp2_with fail
  refine (show Code.wpS _ _ _ _ _ _ from ?_)
  apply wpS_seq
  apply wpS_region
  simp [wpOpsS, go_sem, recoverD, hu, Exit.thenS]
  apply wpS_seq
  refine wpS_of_wp ?_
  go_wp2_with fail
  refine (show Code.wpS _ _ _ _ _ _ from ?_)
  refine wpS_cond (t := false) rfl ?_
  simp only [Bool.false_eq_true, if_false]
  refine wpS_of_wp (wp_skip ?_)
  refine ⟨rfl, _, rfl, .tuple #[], by simp [results, Tryz.results116], rfl, rfl, ?_, Hb.out⟩
  go_simp

/-- What a function that is handed to Read did: it came to its end, or the reader gave up with x (then it is as it gave up; 0: it did not); of what was there S and the reader have turned; R holds then. -/
def Did (S : Nat → Prop) (g : Nat) (R : Int → World → Prop) (w : World) (e : Ending) (w' : World) : Prop :=
  ∃ x A n c at_, ((e = .returned (.tuple #[]) ∧ x = 0) ∨ e = .panicked (gaveUp g)) ∧ w'.heap[g]? = some (rdrBlock g A n c at_ x) ∧ But (fun k => S k ∨ k = g) w w' ∧ R x w'

/-- What during tells. -/
def DuringIs (S : Nat → Prop) (g : Nat) (R : World → Int → World → Prop) (w : World) (e : Ending) (w' : World) : Prop :=
  ∃ x w1 w2, e = .returned (.int .i64 x) ∧ Below w.heap.size w w1 ∧ w1.heap.size = w.heap.size + 2 ∧ R w1 x w2 ∧ But (fun k => k = g ∨ (w.heap.size ≤ k ∧ k < w.heap.size + 2)) w2 w' ∧ But (fun k => S k ∨ k = g) w w'

theorem during_any (S : Nat → Prop) (B g F : Nat) (caps : Array Value) (l : List Int) (R : World → Int → World → Prop) (w : World) (hS : ∀ k, S k → k < w.heap.size) (hgw : g < w.heap.size) (h : Rdr w B g l 0)
    (hF : ∀ args W, (callFunc F args).run Tryz.prog W = .ok (.enter F args) W)
    (hdo : ∀ w1, Below w.heap.size w w1 → w1.heap.size = w.heap.size + 2 → Rdr w1 B g l 0 → Calls Tryz.prog F (#[.pointer (some ⟨g, 0, none⟩)] ++ caps) w1 (Did S g (R w1) w1)) :
    Calls Tryz.prog 94 #[.pointer (some ⟨g, 0, none⟩), .func (.func F) #[] caps] w (DuringIs S g R w) := by
  have hmf : ∀ (fn : Fn) (first cap : Array Value) (w : World), (Instr.makeFunc fn first cap).run Tryz.prog w = .ok (.func fn first cap) w := fun _ _ _ _ => rfl
  have hb0 : Below w.heap.size w ((w.alloc (.cells #[.pointer (some ⟨g, 0, none⟩)] 106)).alloc (.cells #[.int .i64 0] 40)) := ((Below.refl _ _).alloc (Nat.le_refl _) _).alloc (by simp) _
  have Hdo := Lib.hid (hdo _ hb0 (by simp) (h.below hb0))
  have Hb0 := Lib.hid hb0
  clear hb0 hdo
  go_enter_defers Tryz.func94, Tryz.ntmps94
  go_wp2_with fail
  refine Hdo.out.mono ?_
  rintro e w2 ⟨x, A, n, c, at_, he, hg, hb, hR⟩
  have hp2 : w2.heap[w.heap.size]? = some (.cells #[.pointer (some ⟨g, 0, none⟩)] 106 (0, 0)) := hb.blk (by rw [Below.heap_alloc _ _ _ (by simp)]; exact heap_alloc_new w _) (fun hh => by rcases hh with hh | hh; have := hS _ hh; omega; omega)
  have hq2 : w2.heap[w.heap.size + 1]? = some (.cells #[.int .i64 0] 40 (0, 0)) := hb.blk (by have := heap_alloc_new (w.alloc (.cells #[.pointer (some ⟨g, 0, none⟩)] 106)) (.cells #[.int .i64 0] 40); simpa using this) (fun hh => by rcases hh with hh | hh; have := hS _ hh; omega; omega)
  have hbw := But.trans2 (S := fun k => S k ∨ k = g) (But.of Hb0.out) hb (fun _ _ h => h)
  have hend : ∀ w3, w3.cell? ⟨w.heap.size + 1, 0, none⟩ = some (.int .i64 x) → But (fun k => k = g ∨ k = w.heap.size + 1) w2 w3 → DuringIs S g R w (.returned (.int .i64 x)) w3 := by
    intro w3 _ hb3
    refine ⟨x, _, w2, rfl, Hb0.out, by simp, hR, hb3.mono (fun k _ hk => by rcases hk with hk | hk; exact .inl hk; exact .inr (by omega)), But.trans2 hbw hb3 (fun k hk hh => by rcases hh with hh | hh; exact .inr hh; omega)⟩
  have Hend := Lib.hid hend
  have Hp2 := Lib.hid hp2
  have Hq2 := Lib.hid hq2
  have Hg := Lib.hid hg
  clear hp2 hq2 hg hbw hend hb hR
  rcases he with ⟨rfl, rfl⟩ | rfl
  · have hqc : w2.cell? ⟨w.heap.size + 1, 0, none⟩ = some (.int .i64 0) := by simp [World.cell?, Hq2.out]
    have hqf : w2.frozen? ⟨w.heap.size + 1, 0, none⟩ = false := by simp [World.frozen?, Hq2.out]
    go_wp2_with fail
    have hb0 : But (fun k => k = w.heap.size + 1) w2 (w2.setCell ⟨w.heap.size + 1, 0, none⟩ (.int .i64 0)) := (But.refl (fun k => k = w.heap.size + 1) w2).setCell (p := ⟨w.heap.size + 1, 0, none⟩) rfl _
    refine leaves_cons (f := 116) (args := #[.pointer (some ⟨w.heap.size, 0, none⟩), .pointer (some ⟨w.heap.size + 1, 0, none⟩)]) (by simp) (by simp [go_sem]) ?_
    refine (catch_idle g w.heap.size (w.heap.size + 1) A n c at_ 0 0 _ (by omega) (by omega) (by omega) (hb0.blk Hg.out (by omega)) (hb0.blk Hp2.out (by omega)) (by rw [setCell_block Hq2.out]; simp)).mono ?_
    rintro e u' w3 ⟨rfl, rfl, hc, hb⟩
    have Hb := Lib.hid (Hend.out w3 hc (But.trans (hb0.mono (fun k _ hk => .inr hk)) hb))
    clear hb hb0
    simp [Leaves, settle, results, go_sem, Tryz.results94, hc]
    exact Hb.out
  · refine leaves_cons (f := 116) (args := #[.pointer (some ⟨w.heap.size, 0, none⟩), .pointer (some ⟨w.heap.size + 1, 0, none⟩)]) (by simp) (by simp [go_sem]) ?_
    refine (catch_gave g w.heap.size (w.heap.size + 1) A n c at_ x 0 _ (by omega) (by omega) (by omega) Hg.out Hp2.out Hq2.out).mono ?_
    rintro e u' w3 ⟨rfl, rfl, hc, hb⟩
    have Hb := Lib.hid (Hend.out w3 hc hb)
    clear hb
    simp [Leaves, settle, results, go_sem, Tryz.results94, hc]
    exact Hb.out

/-- What Read tells: what the reader gave up with, or 0; R held when the function was done, and since then only what Read itself made has turned. -/
def ReadIs (S : Nat → Prop) (R : World → Int → World → Prop) (w : World) (e : Ending) (w' : World) : Prop :=
  ∃ x w1 w2, e = .returned (.int .i64 x) ∧ Below w.heap.size w w1 ∧ R w1 x w2 ∧ But (fun k => w.heap.size ≤ k ∧ k < w1.heap.size) w2 w' ∧ But S w w'

theorem slAt_own {w : World} {B : Nat} {A : Option Addr} {n c : Nat} {l : List Int} (h : OwnB w B A n c l) : SlAt A c ∧ ∀ b o, A = some ⟨b, o, none⟩ → B ≤ b ∧ b < w.heap.size := by
  rcases h.2 with ⟨e, _⟩ | ⟨g, cap, cur, e, hB, hg, _⟩
  · injection e with e1 _ e3
    subst e1; subst e3
    exact ⟨.inl ⟨rfl, rfl⟩, fun _ _ e => by cases e⟩
  · injection e with e1 _ _
    subst e1
    exact ⟨.inr ⟨g, 0, rfl⟩, fun _ _ e => by injection e with e; injection e with e _; rw [← e]; exact ⟨hB, lt_of_block hg⟩⟩

/-- A function that has a body is entered. -/
theorem enter_of {f : FuncId} {fn : Func} {c : Code} (hf : Tryz.prog.funcs[f]? = some fn) (hname : (fn.name == "runtime.NumGoroutine") = false) (hb : fn.body = some c) (args : Array Value) (W : World) : (callFunc f args).run Tryz.prog W = .ok (.enter f args) W := by
  have hn : ¬ fn.name = "runtime.NumGoroutine" := by simpa using hname
  simp [callFunc, hf, hb, hn, go_sem]

theorem func_nil (F : Nat) (caps : Array Value) (w : World) : (binOp .eql 112 (.func (.func F) #[] caps) .nilFunc).run Tryz.prog w = .ok (.bool false) w := by
  have h : ∀ d : Nat, (Op.equalIn (d + 1) 112 (.func (.func F) #[] caps) .nilFunc).run Tryz.prog w = .ok false w := fun d => by
    simp [Op.equalIn, run_underlying Tryz.underlying112]
  simp only [binOp]
  simp [Op.equal, Op.maxDepth, h 9999]

theorem read_any (S : Nat → Prop) (F n c : Nat) (caps : Array Value) (args : Nat → Array Value) (hargs : ∀ g, #[.pointer (some ⟨g, 0, none⟩)] ++ caps = args g) (A : Option Addr) (l : List Int) (R : World → Int → World → Prop) (w : World) (hS : ∀ k, S k → k < w.heap.size) (hn : n ≤ 140737488355328) (hr : Rd w A n l)
    (hF : ∀ args W, (callFunc F args).run Tryz.prog W = .ok (.enter F args) W)
    (hdo : ∀ w1 g, Below w.heap.size w w1 → w.heap.size ≤ g → g < w1.heap.size → Rdr w1 w.heap.size g l 0 → Calls Tryz.prog F (args g) w1 (Did S g (R w1) w1)) :
    Calls Tryz.prog 45 #[.slice A n c, .func (.func F) #[] caps] w (ReadIs S R w) := by
  have Hdo := Lib.hid hdo
  have Hcl := Lib.hid (clone_any A n c l w hn hr)
  have hnil := func_nil F caps
  have Hargs := Lib.hid hargs
  clear hargs
  have hbyte := hr.byte
  clear hdo hr
  go_enter Tryz.func45, Tryz.ntmps45
  go_wp2_with fail
  refine Hcl.out.mono ?_
  rintro e w1 ⟨A1, c1, rfl, hnc1, hc1, hown, hb1⟩
  have hs1 := slAt_own hown
  have hlen := hown.len
  have hba : Below w1.heap.size w1 (w1.alloc (rdrBlock w1.heap.size A1 n c1 0 0)) := (Below.refl _ _).alloc (Nat.le_refl _) _
  have hR : Rdr (w1.alloc (rdrBlock w1.heap.size A1 n c1 0 0)) w.heap.size w1.heap.size l 0 :=
    ⟨A1, n, c1, hnc1, hc1, hs1.1, ⟨hb1.size, hs1.2⟩, ⟨by omega, by omega⟩, heap_alloc_new w1 _, (hown.rd hbyte).below hba⟩
  have Hd := Lib.hid (during_any S w.heap.size w1.heap.size F caps l R (w1.alloc (rdrBlock w1.heap.size A1 n c1 0 0)) (fun k hk => by have := hS k hk; have := hb1.size; simp; omega) (by simp) hR hF
    (fun w2 h2 h2s h2r => by rw [Hargs.out]; exact Hdo.out w2 w1.heap.size (below_trans hb1 (below_trans hba h2)) hb1.size (by rw [h2s]; simp; omega) h2r))
  have Hb1 := Lib.hid hb1
  have Hba := Lib.hid hba
  clear hown hb1 hba hR hlen hs1 hbyte
  go_wp2_with fail
  refine Hd.out.mono ?_
  rintro e w2 ⟨x, wd, w3, rfl, hbd, hsd, hR, hb2, hb3⟩
  have Hx : Hid (ReadIs S R w (.returned (.int .i64 x)) w2) := by
    have hsz : (w1.alloc (rdrBlock w1.heap.size A1 n c1 0 0)).heap.size = w1.heap.size + 1 := by simp
    refine ⟨x, wd, w3, rfl, below_trans Hb1.out (below_trans Hba.out hbd), hR, ?_, ?_⟩
    · refine hb2.mono (fun k _ hk => ?_)
      have := Hb1.out.size
      rw [hsz] at hk hsd
      omega
    · refine But.trans2 (But.of (below_trans Hb1.out Hba.out)) hb3 (fun k hk hh => ?_)
      rcases hh with hh | hh
      · exact hh
      · have := Hb1.out.size; omega
  clear hR hb2 hb3 hbd hsd
  go_wp2_with fail
  go_ret
  exact Hx.out

end Go.Proofs.YtoegfgbalcholaaGreat

/-
  The contracts of package sum's calls on numbers (add, Word, Long), and of the document's own answers (culvertref02) for them: each leaves the world as it was.
-/
namespace Go.Proofs.YtoegfgbalcholaaGreat
set_option maxRecDepth 10000
open Go.RowKit

theorem add_any (a b : Int) (w : World) (ha : U16 a) (hb : U16 b) :
    Calls Tryz.prog 81 #[.int .u16 a, .int .u16 b] w fun e w' => e = .returned (.int .u16 (add16 a b)) ∧ w = w' := by
  obtain ⟨ha0, ha1⟩ := ha
  obtain ⟨hb0, hb1⟩ := hb
  by_cases h : 65535 < a + b
  · go_enter Tryz.func81, Tryz.ntmps81
    go_wp2
    go_ret
    exact ⟨ret_int (by unfold add16; rw [if_pos h]; (try rw [wrap_u16]); (try rw [wrap_u16]); omega), rfl⟩
  · go_enter Tryz.func81, Tryz.ntmps81
    go_wp2
    go_ret
    exact ⟨ret_int (by unfold add16; rw [if_neg (by omega)]), rfl⟩

theorem word_any (f a b : Int) (w : World) (hf : U16 f) (ha : U16 a) (hb : U16 b) :
    Calls Tryz.prog 89 #[.int .u16 f, .int .u16 a, .int .u16 b] w fun e w' => e = .returned (.int .u16 (wordF f a b)) ∧ w = w' := by
  have h1 : U16 (65535 - f) := by unfold U16 at *; omega
  have h2 : U16 (65535 - a) := by unfold U16 at *; omega
  have h3 := add_bd _ _ h1 h2
  have h4 := add_bd _ _ h3 hb
  have n1 := not16 f hf
  have n2 := not16 a ha
  have n3 := not16 _ h4
  have N3 := Lib.hid n3
  clear n3
  go_enter Tryz.func89, Tryz.ntmps89
  go_wp2_with fail
  refine (add_any _ _ _ h1 h2).mono ?_
  rintro e w' ⟨rfl, rfl⟩
  go_wp2_with fail
  refine (add_any _ _ _ h3 hb).mono ?_
  rintro e w' ⟨rfl, rfl⟩
  clear n1 n2
  go_wp2_with fail
  go_ret
  exact ⟨ret_int N3.out, rfl⟩

theorem word_told (f a b x : Int) (w : World) (hf : U16 f) (ha : U16 a) (hb : U16 b) (hx : wordF f a b = x) :
    Calls Tryz.prog 89 #[.int .u16 f, .int .u16 a, .int .u16 b] w fun e w' => e = .returned (.int .u16 x) ∧ w = w' := by subst hx; exact word_any f a b w hf ha hb


end Go.Proofs.YtoegfgbalcholaaGreat
