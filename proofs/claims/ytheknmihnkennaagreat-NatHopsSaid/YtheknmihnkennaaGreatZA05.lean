/-
  Texts laid together: Icmp, But, IcmpRef, IcmpSort.
-/
import Derived.Test.YtheknmihnkennaaGreatZA04
import Derived.Test.YtheknmihnkennaaGreatZA01
import Derived.Test.YtheknmihnkennaaGreatZA02
import Derived.Test.YtheknmihnkennaaGreatZA03
import Derived.Deep.CutRange
import Derived.RegionTactic
import Derived.Laws.BitsLemmas
import Derived.WideMake
import Derived.Deep.RegionHeld3

/-
  ICMP messages (api.Message), plainly: their bytes, what is read, sorts, ids. No function of the program.
-/
namespace Go.Proofs.YtheknmihnkennaaGreat
set_option maxRecDepth 10000
open Go.RowKit

/-- A message as numbers. -/
structure Msg where
  ty : Int
  cd : Int
  rs : Int
  d : List Int
structure MsgNum (s : Msg) : Prop where
  ty : 0 ≤ s.ty ∧ s.ty < 256
  cd : 0 ≤ s.cd ∧ s.cd < 256
  rs : 0 ≤ s.rs ∧ s.rs < 4294967296
def zeroM : Msg := ⟨0, 0, 0, []⟩
/-- All but the field. -/
def headM (s : Msg) : List Int := [s.ty, s.cd]
def tailM (s : Msg) : List Int := be32 s.rs ++ s.d
def fieldM (s : Msg) : Int := 65535 - sumL (headM s ++ (be16 0 ++ tailM s))
/-- A message's bytes. -/
def msgB (s : Msg) : List Int := headM s ++ (be16 (fieldM s) ++ tailM s)
def m32 (b : List Int) (i : Nat) : Int := ((b.getD i 0 * 256 + b.getD (i + 1) 0) * 256 + b.getD (i + 2) 0) * 256 + b.getD (i + 3) 0
def errM (b : List Int) : Int := if 1480 < b.length then 3 else if b.length < 8 then 4 else if sumL b = 65535 then 0 else 20
def msgOf (b : List Int) : Msg := ⟨b.getD 0 0, b.getD 1 0, m32 b 4, b.drop 8⟩
def msgSame (s t : Msg) : Bool := decide (s.ty = t.ty) && (decide (s.cd = t.cd) && (decide (s.rs = t.rs) && decide (s.d = t.d)))
/-- 1: asked, 2: told, 3: an error, 0: other. -/
def sortM (ty cd : Int) : Int := if ty = 8 ∧ cd = 0 then 1 else if ty = 0 ∧ cd = 0 then 2 else if ty = 3 ∨ ty = 11 ∨ ty = 12 then 3 else 0
def echoM (ty cd : Int) : Bool := decide ((ty = 8 ∨ ty = 0) ∧ cd = 0)
theorem msgB_len (s : Msg) : (msgB s).length = 8 + s.d.length := by simp [msgB, headM, tailM, be16, be32]; omega
theorem fieldM_bd (s : Msg) : 0 ≤ fieldM s ∧ fieldM s ≤ 65535 := by unfold fieldM; have := sumL_bd (headM s ++ (be16 0 ++ tailM s)); omega
theorem be16_by {x : Int} (h : 0 ≤ x ∧ x < 65536) : ∀ y ∈ be16 x, 0 ≤ y ∧ y < 256 := by intro y hy; simp [be16] at hy; omega
theorem be32_by {x : Int} (h : 0 ≤ x ∧ x < 4294967296) : ∀ y ∈ be32 x, 0 ≤ y ∧ y < 256 := by intro y hy; simp [be32] at hy; omega
theorem headM_by {s : Msg} (h : MsgNum s) : ∀ y ∈ headM s, 0 ≤ y ∧ y < 256 := by have := h.ty; have := h.cd; intro y hy; simp [headM] at hy; omega
theorem tailM_by {s : Msg} (h : MsgNum s) (hd : ∀ x ∈ s.d, 0 ≤ x ∧ x < 256) : ∀ y ∈ tailM s, 0 ≤ y ∧ y < 256 := Bytes.app (be32_by h.rs) hd
theorem laidM_by {s : Msg} (h : MsgNum s) (hd : ∀ x ∈ s.d, 0 ≤ x ∧ x < 256) {f : Int} (hf : 0 ≤ f ∧ f < 65536) : ∀ y ∈ headM s ++ (be16 f ++ tailM s), 0 ≤ y ∧ y < 256 := Bytes.app (headM_by h) (Bytes.app (be16_by hf) (tailM_by h hd))
theorem msgB_by {s : Msg} (h : MsgNum s) (hd : ∀ x ∈ s.d, 0 ≤ x ∧ x < 256) : ∀ y ∈ msgB s, 0 ≤ y ∧ y < 256 := by
  have := fieldM_bd s
  exact laidM_by h hd (by omega)
theorem ws_b16 (x : Int) : ws false (be16 x) = x := by simp [be16, ws]; omega
theorem errM_zero {b : List Int} (h : errM b = 0) : b.length ≤ 1480 ∧ 8 ≤ b.length ∧ sumL b = 65535 := by
  unfold errM at h
  by_cases h1 : 1480 < b.length
  · rw [if_pos h1] at h; omega
  by_cases h2 : b.length < 8
  · rw [if_neg h1, if_pos h2] at h; omega
  by_cases h3 : sumL b = 65535
  · exact ⟨by omega, by omega, h3⟩
  · rw [if_neg h1, if_neg h2, if_neg h3] at h; omega
theorem eightM (b : List Int) (h : 8 ≤ b.length) : ∃ b0 b1 b2 b3 b4 b5 b6 b7 l, b = b0 :: b1 :: b2 :: b3 :: b4 :: b5 :: b6 :: b7 :: l := by
  match b, h with
  | b0 :: b1 :: b2 :: b3 :: b4 :: b5 :: b6 :: b7 :: l, _ => exact ⟨_, _, _, _, _, _, _, _, _, rfl⟩
theorem msgOf_num {b : List Int} (hb : ∀ x ∈ b, 0 ≤ x ∧ x < 256) (h8 : 8 ≤ b.length) : MsgNum (msgOf b) ∧ (∀ x ∈ (msgOf b).d, 0 ≤ x ∧ x < 256) := by
  refine ⟨?_, fun x hx => hb x (List.mem_of_mem_drop hx)⟩
  obtain ⟨b0, b1, b2, b3, b4, b5, b6, b7, l, rfl⟩ := eightM b h8
  simp only [List.mem_cons, forall_eq_or_imp] at hb
  obtain ⟨q0, q1, q2, q3, q4, q5, q6, q7, -⟩ := hb
  exact ⟨q0, q1, by simp [msgOf, m32]; omega⟩
end Go.Proofs.YtheknmihnkennaaGreat

/-
  'But S w w'': of what was there, nothing but the blocks in S has turned. No function of the program.
-/
namespace Go.Proofs.YtheknmihnkennaaGreat
set_option maxRecDepth 10000
open Go.RowKit

/-- Of what was there, nothing but the blocks in S has turned; the streams are as they were. -/
structure But (S : Nat → Prop) (w w' : World) : Prop where
  os : w'.os = w.os
  tape : w'.tape = w.tape
  output : w'.output = w.output
  size : w.heap.size ≤ w'.heap.size
  block : ∀ k, k < w.heap.size → ¬ S k → w'.heap[k]? = w.heap[k]?

variable {S S' : Nat → Prop} {a b c w w' : World}
theorem But.refl (S : Nat → Prop) (w : World) : But S w w := ⟨rfl, rfl, rfl, Nat.le_refl _, fun _ _ _ => rfl⟩
theorem But.trans (h : But S a b) (k : But S b c) : But S a c :=
  ⟨k.os.trans h.os, k.tape.trans h.tape, k.output.trans h.output, Nat.le_trans h.size k.size, fun i hi hs => (k.block i (Nat.lt_of_lt_of_le hi h.size) hs).trans (h.block i hi hs)⟩
theorem But.mono (h : But S w w') (hS : ∀ k, k < w.heap.size → S k → S' k) : But S' w w' := ⟨h.os, h.tape, h.output, h.size, fun k hk hn => h.block k hk (fun hs => hn (hS k hk hs))⟩
/-- Two steps, each with its own blocks. -/
theorem But.trans2 (h : But S a b) (k : But S' b c) (hS : ∀ k, k < a.heap.size → S' k → S k) : But S a c :=
  ⟨k.os.trans h.os, k.tape.trans h.tape, k.output.trans h.output, Nat.le_trans h.size k.size, fun i hi hs => (k.block i (Nat.lt_of_lt_of_le hi h.size) (fun x => hs (hS i hi x))).trans (h.block i hi hs)⟩
theorem But.setCell (h : But S a w) {p : Addr} (hp : S p.block) (u : Value) : But S a (w.setCell p u) :=
  h.trans ⟨rfl, rfl, rfl, by simp [World.setCell], fun k _ hn => Below.heap_setCell _ _ _ _ (fun e => hn (e ▸ hp))⟩
/-- A store into a block that is new. -/
theorem But.setNew (h : But S a w) {p : Addr} (hp : a.heap.size ≤ p.block) (u : Value) : But S a (w.setCell p u) :=
  ⟨h.os, h.tape, h.output, by have := h.size; simpa [World.setCell] using this, fun k hk hn => (Below.heap_setCell _ _ _ _ (by omega)).trans (h.block k hk hn)⟩
theorem But.alloc (h : But S a w) (o : Obj) : But S a (w.alloc o) :=
  ⟨h.os, h.tape, h.output, by have := h.size; simp; omega, fun k hk hn => (Below.heap_alloc _ _ _ (Nat.lt_of_lt_of_le hk h.size)).trans (h.block k hk hn)⟩
theorem But.drawn (h : But S a w) (n : Nat) : But S a { w with drawn := n } := ⟨h.os, h.tape, h.output, h.size, h.block⟩
theorem But.drew (h : But S a w) : But S a w.drew := ⟨h.os, h.tape, h.output, h.size, h.block⟩
theorem But.below {B : Nat} (h : But S w w') (hS : ∀ k, S k → B ≤ k) (hB : B ≤ w.heap.size) : Below B w w' := ⟨h.os, h.tape, h.output, h.size, fun k hk => h.block k (by omega) (fun hs => by have := hS k hs; omega)⟩
theorem But.old (h : But S w w') (hS : ∀ k, S k → w.heap.size ≤ k) : Below w.heap.size w w' := h.below hS (Nat.le_refl _)
theorem But.of (h : Below w.heap.size w w') : But S w w' := ⟨h.os, h.tape, h.output, h.size, fun k hk _ => h.block k hk⟩
theorem But.cell (h : But S w w') {p : Addr} (hp : p.block < w.heap.size) (hn : ¬ S p.block) : w'.cell? p = w.cell? p := World.cell?_of_block (w := w) (h.block p.block hp hn)
theorem But.lt {k : Nat} (h : But S w w') (hk : k < w.heap.size) : k < w'.heap.size := Nat.lt_of_lt_of_le hk h.size

theorem lt_of_block {w : World} {g : Nat} {o : Obj} (h : w.heap[g]? = some o) : g < w.heap.size := by
  rcases Nat.lt_or_ge g w.heap.size with h' | h'
  · exact h'
  · rw [Array.getElem?_eq_none h'] at h; cases h
theorem But.blk {k : Nat} {o : Obj} (h : But S w w') (hb : w.heap[k]? = some o) (hn : ¬ S k) : w'.heap[k]? = some o := (h.block k (lt_of_block hb) hn).trans hb

theorem Rd.but {A : Option Addr} {n : Nat} {l : List Int} (h : Rd w A n l) (hb : But S w w') (hn : ∀ g o, A = some ⟨g, o, none⟩ → 0 < n → ¬ S g) : Rd w' A n l :=
  ⟨h.len, h.byte, fun h0 => by
    obtain ⟨g, o, e, hlt, hc⟩ := h.at_ h0
    exact ⟨g, o, e, hb.lt hlt, fun i hi => by rw [hb.cell (p := ⟨g, o + i, none⟩) hlt (hn g o e h0)]; exact hc i hi⟩⟩

/-- A part of a row of bytes. -/
theorem Rd.drop_ {A : Option Addr} {n m : Nat} {l : List Int} {k : Nat} {g o : Nat} (h : Rd w A n l) (hA : A = some ⟨g, o, none⟩) (hk : n = k + m) : Rd w (some ⟨g, o + k, none⟩) m (l.drop k) := by
  subst hk
  refine ⟨by rw [List.length_drop, h.len]; omega, fun x hx => h.byte x (List.mem_of_mem_drop hx), fun h0 => ?_⟩
  obtain ⟨b, o', e, hlt, hc⟩ := h.at_ (by omega)
  rw [hA] at e
  injection e with e
  injection e with e1 e2
  subst e1; subst e2
  refine ⟨_, _, rfl, hlt, fun i hi => ?_⟩
  rw [Nat.add_assoc, hc (k + i) (by omega)]
  simp [List.getD, List.getElem?_drop]

/-- Rows of bytes and other things do not lie in one block. -/
theorem Rd.apart {A : Option Addr} {n : Nat} {l : List Int} {g o k : Nat} {cs : Array Value} {t : TypeId} {fr : Nat × Nat} (h : Rd w A n l) (hA : A = some ⟨g, o, none⟩) (h0 : 0 < n)
    (hk : w.heap[k]? = some (.cells cs t fr)) (hcs : ∀ (j : Nat) (x : Int), cs[j]? ≠ some (Value.int .u8 x)) : g ≠ k := by
  intro e
  subst e
  obtain ⟨b, o', e, hlt, hc⟩ := h.at_ h0
  rw [hA] at e
  injection e with e
  injection e with e1 e2
  subst e1; subst e2
  have := hc 0 h0
  simp [World.cell?, hk] at this
  exact hcs _ _ this

/-- A block that is known whole. -/
theorem blk_cell {w : World} {g : Nat} {C : Array Value} {t : TypeId} {fr : Nat × Nat} (h : w.heap[g]? = some (.cells C t fr)) (i : Nat) : w.cell? ⟨g, i, none⟩ = C[i]? := by simp [World.cell?, h]
theorem blk_free {w : World} {g : Nat} {C : Array Value} {t : TypeId} (h : w.heap[g]? = some (.cells C t (0, 0))) (i : Nat) : w.frozen? ⟨g, i, none⟩ = false := by simp [World.frozen?, h]
theorem blk_on {w w' : World} {g : Nat} {o : Obj} (h : w.heap[g]? = some o) (hb : Below w.heap.size w w') : w'.heap[g]? = some o := (hb.block g (lt_of_block h)).trans h
theorem OwnB.but {S : Nat → Prop} {w w' : World} {B : Nat} {A : Option Addr} {n c : Nat} {l : List Int} (h : OwnB w B A n c l) (hb : But S w w') (hS : ∀ k, B ≤ k → ¬ S k) : OwnB w' B A n c l := by
  refine ⟨h.1, ?_⟩
  rcases h.2 with h0 | ⟨g, cap, cur, e, hB, hc, hrest⟩
  · exact .inl h0
  · exact .inr ⟨g, cap, cur, e, hB, hb.blk hc (hS g hB), hrest⟩
end Go.Proofs.YtheknmihnkennaaGreat

/-
  The document's own answers for messages (culvertref08): Sort, Echo, WithId, Same.
-/
namespace Go.Proofs.YtheknmihnkennaaGreat
set_option maxRecDepth 10000
open Go.RowKit

theorem cells4 {w : World} {g : Nat} {u0 u1 u2 u3 : Value} {t : TypeId} (h : w.heap[g]? = some (.cells #[u0, u1, u2, u3] t (0, 0))) : w.cell? ⟨g, 0, none⟩ = some u0 ∧ w.cell? ⟨g, 1, none⟩ = some u1 ∧ w.cell? ⟨g, 2, none⟩ = some u2 ∧ w.cell? ⟨g, 3, none⟩ = some u3 := ⟨by rw [blk_cell h]; rfl, by rw [blk_cell h]; rfl, by rw [blk_cell h]; rfl, by rw [blk_cell h]; rfl⟩
def IntIs (x : Int) (w : World) (e : Ending) (w' : World) : Prop := e = .returned (.int .i64 x) ∧ Below w.heap.size w w'
theorem sort_echo (ty cd : Int) : echoM ty cd = true ∧ (sortM ty cd = 1 ∨ sortM ty cd = 2) ∨ echoM ty cd = false ∧ (sortM ty cd = 0 ∨ sortM ty cd = 3) := by
  unfold echoM sortM
  by_cases h1 : ty = 8 ∧ cd = 0
  · obtain ⟨rfl, rfl⟩ := h1; simp
  · by_cases h2 : ty = 0 ∧ cd = 0
    · obtain ⟨rfl, rfl⟩ := h2; simp
    · rw [if_neg h1, if_neg h2]
      refine .inr ⟨by (simp <;> omega), ?_⟩
      split
      · exact .inr rfl
      · exact .inl rfl
/-- An echo's id and number. -/
def EchoIs (ty cd rs : Int) (w : World) (e : Ending) (w' : World) : Prop :=
  (if echoM ty cd = true then e = .returned (.tuple #[.int .u16 (rs / 65536), .int .u16 (rs % 65536), .bool true]) else e = .returned (.tuple #[.int .u16 0, .int .u16 0, .bool false])) ∧ Below w.heap.size w w'
theorem set_cell4 {w : World} {q : Nat} {u0 u1 u2 u3 : Value} {t : TypeId} (h : w.heap[q]? = some (.cells #[u0, u1, u2, u3] t (0, 0))) (v : Value) : (w.setCell ⟨q, 2, none⟩ v).heap[q]? = some (.cells #[u0, u1, v, u3] t (0, 0)) := by
  simp [World.setCell, Array.getElem?_modify, h]
theorem set4_blk {w : World} {q : Nat} {u0 u1 u2 u3 : Value} {t : TypeId} (h : w.heap[q]? = some (.cells #[u0, u1, u2, u3] t (0, 0))) (v0 v1 v2 v3 : Value) :
    ((((w.setCell ⟨q, 0, none⟩ v0).setCell ⟨q, 1, none⟩ v1).setCell ⟨q, 2, none⟩ v2).setCell ⟨q, 3, none⟩ v3).heap[q]? = some (.cells #[v0, v1, v2, v3] t (0, 0)) := by
  simp [World.setCell, Array.getElem?_modify, h]
theorem other_blk {w : World} {q p i : Nat} {o : Obj} (h : w.heap[q]? = some o) (hn : p ≠ q) (v : Value) : (w.setCell ⟨p, i, none⟩ v).heap[q]? = some o := by
  simp [World.setCell, Array.getElem?_modify, h, hn]
end Go.Proofs.YtheknmihnkennaaGreat

/-
  The contracts of package icmp's sorts (a map that the call makes), Sort, Echo.
-/
namespace Go.Proofs.YtheknmihnkennaaGreat
set_option maxRecDepth 10000
open Go.RowKit
set_option linter.unusedSimpArgs false
set_option linter.unusedVariables false

/-- What the map holds. -/
def sortsO : Obj := .map #[⟨.int .u8 0, .int .i64 2, 0⟩, ⟨.int .u8 3, .int .i64 3, 1⟩, ⟨.int .u8 8, .int .i64 1, 2⟩, ⟨.int .u8 11, .int .i64 3, 3⟩, ⟨.int .u8 12, .int .i64 3, 4⟩] 5
theorem findU8 (k : Int) : ∀ (es : List MapEntry) (i : Nat), (∀ e ∈ es, ∃ j : Int, e.key = .int .u8 j ∧ (k == j) = false) → Instr.findNow (.int .u8) (.int .u8 k) es i = some none
  | [], _, _ => rfl
  | e :: es, i, h => by
    obtain ⟨j, hj, hk⟩ := h e (.head _)
    have := findU8 k es (i + 1) (fun x hx => h x (.tail _ hx))
    simp [Instr.findNow, Instr.sameNow, hj, hk, this]
theorem check_u8 (k : Int) (w : World) (e : Bool) : (Instr.checkKey e 10000 5 (.int .u8 k)).run Tryz.prog w = .ok () w :=
  MapKept.run_checkKey (k := .int .u8 k) Tryz.underlying5 (by simp [MapKept.IsKey]) e 9999
def setO (w : World) (b : Nat) (o : Obj) : World := { w with heap := w.heap.setIfInBounds b o }
theorem put_u8 (w : World) (b : Nat) (es : Array MapEntry) (clock : Nat) (k v : Int) (hb : w.heap[b]? = some (.map es clock)) (hf : Instr.findNow (.int .u8) (.int .u8 k) es.toList 0 = some none) :
    (Instr.mapUpdate 78 (.map (some b)) (.int .u8 k) (.int .i64 v)).run Tryz.prog w = .ok () (setO w b (.map (es.push ⟨.int .u8 k, .int .i64 v, clock⟩) (clock + 1))) := by
  simp [setO, Instr.mapUpdate, run_underlying Tryz.underlying78, MapKept.run_getObj_map hb, check_u8 k w, MapKept.run_findKey Tryz.underlying5 hf, MapKept.run_setObj_map _ hb, Result.andThen]
theorem info_int : (Tryz.prog.info? 3).map (·.zero) = some (some (.int .i64 0)) := by kernel_rfl
theorem zero_int (w : World) : (zeroValue 3).run Tryz.prog w = .ok (.int .i64 0) w := by
  have h := info_int
  cases hi : Tryz.prog.info? 3 with
  | none => rw [hi] at h; simp at h
  | some i =>
    rw [hi] at h
    simp at h
    simp [zeroValue, typeInfo, hi, h, go_sem]
theorem look_u8 (w : World) (b : Nat) (es : Array MapEntry) (clock : Nat) (k x : Int) (hb : w.heap[b]? = some (.map es clock))
    (hf : Instr.findNow (.int .u8) (.int .u8 k) es.toList 0 = some none ∧ x = 0 ∨ ∃ i, Instr.findNow (.int .u8) (.int .u8 k) es.toList 0 = some (some (i, .int .i64 x))) :
    (Instr.lookup 78 (.map (some b)) (.int .u8 k) false).run Tryz.prog w = .ok (.int .i64 x) w := by
  rcases hf with ⟨hf, rfl⟩ | ⟨i, hf⟩
  · simp [Instr.lookup, run_underlying Tryz.underlying78, MapKept.run_getObj_map hb, check_u8 k w, MapKept.run_findKey Tryz.underlying5 hf, zero_int, Result.andThen]
  · simp [Instr.lookup, run_underlying Tryz.underlying78, MapKept.run_getObj_map hb, check_u8 k w, MapKept.run_findKey Tryz.underlying5 hf, Result.andThen]
theorem setO_at {w : World} {b : Nat} {o : Obj} (o' : Obj) (hb : w.heap[b]? = some o) : (setO w b o').heap[b]? = some o' := by
  have := lt_of_block hb
  simp [setO, this]
theorem setO_below {W w : World} {B b : Nat} {o : Obj} (h : Below B W w) (hb : B ≤ b) : Below B W (setO w b o) :=
  ⟨h.os, h.tape, h.output, by simpa [setO] using h.size, fun k hk => by
    have := h.block k hk
    rw [← this]
    simp only [setO]
    rw [Array.getElem?_setIfInBounds_ne (by omega)]⟩
def SortsIs (w : World) (e : Ending) (w' : World) : Prop := ∃ g, e = .returned (.map (some g)) ∧ w'.heap[g]? = some sortsO ∧ Below w.heap.size w w'
theorem sorts_any (w : World) : Calls Tryz.prog 110 #[] w (SortsIs w) := by
  obtain ⟨w0, e0⟩ : ∃ w0, w.alloc (.map #[] 0) = w0 := ⟨_, rfl⟩
  have k0 : w0.heap[w.heap.size]? = some (.map #[] 0) := by rw [← e0]; exact heap_alloc_new w _
  have b0 : Below w.heap.size w w0 := by rw [← e0]; exact (Below.refl _ _).alloc (Nat.le_refl _) _
  have r1 := put_u8 w0 w.heap.size _ _ 0 2 k0 (findU8 _ _ _ (by simp))
  have k1 := setO_at (.map (#[].push ⟨.int .u8 0, .int .i64 2, 0⟩) 1) k0
  have b1 := setO_below (o := .map (#[].push ⟨.int .u8 0, .int .i64 2, 0⟩) 1) b0 (Nat.le_refl _)
  simp only [List.push_toArray, List.nil_append, List.cons_append, Nat.reduceAdd] at r1 k1 b1
  obtain ⟨w1, e1⟩ : ∃ v, setO w0 w.heap.size (.map #[⟨.int .u8 0, .int .i64 2, 0⟩] 1) = v := ⟨_, rfl⟩
  rw [e1] at r1 k1 b1
  clear e1
  have r2 := put_u8 w1 w.heap.size _ _ 3 3 k1 (findU8 _ _ _ (by simp))
  have k2 := setO_at (.map (#[⟨.int .u8 0, .int .i64 2, 0⟩].push ⟨.int .u8 3, .int .i64 3, 1⟩) 2) k1
  have b2 := setO_below (o := .map (#[⟨.int .u8 0, .int .i64 2, 0⟩].push ⟨.int .u8 3, .int .i64 3, 1⟩) 2) b1 (Nat.le_refl _)
  simp only [List.push_toArray, List.nil_append, List.cons_append, Nat.reduceAdd] at r2 k2 b2
  obtain ⟨w2, e2⟩ : ∃ v, setO w1 w.heap.size (.map #[⟨.int .u8 0, .int .i64 2, 0⟩, ⟨.int .u8 3, .int .i64 3, 1⟩] 2) = v := ⟨_, rfl⟩
  rw [e2] at r2 k2 b2
  clear e2
  have r3 := put_u8 w2 w.heap.size _ _ 8 1 k2 (findU8 _ _ _ (by simp))
  have k3 := setO_at (.map (#[⟨.int .u8 0, .int .i64 2, 0⟩, ⟨.int .u8 3, .int .i64 3, 1⟩].push ⟨.int .u8 8, .int .i64 1, 2⟩) 3) k2
  have b3 := setO_below (o := .map (#[⟨.int .u8 0, .int .i64 2, 0⟩, ⟨.int .u8 3, .int .i64 3, 1⟩].push ⟨.int .u8 8, .int .i64 1, 2⟩) 3) b2 (Nat.le_refl _)
  simp only [List.push_toArray, List.nil_append, List.cons_append, Nat.reduceAdd] at r3 k3 b3
  obtain ⟨w3, e3⟩ : ∃ v, setO w2 w.heap.size (.map #[⟨.int .u8 0, .int .i64 2, 0⟩, ⟨.int .u8 3, .int .i64 3, 1⟩, ⟨.int .u8 8, .int .i64 1, 2⟩] 3) = v := ⟨_, rfl⟩
  rw [e3] at r3 k3 b3
  clear e3
  have r4 := put_u8 w3 w.heap.size _ _ 11 3 k3 (findU8 _ _ _ (by simp))
  have k4 := setO_at (.map (#[⟨.int .u8 0, .int .i64 2, 0⟩, ⟨.int .u8 3, .int .i64 3, 1⟩, ⟨.int .u8 8, .int .i64 1, 2⟩].push ⟨.int .u8 11, .int .i64 3, 3⟩) 4) k3
  have b4 := setO_below (o := .map (#[⟨.int .u8 0, .int .i64 2, 0⟩, ⟨.int .u8 3, .int .i64 3, 1⟩, ⟨.int .u8 8, .int .i64 1, 2⟩].push ⟨.int .u8 11, .int .i64 3, 3⟩) 4) b3 (Nat.le_refl _)
  simp only [List.push_toArray, List.nil_append, List.cons_append, Nat.reduceAdd] at r4 k4 b4
  obtain ⟨w4, e4⟩ : ∃ v, setO w3 w.heap.size (.map #[⟨.int .u8 0, .int .i64 2, 0⟩, ⟨.int .u8 3, .int .i64 3, 1⟩, ⟨.int .u8 8, .int .i64 1, 2⟩, ⟨.int .u8 11, .int .i64 3, 3⟩] 4) = v := ⟨_, rfl⟩
  rw [e4] at r4 k4 b4
  clear e4
  have r5 := put_u8 w4 w.heap.size _ _ 12 3 k4 (findU8 _ _ _ (by simp))
  have k5 := setO_at (.map (#[⟨.int .u8 0, .int .i64 2, 0⟩, ⟨.int .u8 3, .int .i64 3, 1⟩, ⟨.int .u8 8, .int .i64 1, 2⟩, ⟨.int .u8 11, .int .i64 3, 3⟩].push ⟨.int .u8 12, .int .i64 3, 4⟩) 5) k4
  have b5 := setO_below (o := .map (#[⟨.int .u8 0, .int .i64 2, 0⟩, ⟨.int .u8 3, .int .i64 3, 1⟩, ⟨.int .u8 8, .int .i64 1, 2⟩, ⟨.int .u8 11, .int .i64 3, 3⟩].push ⟨.int .u8 12, .int .i64 3, 4⟩) 5) b4 (Nat.le_refl _)
  simp only [List.push_toArray, List.nil_append, List.cons_append, Nat.reduceAdd] at r5 k5 b5
  obtain ⟨w5, e5⟩ : ∃ v, setO w4 w.heap.size (.map #[⟨.int .u8 0, .int .i64 2, 0⟩, ⟨.int .u8 3, .int .i64 3, 1⟩, ⟨.int .u8 8, .int .i64 1, 2⟩, ⟨.int .u8 11, .int .i64 3, 3⟩, ⟨.int .u8 12, .int .i64 3, 4⟩] 5) = v := ⟨_, rfl⟩
  rw [e5] at r5 k5 b5
  clear e5
  have K5 := Lib.hid k5
  have B5 := Lib.hid b5
  have hmk := run_makeMap_plain (P := Tryz.prog) w 78
  rw [e0] at hmk
  clear k0 k1 k2 k3 k4 k5 b0 b1 b2 b3 b4 b5
  go_enter Tryz.func110, Tryz.ntmps110
  go_wp2_with fail
  go_ret
  exact ⟨_, rfl, K5.out, B5.out⟩

/-- What stands in the map at a Type. -/
def kindM (ty : Int) : Int := if ty = 0 then 2 else if ty = 3 then 3 else if ty = 8 then 1 else if ty = 11 then 3 else if ty = 12 then 3 else 0
theorem look_sorts (w : World) (g : Nat) (ty y : Int) (hg : w.heap[g]? = some sortsO) (hy : kindM ty = y) : (Instr.lookup 78 (.map (some g)) (.int .u8 ty) false).run Tryz.prog w = .ok (.int .i64 y) w := by
  refine look_u8 w g _ _ ty y hg ?_
  subst hy
  by_cases h0 : ty = 0
  · subst h0; exact .inr ⟨0, rfl⟩
  by_cases h3 : ty = 3
  · subst h3; exact .inr ⟨1, rfl⟩
  by_cases h8 : ty = 8
  · subst h8; exact .inr ⟨2, rfl⟩
  by_cases h11 : ty = 11
  · subst h11; exact .inr ⟨3, rfl⟩
  by_cases h12 : ty = 12
  · subst h12; exact .inr ⟨4, rfl⟩
  exact .inl ⟨findU8 _ _ _ (by simp [h0, h3, h8, h11, h12]), by unfold kindM; rw [if_neg h0, if_neg h3, if_neg h8, if_neg h11, if_neg h12]⟩
theorem sort_kind (ty cd : Int) : sortM ty cd = if kindM ty ≠ 3 ∧ cd ≠ 0 then 0 else kindM ty := by
  unfold sortM kindM
  by_cases h0 : ty = 0
  · subst h0; by_cases hc : cd = 0 <;> simp [hc]
  by_cases h3 : ty = 3
  · subst h3; simp
  by_cases h8 : ty = 8
  · subst h8; by_cases hc : cd = 0 <;> simp [hc]
  by_cases h11 : ty = 11
  · subst h11; simp
  by_cases h12 : ty = 12
  · subst h12; simp
  simp [h0, h3, h8, h11, h12]
theorem anyH_mono {P : Program} {md : Region.Mode} {ops : Array Oper} {Q : Exit → Act → World → Prop} {S S' : World → Prop} (hS : ∀ w, S' w → S w) :
    ∀ (fuel : Nat) (listed : Array Bool) (a : Act) (w : World), wpAnyH P md ops Q S' fuel listed a w → wpAnyH P md ops Q S fuel listed a w
  | 0, _, _, _, h => h
  | fuel + 1, _, _, _, h => ⟨h.1, fun i hi => wpOp_mono (fun a' w' h' => ⟨hS w' h'.1, anyH_mono hS fuel _ a' w' h'.2⟩) (h.2 i hi)⟩
theorem sort8_any (ty cd rs : Int) (A : Option Addr) (n c : Nat) (x : Int) (w : World) (hx : sortM ty cd = x) :
    Calls Tryz.prog 88 #[.agg #[.int .u8 ty, .int .u8 cd, .int .u32 rs, .slice A n c]] w (IntIs x w) := by
  rw [sort_kind] at hx
  obtain ⟨y, hy⟩ : ∃ y, kindM ty = y := ⟨_, rfl⟩
  rw [hy] at hx
  have Hy := Lib.hid hy
  clear hy
  obtain ⟨z, hz⟩ : ∃ z, w.heap.size = z := ⟨_, rfl⟩
  obtain ⟨w0, ew⟩ : ∃ w0, w.alloc (.cells #[.int .u8 ty, .int .u8 cd, .int .u32 rs, .slice A n c] 33) = w0 := ⟨_, rfl⟩
  have Hb0 := Lib.hid (show Below w.heap.size w w0.drew by rw [← ew]; exact ((Below.refl _ _).alloc (Nat.le_refl _) _).drew)
  have HK := Lib.hid (show w0.drew.heap[z]? = some (.cells #[.int .u8 ty, .int .u8 cd, .int .u32 rs, .slice A n c] 33 (0, 0)) by rw [← ew, ← hz]; exact heap_alloc_new w _)
  go_enter Tryz.func88, Tryz.ntmps88
  go_upto_region 1 with (fail)
  try simp only [ew, hz]
  refine wp_region_held_drew (S := fun w' => w'.cell? ⟨z, 0, none⟩ = some (.int .u8 ty)) (by kernel_rfl) (cells4 HK.out).1 (fun hHeld => ?_)
  obtain ⟨wd, ewd⟩ : ∃ wd, w0.drew = wd := ⟨_, rfl⟩
  rw [ewd] at Hb0 HK hHeld ⊢
  clear ewd ew hz
  refine wpAnyH_take (i := 1) (oi := { dst := some 5, op := Go.Op.fieldAddr 33 (Go.Operand.tmp 1) 0, type := 0, pos := "icmp.go:71", after := #[], guard := none }) (v := ?_) rfl (by kernel_rfl) (by kernel_rfl) (by kernel_rfl) (fun _ _ _ h => h) (Or.inl ⟨by rfl, ?_⟩) (by assumption) ?_
  rotate_left 1
  · intro w' hSw; (go_simp <;> (with_reducible rfl))
  (try simp only [Act.put, List.setIfInBounds_toArray, List.set_cons_zero, List.set_cons_succ])
  refine wpAnyH_take (i := 2) (oi := { dst := some 6, op := Go.Op.load 5 (Go.Operand.tmp 5), type := 5, pos := "icmp.go:71", after := #[{ on := 1, ground := Go.Ground.data }], guard := none }) (v := ?_) rfl (by kernel_rfl) (by kernel_rfl) (by kernel_rfl) (fun _ _ _ h => h) (Or.inl ⟨by rfl, ?_⟩) (by assumption) ?_
  rotate_left 1
  · intro w' hSw; (go_simp <;> (with_reducible rfl))
  (try simp only [Act.put, List.setIfInBounds_toArray, List.set_cons_zero, List.set_cons_succ])
  refine wpAnyH_ready (rs := [0]) (by kernel_rfl) (by simp) ?_
  refine AllReadyH.cons (o := { dst := some 4, op := Go.Op.call { callee := Go.Callee.value (Go.Operand.func 110), args := #[], argTypes := #[] }, type := 78, pos := "icmp.go:71", after := #[], guard := none }) rfl (fun K hK => ?_) AllReadyH.nil
  go_simp
  (refine (sorts_any _).mono ?_; rintro e w1 ⟨g, rfl, hg, hb1⟩; have HG := Lib.hid hg; have Hb1 := Lib.hid hb1; clear hg hb1)
  refine hK.out _ _ ?_ (fun hHeld => ?_)
  · exact (cells4 (blk_on HK.out Hb1.out)).1
  clear hK K
  (try simp only [Act.put, List.setIfInBounds_toArray, List.set_cons_zero, List.set_cons_succ])
  refine anyH_mono (S' := fun w' => w'.cell? ⟨z, 0, none⟩ = some (.int .u8 ty) ∧ w'.heap[g]? = some sortsO) (fun _ h => h.1) _ _ _ _ ?_
  have hHeld := And.intro (cells4 (blk_on HK.out Hb1.out)).1 HG.out
  have hlook := fun W h => look_sorts W g ty y h Hy.out
  refine wpAnyH_take (i := 3) (oi := { dst := some 7, op := Go.Op.lookup 78 (Go.Operand.tmp 4) (Go.Operand.tmp 6) false, type := 3, pos := "icmp.go:71", after := #[{ on := 0, ground := Go.Ground.data }, { on := 2, ground := Go.Ground.data }], guard := none }) (v := ?_) rfl (by kernel_rfl) (by kernel_rfl) (by kernel_rfl) (fun _ _ _ h => h) (Or.inl ⟨by rfl, ?_⟩) (by assumption) ?_
  rotate_left 1
  · intro w' hSw; (go_simp <;> (with_reducible rfl))
  (try simp only [Act.put, List.setIfInBounds_toArray, List.set_cons_zero, List.set_cons_succ])
  refine wpAnyH_take (i := 4) (oi := { dst := some 3, op := Go.Op.assign (Go.Operand.tmp 7), type := 3, pos := "icmp.go:71", after := #[{ on := 3, ground := Go.Ground.data }, { on := 0, ground := Go.Ground.chain }, { on := 0, ground := Go.Ground.phase }, { on := 1, ground := Go.Ground.phase }, { on := 2, ground := Go.Ground.phase }, { on := 3, ground := Go.Ground.phase }], guard := none }) (v := ?_) rfl (by kernel_rfl) (by kernel_rfl) (by kernel_rfl) (fun _ _ _ h => h) (Or.inl ⟨by rfl, ?_⟩) (by assumption) ?_
  rotate_left 1
  · intro w' hSw; (go_simp <;> (with_reducible rfl))
  (try simp only [Act.put, List.setIfInBounds_toArray, List.set_cons_zero, List.set_cons_succ])
  refine wpAnyH_done (by kernel_rfl) ?_ _
  by_cases h3 : y = 3
  · have h3b : (y != 3) = false := by simp [h3]
    have Hx := Lib.hid (show x = y by rw [← hx]; simp [h3])
    clear hx h3
    obtain ⟨c0, c1, c2, c3⟩ := cells4 (blk_on HK.out Hb1.out)
    have Hb := Lib.hid (below_trans Hb0.out Hb1.out)
    clear hlook hHeld HG Hb1
    go_wp2_with fail
    go_ret
    exact ⟨by rw [Hx.out]; rfl, Hb.out⟩
  · have h3b : (y != 3) = true := by simpa using h3
    by_cases h0 : cd = 0
    · have h0b : (cd != 0) = false := by simp [h0]
      have Hx := Lib.hid (show x = y by rw [← hx]; simp [h0])
      clear hx h3 h0
      obtain ⟨c0, c1, c2, c3⟩ := cells4 (blk_on HK.out Hb1.out)
      have Hb := Lib.hid (below_trans Hb0.out Hb1.out)
      clear hlook hHeld HG Hb1
      go_wp2_with fail
      go_ret
      exact ⟨by rw [Hx.out]; rfl, Hb.out⟩
    · have h0b : (cd != 0) = true := by simpa using h0
      have Hx := Lib.hid (show x = 0 by rw [← hx]; simp [h0, h3])
      clear hx h3 h0
      obtain ⟨c0, c1, c2, c3⟩ := cells4 (blk_on HK.out Hb1.out)
      have Hb := Lib.hid (below_trans Hb0.out Hb1.out)
      clear hlook hHeld HG Hb1
      go_wp2_with fail
      go_ret
      exact ⟨by rw [Hx.out]; rfl, Hb.out⟩
end Go.Proofs.YtheknmihnkennaaGreat
