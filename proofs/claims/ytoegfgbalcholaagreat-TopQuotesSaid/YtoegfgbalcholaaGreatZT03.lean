/-
  Texts laid together: Tup, RdL, BytesApp, OwnRow.
-/
import Derived.Test.YtoegfgbalcholaaGreatZT02
import Derived.Test.YtoegfgbalcholaaGreatZT01
import Derived.OneCell
import Derived.Maps.AppendAt
import Derived.Laws.OwnMore
import Derived.BigFrame

/-
  Tuples (api.Tuple) as numbers: bytes, order, the other way round. Nothing of the program.
-/
namespace Go.Proofs.YtoegfgbalcholaaGreat
set_option maxRecDepth 10000
open Go.RowKit

structure Tu where
  pr : Int
  sr : Int
  ds : Int
  sp : Int
  dp : Int
structure TuNum (t : Tu) : Prop where
  pr : 0 ≤ t.pr ∧ t.pr < 256
  sr : 0 ≤ t.sr ∧ t.sr < 4294967296
  ds : 0 ≤ t.ds ∧ t.ds < 4294967296
  sp : 0 ≤ t.sp ∧ t.sp < 65536
  dp : 0 ≤ t.dp ∧ t.dp < 65536
end Go.Proofs.YtoegfgbalcholaaGreat

/-
  A slice of slices of bytes that reads as a list of lists ('RdL'). No function of the program.
-/
namespace Go.Proofs.YtoegfgbalcholaaGreat
set_option maxRecDepth 10000
open Go.RowKit

/-- The slice of slices '.slice A n c' holds the lists ls, in memory that is there. -/
structure RdL (w : World) (A : Option Addr) (n : Nat) (ls : List (List Int)) : Prop where
  len : ls.length = n
  at_ : 0 < n → ∃ b o, A = some ⟨b, o, none⟩ ∧ b < w.heap.size ∧ ∀ i, i < n → ∃ Ai ci, w.cell? ⟨b, o + i, none⟩ = some (.slice Ai (ls.getD i []).length ci) ∧ (ls.getD i []).length ≤ ci ∧ ci ≤ maxLen ∧ Rd w Ai (ls.getD i []).length (ls.getD i [])

theorem RdL.below {w w' : World} {A : Option Addr} {n : Nat} {ls : List (List Int)} (h : RdL w A n ls) (hb : Below w.heap.size w w') : RdL w' A n ls :=
  ⟨h.len, fun hn => by
    obtain ⟨b, o, e, hlt, hc⟩ := h.at_ hn
    refine ⟨b, o, e, Nat.lt_of_lt_of_le hlt hb.size, fun i hi => ?_⟩
    obtain ⟨Ai, ci, h1, h2, h3, h4⟩ := hc i hi
    exact ⟨Ai, ci, by rw [hb.cell (p := ⟨b, o + i, none⟩) hlt]; exact h1, h2, h3, h4.below hb⟩⟩

theorem RdL.take {w : World} {A : Option Addr} {n k : Nat} {ls : List (List Int)} (h : RdL w A n ls) (hk : k ≤ n) : RdL w A k (ls.take k) := by
  refine ⟨by rw [List.length_take, h.len]; omega, fun hn => ?_⟩
  obtain ⟨b, o, e, hlt, hc⟩ := h.at_ (by omega)
  refine ⟨b, o, e, hlt, fun i hi => ?_⟩
  have e2 : (ls.take k).getD i [] = ls.getD i [] := by simp [List.getD, List.getElem?_take_of_lt hi]
  rw [e2]
  exact hc i (by omega)

/-- One part's address and what lies there. -/
theorem RdL.index {w : World} {A : Option Addr} {n c : Nat} {ls : List (List Int)} (h : RdL w A n ls) {j : Nat} (hj : j < n) :
    ∃ p Ai ci, (∀ W : World, (Instr.indexAt 96 (.slice A n c) (.int .i64 (j : Int))).run Tryz.prog W = .ok (.pointer (some p)) W) ∧ p.block < w.heap.size ∧ w.cell? p = some (.slice Ai (ls.getD j []).length ci) ∧ (ls.getD j []).length ≤ ci ∧ ci ≤ maxLen ∧ Rd w Ai (ls.getD j []).length (ls.getD j []) := by
  obtain ⟨b, o, rfl, hb, hc⟩ := h.at_ (by omega)
  have h0 : (0 : Int) ≤ (j : Int) := by omega
  have h1 : (j : Int) < (n : Int) := by omega
  obtain ⟨Ai, ci, e1, e2, e3, e4⟩ := hc j hj
  exact ⟨⟨b, o + j, none⟩, Ai, ci, fun W => by go_simp, hb, e1, e2, e3, e4⟩

theorem flat_take (ls : List (List Int)) (k : Nat) (h : k < ls.length) : (ls.take (k + 1)).flatten = (ls.take k).flatten ++ ls.getD k [] := by
  rw [List.take_succ_eq_append_getElem h, List.flatten_append]
  simp [List.getD, List.getElem?_eq_getElem h]
theorem take_one (l : List Int) (j : Nat) (h : j < l.length) : l.take (j + 1) = l.take j ++ [l.getD j 0] := by
  rw [List.take_succ_eq_append_getElem h]
  simp [List.getD, List.getElem?_eq_getElem h]
theorem getD_byte {l : List Int} (h : ∀ x ∈ l, 0 ≤ x ∧ x < 256) (j : Nat) : 0 ≤ l.getD j 0 ∧ l.getD j 0 < 256 := by
  by_cases hj : j < l.length
  · simp only [List.getD, List.getElem?_eq_getElem hj, Option.getD_some]
    exact h _ (List.getElem_mem hj)
  · simp [List.getD, List.getElem?_eq_none (by omega : l.length ≤ j)]

/-- A row of parts that the walk has just laid. -/
theorem RdL.row (w : World) (g : Nat) (hg : w.heap.size = g) (t : TypeId) (fr : Nat × Nat) (vs : List Value) (ls : List (List Int))
    (h : ∀ i, i < ls.length → ∃ Ai ci, vs[i]? = some (.slice Ai (ls.getD i []).length ci) ∧ (ls.getD i []).length ≤ ci ∧ ci ≤ maxLen ∧ Rd w Ai (ls.getD i []).length (ls.getD i [])) :
    RdL (w.alloc (.cells vs.toArray t fr)) (some ⟨g, 0, none⟩) ls.length ls := by
  subst hg
  refine ⟨rfl, fun _ => ⟨w.heap.size, 0, rfl, by simp, fun i hi => ?_⟩⟩
  obtain ⟨Ai, ci, h1, h2, h3, h4⟩ := h i hi
  refine ⟨Ai, ci, ?_, h2, h3, h4.below ((Below.refl _ _).alloc (Nat.le_refl _) _)⟩
  rw [World.cell?_alloc_mark]
  simpa using h1
theorem RdL.one (w : World) (g : Nat) (hg : w.heap.size = g) (t : TypeId) (fr : Nat × Nat) (A : Option Addr) (n c : Nat) (l : List Int) (h : Rd w A n l) (hc : n ≤ c) (hm : c ≤ maxLen) : RdL (w.alloc (.cells #[.slice A n c] t fr)) (some ⟨g, 0, none⟩) 1 [l] := by
  have := h.len
  subst this
  refine RdL.row w g hg t fr [.slice A l.length c] [l] (fun i hi => ?_)
  have : i = 0 := by simp at hi; exact hi
  subst this
  exact ⟨A, c, rfl, hc, hm, h⟩
theorem RdL.two (w : World) (g : Nat) (hg : w.heap.size = g) (t : TypeId) (fr : Nat × Nat) (A A' : Option Addr) (n n' c c' : Nat) (l l' : List Int) (h : Rd w A n l) (hc : n ≤ c) (hm : c ≤ maxLen) (h' : Rd w A' n' l') (hc' : n' ≤ c') (hm' : c' ≤ maxLen) :
    RdL (w.alloc (.cells #[.slice A n c, .slice A' n' c'] t fr)) (some ⟨g, 0, none⟩) 2 [l, l'] := by
  have := h.len
  subst this
  have := h'.len
  subst this
  refine RdL.row w g hg t fr [.slice A l.length c, .slice A' l'.length c'] [l, l'] (fun i hi => ?_)
  simp at hi
  rcases Nat.lt_or_ge i 1 with h0 | h0
  · have : i = 0 := by omega
    subst this
    exact ⟨A, c, rfl, hc, hm, h⟩
  · have : i = 1 := by omega
    subst this
    exact ⟨A', c', rfl, hc', hm', h'⟩


end Go.Proofs.YtoegfgbalcholaaGreat

/-
  append of bytes that read as a list ('Rd') onto a slice of bytes that the call itself made ('OwnB'): the source nil, empty or not.
-/
namespace Go.Proofs.YtoegfgbalcholaaGreat
set_option maxRecDepth 10000
open Go.RowKit

theorem info5 : (Tryz.prog.info? 5).map (fun i => (i.zero, i.size, i.bytes)) = some (some (.int .u8 0), 1, 1) := by kernel_rfl
theorem cell_add {w : World} {b o : Nat} {k : Nat} {v : Value} (h : w.cell? ⟨b, o + k, none⟩ = some v) : w.cell? ((⟨b, o, none⟩ : Addr).add k) = some v := by
  rw [Go.WideShapes.add_plain]; exact h

/-- '.slice A n c' is a slice of bytes that the call made, from block B on: it holds l. -/
def OwnB (w : World) (B : Nat) (A : Option Addr) (n c : Nat) (l : List Int) : Prop := w.ownsRow B 5 1 (.slice A n c) n (l.map (Value.int .u8))

theorem OwnB.len {w : World} {B : Nat} {A : Option Addr} {n c : Nat} {l : List Int} (h : OwnB w B A n c l) : l.length = n := by
  have := h.1
  simpa using this
theorem OwnB.cap {w : World} {B : Nat} {A : Option Addr} {n c : Nat} {l : List Int} (h : OwnB w B A n c l) : n ≤ c := by
  rcases h.2 with ⟨e, rfl⟩ | ⟨g, cap, cur, e, _, _, hnc, _⟩
  · exact Nat.zero_le _
  · injection e with _ _ e3
    omega
theorem OwnB.rd {w : World} {B : Nat} {A : Option Addr} {n c : Nat} {l : List Int} (h : OwnB w B A n c l) (hl : ∀ x ∈ l, 0 ≤ x ∧ x < 256) : Rd w A n l := by
  refine ⟨h.len, hl, fun hn => ?_⟩
  rcases h.2 with ⟨e, h0⟩ | ⟨g, cap, cur, e, _, hg, _, _, hcs, ht⟩
  · omega
  · injection e with e1 e2 e3
    subst e1
    refine ⟨g, 0, rfl, ?_, fun i hi => ?_⟩
    · rcases Nat.lt_or_ge g w.heap.size with h' | h'
      · exact h'
      · rw [Array.getElem?_eq_none h'] at hg; cases hg
    · have hlen := h.len
      have h1 : cur[i]? = (cur.toList.take (n * 1))[i]? := by
        rw [List.getElem?_take_of_lt (by omega), Array.getElem?_toList]
      rw [ht] at h1
      simp [World.cell?, hg, h1, List.getD, List.getElem?_eq_getElem (show i < l.length by omega)]
theorem OwnB.nil (w : World) (B : Nat) : OwnB w B none 0 0 [] := World.ownsRow_nil w B 5 1
/-- An empty literal, or 'make' with a capacity: nothing in it yet. -/
theorem OwnB.made {w : World} {B g cap : Nat} {cur : Array Value} (hg : w.heap[g]? = some (.cells cur 5 (0, 0))) (hB : B ≤ g) (hm : cap ≤ maxLen) (hc : cur.size = cap) : OwnB w B (some ⟨g, 0, none⟩) 0 cap [] :=
  ⟨rfl, .inr ⟨g, cap, cur, rfl, hB, hg, Nat.zero_le _, hm, by omega, by simp⟩⟩

theorem OwnB.alloc {w : World} {B : Nat} {A : Option Addr} {n c : Nat} {l : List Int} (h : OwnB w B A n c l) (o : Obj) : OwnB (w.alloc o) B A n c l := World.ownsRow.alloc h o
/-- A one-byte slice that the walk has just laid. -/
theorem Rd.one (w : World) (x : Int) (hx : 0 ≤ x ∧ x < 256) : Rd (w.alloc (.cells #[.int .u8 x] 5)) (some ⟨w.heap.size, 0, none⟩) 1 [x] := by
  have := Rd.row (w := w.alloc (.cells #[.int .u8 x] 5)) (g := w.heap.size) (l := [x]) (t := 5) (heap_alloc_new w _) (by simpa using hx)
  exact this

theorem OwnB.form {w : World} {B : Nat} {v : Value} {n : Nat} {l : List Int} (h : w.ownsRow B 5 1 v n (l.map (Value.int .u8))) : ∃ A c, v = .slice A n c ∧ OwnB w B A n c l := by
  rcases id h.2 with ⟨rfl, rfl⟩ | ⟨g, cap, cur, rfl, _⟩
  · exact ⟨none, 0, rfl, h⟩
  · exact ⟨_, _, rfl, h⟩

theorem one_bytes (l : List Int) : ∀ u ∈ l.map (Value.int .u8), u.oneCell' = true := by
  intro u hu
  obtain ⟨x, _, rfl⟩ := List.mem_map.1 hu
  rfl

theorem app_run (w : World) (ty : TypeId) (B : Nat) (A A' : Option Addr) (n c m c' : Nat) (l l' : List Int) (h : OwnB w B A n c l) (hr : Rd w A' m l') (hs : n + m ≤ 140737488355328) (hB : B ≤ w.heap.size) :
    ∃ A2 c2 w', (Builtin.append_ #[24, 24] ty #[.slice A n c, .slice A' m c']).run Tryz.prog w = .ok (.slice A2 (n + m) c2) w' ∧ OwnB w' B A2 (n + m) c2 (l ++ l') ∧ w.grownBy w' (Value.slice A n c).ownBlock ∧ Below B w w' ∧
      ((Value.slice A2 (n + m) c2).ownBlock = (Value.slice A n c).ownBlock ∨ (Value.slice A2 (n + m) c2).ownBlock = some w.heap.size) := by
  obtain ⟨i0, hi, hz0, hz1, hz2⟩ := info_parts info5
  have key : ∀ (a : Addr), A' = some a → (∀ j u, (l'.map (Value.int .u8))[j]? = some u → w.cell? (a.add j) = some u) →
      ∃ A2 c2 w', (Builtin.append_ #[24, 24] ty #[.slice A n c, .slice A' m c']).run Tryz.prog w = .ok (.slice A2 (n + m) c2) w' ∧ OwnB w' B A2 (n + m) c2 (l ++ l') ∧ w.grownBy w' (Value.slice A n c).ownBlock ∧ Below B w w' ∧
        ((Value.slice A2 (n + m) c2).ownBlock = (Value.slice A n c).ownBlock ∨ (Value.slice A2 (n + m) c2).ownBlock = some w.heap.size) := by
    rintro a rfl hnews
    obtain ⟨v', w', hrun, hown, hg, _, hat⟩ := run_append_own_at (P := Tryz.prog) w B 24 ty 5 i0 (.int .u8 0) 1 1 Tryz.underlying24 hi hz0 hz1 hz2 rfl (by omega) (.slice A n c) n _ h a m c' (l'.map (Value.int .u8))
      (by simp [hr.len]) hnews (one_bytes l') (by simp [maxLen]; omega) (by omega) hB
    rw [← List.map_append] at hown
    obtain ⟨A2, c2, rfl, ho⟩ := OwnB.form hown
    refine ⟨A2, c2, w', hrun, ho, hg, ⟨hg.os, hg.tape, hg.output, hg.size, fun k hk => hg.block k (by omega) (fun e => ?_)⟩, hat⟩
    rcases h.2 with ⟨e1, _⟩ | ⟨g, cap, cur, e1, hBg, _⟩
    · injection e1 with e1 e2 e3
      subst e1
      simp [Value.ownBlock] at e
    · injection e1 with e1 e2 e3
      subst e1
      simp [Value.ownBlock] at e
      omega
  rcases Nat.eq_zero_or_pos m with h0 | h0
  · subst h0
    have hl : l' = [] := List.eq_nil_of_length_eq_zero hr.len
    subst hl
    cases A' with
    | none =>
      refine ⟨A, c, w, ?_, by simpa using h, ⟨rfl, rfl, rfl, Nat.le_refl _, fun _ _ _ => rfl⟩, Below.refl _ _, .inl rfl⟩
      rcases h.2 with ⟨e, rfl⟩ | ⟨g, cap, cur, e, _, _, hnc, _⟩
      · injection e with e1 e2 e3
        subst e1; subst e3
        simp [Builtin.append_, run_underlying Tryz.underlying24, sizeOf, typeInfo, hi, Builtin.lenOf, Builtin.firstCells]
      · injection e with e1 e2 e3
        subst e1; subst e3
        simp [Builtin.append_, run_underlying Tryz.underlying24, sizeOf, typeInfo, hi, Builtin.lenOf, Builtin.firstCells, hnc, storeCells]
    | some a => exact key a rfl (by simp)
  · obtain ⟨b, o, rfl, _, hc⟩ := hr.at_ h0
    refine key _ rfl (fun j u hj => ?_)
    have hjm : j < l'.length := by
      have := (List.getElem?_eq_some_iff.1 hj).1
      simpa using this
    refine cell_add ?_
    rw [hc j (by have := hr.len; omega)]
    simp [List.getElem?_eq_getElem hjm] at hj
    simp [List.getD, List.getElem?_eq_getElem hjm, hj]

theorem wpList_app {ops : Array Oper} {rest : List Oper} {o : Oper} {a : Act} {w : World} {Q : Exit → Act → World → Prop} (hgd : o.guard = none) (s x : Operand)
    (ho : o.op = .call { callee := .builtin .append, args := #[s, x], argTypes := #[24, 24] })
    (B : Nat) (A A' : Option Addr) (n c m c' : Nat) (l l' : List Int) (hs : a.eval s = .slice A n c) (hx : a.eval x = .slice A' m c') (h : OwnB w B A n c l) (hr : Rd w A' m l') (hsz : n + m ≤ 140737488355328) (hB : B ≤ w.heap.size)
    (hk : ∀ A2 c2 w', OwnB w' B A2 (n + m) c2 (l ++ l') → w.grownBy w' (Value.slice A n c).ownBlock → Below B w w' → ((Value.slice A2 (n + m) c2).ownBlock = (Value.slice A n c).ownBlock ∨ (Value.slice A2 (n + m) c2).ownBlock = some w.heap.size) →
      wpList Tryz.prog ops Q rest (a.put o.dst (.slice A2 (n + m) c2)) w') : wpList Tryz.prog ops Q (o :: rest) a w := by
  refine wpList_plain hgd fun K hK => ?_
  obtain ⟨A2, c2, w', hrun, h1, h2, h3, h4⟩ := app_run w o.type B A A' n c m c' l l' h hr hsz hB
  unfold Oper.wp execOp
  simp only [ho, resolve, invoke, builtin, Sem.run_bind, Sem.run_pure, Result.andThen_ok, List.map_toArray, List.map_cons, List.map_nil, hs, hx, hrun]
  exact hK _ _ (hk A2 c2 w' h1 h2 h3 h4)

end Go.Proofs.YtoegfgbalcholaaGreat

/-
  A slice of bytes that the call itself made ('OwnB'): its cells, what leaves it as it is, one byte written; a row told ('RowIs'). No function of the program.
-/
namespace Go.Proofs.YtoegfgbalcholaaGreat
set_option maxRecDepth 10000
open Go.RowKit

theorem OwnB.addr {w : World} {B : Nat} {A : Option Addr} {n c : Nat} {l : List Int} (h : OwnB w B A n c l) (hn : 0 < n) : ∃ g, A = some ⟨g, 0, none⟩ ∧ B ≤ g ∧ g < w.heap.size := by
  rcases h.2 with ⟨_, rfl⟩ | ⟨g, cap, cur, e, hB, hg, _⟩
  · omega
  · injection e with e1 _ _
    refine ⟨g, e1, hB, ?_⟩
    rcases Nat.lt_or_ge g w.heap.size with h' | h'
    · exact h'
    · rw [Array.getElem?_eq_none h'] at hg; cases hg
theorem map_set_u8 (l : List Int) (j : Nat) (x : Int) : (l.map (Value.int .u8)).set j (.int .u8 x) = (l.set j x).map (Value.int .u8) := by rw [List.map_set]
theorem OwnB.set_ {w : World} {B g n c : Nat} {l : List Int} (h : OwnB w B (some ⟨g, 0, none⟩) n c l) (j : Nat) (x : Int) : OwnB (w.setCell ⟨g, j, none⟩ (.int .u8 x)) B (some ⟨g, 0, none⟩) n c (l.set j x) := by
  have := (World.ownsRow.stored h j (.int .u8 x)).1
  rw [map_set_u8] at this
  exact this
theorem OwnB.cell {w : World} {B g n c : Nat} {l : List Int} (h : OwnB w B (some ⟨g, 0, none⟩) n c l) (j : Nat) (hj : j < n) : w.cell? ⟨g, j, none⟩ = some (.int .u8 (l.getD j 0)) := by
  have hl := h.len
  rw [World.ownsRow.cellAt h j (by omega), List.getElem?_map, List.getElem?_eq_getElem (by omega)]
  simp [List.getD, List.getElem?_eq_getElem (show j < l.length by omega)]
theorem OwnB.below {w w' : World} {B B' : Nat} {A : Option Addr} {n c : Nat} {l : List Int} (h : OwnB w B A n c l) (hb : Below B' w w') (hg : ∀ g, A = some ⟨g, 0, none⟩ → g < B') : OwnB w' B A n c l := by
  refine ⟨h.1, ?_⟩
  rcases h.2 with h0 | ⟨g, cap, cur, e, hB, hc, hrest⟩
  · exact .inl h0
  · refine .inr ⟨g, cap, cur, e, hB, ?_, hrest⟩
    rw [hb.block g (hg g (by injection e))]
    exact hc

theorem OwnB.capMax {w : World} {B : Nat} {A : Option Addr} {n c : Nat} {l : List Int} (h : OwnB w B A n c l) : c ≤ maxLen := by
  rcases h.2 with ⟨e, _⟩ | ⟨g, cap, cur, e, _, _, _, hcm, _⟩
  · injection e with _ _ e3; subst e3; simp
  · injection e with _ _ e3; subst e3; exact hcm
/-- A row of the call's own, told with its length and its list by name. -/
def RowIs (m : Nat) (l : List Int) (w : World) (e : Ending) (w' : World) : Prop := ∃ A c, e = .returned (.slice A m c) ∧ m ≤ c ∧ c ≤ maxLen ∧ OwnB w' w.heap.size A m c l ∧ Below w.heap.size w w'
theorem OwnB.on {w w' : World} {B : Nat} {A : Option Addr} {n c : Nat} {l : List Int} (h : OwnB w B A n c l) (hb : Below w.heap.size w w') : OwnB w' B A n c l := by
  refine h.below hb (fun g e => ?_)
  rcases h.2 with ⟨e0, _⟩ | ⟨g', cap, cur, e1, _, hg, _⟩
  · injection e0 with e0 _ _; rw [e0] at e; cases e
  · injection e1 with e1 _ _
    rw [e1] at e
    injection e with e
    injection e with e
    subst e
    rcases Nat.lt_or_ge g' w.heap.size with h' | h'
    · exact h'
    · rw [Array.getElem?_eq_none h'] at hg; cases hg
theorem OwnB.drewN {w : World} {B : Nat} {A : Option Addr} {n c : Nat} {l : List Int} (h : OwnB w B A n c l) (k : Nat) : OwnB (w.drewN k) B A n c l := h

/-- What a law's round holds on to: nothing older has turned, and the row of its own is as the list says. -/
structure Hold (w : World) (A : Option Addr) (m c : Nat) (l : List Int) (wr : World) : Prop where
  old : Below w.heap.size w wr
  own : OwnB wr w.heap.size A m c l
theorem Hold.on {w : World} {A : Option Addr} {m c : Nat} {l : List Int} {wr w' : World} (h : Hold w A m c l wr) (hb : Below wr.heap.size wr w') : Hold w A m c l w' := ⟨below_trans h.old hb, h.own.on hb⟩
theorem Hold.drewN {w : World} {A : Option Addr} {m c : Nat} {l : List Int} {wr : World} (h : Hold w A m c l wr) (n : Nat) : Hold w A m c l (wr.drewN n) := ⟨⟨h.old.os, h.old.tape, h.old.output, h.old.size, h.old.block⟩, h.own⟩
theorem Hold.drawn {w : World} {A : Option Addr} {m c : Nat} {l : List Int} {wr : World} (h : Hold w A m c l wr) (n : Nat) : Hold w A m c l { wr with drawn := n } := ⟨⟨h.old.os, h.old.tape, h.old.output, h.old.size, h.old.block⟩, h.own⟩
theorem on_alloc {w w' : World} {o : Obj} (hb : Below (w.alloc o).heap.size (w.alloc o) w') : Below w.heap.size w w' := ((Below.refl _ _).alloc (Nat.le_refl _) _).trans (hb.mono (by simp))
theorem OwnB.mono {w : World} {B B' : Nat} {A : Option Addr} {n c : Nat} {l : List Int} (h : OwnB w B A n c l) (hB : B' ≤ B) : OwnB w B' A n c l := by
  refine ⟨h.1, ?_⟩
  rcases h.2 with h0 | ⟨g, cap, cur, e, hg, r⟩
  · exact .inl h0
  · exact .inr ⟨g, cap, cur, e, Nat.le_trans hB hg, r⟩

end Go.Proofs.YtoegfgbalcholaaGreat
