/-
  Texts laid together: BytesApp, OwnRow, Pseudo, NatR.
-/
import Derived.Test.YtheknmihnkennaaGreatZB02
import Derived.Maps.AppendAt
import Derived.Laws.OwnMore
import Derived.BigFrame
import Derived.Test.YtheknmihnkennaaGreatZB03

/-
  append of bytes that read as a list ('Rd') onto a slice of bytes that the call itself made ('OwnB'): the source nil, empty or not.
-/
namespace Go.Proofs.YtheknmihnkennaaGreat
set_option maxRecDepth 10000
open Go.RowKit

theorem info5 : (Tryz.prog.info? 5).map (fun i => (i.zero, i.size, i.bytes)) = some (some (.int .u8 0), 1, 1) := by kernel_rfl
theorem cell_add {w : World} {b o : Nat} {k : Nat} {v : Value} (h : w.cell? ⟨b, o + k, none⟩ = some v) : w.cell? ((⟨b, o, none⟩ : Addr).add k) = some v := by
  rw [Go.WideShapes.add_plain]; exact h

/-- '.slice A n c' is a slice of bytes that the call made, from block B on: it holds l. -/
def OwnB (w : World) (B : Nat) (A : Option Addr) (n c : Nat) (l : List Int) : Prop := w.ownsRow B 5 1 (.slice A n c) n (l.map (Value.int .u8))

theorem OwnB.len {w : World} {B : Nat} {A : Option Addr} {n c : Nat} {l : List Int} (h : OwnB w B A n c l) : l.length = n := by
  have := h.1
  simpa using this
theorem OwnB.cap {w : World} {B : Nat} {A : Option Addr} {n c : Nat} {l : List Int} (h : OwnB w B A n c l) : n ≤ c := by
  rcases h.2 with ⟨e, rfl⟩ | ⟨g, cap, cur, e, _, _, hnc, _⟩
  · exact Nat.zero_le _
  · injection e with _ _ e3
    omega
theorem OwnB.rd {w : World} {B : Nat} {A : Option Addr} {n c : Nat} {l : List Int} (h : OwnB w B A n c l) (hl : ∀ x ∈ l, 0 ≤ x ∧ x < 256) : Rd w A n l := by
  refine ⟨h.len, hl, fun hn => ?_⟩
  rcases h.2 with ⟨e, h0⟩ | ⟨g, cap, cur, e, _, hg, _, _, hcs, ht⟩
  · omega
  · injection e with e1 e2 e3
    subst e1
    refine ⟨g, 0, rfl, ?_, fun i hi => ?_⟩
    · rcases Nat.lt_or_ge g w.heap.size with h' | h'
      · exact h'
      · rw [Array.getElem?_eq_none h'] at hg; cases hg
    · have hlen := h.len
      have h1 : cur[i]? = (cur.toList.take (n * 1))[i]? := by
        rw [List.getElem?_take_of_lt (by omega), Array.getElem?_toList]
      rw [ht] at h1
      simp [World.cell?, hg, h1, List.getD, List.getElem?_eq_getElem (show i < l.length by omega)]
theorem OwnB.nil (w : World) (B : Nat) : OwnB w B none 0 0 [] := World.ownsRow_nil w B 5 1
/-- An empty literal, or 'make' with a capacity: nothing in it yet. -/
theorem OwnB.made {w : World} {B g cap : Nat} {cur : Array Value} (hg : w.heap[g]? = some (.cells cur 5 (0, 0))) (hB : B ≤ g) (hm : cap ≤ maxLen) (hc : cur.size = cap) : OwnB w B (some ⟨g, 0, none⟩) 0 cap [] :=
  ⟨rfl, .inr ⟨g, cap, cur, rfl, hB, hg, Nat.zero_le _, hm, by omega, by simp⟩⟩

theorem OwnB.alloc {w : World} {B : Nat} {A : Option Addr} {n c : Nat} {l : List Int} (h : OwnB w B A n c l) (o : Obj) : OwnB (w.alloc o) B A n c l := World.ownsRow.alloc h o
/-- A one-byte slice that the walk has just laid. -/
theorem Rd.one (w : World) (x : Int) (hx : 0 ≤ x ∧ x < 256) : Rd (w.alloc (.cells #[.int .u8 x] 5)) (some ⟨w.heap.size, 0, none⟩) 1 [x] := by
  have := Rd.row (w := w.alloc (.cells #[.int .u8 x] 5)) (g := w.heap.size) (l := [x]) (t := 5) (heap_alloc_new w _) (by simpa using hx)
  exact this

theorem OwnB.form {w : World} {B : Nat} {v : Value} {n : Nat} {l : List Int} (h : w.ownsRow B 5 1 v n (l.map (Value.int .u8))) : ∃ A c, v = .slice A n c ∧ OwnB w B A n c l := by
  rcases id h.2 with ⟨rfl, rfl⟩ | ⟨g, cap, cur, rfl, _⟩
  · exact ⟨none, 0, rfl, h⟩
  · exact ⟨_, _, rfl, h⟩

theorem one_bytes (l : List Int) : ∀ u ∈ l.map (Value.int .u8), u.oneCell' = true := by
  intro u hu
  obtain ⟨x, _, rfl⟩ := List.mem_map.1 hu
  rfl

theorem app_run (w : World) (ty : TypeId) (B : Nat) (A A' : Option Addr) (n c m c' : Nat) (l l' : List Int) (h : OwnB w B A n c l) (hr : Rd w A' m l') (hs : n + m ≤ 140737488355328) (hB : B ≤ w.heap.size) :
    ∃ A2 c2 w', (Builtin.append_ #[22, 22] ty #[.slice A n c, .slice A' m c']).run Tryz.prog w = .ok (.slice A2 (n + m) c2) w' ∧ OwnB w' B A2 (n + m) c2 (l ++ l') ∧ w.grownBy w' (Value.slice A n c).ownBlock ∧ Below B w w' ∧
      ((Value.slice A2 (n + m) c2).ownBlock = (Value.slice A n c).ownBlock ∨ (Value.slice A2 (n + m) c2).ownBlock = some w.heap.size) := by
  obtain ⟨i0, hi, hz0, hz1, hz2⟩ := info_parts info5
  have key : ∀ (a : Addr), A' = some a → (∀ j u, (l'.map (Value.int .u8))[j]? = some u → w.cell? (a.add j) = some u) →
      ∃ A2 c2 w', (Builtin.append_ #[22, 22] ty #[.slice A n c, .slice A' m c']).run Tryz.prog w = .ok (.slice A2 (n + m) c2) w' ∧ OwnB w' B A2 (n + m) c2 (l ++ l') ∧ w.grownBy w' (Value.slice A n c).ownBlock ∧ Below B w w' ∧
        ((Value.slice A2 (n + m) c2).ownBlock = (Value.slice A n c).ownBlock ∨ (Value.slice A2 (n + m) c2).ownBlock = some w.heap.size) := by
    rintro a rfl hnews
    obtain ⟨v', w', hrun, hown, hg, _, hat⟩ := run_append_own_at (P := Tryz.prog) w B 22 ty 5 i0 (.int .u8 0) 1 1 Tryz.underlying22 hi hz0 hz1 hz2 rfl (by omega) (.slice A n c) n _ h a m c' (l'.map (Value.int .u8))
      (by simp [hr.len]) hnews (one_bytes l') (by simp [maxLen]; omega) (by omega) hB
    rw [← List.map_append] at hown
    obtain ⟨A2, c2, rfl, ho⟩ := OwnB.form hown
    refine ⟨A2, c2, w', hrun, ho, hg, ⟨hg.os, hg.tape, hg.output, hg.size, fun k hk => hg.block k (by omega) (fun e => ?_)⟩, hat⟩
    rcases h.2 with ⟨e1, _⟩ | ⟨g, cap, cur, e1, hBg, _⟩
    · injection e1 with e1 e2 e3
      subst e1
      simp [Value.ownBlock] at e
    · injection e1 with e1 e2 e3
      subst e1
      simp [Value.ownBlock] at e
      omega
  rcases Nat.eq_zero_or_pos m with h0 | h0
  · subst h0
    have hl : l' = [] := List.eq_nil_of_length_eq_zero hr.len
    subst hl
    cases A' with
    | none =>
      refine ⟨A, c, w, ?_, by simpa using h, ⟨rfl, rfl, rfl, Nat.le_refl _, fun _ _ _ => rfl⟩, Below.refl _ _, .inl rfl⟩
      rcases h.2 with ⟨e, rfl⟩ | ⟨g, cap, cur, e, _, _, hnc, _⟩
      · injection e with e1 e2 e3
        subst e1; subst e3
        simp [Builtin.append_, run_underlying Tryz.underlying22, sizeOf, typeInfo, hi, Builtin.lenOf, Builtin.firstCells]
      · injection e with e1 e2 e3
        subst e1; subst e3
        simp [Builtin.append_, run_underlying Tryz.underlying22, sizeOf, typeInfo, hi, Builtin.lenOf, Builtin.firstCells, hnc, storeCells]
    | some a => exact key a rfl (by simp)
  · obtain ⟨b, o, rfl, _, hc⟩ := hr.at_ h0
    refine key _ rfl (fun j u hj => ?_)
    have hjm : j < l'.length := by
      have := (List.getElem?_eq_some_iff.1 hj).1
      simpa using this
    refine cell_add ?_
    rw [hc j (by have := hr.len; omega)]
    simp [List.getElem?_eq_getElem hjm] at hj
    simp [List.getD, List.getElem?_eq_getElem hjm, hj]

theorem wpList_app {ops : Array Oper} {rest : List Oper} {o : Oper} {a : Act} {w : World} {Q : Exit → Act → World → Prop} (hgd : o.guard = none) (s x : Operand)
    (ho : o.op = .call { callee := .builtin .append, args := #[s, x], argTypes := #[22, 22] })
    (B : Nat) (A A' : Option Addr) (n c m c' : Nat) (l l' : List Int) (hs : a.eval s = .slice A n c) (hx : a.eval x = .slice A' m c') (h : OwnB w B A n c l) (hr : Rd w A' m l') (hsz : n + m ≤ 140737488355328) (hB : B ≤ w.heap.size)
    (hk : ∀ A2 c2 w', OwnB w' B A2 (n + m) c2 (l ++ l') → w.grownBy w' (Value.slice A n c).ownBlock → Below B w w' → ((Value.slice A2 (n + m) c2).ownBlock = (Value.slice A n c).ownBlock ∨ (Value.slice A2 (n + m) c2).ownBlock = some w.heap.size) →
      wpList Tryz.prog ops Q rest (a.put o.dst (.slice A2 (n + m) c2)) w') : wpList Tryz.prog ops Q (o :: rest) a w := by
  refine wpList_plain hgd fun K hK => ?_
  obtain ⟨A2, c2, w', hrun, h1, h2, h3, h4⟩ := app_run w o.type B A A' n c m c' l l' h hr hsz hB
  unfold Oper.wp execOp
  simp only [ho, resolve, invoke, builtin, Sem.run_bind, Sem.run_pure, Result.andThen_ok, List.map_toArray, List.map_cons, List.map_nil, hs, hx, hrun]
  exact hK _ _ (hk A2 c2 w' h1 h2 h3 h4)

end Go.Proofs.YtheknmihnkennaaGreat

/-
  A slice of bytes that the call itself made ('OwnB'): its cells, what leaves it as it is, one byte written; a row told ('RowIs'). No function of the program.
-/
namespace Go.Proofs.YtheknmihnkennaaGreat
set_option maxRecDepth 10000
open Go.RowKit

theorem OwnB.addr {w : World} {B : Nat} {A : Option Addr} {n c : Nat} {l : List Int} (h : OwnB w B A n c l) (hn : 0 < n) : ∃ g, A = some ⟨g, 0, none⟩ ∧ B ≤ g ∧ g < w.heap.size := by
  rcases h.2 with ⟨_, rfl⟩ | ⟨g, cap, cur, e, hB, hg, _⟩
  · omega
  · injection e with e1 _ _
    refine ⟨g, e1, hB, ?_⟩
    rcases Nat.lt_or_ge g w.heap.size with h' | h'
    · exact h'
    · rw [Array.getElem?_eq_none h'] at hg; cases hg
theorem map_set_u8 (l : List Int) (j : Nat) (x : Int) : (l.map (Value.int .u8)).set j (.int .u8 x) = (l.set j x).map (Value.int .u8) := by rw [List.map_set]
theorem OwnB.set_ {w : World} {B g n c : Nat} {l : List Int} (h : OwnB w B (some ⟨g, 0, none⟩) n c l) (j : Nat) (x : Int) : OwnB (w.setCell ⟨g, j, none⟩ (.int .u8 x)) B (some ⟨g, 0, none⟩) n c (l.set j x) := by
  have := (World.ownsRow.stored h j (.int .u8 x)).1
  rw [map_set_u8] at this
  exact this
theorem OwnB.cell {w : World} {B g n c : Nat} {l : List Int} (h : OwnB w B (some ⟨g, 0, none⟩) n c l) (j : Nat) (hj : j < n) : w.cell? ⟨g, j, none⟩ = some (.int .u8 (l.getD j 0)) := by
  have hl := h.len
  rw [World.ownsRow.cellAt h j (by omega), List.getElem?_map, List.getElem?_eq_getElem (by omega)]
  simp [List.getD, List.getElem?_eq_getElem (show j < l.length by omega)]
theorem OwnB.below {w w' : World} {B B' : Nat} {A : Option Addr} {n c : Nat} {l : List Int} (h : OwnB w B A n c l) (hb : Below B' w w') (hg : ∀ g, A = some ⟨g, 0, none⟩ → g < B') : OwnB w' B A n c l := by
  refine ⟨h.1, ?_⟩
  rcases h.2 with h0 | ⟨g, cap, cur, e, hB, hc, hrest⟩
  · exact .inl h0
  · refine .inr ⟨g, cap, cur, e, hB, ?_, hrest⟩
    rw [hb.block g (hg g (by injection e))]
    exact hc

theorem OwnB.capMax {w : World} {B : Nat} {A : Option Addr} {n c : Nat} {l : List Int} (h : OwnB w B A n c l) : c ≤ maxLen := by
  rcases h.2 with ⟨e, _⟩ | ⟨g, cap, cur, e, _, _, _, hcm, _⟩
  · injection e with _ _ e3; subst e3; simp
  · injection e with _ _ e3; subst e3; exact hcm
/-- A row of the call's own, told with its length and its list by name. -/
def RowIs (m : Nat) (l : List Int) (w : World) (e : Ending) (w' : World) : Prop := ∃ A c, e = .returned (.slice A m c) ∧ m ≤ c ∧ c ≤ maxLen ∧ OwnB w' w.heap.size A m c l ∧ Below w.heap.size w w'
theorem OwnB.on {w w' : World} {B : Nat} {A : Option Addr} {n c : Nat} {l : List Int} (h : OwnB w B A n c l) (hb : Below w.heap.size w w') : OwnB w' B A n c l := by
  refine h.below hb (fun g e => ?_)
  rcases h.2 with ⟨e0, _⟩ | ⟨g', cap, cur, e1, _, hg, _⟩
  · injection e0 with e0 _ _; rw [e0] at e; cases e
  · injection e1 with e1 _ _
    rw [e1] at e
    injection e with e
    injection e with e
    subst e
    rcases Nat.lt_or_ge g' w.heap.size with h' | h'
    · exact h'
    · rw [Array.getElem?_eq_none h'] at hg; cases hg
/-- What a law's round holds on to: nothing older has turned, and the row of its own is as the list says. -/
structure Hold (w : World) (A : Option Addr) (m c : Nat) (l : List Int) (wr : World) : Prop where
  old : Below w.heap.size w wr
  own : OwnB wr w.heap.size A m c l
theorem Hold.on {w : World} {A : Option Addr} {m c : Nat} {l : List Int} {wr w' : World} (h : Hold w A m c l wr) (hb : Below wr.heap.size wr w') : Hold w A m c l w' := ⟨below_trans h.old hb, h.own.on hb⟩
theorem Hold.drawn {w : World} {A : Option Addr} {m c : Nat} {l : List Int} {wr : World} (h : Hold w A m c l wr) (n : Nat) : Hold w A m c l { wr with drawn := n } := ⟨⟨h.old.os, h.old.tape, h.old.output, h.old.size, h.old.block⟩, h.own⟩
theorem on_alloc {w w' : World} {o : Obj} (hb : Below (w.alloc o).heap.size (w.alloc o) w') : Below w.heap.size w w' := ((Below.refl _ _).alloc (Nat.le_refl _) _).trans (hb.mono (by simp))
theorem OwnB.mono {w : World} {B B' : Nat} {A : Option Addr} {n c : Nat} {l : List Int} (h : OwnB w B A n c l) (hB : B' ≤ B) : OwnB w B' A n c l := by
  refine ⟨h.1, ?_⟩
  rcases h.2 with h0 | ⟨g, cap, cur, e, hg, r⟩
  · exact .inl h0
  · exact .inr ⟨g, cap, cur, e, Nat.le_trans hB hg, r⟩

end Go.Proofs.YtheknmihnkennaaGreat

/-
  The twelve bytes of the pseudo header, in a row of the call's own: the document's Pseudo (culvertref02); package sum's. (For the stages behind sum's: in place of SumPseudo, whose names clash with wire's.)
-/
namespace Go.Proofs.YtheknmihnkennaaGreat
set_option maxRecDepth 10000
open Go.RowKit

def pseudoL (s d p n : Int) : List Int :=
  [s / 16777216 % 256, s / 65536 % 256, s / 256 % 256, s % 256, d / 16777216 % 256, d / 65536 % 256, d / 256 % 256, d % 256, 0, p, n / 256 % 256, n % 256]
theorem pseudo_byte (s d p n : Int) (hp : 0 ≤ p ∧ p < 256) : ∀ x ∈ pseudoL s d p n, 0 ≤ x ∧ x < 256 := by
  intro x hx
  simp only [pseudoL, List.mem_cons, List.mem_nil_iff, or_false] at hx
  omega
theorem pseudo_any (s d p n : Int) (w : World) (_hp : 0 ≤ p ∧ p < 256) :
    Calls Tryz.prog 79 #[.int .u32 s, .int .u32 d, .int .u8 p, .int .i64 n] w (RowIs 12 (pseudoL s d p n) w) := by
  go_enter Tryz.func79, Tryz.ntmps79
  go_wp2_with fail
  go_ret
  refine ⟨_, _, rfl, by omega, by simp [maxLen], ⟨rfl, .inr ⟨_, 12, _, rfl, Nat.le_refl _, heap_alloc_new w _, by omega, by simp [maxLen], rfl, rfl⟩⟩, (Below.refl _ _).alloc (Nat.le_refl _) _⟩

end Go.Proofs.YtheknmihnkennaaGreat

/-
  What is rewritten is a packet still (stage 15, written ahead): plain lists. Its header is right, its payload's sum, its other parts.
-/
namespace Go.Proofs.YtheknmihnkennaaGreat
set_option maxRecDepth 10000
set_option linter.unusedSimpArgs false
set_option linter.unusedVariables false

theorem sumL_full {l : List Int} : sumL l = 65535 ↔ 0 < ws false l ∧ ws false l % 65535 = 0 := by
  unfold sumL fold16
  constructor
  · intro h
    split at h
    · omega
    · exact ⟨by omega, by omega⟩
  · rintro ⟨h1, h2⟩
    rw [if_neg (by omega)]
    omega
theorem ws_pos {l : List Int} (hb : Bytes l) {i : Nat} (h : l.getD i 0 ≠ 0) : 0 < ws false l := by
  have h1 := ws_nn l hb false
  rcases Int.lt_or_le 0 (ws false l) with h2 | h2
  · exact h2
  · have h3 : ws false l = 0 := by omega
    have hil : i < l.length := by
      rcases Nat.lt_or_ge i l.length with h4 | h4
      · exact h4
      · exact absurd (by simp [List.getD, List.getElem?_eq_none h4]) h
    exact absurd ((ws_zero hb false).1 h3 i hil) h
theorem Bytes.take {l : List Int} (h : Bytes l) (m : Nat) : Bytes (l.take m) := fun x hx => h x (List.mem_of_mem_take hx)
theorem Bytes.drop {l : List Int} (h : Bytes l) (m : Nat) : Bytes (l.drop m) := fun x hx => h x (List.mem_of_mem_drop hx)
theorem errIp_parts (b : List Int) : errIp b = 0 ↔ b.length ≤ 1500 ∧ 20 ≤ b.length ∧ b.getD 0 0 / 16 = 4 ∧ 20 ≤ hdrL b ∧ hdrL b ≤ b.length ∧ longL b = b.length ∧ sumL (b.take (hdrL b).toNat) = 65535 ∧ flagsL b < 32768 ∧ flagsL b % 16384 = 0 ∧ b.getD 8 0 ≠ 0 := by
  unfold errIp
  by_cases h1 : 1500 < b.length
  · rw [if_pos h1]
    constructor
    · intro h; omega
    · intro h; omega
  · rw [if_neg h1]
    by_cases h2 : b.length < 20
    · rw [if_pos h2]
      constructor
      · intro h; omega
      · intro h; omega
    · rw [if_neg h2]
      unfold faultsIp
      rw [ask7]
      simp only [Bool.or_eq_false_iff, decide_eq_false_iff_not, Bool.not_eq_false', beq_iff_eq]
      omega
/-- Where a packet's words stand. -/
structure PkW (H : Nat) (b : List Int) : Prop where
  ok : errIp b = 0
  byte : Bytes b
  hH : (hdrL b).toNat = 2 * H
theorem PkW.of {b : List Int} (h : errIp b = 0) (hb : Bytes b) : PkW (2 * (b.getD 0 0 % 16).toNat) b := ⟨h, hb, by unfold hdrL; omega⟩
theorem PkW.ten {H : Nat} {b : List Int} (h : PkW H b) : 10 ≤ H ∧ 2 * H ≤ b.length := by
  have := (errIp_parts b).1 h.ok
  have := h.hH
  omega
theorem PkW.kept {pr : Int} {H F : Nat} {b b' : List Int} (h : PkW H b) (hs : SameW pr H F b b') (hi : ∀ i, i < 8 → b'.getD i 0 = b.getD i 0) (h8 : b'.getD 8 0 ≠ 0) : PkW H b' := by
  obtain ⟨g1, g2, g3, g4, g5, g6, g7, g8, g9, g10⟩ := (errIp_parts b).1 h.ok
  have e0 := hi 0 (by omega)
  have eh : hdrL b' = hdrL b := by unfold hdrL; rw [e0]
  have el : longL b' = longL b := by unfold longL; rw [hi 2 (by omega), hi 3 (by omega)]
  have ef : flagsL b' = flagsL b := by unfold flagsL; rw [hi 6 (by omega), hi 7 (by omega)]
  have hln := hs.len
  refine ⟨(errIp_parts b').2 ⟨by omega, by omega, by rw [e0]; exact g3, by omega, by omega, by rw [el, hln]; exact g6, ?_, by omega, by omega, h8⟩, hs.lay.byte, by rw [eh]; exact h.hH⟩
  rw [eh, h.hH]
  rw [h.hH] at g7
  obtain ⟨s1, s2⟩ := sumL_full.1 g7
  refine sumL_full.2 ⟨?_, by have := hs.h; omega⟩
  refine ws_pos (hs.lay.byte.take _) (i := 0) ?_
  have := h.ten
  rw [getD_takeW _ _ _ (by omega), e0]
  omega
def srW (b : List Int) : Int := wordL b 6 * 65536 + wordL b 7
def dsW (b : List Int) : Int := wordL b 8 * 65536 + wordL b 9
theorem ws_pseudoW {b : List Int} (hb : Bytes b) (p n : Int) (hp : 0 ≤ p ∧ p < 256) : ws false (pseudoL (srW b) (dsW b) p n) = adW b + p + (n / 256 % 256 * 256 + n % 256) := by
  have h6 := wordL_bd hb 6
  have h7 := wordL_bd hb 7
  have h8 := wordL_bd hb 8
  have h9 := wordL_bd hb 9
  unfold U16 at h6 h7 h8 h9
  unfold srW dsW adW pseudoL
  simp only [ws]
  omega
/-- The payload's sum, with the addresses, stays right. -/
theorem load_kept {pr : Int} {H F : Nat} {b b' : List Int} (hp1 : pr ≠ 1) (hp : 0 < pr ∧ pr < 256) (hs : SameW pr H F b b') (hb : Bytes b) (n : Int) (hz : ¬ (pr = 17 ∧ wordL b F = 0)) (h : sumL (pseudoL (srW b) (dsW b) pr n ++ b.drop (2 * H)) = 65535) :
    sumL (pseudoL (srW b') (dsW b') pr n ++ b'.drop (2 * H)) = 65535 := by
  have hev : ∀ s d : Int, (pseudoL s d pr n).length % 2 = 0 := by intro s d; simp [pseudoL]
  obtain ⟨h1, h2⟩ := sumL_full.1 h
  rw [ws_even _ _ (hev _ _), ws_pseudoW hb pr n ⟨by omega, hp.2⟩] at h1 h2
  have hb' := hs.lay.byte
  refine sumL_full.2 ?_
  rw [ws_even _ _ (hev _ _), ws_pseudoW hb' pr n ⟨by omega, hp.2⟩]
  have hpp := hs.p hz
  unfold totW at hpp
  rw [if_neg hp1, if_neg hp1] at hpp
  have hn := ws_nn (b'.drop (2 * H)) (hb'.drop _) false
  have ha : 0 ≤ adW b' := by
    have h6 := wordL_bd hb' 6
    have h7 := wordL_bd hb' 7
    have h8 := wordL_bd hb' 8
    have h9 := wordL_bd hb' 9
    unfold U16 at h6 h7 h8 h9
    unfold adW
    omega
  have h3 : 0 ≤ n / 256 % 256 * 256 + n % 256 := by omega
  exact ⟨by omega, by omega⟩
/-- The same of a payload that is summed alone (Icmp). -/
theorem load_kept1 {H F : Nat} {b b' : List Int} (hs : SameW 1 H F b b') (h : sumL (b.drop (2 * H)) = 65535) : sumL (b'.drop (2 * H)) = 65535 := by
  rcases hs.i rfl with e | e
  · rw [e]; exact h
  · obtain ⟨h1, h2⟩ := sumL_full.1 h
    have hpp := hs.p (fun hc => absurd hc.1 (by decide))
    unfold totW at hpp
    rw [if_pos rfl, if_pos rfl] at hpp
    refine sumL_full.2 ⟨?_, by omega⟩
    have hF := hs.lay.hF
    have hd := hs.lay.byte.drop (2 * H)
    have : (b'.drop (2 * H)).getD (2 * (F - H)) 0 ≠ 0 ∨ (b'.drop (2 * H)).getD (2 * (F - H) + 1) 0 ≠ 0 := by
      rw [← wordL_drop b' F H hF] at e
      unfold wordL at e
      rcases Classical.em ((b'.drop (2 * H)).getD (2 * (F - H)) 0 = 0) with h3 | h3
      · rcases Classical.em ((b'.drop (2 * H)).getD (2 * (F - H) + 1) 0 = 0) with h4 | h4
        · rw [h3, h4] at e; omega
        · exact .inr h4
      · exact .inl h3
    rcases this with h3 | h3
    · exact ws_pos hd h3
    · exact ws_pos hd h3
end Go.Proofs.YtheknmihnkennaaGreat
