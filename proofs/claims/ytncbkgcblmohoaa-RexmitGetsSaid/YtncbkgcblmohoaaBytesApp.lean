/-
  append of bytes that read as a list ('Rd') onto a slice of bytes that the call itself made ('OwnB'): the source nil, empty or not.
-/
import Derived.Test.YtncbkgcblmohoaaRd
import Derived.Maps.AppendAt
import Derived.Laws.OwnMore
import Derived.BigFrame
namespace Go.Proofs.Ytncbkgcblmohoaa
set_option maxRecDepth 10000
open Go.RowKit

theorem info5 : (Try.prog.info? 5).map (fun i => (i.zero, i.size, i.bytes)) = some (some (.int .u8 0), 1, 1) := by kernel_rfl
theorem cell_add {w : World} {b o : Nat} {k : Nat} {v : Value} (h : w.cell? ⟨b, o + k, none⟩ = some v) : w.cell? ((⟨b, o, none⟩ : Addr).add k) = some v := by
  rw [Go.WideShapes.add_plain]; exact h

/-- '.slice A n c' is a slice of bytes that the call made, from block B on: it holds l. -/
def OwnB (w : World) (B : Nat) (A : Option Addr) (n c : Nat) (l : List Int) : Prop := w.ownsRow B 5 1 (.slice A n c) n (l.map (Value.int .u8))

theorem OwnB.len {w : World} {B : Nat} {A : Option Addr} {n c : Nat} {l : List Int} (h : OwnB w B A n c l) : l.length = n := by
  have := h.1
  simpa using this
theorem OwnB.cap {w : World} {B : Nat} {A : Option Addr} {n c : Nat} {l : List Int} (h : OwnB w B A n c l) : n ≤ c := by
  rcases h.2 with ⟨e, rfl⟩ | ⟨g, cap, cur, e, _, _, hnc, _⟩
  · exact Nat.zero_le _
  · injection e with _ _ e3
    omega
theorem OwnB.rd {w : World} {B : Nat} {A : Option Addr} {n c : Nat} {l : List Int} (h : OwnB w B A n c l) (hl : ∀ x ∈ l, 0 ≤ x ∧ x < 256) : Rd w A n l := by
  refine ⟨h.len, hl, fun hn => ?_⟩
  rcases h.2 with ⟨e, h0⟩ | ⟨g, cap, cur, e, _, hg, _, _, hcs, ht⟩
  · omega
  · injection e with e1 e2 e3
    subst e1
    refine ⟨g, 0, rfl, ?_, fun i hi => ?_⟩
    · rcases Nat.lt_or_ge g w.heap.size with h' | h'
      · exact h'
      · rw [Array.getElem?_eq_none h'] at hg; cases hg
    · have hlen := h.len
      have h1 : cur[i]? = (cur.toList.take (n * 1))[i]? := by
        rw [List.getElem?_take_of_lt (by omega), Array.getElem?_toList]
      rw [ht] at h1
      simp [World.cell?, hg, h1, List.getD, List.getElem?_eq_getElem (show i < l.length by omega)]
theorem OwnB.nil (w : World) (B : Nat) : OwnB w B none 0 0 [] := World.ownsRow_nil w B 5 1
/-- An empty literal, or 'make' with a capacity: nothing in it yet. -/
theorem OwnB.made {w : World} {B g cap : Nat} {cur : Array Value} (hg : w.heap[g]? = some (.cells cur 5 (0, 0))) (hB : B ≤ g) (hm : cap ≤ maxLen) (hc : cur.size = cap) : OwnB w B (some ⟨g, 0, none⟩) 0 cap [] :=
  ⟨rfl, .inr ⟨g, cap, cur, rfl, hB, hg, Nat.zero_le _, hm, by omega, by simp⟩⟩

theorem OwnB.alloc {w : World} {B : Nat} {A : Option Addr} {n c : Nat} {l : List Int} (h : OwnB w B A n c l) (o : Obj) : OwnB (w.alloc o) B A n c l := World.ownsRow.alloc h o
/-- A one-byte slice that the walk has just laid. -/
theorem Rd.one (w : World) (x : Int) (hx : 0 ≤ x ∧ x < 256) : Rd (w.alloc (.cells #[.int .u8 x] 5)) (some ⟨w.heap.size, 0, none⟩) 1 [x] := by
  have := Rd.row (w := w.alloc (.cells #[.int .u8 x] 5)) (g := w.heap.size) (l := [x]) (t := 5) (heap_alloc_new w _) (by simpa using hx)
  exact this

theorem OwnB.form {w : World} {B : Nat} {v : Value} {n : Nat} {l : List Int} (h : w.ownsRow B 5 1 v n (l.map (Value.int .u8))) : ∃ A c, v = .slice A n c ∧ OwnB w B A n c l := by
  rcases id h.2 with ⟨rfl, rfl⟩ | ⟨g, cap, cur, rfl, _⟩
  · exact ⟨none, 0, rfl, h⟩
  · exact ⟨_, _, rfl, h⟩

theorem one_bytes (l : List Int) : ∀ u ∈ l.map (Value.int .u8), u.oneCell' = true := by
  intro u hu
  obtain ⟨x, _, rfl⟩ := List.mem_map.1 hu
  rfl

theorem app_run (w : World) (ty : TypeId) (B : Nat) (A A' : Option Addr) (n c m c' : Nat) (l l' : List Int) (h : OwnB w B A n c l) (hr : Rd w A' m l') (hs : n + m ≤ 140737488355328) (hB : B ≤ w.heap.size) :
    ∃ A2 c2 w', (Builtin.append_ #[37, 37] ty #[.slice A n c, .slice A' m c']).run Try.prog w = .ok (.slice A2 (n + m) c2) w' ∧ OwnB w' B A2 (n + m) c2 (l ++ l') ∧ w.grownBy w' (Value.slice A n c).ownBlock ∧ Below B w w' ∧
      ((Value.slice A2 (n + m) c2).ownBlock = (Value.slice A n c).ownBlock ∨ (Value.slice A2 (n + m) c2).ownBlock = some w.heap.size) := by
  obtain ⟨i0, hi, hz0, hz1, hz2⟩ := info_parts info5
  have key : ∀ (a : Addr), A' = some a → (∀ j u, (l'.map (Value.int .u8))[j]? = some u → w.cell? (a.add j) = some u) →
      ∃ A2 c2 w', (Builtin.append_ #[37, 37] ty #[.slice A n c, .slice A' m c']).run Try.prog w = .ok (.slice A2 (n + m) c2) w' ∧ OwnB w' B A2 (n + m) c2 (l ++ l') ∧ w.grownBy w' (Value.slice A n c).ownBlock ∧ Below B w w' ∧
        ((Value.slice A2 (n + m) c2).ownBlock = (Value.slice A n c).ownBlock ∨ (Value.slice A2 (n + m) c2).ownBlock = some w.heap.size) := by
    rintro a rfl hnews
    obtain ⟨v', w', hrun, hown, hg, _, hat⟩ := run_append_own_at (P := Try.prog) w B 37 ty 5 i0 (.int .u8 0) 1 1 Try.underlying37 hi hz0 hz1 hz2 rfl (by omega) (.slice A n c) n _ h a m c' (l'.map (Value.int .u8))
      (by simp [hr.len]) hnews (one_bytes l') (by simp [maxLen]; omega) (by omega) hB
    rw [← List.map_append] at hown
    obtain ⟨A2, c2, rfl, ho⟩ := OwnB.form hown
    refine ⟨A2, c2, w', hrun, ho, hg, ⟨hg.os, hg.tape, hg.output, hg.size, fun k hk => hg.block k (by omega) (fun e => ?_)⟩, hat⟩
    rcases h.2 with ⟨e1, _⟩ | ⟨g, cap, cur, e1, hBg, _⟩
    · injection e1 with e1 e2 e3
      subst e1
      simp [Value.ownBlock] at e
    · injection e1 with e1 e2 e3
      subst e1
      simp [Value.ownBlock] at e
      omega
  rcases Nat.eq_zero_or_pos m with h0 | h0
  · subst h0
    have hl : l' = [] := List.eq_nil_of_length_eq_zero hr.len
    subst hl
    cases A' with
    | none =>
      refine ⟨A, c, w, ?_, by simpa using h, ⟨rfl, rfl, rfl, Nat.le_refl _, fun _ _ _ => rfl⟩, Below.refl _ _, .inl rfl⟩
      rcases h.2 with ⟨e, rfl⟩ | ⟨g, cap, cur, e, _, _, hnc, _⟩
      · injection e with e1 e2 e3
        subst e1; subst e3
        simp [Builtin.append_, run_underlying Try.underlying37, sizeOf, typeInfo, hi, Builtin.lenOf, Builtin.firstCells]
      · injection e with e1 e2 e3
        subst e1; subst e3
        simp [Builtin.append_, run_underlying Try.underlying37, sizeOf, typeInfo, hi, Builtin.lenOf, Builtin.firstCells, hnc, storeCells]
    | some a => exact key a rfl (by simp)
  · obtain ⟨b, o, rfl, _, hc⟩ := hr.at_ h0
    refine key _ rfl (fun j u hj => ?_)
    have hjm : j < l'.length := by
      have := (List.getElem?_eq_some_iff.1 hj).1
      simpa using this
    refine cell_add ?_
    rw [hc j (by have := hr.len; omega)]
    simp [List.getElem?_eq_getElem hjm] at hj
    simp [List.getD, List.getElem?_eq_getElem hjm, hj]

theorem wpList_app {ops : Array Oper} {rest : List Oper} {o : Oper} {a : Act} {w : World} {Q : Exit → Act → World → Prop} (hgd : o.guard = none) (s x : Operand)
    (ho : o.op = .call { callee := .builtin .append, args := #[s, x], argTypes := #[37, 37] })
    (B : Nat) (A A' : Option Addr) (n c m c' : Nat) (l l' : List Int) (hs : a.eval s = .slice A n c) (hx : a.eval x = .slice A' m c') (h : OwnB w B A n c l) (hr : Rd w A' m l') (hsz : n + m ≤ 140737488355328) (hB : B ≤ w.heap.size)
    (hk : ∀ A2 c2 w', OwnB w' B A2 (n + m) c2 (l ++ l') → w.grownBy w' (Value.slice A n c).ownBlock → Below B w w' → ((Value.slice A2 (n + m) c2).ownBlock = (Value.slice A n c).ownBlock ∨ (Value.slice A2 (n + m) c2).ownBlock = some w.heap.size) →
      wpList Try.prog ops Q rest (a.put o.dst (.slice A2 (n + m) c2)) w') : wpList Try.prog ops Q (o :: rest) a w := by
  refine wpList_plain hgd fun K hK => ?_
  obtain ⟨A2, c2, w', hrun, h1, h2, h3, h4⟩ := app_run w o.type B A A' n c m c' l l' h hr hsz hB
  unfold Oper.wp execOp
  simp only [ho, resolve, invoke, builtin, Sem.run_bind, Sem.run_pure, Result.andThen_ok, List.map_toArray, List.map_cons, List.map_nil, hs, hx, hrun]
  exact hK _ _ (hk A2 c2 w' h1 h2 h3 h4)

/-- The same under a guard that is decided. -/
theorem wpList_appG {ops : Array Oper} {rest : List Oper} {o : Oper} {a : Act} {w : World} {Q : Exit → Act → World → Prop} (hw : Region.wanted o (yielded ops a.tmps) = true) (s x : Operand)
    (ho : o.op = .call { callee := .builtin .append, args := #[s, x], argTypes := #[37, 37] })
    (B : Nat) (A A' : Option Addr) (n c m c' : Nat) (l l' : List Int) (hs : a.eval s = .slice A n c) (hx : a.eval x = .slice A' m c') (h : OwnB w B A n c l) (hr : Rd w A' m l') (hsz : n + m ≤ 140737488355328) (hB : B ≤ w.heap.size)
    (hk : ∀ A2 c2 w', OwnB w' B A2 (n + m) c2 (l ++ l') → w.grownBy w' (Value.slice A n c).ownBlock → Below B w w' → ((Value.slice A2 (n + m) c2).ownBlock = (Value.slice A n c).ownBlock ∨ (Value.slice A2 (n + m) c2).ownBlock = some w.heap.size) →
      wpList Try.prog ops Q rest (a.put o.dst (.slice A2 (n + m) c2)) w') : wpList Try.prog ops Q (o :: rest) a w := by
  refine BigFrame.wpList_want hw fun K hK => ?_
  obtain ⟨A2, c2, w', hrun, h1, h2, h3, h4⟩ := app_run w o.type B A A' n c m c' l l' h hr hsz hB
  unfold Oper.wp execOp
  simp only [ho, resolve, invoke, builtin, Sem.run_bind, Sem.run_pure, Result.andThen_ok, List.map_toArray, List.map_cons, List.map_nil, hs, hx, hrun]
  exact hK _ _ (hk A2 c2 w' h1 h2 h3 h4)

/-- An append at a step of a region that draws its order. -/
theorem step_app {ops : Array Oper} {o : Oper} {a : Act} {w : World} {K : Act → World → Prop} {Q : Exit → Act → World → Prop} {E : Prop} (hgd : o.guard = none) (s x : Operand)
    (ho : o.op = .call { callee := .builtin .append, args := #[s, x], argTypes := #[37, 37] })
    (B : Nat) (A A' : Option Addr) (n c m c' : Nat) (l l' : List Int) (N : Nat) (l2 : List Int) (hN : n + m = N) (hl : l ++ l' = l2) (hs : a.eval s = .slice A n c) (hx : a.eval x = .slice A' m c') (h : OwnB w B A n c l) (hr : Rd w A' m l') (hsz : n + m ≤ 140737488355328) (hB : B ≤ w.heap.size)
    (hk : ∀ A2 c2 w', OwnB w' B A2 N c2 l2 → w.grownBy w' (Value.slice A n c).ownBlock → Below B w w' → K (a.put o.dst (.slice A2 N c2)) w') :
    if Region.wanted o (yielded ops a.tmps) = true then Oper.wp Try.prog o a w K Q else E := by
  subst hN; subst hl
  have hw : Region.wanted o (yielded ops a.tmps) = true := by simp [Region.wanted, hgd]
  rw [if_pos hw]
  obtain ⟨A2, c2, w', hrun, h1, h2, h3, h4⟩ := app_run w o.type B A A' n c m c' l l' h hr hsz hB
  unfold Oper.wp execOp
  simp only [ho, resolve, invoke, builtin, Sem.run_bind, Sem.run_pure, Result.andThen_ok, List.map_toArray, List.map_cons, List.map_nil, hs, hx, hrun]
  exact hk A2 c2 w' h1 h2 h3

end Go.Proofs.Ytncbkgcblmohoaa
