/-
  Slices of numbers of one kind, from any place of their block on ('Sl'): read, written, cut at the front, appended to, cloned. No function of the program.
-/
import Derived.Test.YtncbkgcblmohoaaBut
import Derived.Deep.AppendSrc
namespace Go.Proofs.Ytncbkgcblmohoaa
set_option maxRecDepth 10000
open Go.RowKit

/-- Block g holds from o on the numbers of l, room for c in all. -/
def Row (w : World) (T : TypeId) (k : IntKind) (g o : Nat) (l : List Int) (c : Nat) : Prop :=
  ∃ C, w.heap[g]? = some (.cells C T (0, 0)) ∧ o + c ≤ C.size ∧ l.length ≤ c ∧ c ≤ maxLen ∧ ∀ i, i < l.length → C[o + i]? = some (.int k (l.getD i 0))
/-- A slice that is none, or lies so in block g. -/
def Sl (w : World) (T : TypeId) (k : IntKind) (v : Value) (l : List Int) : Prop :=
  (v = .slice none 0 0 ∧ l = []) ∨ ∃ g o c, v = .slice (some ⟨g, o, none⟩) l.length c ∧ Row w T k g o l c

theorem Row.lt {w : World} {T : TypeId} {k : IntKind} {g o : Nat} {l : List Int} {c : Nat} (h : Row w T k g o l c) : g < w.heap.size := by
  obtain ⟨C, hg, _⟩ := h
  exact lt_of_block hg
theorem Row.cell {w : World} {T : TypeId} {k : IntKind} {g o : Nat} {l : List Int} {c : Nat} (h : Row w T k g o l c) {i : Nat} (hi : i < l.length) : w.cell? ⟨g, o + i, none⟩ = some (.int k (l.getD i 0)) := by
  obtain ⟨C, hg, _, _, _, hc⟩ := h
  rw [blk_cell hg]
  exact hc i hi
theorem Row.free {w : World} {T : TypeId} {k : IntKind} {g o : Nat} {l : List Int} {c : Nat} (h : Row w T k g o l c) (i : Nat) : w.frozen? ⟨g, i, none⟩ = false := by
  obtain ⟨C, hg, _⟩ := h
  exact blk_free hg i
theorem Row.there {w : World} {T : TypeId} {k : IntKind} {g o : Nat} {l : List Int} {c : Nat} (h : Row w T k g o l c) {i : Nat} (hi : i < c) : (w.cell? ⟨g, o + i, none⟩).isSome = true := by
  obtain ⟨C, hg, hC, _⟩ := h
  rw [blk_cell hg, Array.getElem?_eq_getElem (by omega)]
  rfl
theorem Row.of_block {w w' : World} {T : TypeId} {k : IntKind} {g o : Nat} {l : List Int} {c : Nat} (h : Row w T k g o l c) (hb : w'.heap[g]? = w.heap[g]?) : Row w' T k g o l c := by
  obtain ⟨C, hg, hr⟩ := h
  exact ⟨C, hb.trans hg, hr⟩
theorem Row.but {S : Nat → Prop} {w w' : World} {T : TypeId} {k : IntKind} {g o : Nat} {l : List Int} {c : Nat} (h : Row w T k g o l c) (hb : But S w w') (hn : ¬ S g) : Row w' T k g o l c :=
  h.of_block (hb.block g h.lt hn)
theorem heap_setCell_at {w : World} {g : Nat} {C : Array Value} {T : TypeId} {fr : Nat × Nat} (h : w.heap[g]? = some (.cells C T fr)) (j : Nat) (u : Value) : (w.setCell ⟨g, j, none⟩ u).heap[g]? = some (.cells (C.setIfInBounds j u) T fr) := by
  unfold World.setCell
  simp [Array.getElem?_modify, h]
theorem Row.set_ {w : World} {T : TypeId} {k : IntKind} {g o : Nat} {l : List Int} {c : Nat} (h : Row w T k g o l c) (j : Nat) (x : Int) : Row (w.setCell ⟨g, o + j, none⟩ (.int k x)) T k g o (l.set j x) c := by
  obtain ⟨C, hg, hC, hl, hm, hc⟩ := h
  refine ⟨_, heap_setCell_at hg _ _, by simpa using hC, by simpa using hl, hm, fun i hi => ?_⟩
  simp only [List.length_set] at hi
  have hci := hc i hi
  by_cases e : j = i
  · subst e
    simp [List.getD, hi, (show o + j < C.size by omega)]
  · rw [Array.getElem?_setIfInBounds_ne (by omega), hci]
    simp [List.getD, List.getElem?_set_ne e]
theorem Row.tail {w : World} {T : TypeId} {k : IntKind} {g o : Nat} {x : Int} {l : List Int} {c : Nat} (h : Row w T k g o (x :: l) c) : Row w T k g (o + 1) l (c - 1) := by
  obtain ⟨C, hg, hC, hl, hm, hc⟩ := h
  simp only [List.length_cons] at hl hc
  refine ⟨C, hg, by omega, by omega, by omega, fun i hi => ?_⟩
  have := hc (i + 1) (by omega)
  rw [show o + 1 + i = o + (i + 1) by omega, this]
  rfl
theorem Row.bare {w : World} {T : TypeId} {k : IntKind} {g o : Nat} {l : List Int} {c : Nat} (h : Row w T k g o l c) : Row w T k g o [] 0 := by
  obtain ⟨C, hg, hC, hl, hm, hc⟩ := h
  exact ⟨C, hg, by omega, by simp, by simp [maxLen], fun i hi => by simp at hi⟩

theorem Sl.nil (w : World) (T : TypeId) (k : IntKind) : Sl w T k (.slice none 0 0) [] := .inl ⟨rfl, rfl⟩
theorem Sl.form {w : World} {T : TypeId} {k : IntKind} {v : Value} {l : List Int} (h : Sl w T k v l) : ∃ A c, v = .slice A l.length c ∧ (0 < l.length → ∃ g o, A = some ⟨g, o, none⟩ ∧ Row w T k g o l c) := by
  rcases h with ⟨rfl, rfl⟩ | ⟨g, o, c, rfl, h⟩
  · exact ⟨_, _, rfl, fun h => by simp at h⟩
  · exact ⟨_, _, rfl, fun _ => ⟨g, o, rfl, h⟩⟩
theorem Sl.but {S : Nat → Prop} {w w' : World} {T : TypeId} {k : IntKind} {v : Value} {l : List Int} (h : Sl w T k v l) (hb : But S w w') (hn : ∀ g, v.ownBlock = some g → ¬ S g) : Sl w' T k v l := by
  rcases h with h | ⟨g, o, c, rfl, h⟩
  · exact .inl h
  · exact .inr ⟨g, o, c, rfl, h.but hb (hn g rfl)⟩
theorem Sl.lt {w : World} {T : TypeId} {k : IntKind} {v : Value} {l : List Int} (h : Sl w T k v l) {g : Nat} (hg : v.ownBlock = some g) : g < w.heap.size := by
  rcases h with ⟨rfl, _⟩ | ⟨g', o, c, rfl, h⟩
  · cases hg
  · injection hg with e
    subst e
    exact h.lt
/-- Its block has the elements' type. -/
theorem Sl.type {w : World} {T : TypeId} {k : IntKind} {v : Value} {l : List Int} (h : Sl w T k v l) {g : Nat} (hg : v.ownBlock = some g) : ∃ C, w.heap[g]? = some (.cells C T (0, 0)) := by
  rcases h with ⟨rfl, _⟩ | ⟨g', o, c, rfl, h⟩
  · cases hg
  · injection hg with e
    subst e
    obtain ⟨C, hC, _⟩ := h
    exact ⟨C, hC⟩
theorem Row.one {w : World} (T : TypeId) (k : IntKind) (x : Int) (g : Nat) (hg : w.heap.size = g) : Sl (w.alloc (.cells #[.int k x] T)) T k (.slice (some ⟨g, 0, none⟩) 1 1) [x] := by
  subst hg
  refine .inr ⟨_, 0, 1, rfl, _, heap_alloc_new w _, by simp, by simp, by simp [maxLen], fun i hi => ?_⟩
  simp at hi
  subst hi
  rfl
theorem Row.empty {w : World} (T : TypeId) (k : IntKind) (g : Nat) (hg : w.heap.size = g) : Sl (w.alloc (.cells #[] T)) T k (.slice (some ⟨g, 0, none⟩) 0 0) [] := by
  subst hg
  exact .inr ⟨_, 0, 0, rfl, _, heap_alloc_new w _, by simp, by simp, by simp [maxLen], fun i hi => by simp at hi⟩

theorem setCells_row {w : World} {T : TypeId} {k : IntKind} {g o c : Nat} {l : List Int} (h : Row w T k g o l c) : ∀ (l2 : List Int), l.length + l2.length ≤ c → Row (w.setCells g (o + l.length) (l2.map (Value.int k))) T k g o (l ++ l2) c ∧ (∀ b, b ≠ g → (w.setCells g (o + l.length) (l2.map (Value.int k))).heap[b]? = w.heap[b]?) ∧
    (w.setCells g (o + l.length) (l2.map (Value.int k))).heap.size = w.heap.size ∧ (w.setCells g (o + l.length) (l2.map (Value.int k))).os = w.os ∧ (w.setCells g (o + l.length) (l2.map (Value.int k))).tape = w.tape ∧ (w.setCells g (o + l.length) (l2.map (Value.int k))).output = w.output := by
  intro l2
  induction l2 generalizing w l with
  | nil => intro _; exact ⟨by simpa [World.setCells] using h, fun _ _ => rfl, rfl, rfl, rfl, rfl⟩
  | cons x l2 ih =>
    intro hc
    simp only [List.length_cons] at hc
    have h1 : Row (w.setCell ⟨g, o + l.length, none⟩ (.int k x)) T k g o (l ++ [x]) c := by
      obtain ⟨C, hg, hC, hl, hm, hcl⟩ := h
      refine ⟨_, heap_setCell_at hg _ _, by simpa using hC, by simp; omega, hm, fun i hi => ?_⟩
      simp only [List.length_append, List.length_cons, List.length_nil] at hi
      by_cases e : i = l.length
      · subst e
        simp [List.getD, (show o + l.length < C.size by omega)]
      · rw [Array.getElem?_setIfInBounds_ne (by omega), hcl i (by omega)]
        simp [List.getD, List.getElem?_append_left (show i < l.length by omega)]
    have := ih h1 (by simp; omega)
    simp only [List.length_append, List.length_cons, List.length_nil, Nat.zero_add, List.append_assoc, List.cons_append, List.nil_append] at this
    rw [show o + (l.length + 1) = o + l.length + 1 by omega] at this
    obtain ⟨a1, a2, a3, a4, a5, a6⟩ := this
    refine ⟨a1, fun b hb => (a2 b hb).trans (Below.heap_setCell _ _ _ _ (fun e => hb e)), a3.trans (by simp [World.setCell]), a4, a5, a6⟩

/-- Not from another place of its block on than its beginning. -/
def At0 (v : Value) : Prop := ∀ g o n c, v = .slice (some ⟨g, o, none⟩) n c → o = 0
/-- append of one slice of numbers to another one. -/
theorem sl_app {P : Program} (w : World) (t ty T : TypeId) (k : IntKind) (by_ : Nat) (ht : P.underlying t = some (.slice T)) (hi : (P.info? T).map (fun i => (i.zero, i.size, i.bytes)) = some (some (.int k 0), 1, by_)) (hby : by_ ≤ 8)
    (v v2 : Value) (l l2 : List Int) (h : Sl w T k v l) (h2 : Sl w T k v2 l2) (hs : l.length + l2.length ≤ 17592186044416) :
    ∃ v' w', (Builtin.append_ #[t, t] ty #[v, v2]).run P w = .ok v' w' ∧ Sl w' T k v' (l ++ l2) ∧ But (fun g => v.ownBlock = some g) w w' ∧ (v'.ownBlock = v.ownBlock ∨ v'.ownBlock = some w.heap.size) ∧ (l2 ≠ [] → ∃ g, v'.ownBlock = some g) ∧ (At0 v → At0 v') := by
  obtain ⟨i, hinf, hz, hsz, hbb⟩ := info_parts hi
  have src : Src P i.size t v2 l2.length (l2.map (Value.int k)) w := by
    rw [hsz]
    rcases h2 with ⟨rfl, rfl⟩ | ⟨g, o, c, rfl, hr⟩
    · exact Src.ofNil w ht 0
    · refine Src.ofSlice w ht _ _ _ _ (by simp) (fun j u hj => ?_) (ints_oneCell k l2)
      have hjl : j < l2.length := by
        have := (List.getElem?_eq_some_iff.1 hj).1
        simpa using this
      rw [Go.WideShapes.add_plain, hr.cell hjl]
      simp [List.getElem?_eq_getElem hjl] at hj
      simp [List.getD, List.getElem?_eq_getElem hjl, hj]
  have olds : (Builtin.firstCells i.size l.length v).run P w.drew = .ok (l.map (Value.int k)).toArray w.drew := by
    rcases h with ⟨rfl, rfl⟩ | ⟨g, o, c, rfl, hr⟩
    · exact run_firstCells_none _ _ _ _ _
    · refine run_firstCells_some _ _ _ _ _ _ _ (by simp [hsz]) (fun j u hj => ?_)
      have hjl : j < l.length := by
        have := (List.getElem?_eq_some_iff.1 hj).1
        simpa using this
      rw [Go.WideShapes.add_plain]
      have := hr.cell hjl
      simp only [World.cell?_drew] at this ⊢
      rw [this]
      simp [List.getElem?_eq_getElem hjl] at hj
      simp [List.getD, List.getElem?_eq_getElem hjl, hj]
  have grown : ∀ (A : Option Addr) (c : Nat), v = .slice A l.length c → c < l.length + l2.length →
      ∃ v' w', (Builtin.append_ #[t, t] ty #[v, v2]).run P w = .ok v' w' ∧ Sl w' T k v' (l ++ l2) ∧ But (fun g => v.ownBlock = some g) w w' ∧ (v'.ownBlock = v.ownBlock ∨ v'.ownBlock = some w.heap.size) ∧ (l2 ≠ [] → ∃ g, v'.ownBlock = some g) ∧ (At0 v → At0 v') := by
    intro A c e hc
    subst e
    have hmul : (l.length + l2.length) * i.bytes ≤ 140737488355328 := by
      rw [hbb]
      have := Nat.mul_le_mul hs hby
      omega
    have hr := run_append_grow_src (P := P) w t t ty T i (.int k 0) ht hinf hz A l.length c (l.map (Value.int k)) olds v2 l2.length (l2.map (Value.int k)) src hc (by omega) (growslice_fits hc hmul)
    have hge := grownCap_ge w (l.length + l2.length) c T
    have hcm : grownCap w (l.length + l2.length) c T ≤ maxLen := grownCap_le_maxLen w _ c T (by simp [maxLen]; omega)
    refine ⟨_, _, hr, .inr ⟨w.heap.size, 0, grownCap w (l.length + l2.length) c T, by simp, _, heap_alloc_new w.drew _, ?_, by simpa using hge, hcm, fun j hj => ?_⟩, ⟨rfl, rfl, rfl, by simp, fun b hb _ => Below.heap_alloc w.drew _ b hb⟩, .inr rfl, fun _ => ⟨_, rfl⟩, fun _ g o n c e => (by injection e with e; injection e with e; injection e with _ e; exact e.symm)⟩
    · simp [size_zeroCells, Value.cells]
      omega
    · rw [Nat.zero_add, Array.getElem?_append_left (by simpa using hj)]
      simp only [List.getElem?_toArray]
      rw [← List.map_append, List.getElem?_map, List.getElem?_eq_getElem hj]
      simp [List.getD, List.getElem?_eq_getElem hj]
  rcases id h with ⟨e, e2⟩ | ⟨g, o, c, e, hr⟩
  · by_cases h0 : l2 = []
    · subst h0; subst e2
      subst e
      refine ⟨.slice none 0 0, w, ?_, .inl ⟨rfl, rfl⟩, But.refl _ _, .inl rfl, fun h => absurd rfl h, fun h => h⟩
      have hk := src.cells
      rw [hsz] at hk
      simp only [List.length_nil, List.map_nil] at hk
      simp [Builtin.append_, run_underlying ht, sizeOf, typeInfo, hinf, hsz, src.len, hk, Result.andThen]
    · exact grown none 0 (by rw [e, e2]; rfl) (by have := List.length_pos_iff.2 h0; omega)
  · by_cases hroom : l.length + l2.length ≤ c
    · subst e
      have hrun := run_append_room_src (P := P) w t t ty T i ht hinf g o l.length c v2 l2.length (l2.map (Value.int k)) src hroom
        (fun j hj => by
          rw [hsz, Nat.mul_one, Nat.add_assoc]
          exact hr.there (by simp at hj; omega))
        (fun j _ => hr.free _)
      rw [hsz, Nat.mul_one] at hrun
      obtain ⟨a1, a2, a3, a4, a5, a6⟩ := setCells_row hr l2 hroom
      exact ⟨_, _, hrun, .inr ⟨g, o, c, by simp, a1⟩, ⟨a4, a5, a6, by omega, fun b _ hb => a2 b (fun e => hb (by rw [e]; rfl))⟩, .inl rfl, fun _ => ⟨g, rfl⟩, fun h g2 o2 n2 c2 e => h g2 o2 l.length c (by injection e with e _ _; rw [e])⟩
    · exact grown (some ⟨g, o, none⟩) c e (by omega)
/-- An append whose run is known, as an operation of a walk. -/
theorem wpList_appX {P : Program} {ops : Array Oper} {rest : List Oper} {o : Oper} {a : Act} {w : World} {Q : Exit → Act → World → Prop} (hgd : o.guard = none) (s x : Operand) (t ty : TypeId)
    (ho : o.op = .call { callee := .builtin .append, args := #[s, x], argTypes := #[t, t] }) (hty : o.type = ty) (v v2 v' : Value) (w' : World) (hs : a.eval s = v) (hx : a.eval x = v2)
    (hrun : (Builtin.append_ #[t, t] ty #[v, v2]).run P w = .ok v' w') (hk : wpList P ops Q rest (a.put o.dst v') w') : wpList P ops Q (o :: rest) a w := by
  refine wpList_plain hgd fun K hK => ?_
  subst hty
  unfold Oper.wp execOp
  simp only [ho, resolve, invoke, builtin, Sem.run_bind, Sem.run_pure, Result.andThen_ok, List.map_toArray, List.map_cons, List.map_nil, hs, hx, hrun]
  exact hK _ _ hk
/-- The same at a step of a region that draws its order. -/
theorem step_appX {P : Program} {ops : Array Oper} {o : Oper} {a : Act} {w : World} {K : Act → World → Prop} {Q : Exit → Act → World → Prop} {E : Prop} (hgd : o.guard = none) (s x : Operand) (t ty : TypeId)
    (ho : o.op = .call { callee := .builtin .append, args := #[s, x], argTypes := #[t, t] }) (hty : o.type = ty) (v v2 v' : Value) (w' : World) (hs : a.eval s = v) (hx : a.eval x = v2)
    (hrun : (Builtin.append_ #[t, t] ty #[v, v2]).run P w = .ok v' w') (hk : K (a.put o.dst v') w') : if Region.wanted o (yielded ops a.tmps) = true then Oper.wp P o a w K Q else E := by
  have hw : Region.wanted o (yielded ops a.tmps) = true := by simp [Region.wanted, hgd]
  rw [if_pos hw]
  subst hty
  unfold Oper.wp execOp
  simp only [ho, resolve, invoke, builtin, Sem.run_bind, Sem.run_pure, Result.andThen_ok, List.map_toArray, List.map_cons, List.map_nil, hs, hx, hrun]
  exact hk
end Go.Proofs.Ytncbkgcblmohoaa
