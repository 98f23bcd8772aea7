/-
  Slices of elements of sz cells each (structs), from any place of their block on ('SlV'): read, appended to. No function of the program.
-/
import Derived.Test.YtncbkgcblmohoaaSl
namespace Go.Proofs.Ytncbkgcblmohoaa
set_option maxRecDepth 10000
open Go.RowKit
set_option linter.unusedSimpArgs false
set_option linter.unusedVariables false

/-- Block g holds from o on the cells vs of n elements, room for c elements in all. -/
def RowV (w : World) (T : TypeId) (sz g o n : Nat) (vs : List Value) (c : Nat) : Prop :=
  ∃ C, w.heap[g]? = some (.cells C T (0, 0)) ∧ o + c * sz ≤ C.size ∧ vs.length = n * sz ∧ n ≤ c ∧ c ≤ maxLen ∧ ∀ i, i < vs.length → C[o + i]? = vs[i]?
def SlV (w : World) (T : TypeId) (sz : Nat) (v : Value) (n : Nat) (vs : List Value) : Prop :=
  (v = .slice none 0 0 ∧ n = 0 ∧ vs = []) ∨ ∃ g o c, v = .slice (some ⟨g, o, none⟩) n c ∧ RowV w T sz g o n vs c
section
variable {w w' : World} {T : TypeId} {sz g o n c : Nat} {vs : List Value} {v : Value}
theorem RowV.lt (h : RowV w T sz g o n vs c) : g < w.heap.size := by
  obtain ⟨C, hg, _⟩ := h
  exact lt_of_block hg
theorem RowV.cell (h : RowV w T sz g o n vs c) {i : Nat} (hi : i < vs.length) : w.cell? ⟨g, o + i, none⟩ = some vs[i] := by
  obtain ⟨C, hg, _, _, _, _, hc⟩ := h
  rw [blk_cell hg, hc i hi, List.getElem?_eq_getElem hi]
theorem RowV.free (h : RowV w T sz g o n vs c) (i : Nat) : w.frozen? ⟨g, i, none⟩ = false := by
  obtain ⟨C, hg, _⟩ := h
  exact blk_free hg i
theorem RowV.there (h : RowV w T sz g o n vs c) {i : Nat} (hi : i < c * sz) : (w.cell? ⟨g, o + i, none⟩).isSome = true := by
  obtain ⟨C, hg, hC, _⟩ := h
  rw [blk_cell hg, Array.getElem?_eq_getElem (by omega)]
  rfl
theorem RowV.of_block (h : RowV w T sz g o n vs c) (hb : w'.heap[g]? = w.heap[g]?) : RowV w' T sz g o n vs c := by
  obtain ⟨C, hg, hr⟩ := h
  exact ⟨C, hb.trans hg, hr⟩
theorem RowV.but {S : Nat → Prop} (h : RowV w T sz g o n vs c) (hb : But S w w') (hn : ¬ S g) : RowV w' T sz g o n vs c :=
  h.of_block (hb.block g h.lt hn)
/-- From element k on. -/
theorem RowV.drop (h : RowV w T sz g o n vs c) {k : Nat} (hk : k ≤ n) : RowV w T sz g (o + k * sz) (n - k) (vs.drop (k * sz)) (c - k) := by
  obtain ⟨C, hg, hC, hl, hnc, hm, hc⟩ := h
  have e1 : k * sz + (c - k) * sz = c * sz := by rw [← Nat.add_mul]; congr 1; omega
  refine ⟨C, hg, by omega, by rw [List.length_drop, hl, Nat.sub_mul], by omega, by omega, fun i hi => ?_⟩
  rw [List.length_drop] at hi
  rw [Nat.add_assoc, hc (k * sz + i) (by omega), List.getElem?_drop]
/-- The first k elements, the room as it was. -/
theorem RowV.take (h : RowV w T sz g o n vs c) {k : Nat} (hk : k ≤ n) : RowV w T sz g o k (vs.take (k * sz)) c := by
  obtain ⟨C, hg, hC, hl, hnc, hm, hc⟩ := h
  have hle : k * sz ≤ n * sz := Nat.mul_le_mul_right _ hk
  refine ⟨C, hg, hC, by rw [List.length_take, hl]; omega, by omega, hm, fun i hi => ?_⟩
  rw [List.length_take] at hi
  rw [hc i (by omega), List.getElem?_take_of_lt (by omega)]
theorem SlV.but {S : Nat → Prop} (h : SlV w T sz v n vs) (hb : But S w w') (hn : ∀ g, v.ownBlock = some g → ¬ S g) : SlV w' T sz v n vs := by
  rcases h with h | ⟨g, o, c, rfl, h⟩
  · exact .inl h
  · exact .inr ⟨g, o, c, rfl, h.but hb (hn g rfl)⟩
theorem SlV.lt (h : SlV w T sz v n vs) {g : Nat} (hg : v.ownBlock = some g) : g < w.heap.size := by
  rcases h with ⟨rfl, _⟩ | ⟨g', o, c, rfl, h⟩
  · cases hg
  · injection hg with e
    subst e
    exact h.lt
theorem SlV.form (h : SlV w T sz v n vs) : ∃ A c, v = .slice A n c := by
  rcases h with ⟨rfl, rfl, _⟩ | ⟨g, o, c, rfl, h⟩
  · exact ⟨_, _, rfl⟩
  · exact ⟨_, _, rfl⟩
theorem SlV.len (h : SlV w T sz v n vs) : vs.length = n * sz := by
  rcases h with ⟨_, rfl, rfl⟩ | ⟨g, o, c, _, _, _, _, h, _⟩
  · simp
  · exact h
/-- A literal of one element that the walk has just laid. -/
theorem RowV.one (T : TypeId) (vs : List Value) (g : Nat) (hg : w.heap.size = g) (hsz : vs.length = sz) : SlV (w.alloc (.cells vs.toArray T)) T sz (.slice (some ⟨g, 0, none⟩) 1 1) 1 vs := by
  subst hg
  refine .inr ⟨_, 0, 1, rfl, _, heap_alloc_new w _, by simp; omega, by omega, Nat.le_refl _, by simp [maxLen], fun i hi => by simp⟩
theorem setCells_rowV (h : RowV w T sz g o n vs c) : ∀ (us : List Value) (m : Nat), us.length = m * sz → n + m ≤ c → RowV (w.setCells g (o + vs.length) us) T sz g o (n + m) (vs ++ us) c ∧ (∀ b, b ≠ g → (w.setCells g (o + vs.length) us).heap[b]? = w.heap[b]?) ∧
    (w.setCells g (o + vs.length) us).heap.size = w.heap.size ∧ (w.setCells g (o + vs.length) us).os = w.os ∧ (w.setCells g (o + vs.length) us).tape = w.tape ∧ (w.setCells g (o + vs.length) us).output = w.output := by
  have key : ∀ (us ws : List Value) (W : World), (∃ C, W.heap[g]? = some (.cells C T (0, 0)) ∧ o + c * sz ≤ C.size ∧ ws.length + us.length ≤ c * sz ∧ ∀ i, i < ws.length → C[o + i]? = ws[i]?) →
      (∃ C, (W.setCells g (o + ws.length) us).heap[g]? = some (.cells C T (0, 0)) ∧ o + c * sz ≤ C.size ∧ ∀ i, i < (ws ++ us).length → C[o + i]? = (ws ++ us)[i]?) ∧ (∀ b, b ≠ g → (W.setCells g (o + ws.length) us).heap[b]? = W.heap[b]?) ∧
      (W.setCells g (o + ws.length) us).heap.size = W.heap.size ∧ (W.setCells g (o + ws.length) us).os = W.os ∧ (W.setCells g (o + ws.length) us).tape = W.tape ∧ (W.setCells g (o + ws.length) us).output = W.output := by
    intro us
    induction us with
    | nil =>
      rintro ws W ⟨C, hg, hC, hl, hc⟩
      exact ⟨⟨C, by simpa [World.setCells] using hg, hC, by simpa using hc⟩, fun _ _ => rfl, rfl, rfl, rfl, rfl⟩
    | cons u us ih =>
      rintro ws W ⟨C, hg, hC, hl, hc⟩
      simp only [List.length_cons] at hl
      have h1 : ∃ C', (W.setCell ⟨g, o + ws.length, none⟩ u).heap[g]? = some (.cells C' T (0, 0)) ∧ o + c * sz ≤ C'.size ∧ (ws ++ [u]).length + us.length ≤ c * sz ∧ ∀ i, i < (ws ++ [u]).length → C'[o + i]? = (ws ++ [u])[i]? := by
        refine ⟨_, heap_setCell_at hg _ _, by simpa using hC, by simp; omega, fun i hi => ?_⟩
        simp only [List.length_append, List.length_cons, List.length_nil] at hi
        by_cases e : i = ws.length
        · subst e
          simp [(show o + ws.length < C.size by omega)]
        · rw [Array.getElem?_setIfInBounds_ne (by omega), hc i (by omega), List.getElem?_append_left (by omega)]
      have := ih (ws ++ [u]) (W.setCell ⟨g, o + ws.length, none⟩ u) h1
      simp only [List.length_append, List.length_cons, List.length_nil, Nat.zero_add, List.append_assoc, List.cons_append, List.nil_append] at this
      rw [show o + (ws.length + 1) = o + ws.length + 1 by omega] at this
      obtain ⟨a1, a2, a3, a4, a5, a6⟩ := this
      refine ⟨?_, fun b hb => (a2 b hb).trans (Below.heap_setCell _ _ _ _ (fun e => hb e)), a3.trans (by simp [World.setCell]), a4, a5, a6⟩
      obtain ⟨C', b1, b2, b3⟩ := a1
      exact ⟨C', b1, b2, fun i hi => b3 i (by simp at hi ⊢; omega)⟩
  intro us m hus hm
  obtain ⟨C, hg, hC, hl, hnc, hcm, hc⟩ := h
  have hmul : (n + m) * sz ≤ c * sz := Nat.mul_le_mul_right _ hm
  rw [Nat.add_mul] at hmul
  obtain ⟨⟨C', h1, h2, h3⟩, a2, a3, a4, a5, a6⟩ := key us vs w ⟨C, hg, hC, by omega, hc⟩
  exact ⟨⟨C', h1, h2, by rw [List.length_append, hl, hus, Nat.add_mul], hm, hcm, h3⟩, a2, a3, a4, a5, a6⟩
end
/-- append to a slice of structs, of whatever reads as cells. -/
theorem sv_app_src {P : Program} (w : World) (t ty T : TypeId) (z : Value) (sz by_ : Nat) (ht : P.underlying t = some (.slice T)) (hi : (P.info? T).map (fun i => (i.zero, i.size, i.bytes)) = some (some z, sz, by_)) (hby : by_ ≤ 64) (hzs : z.cells.size = sz)
    (v v2 : Value) (n m : Nat) (vs us : List Value) (h : SlV w T sz v n vs) (hs2 : Src P sz t v2 m us w) (hs : n + m ≤ 2199023255552) :
    ∃ A c w', (Builtin.append_ #[t, t] ty #[v, v2]).run P w = .ok (.slice A (n + m) c) w' ∧ SlV w' T sz (.slice A (n + m) c) (n + m) (vs ++ us) ∧ But (fun g => v.ownBlock = some g) w w' ∧ ((Value.slice A (n + m) c).ownBlock = v.ownBlock ∨ (Value.slice A (n + m) c).ownBlock = some w.heap.size) ∧ (At0 v → At0 (.slice A (n + m) c)) := by
  obtain ⟨i, hinf, hz, hsz, hbb⟩ := info_parts hi
  have src : Src P i.size t v2 m us w := by rw [hsz]; exact hs2
  have hul : us.length = m * sz := hs2.newsLen
  have olds : (Builtin.firstCells i.size n v).run P w.drew = .ok vs.toArray w.drew := by
    rcases h with ⟨rfl, rfl, rfl⟩ | ⟨g, o, c, rfl, hr⟩
    · exact run_firstCells_none _ _ _ _ _
    · refine run_firstCells_some _ _ _ _ _ _ _ (by obtain ⟨_, _, _, hl, _⟩ := hr; rw [hsz]; exact hl) (fun j u hj => ?_)
      obtain ⟨hjl, he⟩ := List.getElem?_eq_some_iff.1 hj
      rw [Go.WideShapes.add_plain]
      have := hr.cell hjl
      simp only [World.cell?_drew] at this ⊢
      rw [this, he]
  have hvl := h.len
  have grown : ∀ (A : Option Addr) (c : Nat), v = .slice A n c → c < n + m →
      ∃ A c w', (Builtin.append_ #[t, t] ty #[v, v2]).run P w = .ok (.slice A (n + m) c) w' ∧ SlV w' T sz (.slice A (n + m) c) (n + m) (vs ++ us) ∧ But (fun g => v.ownBlock = some g) w w' ∧ ((Value.slice A (n + m) c).ownBlock = v.ownBlock ∨ (Value.slice A (n + m) c).ownBlock = some w.heap.size) ∧ (At0 v → At0 (.slice A (n + m) c)) := by
    intro A c e hc
    subst e
    have hmul : (n + m) * i.bytes ≤ 140737488355328 := by
      rw [hbb]
      have := Nat.mul_le_mul hs hby
      omega
    have hr := run_append_grow_src (P := P) w t t ty T i z ht hinf hz A n c vs olds v2 m us src hc (by omega) (growslice_fits hc hmul)
    have hge := grownCap_ge w (n + m) c T
    have hcm : grownCap w (n + m) c T ≤ maxLen := grownCap_le_maxLen w _ c T (by simp [maxLen]; omega)
    refine ⟨_, _, _, hr, .inr ⟨w.heap.size, 0, grownCap w (n + m) c T, rfl, _, heap_alloc_new w.drew _, ?_, by rw [List.length_append, hvl, hul, Nat.add_mul], hge, hcm, fun j hj => ?_⟩, ⟨rfl, rfl, rfl, by simp, fun b hb _ => Below.heap_alloc w.drew _ b hb⟩, .inr rfl, fun _ g o n c e => (by injection e with e; injection e with e; injection e with _ e; exact e.symm)⟩
    · simp only [Array.size_append, List.size_toArray, size_zeroCells, hzs, List.length_append, hvl, hul]
      have e1 : (n + m) * sz + (grownCap w (n + m) c T - (n + m)) * sz = grownCap w (n + m) c T * sz := by rw [← Nat.add_mul]; congr 1; omega
      rw [Nat.add_mul] at e1
      omega
    · rw [Nat.zero_add, Array.getElem?_append_left (by simpa using hj)]
      simp only [List.getElem?_toArray]
  rcases id h with ⟨e, en, e2⟩ | ⟨g, o, c, e, hr⟩
  · by_cases h0 : m = 0
    · subst h0; subst e2; subst en
      subst e
      have hus : us = [] := List.eq_nil_of_length_eq_zero (by simpa using hul)
      subst hus
      refine ⟨none, 0, w, ?_, .inl ⟨rfl, rfl, rfl⟩, But.refl _ _, .inl rfl, fun h => h⟩
      have hk := src.cells
      rw [hsz] at hk
      simp [Builtin.append_, run_underlying ht, sizeOf, typeInfo, hinf, hsz, src.len, hk, Result.andThen]
    · exact grown none 0 (by rw [e, en]) (by omega)
  · by_cases hroom : n + m ≤ c
    · subst e
      have hrun := run_append_room_src (P := P) w t t ty T i ht hinf g o n c v2 m us src hroom
        (fun j hj => by
          rw [hsz, Nat.add_assoc]
          refine hr.there ?_
          have hmul : (n + m) * sz ≤ c * sz := Nat.mul_le_mul_right _ hroom
          rw [Nat.add_mul] at hmul
          omega)
        (fun j _ => hr.free _)
      rw [hsz, ← hvl] at hrun
      obtain ⟨a1, a2, a3, a4, a5, a6⟩ := setCells_rowV hr us m hul hroom
      exact ⟨_, _, _, hrun, .inr ⟨g, o, c, rfl, a1⟩, ⟨a4, a5, a6, by omega, fun b _ hb => a2 b (fun e => hb (by rw [e]; rfl))⟩, .inl rfl, fun h g2 o2 n2 c2 e => h g2 o2 n c (by injection e with e _ _; rw [e])⟩
    · exact grown (some ⟨g, o, none⟩) c e (by omega)
/-- append of one slice of structs to another one. -/
theorem sv_app {P : Program} (w : World) (t ty T : TypeId) (z : Value) (sz by_ : Nat) (ht : P.underlying t = some (.slice T)) (hi : (P.info? T).map (fun i => (i.zero, i.size, i.bytes)) = some (some z, sz, by_)) (hby : by_ ≤ 64) (hzs : z.cells.size = sz)
    (v v2 : Value) (n m : Nat) (vs us : List Value) (h : SlV w T sz v n vs) (h2 : SlV w T sz v2 m us) (h1c : ∀ u ∈ us, u.oneCell' = true) (hs : n + m ≤ 2199023255552) :
    ∃ A c w', (Builtin.append_ #[t, t] ty #[v, v2]).run P w = .ok (.slice A (n + m) c) w' ∧ SlV w' T sz (.slice A (n + m) c) (n + m) (vs ++ us) ∧ But (fun g => v.ownBlock = some g) w w' ∧ ((Value.slice A (n + m) c).ownBlock = v.ownBlock ∨ (Value.slice A (n + m) c).ownBlock = some w.heap.size) ∧ (At0 v → At0 (.slice A (n + m) c)) := by
  refine sv_app_src w t ty T z sz by_ ht hi hby hzs v v2 n m vs us h ?_ hs
  rcases h2 with ⟨rfl, rfl, rfl⟩ | ⟨g, o, c, rfl, hr⟩
  · exact Src.ofNil w ht 0
  · refine Src.ofSlice w ht _ _ _ _ (by obtain ⟨_, _, _, hl, _⟩ := hr; exact hl) (fun j u hj => ?_) h1c
    obtain ⟨hjl, he⟩ := List.getElem?_eq_some_iff.1 hj
    rw [Go.WideShapes.add_plain, hr.cell hjl, he]
end Go.Proofs.Ytncbkgcblmohoaa
