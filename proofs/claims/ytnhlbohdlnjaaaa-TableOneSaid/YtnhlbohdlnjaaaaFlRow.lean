/-
  Rows of flows: their cells, read at a place, written at a place; for the program's flows and the document's own.
-/
import Derived.Test.YtnhlbohdlnjaaaaMapT
import Derived.Test.YtnhlbohdlnjaaaaSlRun
namespace Go.Proofs.Ytnhlbohdlnjaaaa
set_option maxRecDepth 10000
open Go.RowKit
set_option linter.unusedSimpArgs false
set_option linter.unusedVariables false

def flV (f : Fl) : List Value := [.int .u64 f.id, .int .u8 f.i.pr, .int .u32 f.i.sr, .int .u32 f.i.ds, .int .u16 f.i.sp, .int .u16 f.i.dp, .int .u8 f.o.pr, .int .u32 f.o.sr, .int .u32 f.o.ds, .int .u16 f.o.sp, .int .u16 f.o.dp, .bool f.em]
def flatF (L : TL) : List Value := L.flatMap flV
theorem flV_length (f : Fl) : (flV f).length = 12 := rfl
theorem flatF_nil : flatF [] = [] := rfl
theorem flatF_cons (f : Fl) (L : TL) : flatF (f :: L) = flV f ++ flatF L := rfl
theorem flatF_append (L M : TL) : flatF (L ++ M) = flatF L ++ flatF M := by simp [flatF]
theorem flatF_length (L : TL) : (flatF L).length = L.length * 12 := by
  induction L with
  | nil => rfl
  | cons f L ih => rw [flatF_cons, List.length_append, ih, flV_length, List.length_cons]; omega
theorem flatF_get (L : TL) {i k : Nat} (hi : i < L.length) (hk : k < 12) : (flatF L)[i * 12 + k]? = (flV (L.getD i f0))[k]? := by
  induction L generalizing i with
  | nil => simp at hi
  | cons f L ih =>
    rw [flatF_cons]
    cases i with
    | zero =>
      rw [List.getElem?_append_left (by rw [flV_length]; omega)]
      simp
    | succ i =>
      simp only [List.length_cons] at hi
      rw [List.getElem?_append_right (by rw [flV_length]; omega), flV_length, show (i + 1) * 12 + k - 12 = i * 12 + k by omega, ih (by omega)]
      simp
theorem flatF_take (L : TL) (k : Nat) : flatF (L.take k) = (flatF L).take (k * 12) := by
  induction L generalizing k with
  | nil => simp [flatF]
  | cons f L ih =>
    cases k with
    | zero => simp [flatF]
    | succ k =>
      rw [List.take_succ_cons, flatF_cons, flatF_cons, ih, List.take_append, flV_length, show (k + 1) * 12 - 12 = k * 12 by omega, List.take_of_length_le (l := flV f) (by rw [flV_length]; omega)]
theorem flatF_drop (L : TL) (k : Nat) : flatF (L.drop k) = (flatF L).drop (k * 12) := by
  induction L generalizing k with
  | nil => simp [flatF]
  | cons f L ih =>
    cases k with
    | zero => simp
    | succ k =>
      rw [List.drop_succ_cons, flatF_cons, ih, List.drop_append, flV_length, show (k + 1) * 12 - 12 = k * 12 by omega, List.drop_of_length_le (l := flV f) (by rw [flV_length]; omega), List.nil_append]
theorem flatF_one (L : TL) : ∀ u ∈ flatF L, u.oneCell' = true := by
  intro u hu
  obtain ⟨f, _, h⟩ := List.mem_flatMap.1 hu
  simp only [flV, List.mem_cons, List.not_mem_nil, or_false] at h
  rcases h with rfl | rfl | rfl | rfl | rfl | rfl | rfl | rfl | rfl | rfl | rfl | rfl <;> rfl
theorem flV_inj {a b : Fl} (h : flV a = flV b) : a = b := by
  obtain ⟨a0, ⟨a1, a2, a3, a4, a5⟩, ⟨a6, a7, a8, a9, aa⟩, ab⟩ := a
  obtain ⟨b0, ⟨b1, b2, b3, b4, b5⟩, ⟨b6, b7, b8, b9, ba⟩, bb⟩ := b
  simp [flV] at h
  simp [h]
def zFl : Value := .agg #[.int .u64 0, .int .u8 0, .int .u32 0, .int .u32 0, .int .u16 0, .int .u16 0, .int .u8 0, .int .u32 0, .int .u32 0, .int .u16 0, .int .u16 0, .bool false]
theorem info_tflow : (Try.prog.info? 51).map (fun i => (i.zero, i.size, i.bytes)) = some (some zFl, 12, 48) := by kernel_rfl
theorem info_rflow : (Try.prog.info? 54).map (fun i => (i.zero, i.size, i.bytes)) = some (some zFl, 12, 48) := by kernel_rfl
/-- A flow's cells from p on in block g. -/
structure FlAt (w : World) (g p : Nat) (f : Fl) : Prop where
  c0 : w.cell? ⟨g, p, none⟩ = some (.int .u64 f.id)
  c1 : w.cell? ⟨g, p + 1, none⟩ = some (.int .u8 f.i.pr)
  c2 : w.cell? ⟨g, p + 2, none⟩ = some (.int .u32 f.i.sr)
  c3 : w.cell? ⟨g, p + 3, none⟩ = some (.int .u32 f.i.ds)
  c4 : w.cell? ⟨g, p + 4, none⟩ = some (.int .u16 f.i.sp)
  c5 : w.cell? ⟨g, p + 5, none⟩ = some (.int .u16 f.i.dp)
  c6 : w.cell? ⟨g, p + 6, none⟩ = some (.int .u8 f.o.pr)
  c7 : w.cell? ⟨g, p + 7, none⟩ = some (.int .u32 f.o.sr)
  c8 : w.cell? ⟨g, p + 8, none⟩ = some (.int .u32 f.o.ds)
  c9 : w.cell? ⟨g, p + 9, none⟩ = some (.int .u16 f.o.sp)
  ca : w.cell? ⟨g, p + 10, none⟩ = some (.int .u16 f.o.dp)
  cb : w.cell? ⟨g, p + 11, none⟩ = some (.bool f.em)
theorem FlAt.of {w w' : World} {g p : Nat} {f : Fl} (h : FlAt w g p f) (hc : ∀ i, w'.cell? ⟨g, i, none⟩ = w.cell? ⟨g, i, none⟩) : FlAt w' g p f :=
  ⟨(hc _).trans h.c0, (hc _).trans h.c1, (hc _).trans h.c2, (hc _).trans h.c3, (hc _).trans h.c4, (hc _).trans h.c5, (hc _).trans h.c6, (hc _).trans h.c7, (hc _).trans h.c8, (hc _).trans h.c9, (hc _).trans h.ca, (hc _).trans h.cb⟩
theorem FlAt.but {S : Nat → Prop} {w w' : World} {g p : Nat} {f : Fl} (h : FlAt w g p f) (hb : But S w w') (hg : g < w.heap.size) (hn : ¬ S g) : FlAt w' g p f :=
  h.of (fun i => hb.cell (p := ⟨g, i, none⟩) hg hn)
theorem FlAt.box {w : World} {g : Nat} {T : TypeId} {fr : Nat × Nat} (f : Fl) (h : w.heap[g]? = some (.cells (flV f).toArray T fr)) : FlAt w g 0 f := by
  constructor <;> (rw [blk_cell h]; rfl)
theorem RowV.fl {w : World} {T : TypeId} {g o n c : Nat} {L : TL} (h : RowV w T 12 g o n (flatF L) c) (hn : L.length = n) {j : Nat} (hj : j < n) : FlAt w g (o + j * 12) (L.getD j f0) := by
  obtain ⟨C, hg, hC, hl, hnc, hm, hc⟩ := h
  have hlen := flatF_length L
  have key : ∀ k, k < 12 → w.cell? ⟨g, o + j * 12 + k, none⟩ = (flV (L.getD j f0))[k]? := fun k hk => by
    rw [blk_cell hg, Nat.add_assoc, hc _ (by omega), flatF_get L (by omega) hk]
  exact ⟨key 0 (by omega), key 1 (by omega), key 2 (by omega), key 3 (by omega), key 4 (by omega), key 5 (by omega), key 6 (by omega), key 7 (by omega), key 8 (by omega), key 9 (by omega), key 10 (by omega), key 11 (by omega)⟩
theorem fl_index_t {w : World} {A : Option Addr} {n c : Nat} {L : TL} (h : SlV w 51 12 (.slice A n c) n (flatF L)) (hn : L.length = n) {j : Nat} (hj : j < n) :
    ∃ g o, A = some ⟨g, o, none⟩ ∧ (∀ W : World, (Instr.indexAt 61 (.slice A n c) (.int .i64 (j : Int))).run Try.prog W = .ok (.pointer (some ⟨g, o + j * 12, none⟩)) W) ∧ FlAt w g (o + j * 12) (L.getD j f0) ∧ g < w.heap.size := by
  rcases h with ⟨e, en, _⟩ | ⟨g, o, c', e, hr⟩
  · omega
  · injection e with e1 e2 e3
    subst e1; subst e3
    have k0 : (0 : Int) ≤ (j : Int) := by omega
    have k1 : (j : Int) < (n : Int) := by omega
    exact ⟨g, o, rfl, fun W => by go_simp, hr.fl hn hj, hr.lt⟩
theorem fl_index_r {w : World} {A : Option Addr} {n c : Nat} {L : TL} (h : SlV w 54 12 (.slice A n c) n (flatF L)) (hn : L.length = n) {j : Nat} (hj : j < n) :
    ∃ g o, A = some ⟨g, o, none⟩ ∧ (∀ W : World, (Instr.indexAt 57 (.slice A n c) (.int .i64 (j : Int))).run Try.prog W = .ok (.pointer (some ⟨g, o + j * 12, none⟩)) W) ∧ FlAt w g (o + j * 12) (L.getD j f0) ∧ g < w.heap.size := by
  rcases h with ⟨e, en, _⟩ | ⟨g, o, c', e, hr⟩
  · omega
  · injection e with e1 e2 e3
    subst e1; subst e3
    have k0 : (0 : Int) ≤ (j : Int) := by omega
    have k1 : (j : Int) < (n : Int) := by omega
    exact ⟨g, o, rfl, fun W => by go_simp, hr.fl hn hj, hr.lt⟩
/-- A run of cells of one element is written over. -/
theorem RowV.put {w w' : World} {T : TypeId} {g o n c : Nat} {L : TL} (h : RowV w T 12 g o n (flatF L) c) (hn : L.length = n) {j : Nat} (hj : j < n) (f : Fl) {C' : Array Value} (hC' : w'.heap[g]? = some (.cells C' T (0, 0))) (hsz : ∀ C, w.heap[g]? = some (.cells C T (0, 0)) → C'.size = C.size ∧ (∀ q, q < o + j * 12 ∨ o + j * 12 + 12 ≤ q → C'[q]? = C[q]?))
    (hf : FlAt w' g (o + j * 12) f) : RowV w' T 12 g o n (flatF (L.set j f)) c := by
  obtain ⟨C, hg, hC, hl, hnc, hm, hc⟩ := h
  obtain ⟨h1, h2⟩ := hsz C hg
  refine ⟨C', hC', by omega, by rw [flatF_length, List.length_set, hn], hnc, hm, fun i hi => ?_⟩
  rw [flatF_length, List.length_set] at hi
  have hd : i / 12 < L.length := by omega
  have e : i = i / 12 * 12 + i % 12 := by omega
  have hmod : i % 12 < 12 := Nat.mod_lt _ (by omega)
  have r1 : (flatF (L.set j f))[i]? = (flV ((L.set j f).getD (i / 12) f0))[i % 12]? := by
    conv => lhs; rw [e]
    exact flatF_get _ (by rw [List.length_set]; exact hd) hmod
  have r2 : (flatF L)[i]? = (flV (L.getD (i / 12) f0))[i % 12]? := by
    conv => lhs; rw [e]
    exact flatF_get _ hd hmod
  rw [r1, set_getD f hd]
  by_cases ej : j = i / 12
  · rw [if_pos ej]
    have key : ∀ k, k < 12 → C'[o + j * 12 + k]? = (flV f)[k]? := by
      have q := fun i => blk_cell hC' i
      intro k hk
      rw [← q]
      match k, hk with
      | 0, _ => exact hf.c0
      | 1, _ => exact hf.c1
      | 2, _ => exact hf.c2
      | 3, _ => exact hf.c3
      | 4, _ => exact hf.c4
      | 5, _ => exact hf.c5
      | 6, _ => exact hf.c6
      | 7, _ => exact hf.c7
      | 8, _ => exact hf.c8
      | 9, _ => exact hf.c9
      | 10, _ => exact hf.ca
      | 11, _ => exact hf.cb
    rw [← key _ hmod]
    congr 1
    omega
  · rw [if_neg ej, ← r2, h2 _ (by omega), hc i (by rw [flatF_length]; omega)]
theorem RowV.flsize {w : World} {T : TypeId} {g o n c : Nat} {L : TL} (h : RowV w T 12 g o n (flatF L) c) (hn : L.length = n) : ∃ C, w.heap[g]? = some (.cells C T (0, 0)) ∧ o + n * 12 ≤ C.size := by
  obtain ⟨C, hg, hC, hl, hnc, hm, hc⟩ := h
  refine ⟨C, hg, ?_⟩
  have : n * 12 ≤ c * 12 := Nat.mul_le_mul_right _ hnc
  omega
end Go.Proofs.Ytnhlbohdlnjaaaa
