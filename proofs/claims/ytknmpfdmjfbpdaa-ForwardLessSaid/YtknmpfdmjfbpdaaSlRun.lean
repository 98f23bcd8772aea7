/-
  Slices of structs, run by run over the cells of one block: cut, copied, cleared, appended to with room, grown by an append of made ones. No function of the program.
-/
import Derived.Test.YtknmpfdmjfbpdaaSlVCut
import Derived.Laws.IdiomCopy
namespace Go.Proofs.Ytknmpfdmjfbpdaa
set_option maxRecDepth 10000
open Go.RowKit
set_option linter.unusedSimpArgs false
set_option linter.unusedVariables false

/-- A run of cells laid into a block of plain cells. -/
theorem setCells_blk {w : World} {g : Nat} {T : TypeId} {C : Array Value} (hg : w.heap[g]? = some (.cells C T (0, 0))) (p : Nat) (us : List Value) (hfit : p + us.length ≤ C.size) :
    ∃ C', (w.setCells g p us).heap[g]? = some (.cells C' T (0, 0)) ∧ C'.size = C.size ∧ (∀ j, j < us.length → C'[p + j]? = us[j]?) ∧ (∀ q, q < p ∨ p + us.length ≤ q → C'[q]? = C[q]?) ∧ But (fun k => k = g) w (w.setCells g p us) := by
  induction us generalizing w C p with
  | nil => exact ⟨C, by simpa [World.setCells] using hg, rfl, fun j hj => by simp at hj, fun _ _ => rfl, But.refl _ _⟩
  | cons u us ih =>
    simp only [List.length_cons] at hfit
    obtain ⟨C', h1, h2, h3, h4, h5⟩ := ih (w := w.setCell ⟨g, p, none⟩ u) (heap_setCell_at hg p u) (p + 1) (by simp; omega)
    refine ⟨C', h1, by simpa using h2, fun j hj => ?_, fun q hq => ?_, But.trans (b := w.setCell ⟨g, p, none⟩ u) ((But.refl (fun k => k = g) w).setCell (p := ⟨g, p, none⟩) rfl u) h5⟩
    · simp only [List.length_cons] at hj
      cases j with
      | zero =>
        rw [Nat.add_zero, h4 p (by omega)]
        simp [(show p < C.size by omega)]
      | succ j =>
        rw [show p + (j + 1) = p + 1 + j by omega, h3 j (by omega)]
        simp
    · simp only [List.length_cons] at hq
      rw [h4 q (by omega), Array.getElem?_setIfInBounds_ne (by omega)]
section
variable {P : Program} {t T : TypeId} {z : Value} {sz by_ : Nat}
/-- s[i:j:k], for the check alone -/
theorem run_cut3 (ht : P.underlying t = some (.slice T)) (hi : (P.info? T).map (fun i => (i.zero, i.size, i.bytes)) = some (some z, sz, by_)) (A : Option Addr) (n c i j k : Nat) (h1 : i ≤ j) (h2 : j ≤ k) (h3 : k ≤ c) :
    ∃ v, ∀ W : World, (Instr.slice t (.slice A n c) (some (.int .i64 (i : Int))) (some (.int .i64 (j : Int))) (some (.int .i64 (k : Int)))).run P W = .ok v W := by
  obtain ⟨i0, hi, hz0, hz1, hz2⟩ := info_parts hi
  have a0 : (0 : Int) ≤ (i : Int) := by omega
  have a1 : (i : Int) ≤ (j : Int) := by omega
  have a2 : (j : Int) ≤ (k : Int) := by omega
  have a3 : (k : Int) ≤ (c : Int) := by omega
  have a4 : (0 : Int) ≤ (j : Int) := by omega
  have a5 : (0 : Int) ≤ (k : Int) := by omega
  by_cases hc : k = i
  · subst hc
    obtain rfl : j = k := by omega
    refine ⟨_, fun W => by simp [Instr.slice, Instr.sliceBounds, Instr.sliceBound, run_underlying ht, asIntOf, sizeOf, typeInfo, hi, hz1, a0, a1, a2, a3, h1, h2, h3, Go.WideShapes.add_plain, Result.andThen]; rfl⟩
  · refine ⟨_, fun W => by simp [Instr.slice, Instr.sliceBounds, Instr.sliceBound, run_underlying ht, asIntOf, sizeOf, typeInfo, hi, hz1, a0, a1, a2, a3, a4, a5, h1, h2, h3, hc, Go.WideShapes.add_plain, Result.andThen]; rfl⟩
/-- s[i:] -/
theorem run_cut_from (ht : P.underlying t = some (.slice T)) (hi : (P.info? T).map (fun i => (i.zero, i.size, i.bytes)) = some (some z, sz, by_)) (g o n c i : Nat) (h1 : i ≤ n) (h2 : i < c) (W : World) :
    (Instr.slice t (.slice (some ⟨g, o, none⟩) n c) (some (.int .i64 (i : Int))) none none).run P W = .ok (.slice (some ⟨g, o + i * sz, none⟩) (n - i) (c - i)) W := by
  obtain ⟨i0, hi, hz0, hz1, hz2⟩ := info_parts hi
  have a0 : (0 : Int) ≤ (i : Int) := by omega
  have a1 : (i : Int) ≤ (n : Int) := by omega
  have hc : ¬ c = i := by omega
  simp [Instr.slice, Instr.sliceBounds, Instr.sliceBound, run_underlying ht, asIntOf, sizeOf, typeInfo, hi, hz1, a0, a1, h1, hc, Go.WideShapes.add_plain, Result.andThen]
/-- s[i:j] -/
theorem run_cut_both (ht : P.underlying t = some (.slice T)) (hi : (P.info? T).map (fun i => (i.zero, i.size, i.bytes)) = some (some z, sz, by_)) (g o n c i j : Nat) (h1 : i ≤ j) (h2 : j ≤ c) (h3 : i < c) (W : World) :
    (Instr.slice t (.slice (some ⟨g, o, none⟩) n c) (some (.int .i64 (i : Int))) (some (.int .i64 (j : Int))) none).run P W = .ok (.slice (some ⟨g, o + i * sz, none⟩) (j - i) (c - i)) W := by
  obtain ⟨i0, hi, hz0, hz1, hz2⟩ := info_parts hi
  have a0 : (0 : Int) ≤ (i : Int) := by omega
  have a1 : (i : Int) ≤ (j : Int) := by omega
  have a2 : (j : Int) ≤ (c : Int) := by omega
  have a4 : (0 : Int) ≤ (j : Int) := by omega
  have hc : ¬ c = i := by omega
  simp [Instr.slice, Instr.sliceBounds, Instr.sliceBound, run_underlying ht, asIntOf, sizeOf, typeInfo, hi, hz1, a0, a1, a2, a4, h1, h2, hc, Go.WideShapes.add_plain, Result.andThen]
/-- s[:j] -/
theorem run_cut_to (ht : P.underlying t = some (.slice T)) (hi : (P.info? T).map (fun i => (i.zero, i.size, i.bytes)) = some (some z, sz, by_)) (g o n c j : Nat) (h2 : j ≤ c) (h3 : 0 < c) (W : World) :
    (Instr.slice t (.slice (some ⟨g, o, none⟩) n c) none (some (.int .i64 (j : Int))) none).run P W = .ok (.slice (some ⟨g, o, none⟩) j c) W := by
  obtain ⟨i0, hi, hz0, hz1, hz2⟩ := info_parts hi
  have a2 : (j : Int) ≤ (c : Int) := by omega
  have a4 : (0 : Int) ≤ (j : Int) := by omega
  have hc : ¬ c = 0 := by omega
  simp [Instr.slice, Instr.sliceBounds, Instr.sliceBound, run_underlying ht, asIntOf, sizeOf, typeInfo, hi, hz1, a2, a4, h2, hc, Go.WideShapes.add_plain, Result.andThen]
/-- copy(d, s): k elements go over, all read ahead. -/
theorem run_copy_sz (ht : P.underlying t = some (.slice T)) (hi : (P.info? T).map (fun i => (i.zero, i.size, i.bytes)) = some (some z, sz, by_)) (w : World) (ty : TypeId) (g p dn dc g2 p2 m mc k : Nat) (hk : Nat.min m dn = k) (C : Array Value) (hg : w.heap[g]? = some (.cells C T (0, 0)))
    (us : List Value) (hl : us.length = k * sz) (hsrc : ∀ j u, us[j]? = some u → w.cell? ⟨g2, p2 + j, none⟩ = some u) (h1 : ∀ u ∈ us, u.oneCell' = true) (hfit : p + us.length ≤ C.size) :
    (Builtin.copy_ #[t, t] ty #[.slice (some ⟨g, p, none⟩) dn dc, .slice (some ⟨g2, p2, none⟩) m mc]).run P w = .ok (goInt k) (w.setCells g p us) := by
  obtain ⟨i0, hi, hz0, hz1, hz2⟩ := info_parts hi
  have hst := run_storeCells_cells (P := P) g p us 0 w (fun j hj => by rw [Nat.add_zero, blk_cell hg, Array.getElem?_eq_getElem (by omega)]; rfl) (fun j hj => blk_free hg _) h1
  have hfc := run_firstCells_some (P := P) w sz k ⟨g2, p2, none⟩ m mc us hl (fun j u hj => by rw [Go.WideShapes.add_plain]; exact hsrc j u hj)
  simp only [Nat.add_zero] at hst
  simp [Builtin.copy_, run_underlying ht, Builtin.lenOf, sizeOf, typeInfo, hi, hz1, hk, hfc, hst, Result.andThen]
/-- clear(s) -/
theorem run_clear_sz (ht : P.underlying t = some (.slice T)) (hi : (P.info? T).map (fun i => (i.zero, i.size, i.bytes)) = some (some z, sz, by_)) (w : World) (ty : TypeId) (g p n c : Nat) (hn : 0 < n) (C : Array Value) (hg : w.heap[g]? = some (.cells C T (0, 0)))
    (hzs : z.cells.size = sz) (hone : ∀ u ∈ (Builtin.zeroCells z.cells n).toList, u.oneCell' = true) (hfit : p + n * sz ≤ C.size) :
    (Builtin.clear_ #[t] ty #[.slice (some ⟨g, p, none⟩) n c]).run P w = .ok (.tuple #[]) (w.setCells g p (Builtin.zeroCells z.cells n).toList) := by
  obtain ⟨i0, hi, hz0, hz1, hz2⟩ := info_parts hi
  have hlen : (Builtin.zeroCells z.cells n).toList.length = n * sz := by simp [Builtin.zeroCells, hzs]
  have hst := run_storeCells_cells (P := P) g p (Builtin.zeroCells z.cells n).toList 0 w (fun j hj => by rw [Nat.add_zero, blk_cell hg, Array.getElem?_eq_getElem (by omega)]; rfl) (fun j hj => blk_free hg _) hone
  simp only [Nat.add_zero] at hst
  obtain ⟨m, rfl⟩ : ∃ m, n = m + 1 := ⟨n - 1, by omega⟩
  simp [Builtin.clear_, run_underlying ht, zeroValue, typeInfo, hi, hz0, hst, Result.andThen]
/-- append with room. -/
theorem sv_room (ht : P.underlying t = some (.slice T)) (hi : (P.info? T).map (fun i => (i.zero, i.size, i.bytes)) = some (some z, sz, by_)) (w : World) (ty : TypeId) (v2 : Value) (g o n m c : Nat) (vs us : List Value)
    (hr : RowV w T sz g o n vs c) (h2 : SlV w T sz v2 m us) (h1c : ∀ u ∈ us, u.oneCell' = true) (hroom : n + m ≤ c) :
    ∃ w', (Builtin.append_ #[t, t] ty #[.slice (some ⟨g, o, none⟩) n c, v2]).run P w = .ok (.slice (some ⟨g, o, none⟩) (n + m) c) w' ∧ RowV w' T sz g o (n + m) (vs ++ us) c ∧ But (fun k => k = g) w w' := by
  obtain ⟨i, hinf, hz, hsz, hbb⟩ := info_parts hi
  have src : Src P i.size t v2 m us w := by
    rw [hsz]
    rcases h2 with ⟨rfl, rfl, rfl⟩ | ⟨g, o, c, rfl, hr⟩
    · exact Src.ofNil w ht 0
    · refine Src.ofSlice w ht _ _ _ _ (by obtain ⟨_, _, _, hl, _⟩ := hr; exact hl) (fun j u hj => ?_) h1c
      obtain ⟨hjl, he⟩ := List.getElem?_eq_some_iff.1 hj
      rw [Go.WideShapes.add_plain, hr.cell hjl, he]
  have hul := h2.len
  have hvl : vs.length = n * sz := by obtain ⟨_, _, _, hl, _⟩ := hr; exact hl
  have hrun := run_append_room_src (P := P) w t t ty T i ht hinf g o n c v2 m us src hroom
    (fun j hj => by
      rw [hsz, Nat.add_assoc]
      refine hr.there ?_
      have hmul : (n + m) * sz ≤ c * sz := Nat.mul_le_mul_right _ hroom
      rw [Nat.add_mul] at hmul
      omega)
    (fun j _ => hr.free _)
  rw [hsz, ← hvl] at hrun
  obtain ⟨a1, a2, a3, a4, a5, a6⟩ := setCells_rowV hr us m hul hroom
  exact ⟨_, hrun, a1, ⟨a4, a5, a6, by omega, fun b _ hb => a2 b (fun e => hb e)⟩⟩
/-- append(s[:i], make([]T, m)...) where there is no room. -/
theorem run_append_made (ht : P.underlying t = some (.slice T)) (hi : (P.info? T).map (fun i => (i.zero, i.size, i.bytes)) = some (some z, sz, by_)) (hby : by_ ≤ 64) (tI : TypeId) (hI : P.underlying tI = some (.int .i64)) (w : World) (ty : TypeId) (g o i c m : Nat) (vs : List Value) (hsz : 0 < sz)
    (hr : RowV w T sz g o i vs c) (hm : 0 < m) (hg : c < i + m) (hs : i + m ≤ 2199023255552) :
    (Builtin.append_ #[t, tI] ty #[.slice (some ⟨g, o, none⟩) i c, .int .i64 (m : Int)]).run P w =
      .ok (.slice (some ⟨w.heap.size, 0, none⟩) (i + m) (grownCap w (i + m) c T)) (w.drew.alloc (.cells (vs.toArray ++ Builtin.zeroCells z.cells m ++ Builtin.zeroCells z.cells (grownCap w (i + m) c T - (i + m))) T)) := by
  obtain ⟨i0, hinf, hz, hz1, hbb⟩ := info_parts hi
  have hvl : vs.length = i * sz := by obtain ⟨_, _, _, hl, _⟩ := hr; exact hl
  have hold : (Builtin.firstCells sz i (.slice (some ⟨g, o, none⟩) i c)).run P w.drew = .ok vs.toArray w.drew := by
    refine run_firstCells_some _ _ _ _ _ _ _ hvl (fun j u hj => ?_)
    obtain ⟨hjl, he⟩ := List.getElem?_eq_some_iff.1 hj
    rw [Go.WideShapes.add_plain]
    have := hr.cell hjl
    simp only [World.cell?_drew] at this ⊢
    rw [this, he]
  have hn : ¬ (i + m ≤ c) := by omega
  have hm0 : ¬ m * sz = 0 := by
    intro e
    rcases Nat.mul_eq_zero.1 e with e | e <;> omega
  have hm1 : ¬ m = 0 := by omega
  have hs1 : ¬ sz = 0 := by omega
  have hwr : IntKind.i64.wrap (m : Int) = (m : Int) := by rw [IntKind.wrap_i64]; omega
  have hneg : ¬ ((m : Int) < 0) := by omega
  have hmb : m * by_ ≤ 2199023255552 * 64 := Nat.mul_le_mul (by omega) hby
  have hbig : ¬ (281474976710656 < (m : Int) * (by_ : Int)) := by
    have : ((m * by_ : Nat) : Int) = (m : Int) * (by_ : Int) := by simp
    omega
  have hfit := growslice_fits (bytes := by_) hg (by have := Nat.mul_le_mul hs hby; omega)
  have h63' : ¬ (9223372036854775807 < ((i : Int) + (m : Int))) := by omega
  have h48' : ¬ (281474976710656 < Builtin.nextslicecap (i + m) c * by_) := by omega
  simp [Builtin.append_, run_underlying ht, run_underlying hI, sizeOf, typeInfo, zeroValue, hinf, hz, hz1, hbb, hn, hwr, hneg, hbig, hm0, hm1, hs1, h63', h48', Question.forced, hold, newRow, grownCap, asInt, asIntOf, Result.andThen]
end
end Go.Proofs.Ytknmpfdmjfbpdaa
