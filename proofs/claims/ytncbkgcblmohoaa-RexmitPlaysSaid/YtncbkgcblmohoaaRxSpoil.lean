/-
  culvertlaw19's spoil: every byte of the pieces is turned, nothing else.
-/
import Derived.Test.YtncbkgcblmohoaaRxAwake
import Derived.Test.YtncbkgcblmohoaaSpoil
import Derived.Deep.LoopGhost
import Derived.RegionTactic
import Derived.Deep.CutRange
namespace Go.Proofs.Ytncbkgcblmohoaa
set_option maxRecDepth 10000
open Go.RowKit
set_option linter.unusedSimpArgs false
set_option linter.unusedVariables false

/-- Pieces whose bytes may be turned. -/
structure SpQ (w : World) (v : Value) (qs : List PQ) : Prop where
  sl : SlV w 54 2 v qs.length (flatQ qs)
  rows : ∀ q ∈ qs, ByRow w 0 q.A q.data.length
  len : ∀ q ∈ qs, q.data.length ≤ maxLen
def rowsQ (qs : List PQ) : Nat → Prop := fun k => ∃ q ∈ qs, (rowQ q).ownBlock = some k
theorem SpQ.of {w : World} {B : Nat} {v : Value} {qs : List PQ} (h : PcsX w 54 B v qs) : SpQ w v qs :=
  ⟨h.sl, fun q hq => (ByRow.of (h.rows q hq)).mono (Nat.zero_le _), fun q hq => Nat.le_trans (h.rows q hq).cap (h.rows q hq).capMax⟩
theorem SlV.blk {w : World} {T : TypeId} {sz n : Nat} {v : Value} {vs : List Value} (h : SlV w T sz v n vs) {g : Nat} (hg : v.ownBlock = some g) : ∃ C, w.heap[g]? = some (.cells C T (0, 0)) := by
  rcases h with ⟨rfl, _⟩ | ⟨g', o, c, rfl, C, hC, _⟩
  · cases hg
  · injection hg with e
    subst e
    exact ⟨C, hC⟩
theorem SpQ.below {w w' : World} {v : Value} {qs : List PQ} (h : SpQ w v qs) (hb : Below w.heap.size w w') : SpQ w' v qs :=
  ⟨h.sl.but (But.of (S := fun _ => False) hb) (fun _ _ x => x), fun q hq => (h.rows q hq).below hb, h.len⟩
/-- A piece of them: where it lies, and its bytes' row. -/
theorem SpQ.at_ {w : World} {v : Value} {qs : List PQ} (h : SpQ w v qs) : ∃ A c, v = .slice A qs.length c ∧ qs.length ≤ maxLen ∧ ∀ i, i < qs.length → ∃ g o q, q ∈ qs ∧ A = some ⟨g, o, none⟩ ∧
    (∀ W : World, (Instr.indexAt 41 (.slice A qs.length c) (.int .i64 (i : Int))).run Try.prog W = .ok (.pointer (some ⟨g, o + i * 2, none⟩)) W) ∧
      w.cell? ⟨g, o + i * 2, none⟩ = some (.int .u32 q.seq) ∧ w.cell? ⟨g, o + i * 2 + 1, none⟩ = some (.slice q.A q.data.length q.c) := by
  rcases h.sl with ⟨rfl, h0, _⟩ | ⟨g, o, c, rfl, C, hg, hC, hl, hnc, hm, hc⟩
  · exact ⟨none, 0, by rw [h0], by omega, fun i hi => by omega⟩
  · refine ⟨_, _, rfl, Nat.le_trans hnc hm, fun i hi => ⟨g, o, qs[i], List.getElem_mem hi, rfl, ?_⟩⟩
    obtain ⟨f1, f2⟩ := flatQ_get qs (i := i) (List.getElem?_eq_getElem hi)
    have hlen := flatQ_len qs
    have k0 : (0 : Int) ≤ (i : Int) := by omega
    have k1 : (i : Int) < (qs.length : Int) := by omega
    refine ⟨fun W => by go_simp, ?_, ?_⟩
    · rw [blk_cell hg, hc _ (by omega), f1]
    · rw [blk_cell hg, Nat.add_assoc, hc _ (by omega), f2]
/-- One byte of one of them turned. -/
theorem SpQ.set {w : World} {v : Value} {qs : List PQ} (h : SpQ w v qs) {q : PQ} (hq : q ∈ qs) (c : Nat) {j : Nat} (hj : j < q.data.length) :
    ∃ (g : Nat) (x : Int), q.A = some ⟨g, 0, none⟩ ∧ (∀ W : World, (Instr.indexAt 37 (.slice q.A q.data.length q.c) (.int .i64 (j : Int))).run Try.prog W = .ok (.pointer (some ⟨g, j, none⟩)) W) ∧ w.cell? ⟨g, j, none⟩ = some (.int .u8 x) ∧ w.frozen? ⟨g, j, none⟩ = false ∧ rowsQ qs g ∧ (∃ C : Array Value, w.heap[g]? = some (.cells C 5 (0, 0))) ∧
      ∀ y : Int, SpQ (w.setCell ⟨g, j, none⟩ (.int .u8 y)) v qs := by
  obtain ⟨g, x, e, -, hi, hc, hf⟩ := (h.rows q hq).index q.c j hj
  rcases h.rows q hq with h0 | ⟨g', e', -, C, hC, hx⟩
  · omega
  · rw [e] at e'
    injection e' with e'
    injection e' with e' _ _
    subst e'
    refine ⟨g, x, e, hi, hc, hf, ⟨q, hq, by unfold rowQ; rw [e]; rfl⟩, ⟨C, hC⟩, fun y => ⟨h.sl.but ((But.refl (fun k => k = g) w).setCell (p := ⟨g, j, none⟩) rfl _) (fun b hb hbg => ?_), fun q' hq' => (h.rows q' hq').set_ g j y, h.len⟩⟩
    subst hbg
    obtain ⟨C', hC'⟩ := h.sl.blk hb
    rw [hC] at hC'
    injection hC' with e2
    injection e2 with _ e3
    revert e3
    decide
def SpoilR (S : Nat → Prop) (w : World) (e : Ending) (w' : World) : Prop := e = .returned (.tuple #[]) ∧ But S w w'
theorem spoil19_any (v : Value) (qs : List PQ) (w : World) (h : SpQ w v qs) : Calls Try.prog 18 #[v] w (SpoilR (rowsQ qs) w) := by
  obtain ⟨A, c, rfl, hm, -⟩ := h.at_
  obtain ⟨n, en⟩ : ∃ n, qs.length = n := ⟨_, rfl⟩
  obtain ⟨HC⟩ : Nonempty (Hid (∀ W, SpQ W (.slice A n c) qs → ∀ i, i < n → ∃ g o q, q ∈ qs ∧ A = some ⟨g, o, none⟩ ∧
    (∀ W : World, (Instr.indexAt 41 (.slice A n c) (.int .i64 (i : Int))).run Try.prog W = .ok (.pointer (some ⟨g, o + i * 2, none⟩)) W) ∧
      W.cell? ⟨g, o + i * 2, none⟩ = some (.int .u32 q.seq) ∧ W.cell? ⟨g, o + i * 2 + 1, none⟩ = some (.slice q.A q.data.length q.c))) := by
    refine ⟨Lib.hid (fun W hW i hi => ?_)⟩
    obtain ⟨A', c', e', -, hx⟩ := hW.at_
    rw [en] at e' hx
    injection e' with e1 _ e3
    subst e1
    subst e3
    exact hx i hi
  rw [en] at h hm ⊢
  have HS := Lib.hid h
  have Hm := Lib.hid (show n ≤ 9223372036854775807 from Nat.le_trans hm (by simp [maxLen]))
  have Hlen := Lib.hid h.len
  clear h hm en
  go_enter Try.func18, Try.ntmps18
  go_wp2_with fail
  go_loopg [7] n (fun gk x7 wi => ∃ i : Nat, Hid (gk + i = n) ∧ x7 = .int .i64 (i : Int) ∧ Hid (SpQ wi (.slice A n c) qs) ∧ Hid (But (rowsQ qs) w wi))
  case atStart => exact ⟨0, Lib.hid (by omega), rfl, HS, Lib.hid (But.refl _ _)⟩
  case round =>
    obtain ⟨i, hgi, rfl, HSi, HBi⟩ := hrel
    have hgi2 := hgi.out
    have hm2 := Hm.out
    have i0 : (0 : Int) ≤ (i : Int) := by omega
    by_cases hik : i < n
    · have i1 : (i : Int) < (n : Int) := by omega
      have i2 : (i : Int) < 9223372036854775807 := by omega
      obtain ⟨g, o, ⟨sq, Aq, cq, dq⟩, hq, rfl, hidx, hc0, hc1⟩ := HC.out _ HSi.out i hik
      dsimp only at hc0 hc1
      have Hq := Lib.hid hq
      have Hx := Lib.hid (And.intro hgi2 hik)
      obtain ⟨m, em⟩ : ∃ m, dq.length = m := ⟨_, rfl⟩
      have Hm2 := Lib.hid (show m ≤ 9223372036854775807 from Nat.le_trans (by rw [← em]; exact Hlen.out _ hq) (by simp [maxLen]))
      have Em := Lib.hid em
      rw [em] at hc1
      obtain ⟨zp, ezp⟩ : ∃ z, wr.heap.size = z := ⟨_, rfl⟩
      obtain ⟨wa, ewa⟩ : ∃ v, wr.alloc (.cells #[.int .u32 sq, .slice Aq m cq] 54) = v := ⟨_, rfl⟩
      have hba : Below wr.heap.size wr wa := by rw [← ewa]; exact (Below.refl _ _).alloc (Nat.le_refl _) _
      have HSa := Lib.hid (HSi.out.below hba)
      have HBa := Lib.hid (HBi.out.trans (But.of hba))
      have HPa := Lib.hid (show wa.heap[zp]? = some (.cells #[.int .u32 sq, .slice Aq m cq] 54 (0, 0)) by rw [← ewa, ← ezp]; exact heap_alloc_new wr _)
      have HPc := Lib.hid (show wa.cell? ⟨zp, 1, none⟩ = some (.slice Aq m cq) by rw [blk_cell HPa.out]; rfl)
      have Ewa := Lib.hid ewa
      have Ezp := Lib.hid ezp
      clear hgi2 hm2 hq hik em hba ewa ezp
      go_upto_region 3 with (fail)
      rw [Ewa.out, Ezp.out]
      have pc := HPc.out
      go_wp2_with fail
      clear pc
      go_loopg [14] m (fun gk2 x14 wj => ∃ j : Nat, Hid (gk2 + j = m) ∧ x14 = .int .i64 (j : Int) ∧ Hid (SpQ wj (.slice (some ⟨g, o, none⟩) n c) qs) ∧ Hid (But (rowsQ qs) w wj) ∧ Hid (wj.heap[zp]? = some (.cells #[.int .u32 sq, .slice Aq m cq] 54 (0, 0))))
      case atStart => exact ⟨0, Lib.hid (by omega), rfl, HSa, HBa, HPa⟩
      case round =>
        obtain ⟨j, hgj, rfl, HSj, HBj, HPj⟩ := hrel
        have hgj2 := hgj.out
        have hm2 := Hm2.out
        have j0 : (0 : Int) ≤ (j : Int) := by omega
        by_cases hjm : j < m
        · have j1 : (j : Int) < (m : Int) := by omega
          have j2 : (j : Int) < 9223372036854775807 := by omega
          have hset := HSj.out.set Hq.out cq (j := j) (by have := Em.out; show j < dq.length; omega)
          dsimp only at hset
          rw [Em.out] at hset
          obtain ⟨ga, y, rfl, hidx2, hc2, hf2, hr2, ⟨C2, hC2⟩, hset⟩ := hset
          have hne : zp ≠ ga := fun e => by
            have h1 := HPj.out
            rw [e, hC2] at h1
            injection h1 with e2
            injection e2 with _ e3
            revert e3
            decide
          have hP := HPj.out
          have pc : wr.cell? ⟨zp, 1, none⟩ = some (.slice (some ⟨ga, 0, none⟩) m cq) := by rw [blk_cell HPj.out]; rfl
          have HSn := Lib.hid hset
          have HBn := Lib.hid (fun y' : Int => HBj.out.setCell (p := ⟨ga, j, none⟩) hr2 (.int .u8 y'))
          have HPn := Lib.hid (fun y' : Int => ((But.refl (fun k => k = ga) wr).setCell (p := ⟨ga, j, none⟩) rfl (.int .u8 y')).blk hP hne)
          have Hy := Lib.hid (And.intro hgj2 hjm)
          clear hset hr2 hC2 hne hP hgj2 hm2 hjm
          go_wp2_with fail
          go_roundg (m - (j + 1))
          case measure => have := Hy.out; omega
          case rel => exact ⟨j + 1, Lib.hid (by have := Hy.out; omega), by go_num, Lib.hid (HSn.out _), Lib.hid (HBn.out _), Lib.hid (HPn.out _)⟩
        · have j1 : ¬ (j : Int) < (m : Int) := by omega
          clear hgj2 hm2 hjm
          go_wp2_with fail
          go_roundg (n - (i + 1))
          case measure => have := Hx.out; omega
          case rel => exact ⟨i + 1, Lib.hid (by have := Hx.out; omega), by go_num, HSj, HBj⟩
    · have i1 : ¬ (i : Int) < (n : Int) := by omega
      clear hgi2 hm2 hik
      go_wp2_with fail
      go_end0
      exact ⟨rfl, HBi.out⟩
end Go.Proofs.Ytncbkgcblmohoaa
