/-
  culvertref18's Same: two lists of places.
-/
import Derived.Test.YtmmnicnebammhaaRmFace
import Derived.Deep.LoopGhost
import Derived.Deep.CutRange
import Derived.BigRegion
import Derived.BigQuiet
import Derived.OwnWalk
import Derived.DeepKeys
import Derived.ChangeKeysEq
import Derived.Laws.StructEq
namespace Go.Proofs.Ytmmnicnebammhaa
set_option maxRecDepth 10000
open Go.RowKit
set_option linter.unusedSimpArgs false
set_option linter.unusedVariables false

def QuietR (v : Value) (w : World) (e : Ending) (w' : World) : Prop := e = .returned v ∧ ∃ m, w' = w.drewN m
theorem flat2_cons (p : Int × Int) (l : List (Int × Int)) : flat2 (p :: l) = .int .u32 p.1 :: .int .u32 p.2 :: flat2 l := rfl
theorem flat2_get (l : List (Int × Int)) {i : Nat} (hi : i < l.length) : (flat2 l)[i * 2]? = some (.int .u32 (l.getD i (0, 0)).1) ∧ (flat2 l)[i * 2 + 1]? = some (.int .u32 (l.getD i (0, 0)).2) := by
  induction l generalizing i with
  | nil => simp at hi
  | cons a l ih =>
    rw [flat2_cons]
    cases i with
    | zero => exact ⟨rfl, rfl⟩
    | succ i =>
      simp only [List.length_cons] at hi
      have := ih (i := i) (by omega)
      rw [show (i + 1) * 2 = i * 2 + 1 + 1 by omega]
      simpa using this
theorem info_u32 : (Try.prog.info? 22).map (fun i => (i.size, i.zero)) = some (1, some (.int .u32 0)) := by kernel_rfl
theorem pair_neq (a b c d : Int) (W : World) : (binOp .neq 60 (.agg #[.int .u32 a, .int .u32 b]) (.agg #[.int .u32 c, .int .u32 d])).run Try.prog W = .ok (.bool (!(a == c && b == d))) W := by
  have h := info_u32
  cases hi : Try.prog.info? 22 with
  | none => rw [hi] at h; simp at h
  | some i =>
    have hc : Try.prog.cellsOf 22 = 1 := by kernel_rfl
    rw [run_neq_struct, run_equalIn_array W 9999 _ _ Try.underlying60 hi, show List.range 2 = [0, 1] from rfl, hc]
    simp only [Op.eqItems]
    go_simp
    by_cases h1 : a = c <;> by_cases h2 : b = d <;> simp [h1, h2]
theorem pair_index {w : World} {v : Value} {n : Nat} {l : List (Int × Int)} (h : SlV w 60 2 v n (flat2 l)) (hn : l.length = n) : ∃ A c, v = .slice A n c ∧ ∀ j, j < n → ∃ g o, A = some ⟨g, o, none⟩ ∧
    (∀ W : World, (Instr.indexAt 47 (.slice A n c) (.int .i64 (j : Int))).run Try.prog W = .ok (.pointer (some ⟨g, o + j * 2, none⟩)) W) ∧
      w.cell? ⟨g, o + j * 2, none⟩ = some (.int .u32 (l.getD j (0, 0)).1) ∧ w.cell? ⟨g, o + j * 2 + 1, none⟩ = some (.int .u32 (l.getD j (0, 0)).2) := by
  rcases h with ⟨rfl, rfl, _⟩ | ⟨g, o, c, rfl, h⟩
  · exact ⟨_, _, rfl, fun j hj => by omega⟩
  · refine ⟨_, _, rfl, fun j hj => ⟨g, o, rfl, ?_⟩⟩
    obtain ⟨f1, f2⟩ := flat2_get l (i := j) (by omega)
    obtain ⟨C, hg, hC, hl, hnc, hm, hc⟩ := h
    have hlen := flat2_len l
    have k0 : (0 : Int) ≤ (j : Int) := by omega
    have k1 : (j : Int) < (n : Int) := by omega
    refine ⟨fun W => by go_simp, ?_, ?_⟩
    · rw [blk_cell hg, hc _ (by omega), f1]
    · rw [blk_cell hg, Nat.add_assoc, hc _ (by omega), f2]
set_option maxHeartbeats 1000000 in
theorem same18_any (v v2 : Value) (l l2 : List (Int × Int)) (x : Bool) (w : World) (h : SlV w 60 2 v l.length (flat2 l)) (h2 : SlV w 60 2 v2 l2.length (flat2 l2)) (hn : l.length ≤ 1000000) (hx : decide (l = l2) = x) :
    Calls Try.prog 20 #[v, v2] w (QuietR (.bool x) w) := by
  obtain ⟨A, c, rfl, hA⟩ := pair_index h rfl
  obtain ⟨A2, c2, rfl, hA2⟩ := pair_index h2 rfl
  obtain ⟨n, en⟩ : ∃ n, l.length = n := ⟨_, rfl⟩
  obtain ⟨m, em⟩ : ∃ m, l2.length = m := ⟨_, rfl⟩
  have HA := Lib.hid hA
  have HA2 := Lib.hid hA2
  have Hx := Lib.hid hx
  have Hen := Lib.hid en
  have Hem := Lib.hid em
  rw [en] at HA hn ⊢
  rw [em] at HA2 ⊢
  clear hA hA2 hx h h2 en em
  by_cases hnm : n = m
  · subst hnm
    have hq : ((n : Int) != (n : Int)) = false := by simp
    go_enter Try.func20, Try.ntmps20
    go_wp2_with fail
    go_loopg [5] n (fun gk i wr => ∃ j k : Nat, Hid (gk + j = n) ∧ j ≤ n ∧ i = .int .i64 (j : Int) ∧ Hid (∀ i, i < j → l.getD i (0, 0) = l2.getD i (0, 0)) ∧ wr = w.drewN k)
    case atStart => exact ⟨0, 0, Lib.hid (by omega), Nat.zero_le _, rfl, Lib.hid (fun i hi => by omega), rfl⟩
    case round =>
      obtain ⟨j, k, hgk, hj, rfl, hsame, rfl⟩ := hrel
      by_cases hjn : j < n
      · obtain ⟨g, o, rfl, hi, ha, hb⟩ := HA.out j hjn
        obtain ⟨g2, o2, rfl, hi2, ha2, hb2⟩ := HA2.out j hjn
        obtain ⟨p, ep⟩ : ∃ p, l.getD j (0, 0) = p := ⟨_, rfl⟩
        obtain ⟨q, eq⟩ : ∃ q, l2.getD j (0, 0) = q := ⟨_, rfl⟩
        obtain ⟨p1, p2⟩ := p
        obtain ⟨q1, q2⟩ := q
        rw [ep] at ha hb
        rw [eq] at ha2 hb2
        simp only [] at ha hb ha2 hb2
        have i0 : (0 : Int) ≤ (j : Int) := by omega
        have i1 : (j : Int) < (n : Int) := by omega
        have hpq := pair_neq p1 p2 q1 q2
        by_cases hxx : p1 = q1 ∧ p2 = q2
        · have Hs := Lib.hid (show ∀ i, i < j + 1 → l.getD i (0, 0) = l2.getD i (0, 0) by
            intro i hi
            by_cases e : i = j
            · subst e; rw [ep, eq, hxx.1, hxx.2]
            · exact hsame.out i (by omega))
          have hb3 : (!(p1 == q1 && p2 == q2)) = false := by simp [hxx.1, hxx.2]
          rw [hb3] at hpq
          clear ep eq hxx hb3
          go_wp2_with fail
          go_quiet (fail)
          go_wp2_with fail
          go_roundg (gk - 1)
          case measure => have := hgk.out; omega
          case rel => exact ⟨j + 1, k + nq, Lib.hid (by have := hgk.out; show gk - 1 + (j + 1) = _; omega), by omega, by go_num, Hs, by first | rfl | rw [World.drewN_drewN]⟩
        · have hb3 : (!(p1 == q1 && p2 == q2)) = true := by
            cases h : (p1 == q1 && p2 == q2) with
            | false => rfl
            | true => simp at h; exact absurd h hxx
          rw [hb3] at hpq
          have Hf := Lib.hid (show x = false by
            rw [← Hx.out]
            exact decide_eq_false (fun e => hxx (by rw [e, eq] at ep; injection ep with e1 e2; exact ⟨e1.symm, e2.symm⟩)))
          clear ep eq hxx hb3
          go_wp2_with fail
          go_quiet (fail)
          go_wp2_with fail
          go_ret
          exact ⟨by rw [Hf.out]; rfl, k + nq, by first | rfl | rw [World.drewN_drewN]⟩
      · obtain rfl : n = j := by omega
        have Ht := Lib.hid (show x = true by
          rw [← Hx.out]
          refine decide_eq_true (List.ext_getElem (by rw [Hen.out, Hem.out]) (fun i h1 h2 => ?_))
          have := hsame.out i (by rw [← Hen.out]; exact h1)
          simpa [List.getD, h1, h2] using this)
        go_wp2_with fail
        go_ret
        exact ⟨by rw [Ht.out]; rfl, k, rfl⟩
  · have hq : ((n : Int) != (m : Int)) = true := by simp; omega
    have Hf := Lib.hid (show x = false by
      rw [← Hx.out]
      exact decide_eq_false (fun e => hnm (by rw [← Hen.out, ← Hem.out, e])))
    clear hnm
    go_enter Try.func20, Try.ntmps20
    go_wp2_with fail
    go_ret
    exact ⟨by rw [Hf.out]; rfl, 0, rfl⟩
end Go.Proofs.Ytmmnicnebammhaa
