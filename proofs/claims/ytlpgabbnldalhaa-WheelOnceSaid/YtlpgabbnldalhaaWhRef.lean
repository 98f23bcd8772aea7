/-
  The contracts of the document's own wheel (culvertref12): Same, At, Next, Stop, Tick, Set.
-/
import Derived.Test.YtlpgabbnldalhaaWh
import Derived.Test.YtlpgabbnldalhaaSumAny
import Derived.Deep.LoopGhost
import Derived.Deep.CutRange
import Derived.BigRegion
import Derived.BigQuiet
import Derived.OwnWalk
namespace Go.Proofs.Ytlpgabbnldalhaa
set_option maxRecDepth 10000
open Go.RowKit
set_option linter.unusedSimpArgs false
set_option linter.unusedVariables false

def QuietW (v : Value) (w : World) (e : Ending) (w' : World) : Prop := e = .returned v ∧ ∃ m, w' = w.drewN m
theorem bool_ne {a b : Int} (h : ¬ a = b) : (a != b) = true := by simpa using h
theorem sl_read {w : World} {T : TypeId} {k : IntKind} {v : Value} {l : List Int} (h : Sl w T k v l) : ∃ A c, v = .slice A l.length c ∧ ∀ i, i < l.length → ∃ g o, A = some ⟨g, o, none⟩ ∧ w.cell? ⟨g, o + i, none⟩ = some (.int k (l.getD i 0)) := by
  rcases h with ⟨rfl, rfl⟩ | ⟨g, o, c, rfl, h⟩
  · exact ⟨_, _, rfl, fun i hi => by simp at hi⟩
  · exact ⟨_, _, rfl, fun i hi => ⟨g, o, rfl, h.cell hi⟩⟩
set_option maxHeartbeats 1000000 in
theorem same12_any (v v2 : Value) (l l2 : List Int) (x : Bool) (w : World) (h : Sl w 23 .u64 v l) (h2 : Sl w 23 .u64 v2 l2) (hn : l.length ≤ 1000000) (hx : decide (l = l2) = x) :
    Calls Try.prog 15 #[v, v2] w (QuietW (.bool x) w) := by
  obtain ⟨A, c, rfl, hA⟩ := sl_read h
  obtain ⟨A2, c2, rfl, hA2⟩ := sl_read h2
  obtain ⟨n, en⟩ : ∃ n, l.length = n := ⟨_, rfl⟩
  obtain ⟨m, em⟩ : ∃ m, l2.length = m := ⟨_, rfl⟩
  have HA := Lib.hid hA
  have HA2 := Lib.hid hA2
  have Hx := Lib.hid hx
  have Hen := Lib.hid en
  have Hem := Lib.hid em
  rw [en] at HA hn ⊢
  rw [em] at HA2 ⊢
  clear hA hA2 hx h h2 en em
  by_cases hnm : n = m
  · subst hnm
    have hq : ((n : Int) != (n : Int)) = false := by simp
    go_enter Try.func15, Try.ntmps15
    go_wp2_with fail
    go_loopg [5] n (fun gk i wr => ∃ j k : Nat, Hid (gk + j = n) ∧ j ≤ n ∧ i = .int .i64 (j : Int) ∧ Hid (∀ i, i < j → l.getD i 0 = l2.getD i 0) ∧ wr = w.drewN k)
    case atStart => exact ⟨0, 0, rfl, Nat.zero_le _, rfl, Lib.hid (fun i hi => by omega), rfl⟩
    case round =>
      obtain ⟨j, k, hgk, hj, rfl, hsame, rfl⟩ := hrel
      by_cases hjn : j < n
      · obtain ⟨g, o, rfl, hc⟩ := HA.out j hjn
        obtain ⟨g2, o2, rfl, hc2⟩ := HA2.out j hjn
        obtain ⟨x1, e1⟩ : ∃ x1, l.getD j 0 = x1 := ⟨_, rfl⟩
        obtain ⟨x2, e2⟩ : ∃ x2, l2.getD j 0 = x2 := ⟨_, rfl⟩
        rw [e1] at hc
        rw [e2] at hc2
        have i0 : (0 : Int) ≤ (j : Int) := by omega
        have i1 : (j : Int) < (n : Int) := by omega
        by_cases hxx : x1 = x2
        · have Hs := Lib.hid (show ∀ i, i < j + 1 → l.getD i 0 = l2.getD i 0 by
            intro i hi
            by_cases e : i = j
            · subst e; rw [e1, e2, hxx]
            · exact hsame.out i (by omega))
          have hb : (x1 != x2) = false := by simpa using hxx
          clear e1 e2 hxx
          go_wp2_with fail
          go_quiet (fail)
          go_wp2_with fail
          go_roundg (gk - 1)
          case measure => have := hgk.out; omega
          case rel => exact ⟨j + 1, k + nq, by have := hgk.out; show gk - 1 + (j + 1) = _; omega, by omega, by go_num, Hs, by first | rfl | rw [World.drewN_drewN]⟩
        · have hb : (x1 != x2) = true := bool_ne hxx
          have Hf := Lib.hid (show x = false by
            rw [← Hx.out]
            exact decide_eq_false (fun e => hxx (by rw [← e1, ← e2, e])))
          clear e1 e2 hxx
          go_wp2_with fail
          go_quiet (fail)
          go_wp2_with fail
          go_ret
          exact ⟨by rw [Hf.out]; rfl, k + nq, by first | rfl | rw [World.drewN_drewN]⟩
      · obtain rfl : n = j := by omega
        have Ht := Lib.hid (show x = true by
          rw [← Hx.out]
          refine decide_eq_true (List.ext_getElem (by rw [Hen.out, Hem.out]) (fun i h1 h2 => ?_))
          have := hsame.out i (by rw [← Hen.out]; exact h1)
          simpa [List.getD, h1, h2] using this)
        go_wp2_with fail
        go_ret
        exact ⟨by rw [Ht.out]; rfl, k, rfl⟩
  · have hq : ((n : Int) != (m : Int)) = true := bool_ne (by omega)
    have Hf := Lib.hid (show x = false by
      rw [← Hx.out]
      exact decide_eq_false (fun e => hnm (by rw [← Hen.out, ← Hem.out, e])))
    clear hnm
    go_enter Try.func15, Try.ntmps15
    go_wp2_with fail
    go_ret
    exact ⟨by rw [Hf.out]; rfl, 0, rfl⟩
/-- The document's wheel in memory. -/
def RefW (w : World) (S : Nat → Prop) (g : Nat) (ck : Int) (L : AL) : Prop :=
  ∃ v, w.heap[g]? = some (.cells #[.int .u64 ck, v] 29 (0, 0)) ∧ SlV w 67 2 v L.length (flatW L) ∧ S g ∧ (∀ b, v.ownBlock = some b → S b) ∧ ∀ k, S k → k < w.heap.size
theorem RefW.but {w w' : World} {S T : Nat → Prop} {g : Nat} {ck : Int} {L : AL} (h : RefW w S g ck L) (hb : But T w w') (hT : ∀ k, S k → ¬ T k) : RefW w' S g ck L := by
  obtain ⟨v, h1, h2, h3, h4, h5⟩ := h
  exact ⟨v, hb.blk h1 (hT _ h3), h2.but hb (fun b hb' => hT _ (h4 b hb')), h3, h4, fun k hk => hb.lt (h5 k hk)⟩
theorem RefW.below {w w' : World} {S : Nat → Prop} {g : Nat} {ck : Int} {L : AL} (h : RefW w S g ck L) (hb : Below w.heap.size w w') : RefW w' S g ck L :=
  h.but (But.of (S := fun _ => False) hb) (fun _ _ h => h)
/-- What a call of it leaves. -/
def RefDoes (S : Nat → Prop) (g : Nat) (ck : Int) (L : AL) (v : Value) (w : World) (e : Ending) (w' : World) : Prop := e = .returned v ∧ ∃ S', RefW w' S' g ck L ∧ But S w w' ∧ ∀ k, S' k → S k ∨ w.heap.size ≤ k
theorem alarm_index {w : World} {g o n c : Nat} {L : AL} (h : RowV w 67 2 g o n (flatW L) c) (hn : L.length = n) {j : Nat} (hj : j < n) :
    (∀ W : World, (Instr.indexAt 27 (.slice (some ⟨g, o, none⟩) n c) (.int .i64 (j : Int))).run Try.prog W = .ok (.pointer (some ⟨g, o + j * 2, none⟩)) W) ∧
      w.cell? ⟨g, o + j * 2, none⟩ = some (.int .u64 (L.getD j (0, 0)).1) ∧ w.cell? ⟨g, o + j * 2 + 1, none⟩ = some (.int .u64 (L.getD j (0, 0)).2) := by
  obtain ⟨f1, f2⟩ := flatW_get L (i := j) (by omega)
  obtain ⟨C, hg, hC, hl, hnc, hm, hc⟩ := h
  have hlen := flatW_length L
  have k0 : (0 : Int) ≤ (j : Int) := by omega
  have k1 : (j : Int) < (n : Int) := by omega
  refine ⟨fun W => by go_simp, ?_, ?_⟩
  · rw [blk_cell hg, hc _ (by omega), f1]
  · rw [blk_cell hg, Nat.add_assoc, hc _ (by omega), f2]
theorem find_at12 {L : AL} {id : Int} {j : Nat} (hj : j < L.length) (hno : ∀ i, i < j → ¬ (L.getD i (0, 0)).1 = id) (hi : (L.getD j (0, 0)).1 = id) : atW id L = some (L.getD j (0, 0)) := by
  unfold atW
  induction L generalizing j with
  | nil => simp at hj
  | cons a L ih =>
    cases j with
    | zero =>
      have : a.1 = id := hi
      simp [this]
    | succ j =>
      have h0 : ¬ a.1 = id := hno 0 (by omega)
      simp only [List.length_cons] at hj
      have := ih (j := j) (by omega) (fun i hi' => by have := hno (i + 1) (by omega); simpa using this) (by simpa using hi)
      simpa [h0] using this
theorem find_no12 {L : AL} {id : Int} (hno : ∀ i, i < L.length → ¬ (L.getD i (0, 0)).1 = id) : atW id L = none := by
  unfold atW
  rw [List.find?_eq_none]
  intro a ha
  obtain ⟨i, hi⟩ := List.getElem?_of_mem ha
  obtain ⟨hil, he⟩ := List.getElem?_eq_some_iff.1 hi
  have := hno i hil
  simp only [List.getD, List.getElem?_eq_getElem hil, Option.getD_some, he] at this
  simpa using this
set_option maxHeartbeats 1000000 in
theorem rat12_any (S : Nat → Prop) (g : Nat) (ck id y : Int) (is_ : Bool) (L : AL) (w : World) (h : RefW w S g ck L) (hn : L.length ≤ 1000000) (hx : (match atW id L with | none => ((0 : Int), false) | some a => (a.2, true)) = (y, is_)) :
    Calls Try.prog 20 #[.pointer (some ⟨g, 0, none⟩), .int .u64 id] w (QuietW (.tuple #[.int .u64 y, .bool is_]) w) := by
  obtain ⟨v, hg, hs, -, -, -⟩ := h
  obtain ⟨n, en⟩ : ∃ n, L.length = n := ⟨_, rfl⟩
  have k1 := blk_cell hg 1
  simp at k1
  have Hen := Lib.hid en
  have Hx := Lib.hid hx
  rw [en] at hs hn
  have Hs := Lib.hid hs
  obtain ⟨A, c, rfl⟩ := hs.form
  clear hx hs en hg
  go_enter Try.func20, Try.ntmps20
  go_wp2_with fail
  go_loopg [6] n (fun gk i wr => ∃ j : Nat, Hid (gk + j = n) ∧ j ≤ n ∧ i = .int .i64 (j : Int) ∧ Hid (∀ i, i < j → ¬ (L.getD i (0, 0)).1 = id) ∧ w = wr)
  case atStart => exact ⟨0, rfl, Nat.zero_le _, rfl, Lib.hid (fun i hi => by omega), rfl⟩
  case round =>
    obtain ⟨j, hgk, hj, rfl, hno, rfl⟩ := hrel
    by_cases hjn : j < n
    · obtain ⟨g2, o, eA, hr⟩ : ∃ g2 o, A = some ⟨g2, o, none⟩ ∧ RowV w 67 2 g2 o n (flatW L) c := by
        rcases Hs.out with ⟨h0, h1, _⟩ | ⟨g2, o, c', h0, h1⟩
        · omega
        · injection h0 with h0 _ h2
          subst h2
          exact ⟨g2, o, h0, h1⟩
      subst eA
      obtain ⟨hidx, hc1, hc2⟩ := alarm_index hr Hen.out hjn
      obtain ⟨⟨x1, x2⟩, ex⟩ : ∃ x, L.getD j (0, 0) = x := ⟨_, rfl⟩
      rw [ex] at hc1 hc2
      simp only at hc1 hc2
      have i0 : (0 : Int) ≤ (j : Int) := by omega
      have i1 : (j : Int) < (n : Int) := by omega
      clear hr
      by_cases hxi : x1 = id
      · have hb : (x1 == id) = true := by simpa using hxi
        have Hy := Lib.hid (show y = x2 ∧ is_ = true by
          have := Hx.out
          rw [find_at12 (by rw [Hen.out]; exact hjn) hno.out (by rw [ex]; exact hxi), ex] at this
          simp only [Prod.mk.injEq] at this
          exact ⟨this.1.symm, this.2.symm⟩)
        clear hxi ex
        go_wp2_with fail
        go_ret2
        exact ⟨by rw [Hy.out.1, Hy.out.2]; rfl, 0, rfl⟩
      · have hb : (x1 == id) = false := by simpa using hxi
        have Hno := Lib.hid (show ∀ i, i < j + 1 → ¬ (L.getD i (0, 0)).1 = id by
          intro i hi
          by_cases e : i = j
          · subst e; rw [ex]; exact hxi
          · exact hno.out i (by omega))
        clear hxi ex
        go_wp2_with fail
        go_roundg (gk - 1)
        case measure => have := hgk.out; omega
        case rel => exact ⟨j + 1, by have := hgk.out; show gk - 1 + (j + 1) = _; omega, by omega, by go_num, Hno, rfl⟩
    · obtain rfl : n = j := by omega
      have Hy := Lib.hid (show y = 0 ∧ is_ = false by
        have := Hx.out
        rw [find_no12 (by rw [Hen.out]; exact hno.out)] at this
        simp only [Prod.mk.injEq] at this
        exact ⟨this.1.symm, this.2.symm⟩)
      go_wp2_with fail
      go_ret2
      exact ⟨by rw [Hy.out.1, Hy.out.2]; rfl, 0, rfl⟩
theorem rnext12_any (S : Nat → Prop) (g : Nat) (ck y : Int) (is_ : Bool) (L : AL) (w : World) (h : RefW w S g ck L) (hx : nextW L = (y, is_)) :
    Calls Try.prog 18 #[.pointer (some ⟨g, 0, none⟩)] w (QuietW (.tuple #[.int .u64 y, .bool is_]) w) := by
  obtain ⟨v, hg, hs, -, -, -⟩ := h
  have k1 := blk_cell hg 1
  simp at k1
  revert hx
  cases L with
  | nil =>
    intro hx
    obtain ⟨A, c, rfl⟩ := hs.form
    simp only [nextW, Prod.mk.injEq] at hx
    obtain ⟨rfl, rfl⟩ := hx
    simp only [List.length_nil] at k1
    clear hg hs
    go_enter Try.func18, Try.ntmps18
    go_wp2_with fail
    go_ret2
    exact ⟨rfl, 0, rfl⟩
  | cons a L =>
    intro hx
    rcases hs with ⟨_, h1, _⟩ | ⟨g2, o, c, rfl, hr⟩
    · simp at h1
    · obtain ⟨n, en⟩ : ∃ n, (a :: L).length = n := ⟨_, rfl⟩
      have hn : 0 < n := by rw [← en]; simp
      rw [en] at hr k1
      obtain ⟨hidx, hc1, hc2⟩ := alarm_index hr en hn
      obtain ⟨a1, a2⟩ := a
      simp only [nextW, Prod.mk.injEq] at hx
      obtain ⟨rfl, rfl⟩ := hx
      have hnb : ((n : Int) == 0) = false := by simp; omega
      have i1 : (0 : Int) < (n : Int) := by omega
      simp at hc2
      clear hg hr hc1 hidx en
      go_enter Try.func18, Try.ntmps18
      go_wp2_with fail
      go_ret2
      exact ⟨rfl, 0, rfl⟩
end Go.Proofs.Ytlpgabbnldalhaa
