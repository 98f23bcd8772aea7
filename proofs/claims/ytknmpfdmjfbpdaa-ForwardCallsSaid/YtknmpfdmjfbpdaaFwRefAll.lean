/-
  The document's own All (culvertref14).
-/
import Derived.Test.YtknmpfdmjfbpdaaFwDoor
import Derived.Test.YtknmpfdmjfbpdaaFwClone
import Derived.BigQuiet
import Derived.Deep.DeepCutAuto
namespace Go.Proofs.Ytknmpfdmjfbpdaa
set_option maxRecDepth 10000
open Go.RowKit
set_option linter.unusedSimpArgs false
set_option linter.unusedVariables false

theorem flatW4_take (L : FWL) (k : Nat) : flatW4 (L.take k) = (flatW4 L).take (k * 4) := by
  induction L generalizing k with
  | nil => simp [flatW4]
  | cons f L ih =>
    have h4 : (fwV f).length = 4 := rfl
    cases k with
    | zero => simp [flatW4]
    | succ k =>
      rw [List.take_succ_cons, flatW4_cons, flatW4_cons, ih, List.take_append, h4, show (k + 1) * 4 - 4 = k * 4 by omega, List.take_of_length_le (l := fwV f) (by rw [h4]; omega)]
theorem flatW4_drop (L : FWL) (k : Nat) : flatW4 (L.drop k) = (flatW4 L).drop (k * 4) := by
  induction L generalizing k with
  | nil => simp [flatW4]
  | cons f L ih =>
    have h4 : (fwV f).length = 4 := rfl
    cases k with
    | zero => simp
    | succ k =>
      rw [List.drop_succ_cons, flatW4_cons, ih, List.drop_append, h4, show (k + 1) * 4 - 4 = k * 4 by omega, List.drop_of_length_le (l := fwV f) (by rw [h4]; omega), List.nil_append]
theorem takeWhile_fw {p : Fw → Bool} (L : FWL) {j : Nat} (hj : j ≤ L.length) (h : ∀ i, i < j → p (L.getD i fw0) = true) (hn : j = L.length ∨ p (L.getD j fw0) = false) : L.takeWhile p = L.take j ∧ L.dropWhile p = L.drop j := by
  induction L generalizing j with
  | nil => simp at hj; subst hj; simp
  | cons a L ih =>
    cases j with
    | zero =>
      rcases hn with hn | hn
      · simp at hn
      · have : p a = false := hn
        simp [this]
    | succ j =>
      have h0 : p a = true := h 0 (by omega)
      simp only [List.length_cons] at hj hn
      have := ih (j := j) (by omega) (fun i hi => by have := h (i + 1) (by omega); simpa using this) (by rcases hn with hn | hn; exact .inl (by omega); exact .inr (by simpa using hn))
      simp [h0, this.1, this.2]
theorem fwIns_at {f : Fw} {M : FWL} {j : Nat} (hj : j ≤ M.length) (h : ∀ i, i < j → fwLt (M.getD i fw0) f = true) (hn : j = M.length ∨ fwLt (M.getD j fw0) f = false) : fwIns f M = M.take j ++ f :: M.drop j := by
  obtain ⟨h1, h2⟩ := takeWhile_fw (p := fun g => fwLt g f) M hj h hn
  unfold fwIns
  rw [h1, h2]
theorem fwAll_succ {L : FWL} {j : Nat} (hj : j < L.length) {f : Fw} (hf : L.getD j fw0 = f) : fwAll (L.take (j + 1)) = fwIns f (fwAll (L.take j)) := by
  have e : L[j] = f := by simpa [List.getD, hj] using hf
  rw [List.take_succ_eq_append_getElem hj, e]
  unfold fwAll
  rw [List.foldl_append]
  rfl
/-- The three appends of All. -/
theorem ins_runs (f : Fw) (M : FWL) (w : World) (A : Option Addr) (n c q : Nat) (hM : M.length = n) (hq : q ≤ n) (hn : n ≤ 1000000) (hs : SlV w 40 4 (.slice A n c) n (flatW4 M)) :
    ∃ A1 c1 B2 d2 w2 B3 d3 w3 A3 c3 B4 d4 w4,
      (∀ W : World, (Instr.slice 27 (.slice A n c) none (some (.int .i64 (q : Int))) none).run Try.prog W = .ok (.slice A1 q c1) W) ∧
      (Builtin.append_ #[27, 27] 27 #[.slice none 0 0, .slice A1 q c1]).run Try.prog w = .ok (.slice B2 q d2) w2 ∧
      (Builtin.append_ #[27, 27] 27 #[.slice B2 q d2, .slice (some ⟨w2.heap.size, 0, none⟩) 1 1]).run Try.prog (w2.alloc (.cells #[.int .u8 f.pr, .int .u16 f.po, .int .u32 f.ad, .int .u16 f.tp] 40)) = .ok (.slice B3 (q + 1) d3) w3 ∧
      (∀ W : World, (Instr.slice 27 (.slice A n c) (some (.int .i64 (q : Int))) none none).run Try.prog W = .ok (.slice A3 (n - q) c3) W) ∧
      (Builtin.append_ #[27, 27] 27 #[.slice B3 (q + 1) d3, .slice A3 (n - q) c3]).run Try.prog w3 = .ok (.slice B4 (n + 1) d4) w4 ∧
      SlV w4 40 4 (.slice B4 (n + 1) d4) (n + 1) (flatW4 (M.take q ++ f :: M.drop q)) ∧ (∀ k, (Value.slice B4 (n + 1) d4).ownBlock = some k → w.heap.size ≤ k) ∧ Below w.heap.size w w2 ∧ Below w.heap.size w w4 := by
  obtain ⟨A1, c1, ht1, hs1, -⟩ := sv_to (k := q) Try.underlying27 info_tfw hs hq
  rw [← flatW4_take] at hs1
  obtain ⟨B2, d2, w2, hr2, hs2, hb2, ho2, -⟩ := sv_app (P := Try.prog) w 27 27 40 _ 4 12 Try.underlying27 info_tfw (by omega) rfl
    (.slice none 0 0) _ 0 q [] _ (.inl ⟨rfl, rfl, rfl⟩) hs1 (flatW4_one _) (by omega)
  rw [Nat.zero_add] at hr2 hs2 ho2
  rw [List.nil_append] at hs2
  have bl2 : Below w.heap.size w w2 := hb2.below (fun k hk => by cases hk) (Nat.le_refl _)
  have own2 : ∀ k, (Value.slice B2 q d2).ownBlock = some k → w.heap.size ≤ k := by
    intro k hk
    rcases ho2 with h1 | h1
    · rw [h1] at hk; cases hk
    · rw [h1] at hk; injection hk with hk; omega
  have hlit := RowV.one (w := w2) (sz := 4) 40 (flatW4 [f]) w2.heap.size rfl rfl
  have hBa : But (fun _ => False) w2 (w2.alloc (.cells (flatW4 [f]).toArray 40)) := (But.refl _ _).alloc _
  obtain ⟨B3, d3, w3, hr3, hs3, hb3, ho3, -⟩ := sv_app (P := Try.prog) (w2.alloc (.cells (flatW4 [f]).toArray 40)) 27 27 40 _ 4 12 Try.underlying27 info_tfw (by omega) rfl
    (.slice B2 q d2) _ q 1 _ _ (hs2.but hBa (fun _ _ x => x)) hlit (flatW4_one _) (by omega)
  have sz2 := bl2.size
  have bl3 : Below w.heap.size w w3 := bl2.trans ((hBa.mono (S' := fun k => (Value.slice B2 q d2).ownBlock = some k) (fun k _ hk => hk.elim)).trans hb3 |>.below own2 sz2)
  have own3 : ∀ k, (Value.slice B3 (q + 1) d3).ownBlock = some k → w.heap.size ≤ k := by
    intro k hk
    rcases ho3 with h1 | h1
    · rw [h1] at hk; exact own2 k hk
    · rw [h1] at hk
      injection hk with hk
      have := hBa.size
      omega
  obtain ⟨A3, c3, ht3, hsf, -⟩ := sv_from (k := q) Try.underlying27 info_tfw (hs.but (But.of (S := fun _ => False) bl3) (fun _ _ x => x)) hq
  rw [← flatW4_drop] at hsf
  obtain ⟨B4, d4, w4, hr4, hs4, hb4, ho4, -⟩ := sv_app (P := Try.prog) w3 27 27 40 _ 4 12 Try.underlying27 info_tfw (by omega) rfl
    (.slice B3 (q + 1) d3) _ (q + 1) (n - q) _ _ hs3 hsf (flatW4_one _) (by omega)
  have e4 : q + 1 + (n - q) = n + 1 := by omega
  rw [e4] at hr4 hs4 ho4
  have sz3 := bl3.size
  refine ⟨A1, c1, B2, d2, w2, B3, d3, w3, A3, c3, B4, d4, w4, ht1, hr2, hr3, ht3, hr4, ?_, fun k hk => ?_, bl2, bl3.trans (hb4.below own3 sz3)⟩
  · rw [flatW4_append, show f :: M.drop q = [f] ++ M.drop q from rfl, flatW4_append, ← List.append_assoc]
    exact hs4
  · rcases ho4 with h1 | h1
    · rw [h1] at hk; exact own3 k hk
    · rw [h1] at hk
      injection hk with hk
      omega
end Go.Proofs.Ytknmpfdmjfbpdaa
