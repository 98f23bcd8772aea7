/-
  Slices of pieces of a law's: carried on, one of them read; what Send tells, piece by piece.
-/
import Derived.Test.YtncbkgcblmohoaaRxAwake
import Derived.Test.YtncbkgcblmohoaaRxSendP
namespace Go.Proofs.Ytncbkgcblmohoaa
set_option maxRecDepth 10000
open Go.RowKit
set_option linter.unusedSimpArgs false
set_option linter.unusedVariables false

theorem own_on2 {w w' : World} {B n c : Nat} {A : Option Addr} {l : List Int} {T : Nat → Prop} (h : OwnB w B A n c l) (hb : But T w w') (hn : ∀ b, (Value.slice A n c).ownBlock = some b → ¬ T b) : OwnB w' B A n c l := by
  refine ⟨h.1, ?_⟩
  rcases h.2 with h0 | ⟨g2, cap, cur, e, hB, hc, hrest⟩
  · exact .inl h0
  · exact .inr ⟨g2, cap, cur, e, hB, hb.blk hc (hn g2 (by rw [e]; rfl)), hrest⟩
theorem PcsX.but {w w' : World} {PT : TypeId} {B : Nat} {v : Value} {qs : List PQ} {T : Nat → Prop} (h : PcsX w PT B v qs) (hb : But T w w') (hT : ∀ k, blkQ v qs k → ¬ T k) : PcsX w' PT B v qs :=
  ⟨h.sl.but hb (fun b hb2 => hT b (.inl hb2)), fun q hq => own_on2 (h.rows q hq) hb (fun b hb2 => hT b (.inr ⟨q, hq, hb2⟩)), h.own⟩
theorem PcsX.on {w w' : World} {PT : TypeId} {B : Nat} {v : Value} {qs : List PQ} (h : PcsX w PT B v qs) (hb : Below w.heap.size w w') : PcsX w' PT B v qs := h.but (T := fun _ => False) (But.of hb) (fun _ _ x => x)
theorem PcsX.mono {w : World} {PT : TypeId} {B B' : Nat} {v : Value} {qs : List PQ} (h : PcsX w PT B v qs) (hB : B' ≤ B) : PcsX w PT B' v qs :=
  ⟨h.sl, fun q hq => (h.rows q hq).mono hB, fun b hb => Nat.le_trans hB (h.own b hb)⟩
theorem told_len {qs : List PQ} {ps : List (Int × List Int)} (h : qs.map toldQ = ps) : qs.length = ps.length := by rw [← h, List.length_map]
theorem told_at {qs : List PQ} {ps : List (Int × List Int)} (h : qs.map toldQ = ps) {i : Nat} {x : Int} {d : List Int} (hi : ps[i]? = some (x, d)) : ∃ A c, qs[i]? = some ⟨x, A, c, d⟩ := by
  rw [← h, List.getElem?_map] at hi
  cases hq : qs[i]? with
  | none => rw [hq] at hi; cases hi
  | some q =>
    rw [hq] at hi
    injection hi with hi
    obtain ⟨s, A, c, e⟩ := q
    injection hi with h1 h2
    have h1 : s = x := h1
    have h2 : e = d := h2
    subst h1; subst h2
    exact ⟨A, c, rfl⟩
/-- One of them read. -/
theorem PcsX.index {w : World} {B : Nat} {A : Option Addr} {n c : Nat} {qs : List PQ} (h : PcsX w 54 B (.slice A n c) qs) {i : Nat} {q : PQ} (hi : qs[i]? = some q) (hq : ∀ x ∈ q.data, 0 ≤ x ∧ x < 256) :
    ∃ b p, (∀ W : World, (Instr.indexAt 41 (.slice A n c) (.int .i64 (i : Int))).run Try.prog W = .ok (.pointer (some ⟨b, p, none⟩)) W) ∧ w.cell? ⟨b, p, none⟩ = some (.int .u32 q.seq) ∧ w.cell? ⟨b, p + 1, none⟩ = some (.slice q.A q.data.length q.c) ∧ Rd w q.A q.data.length q.data := by
  have hl := (List.getElem?_eq_some_iff.1 hi).1
  obtain ⟨g, o, c2, e, k0, k1, rd⟩ := h.at_ hi hq
  injection e with e1 e2 e3
  subst e1; subst e2; subst e3
  have j0 : (0 : Int) ≤ (i : Int) := by omega
  have j1 : (i : Int) < (qs.length : Int) := by omega
  exact ⟨g, o + i * 2, fun W => by go_simp, k0, k1, rd⟩
/-- What Send tells, by its place. -/
theorem cutX_get (m : Nat) (hm : 0 < m) : ∀ (f : Nat) (a : Int) (l : List Int) (i : Nat), l.length ≤ f → (0 ≤ a ∧ a < 4294967296) → i * m < l.length → (cutX m f a l)[i]? = some (numX (a + ((i * m : Nat) : Int)), (l.drop (i * m)).take m) := by
  intro f
  induction f with
  | zero => intro a l i h1 _ h2; omega
  | succ f ih =>
    intro a l i h1 ha h2
    have hne : l ≠ [] := fun e => by rw [e] at h2; simp at h2
    simp only [cutX, if_neg hne]
    cases i with
    | zero =>
      simp only [Nat.zero_mul, List.drop_zero, List.getElem?_cons_zero]
      rw [show numX (a + ((0 : Nat) : Int)) = a by unfold numX; omega]
    | succ i =>
      have e1 : (i + 1) * m = i * m + m := Nat.succ_mul i m
      rw [e1] at h2
      have hlm : (l.take m).length = m := by rw [List.length_take]; omega
      rw [List.getElem?_cons_succ, hlm, ih _ _ i (by rw [List.length_drop]; omega) (numX_bd _) (by rw [List.length_drop]; omega), e1, List.drop_drop, numX_num]
      rw [show a + (m : Int) + ((i * m : Nat) : Int) = a + ((i * m + m : Nat) : Int) by omega, show m + i * m = i * m + m by omega]
theorem cutX_len (m : Nat) (hm : 0 < m) : ∀ (f : Nat) (a : Int) (l : List Int), l.length ≤ f → (cutX m f a l).length = (l.length + m - 1) / m := by
  intro f
  induction f with
  | zero =>
    intro a l h
    have : l = [] := List.length_eq_zero_iff.1 (by omega)
    subst this
    simp only [cutX, List.length_nil, Nat.zero_add]
    rw [Nat.div_eq_of_lt (by omega)]
  | succ f ih =>
    intro a l h
    by_cases hne : l = []
    · subst hne
      simp only [cutX, if_true, List.length_nil, Nat.zero_add]
      rw [Nat.div_eq_of_lt (by omega)]
    · have hl : 0 < l.length := List.length_pos_iff.2 hne
      simp only [cutX, if_neg hne, List.length_cons]
      rw [ih _ _ (by rw [List.length_drop]; omega), List.length_drop]
      rw [show l.length + m - 1 = (l.length - 1) + m by omega, Nat.add_div_right _ hm]
      by_cases hlm : m ≤ l.length
      · rw [show l.length - m + m - 1 = l.length - 1 by omega]
      · rw [show l.length - m + m - 1 = m - 1 by omega, Nat.div_eq_of_lt (show m - 1 < m by omega), Nat.div_eq_of_lt (show l.length - 1 < m by omega)]
/-- A buffer that nothing was sent of: what it has. -/
structure PtX (s : XS) (x win : Int) (l : List Int) : Prop where
  una : s.una = x
  bs : s.bs = l
  sent : s.sent = 0
  win : s.win = win
  ok : OkX s
theorem PtX.new_ {x win r t : Int} (hx : 0 ≤ x ∧ x < 4294967296) (hw : 0 ≤ win) (h : ¬ badX win r t) : PtX (newX x win r t) x win [] := ⟨rfl, rfl, rfl, rfl, new_okX hx hw h⟩
theorem PtX.write {s : XS} {x win : Int} {l d : List Int} (h : PtX s x win l) (hl : l.length + d.length ≤ 16384) (hd : ∀ y ∈ d, 0 ≤ y ∧ y < 256) : PtX (writeS d 0 s) x win (l ++ d) ∧ writeE d s = 0 := by
  have hL : ¬ longX d s = true := by unfold longX; rw [h.bs]; simp; omega
  have hok := write_ok (now := 0) (data := d) h.ok (by omega) hd
  unfold writeE
  unfold writeS at hok ⊢
  rw [if_neg hL] at hok ⊢
  rw [if_neg hL]
  refine ⟨?_, rfl⟩
  split at hok <;> rename_i hc
  · rw [if_pos hc]
    exact ⟨h.una, by show s.bs ++ d = _; rw [h.bs], h.sent, h.win, hok⟩
  · rw [if_neg hc]
    exact ⟨h.una, by show s.bs ++ d = _; rw [h.bs], h.sent, h.win, hok⟩
/-- Its pieces, and what is left. -/
theorem PtX.send {s : XS} {x : Int} {win : Int} {l : List Int} (h : PtX s x win l) (hw : (l.length : Int) ≤ win) (ms : Nat) (hm : 1 ≤ ms ∧ ms ≤ 1500) :
    sendL (ms : Int) s = cutX ms l.length x l ∧ sendE (ms : Int) = 0 ∧ nxtX (sendS (ms : Int) s) = endX (sendS (ms : Int) s) ∧ endX (sendS (ms : Int) s) = numX (x + (l.length : Int)) := by
  have hb : ¬ badM (ms : Int) = true := by unfold badM; simp; omega
  have hu := h.ok.una
  rw [h.una] at hu
  have hlim : limX s = l.length := by unfold limX; rw [h.bs, h.win]; omega
  have hn : nxtX s = x := by unfold nxtX; rw [h.una, h.sent]; unfold numX; omega
  have hr : sendR s = l := by
    unfold sendR
    rw [h.sent, hlim, h.bs, List.take_length, List.drop_zero]
  refine ⟨?_, ?_, ?_, ?_⟩
  · unfold sendL
    rw [if_neg hb, hr, hn, Int.toNat_natCast]
  · unfold sendE; rw [if_neg hb]
  · unfold sendS nxtX endX
    rw [if_neg hb, h.sent, hlim, h.bs]
    simp
  · unfold sendS endX
    rw [if_neg hb]
    show numX (s.una + (s.bs.length : Int)) = _
    rw [h.una, h.bs]
end Go.Proofs.Ytncbkgcblmohoaa
