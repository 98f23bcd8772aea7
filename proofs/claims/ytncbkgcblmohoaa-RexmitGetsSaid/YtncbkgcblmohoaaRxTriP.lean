/-
  RexmitTries, plain: a buffer whose alarms are let come.
-/
import Derived.Test.YtncbkgcblmohoaaRxP
namespace Go.Proofs.Ytncbkgcblmohoaa
set_option maxRecDepth 10000
set_option linter.unusedSimpArgs false
set_option linter.unusedVariables false

/-- L bytes left; k alarms have come, the last one at D (or: it began at D); the next wait is W. -/
structure TrX (s : XS) (L : Nat) (win r t : Int) (k : Nat) (D W : Int) : Prop where
  len : s.bs.length = L
  win : s.win = win
  rto : s.rto = r
  tries : s.tries = t
  count : s.count = (k : Int)
  wait : s.wait = W
  alarm : 0 < L → s.alarm = D + W
  sent : 0 < k → 0 < L → 1 ≤ s.sent
  ok : OkX s
theorem nil_iff {s : XS} {L : Nat} (h : s.bs.length = L) (h0 : 0 < L) : s.bs ≠ [] := fun e => by rw [e] at h; simp at h; omega
theorem set_pos {s : XS} {L : Nat} (h : s.bs.length = L) (h0 : 0 < L) : setX s = true := by
  unfold setX
  cases hb : s.bs with
  | nil => rw [hb] at h; simp at h; omega
  | cons x l => rfl
section
variable {s : XS} {L k : Nat} {win r t D W : Int}
theorem TrX.small (h : TrX s L win r t k D W) (hr : r ≤ 50) : 1 ≤ W ∧ W ≤ 51200 := by
  have hc := h.ok.count
  have ht := h.ok.tries
  have h1 := pow_bd (k := s.count.toNat) (by omega)
  have h2 := h.ok.rto
  have h3 := h.rto
  have hw := h.ok.waits
  have e := h.ok.wait
  rw [h.wait] at e hw
  refine ⟨hw.1, ?_⟩
  have := Int.mul_le_mul (show s.rto ≤ 50 by omega) h1.2 (by omega) (by omega)
  omega
theorem tri_new {x : Int} {n : Nat} {now : Int} (hx : 0 ≤ x ∧ x < 4294967296) (hw : 0 ≤ win ∧ win < 70000) (hr : 1 ≤ r ∧ r ≤ 50) (ht : 1 ≤ t ∧ t ≤ 10) (hn : 1 ≤ n ∧ n ≤ 4) (h0 : 0 ≤ now ∧ now < 65536) :
    TrX (writeS (List.replicate n 0) now (newX x win r t)) n win r t 0 now r ∧ writeE (List.replicate n 0) (newX x win r t) = 0 := by
  have hl : ¬ longX (List.replicate n 0) (newX x win r t) = true := by
    unfold longX newX
    simp
    omega
  have hne : (newX x win r t).bs = [] ∧ List.replicate n (0 : Int) ≠ [] := ⟨rfl, fun e => by
    have := congrArg List.length e
    simp at this
    omega⟩
  have hok := write_ok (s := newX x win r t) (now := now) (data := List.replicate n 0) (new_okX hx hw.1 (by unfold badX; omega)) (by omega) (fun y hy => by rw [List.eq_of_mem_replicate hy]; omega)
  unfold writeE
  unfold writeS at hok ⊢
  rw [if_neg hl, if_pos hne] at hok
  rw [if_neg hl, if_neg hl, if_pos hne]
  exact ⟨⟨by simp [anewX, layX, newX], rfl, rfl, rfl, rfl, rfl, fun _ => rfl, fun h => absurd h (by omega), hok⟩, rfl⟩
theorem TrX.alarms (h : TrX s L win r t k D W) (h0 : 0 < L) : alarmX s = D + W ∧ setX s = true := by
  have e := set_pos h.len h0
  unfold alarmX
  rw [if_pos e]
  exact ⟨h.alarm h0, e⟩
theorem tick_two {mss now : Int} (hk : tickK mss now s = 2) : tickS mss now s = s ∧ tickA mss now s = 0 ∧ tickB mss now s = false ∧ tickE mss now s = 0 ∧ tickD mss now s = [] := by
  unfold tickS tickA tickB tickE tickD
  rw [hk]
  exact ⟨rfl, rfl, rfl, rfl, rfl⟩
theorem tick_three {mss now : Int} (hk : tickK mss now s = 3) : tickS mss now s = s ∧ tickA mss now s = 0 ∧ tickB mss now s = false ∧ tickE mss now s = 7 ∧ tickD mss now s = [] := by
  unfold tickS tickA tickB tickE tickD
  rw [hk]
  exact ⟨rfl, rfl, rfl, rfl, rfl⟩
theorem bad_ten : badM 10 = false := by decide
theorem TrX.early (h : TrX s L win r t k D W) (h0 : 0 < L) (now : Int) (hn : now < D + W) : tickK 10 now s = 2 := by
  unfold tickK dueX
  rw [bad_ten, (h.alarms h0).2, h.alarm h0, decide_eq_false (by omega)]
  rfl
theorem TrX.last (h : TrX s L win r t k D W) (h0 : L = 0) (now : Int) : setX s = false ∧ alarmX s = 0 ∧ tickK 10 now s = 2 := by
  have e : s.bs = [] := List.eq_nil_of_length_eq_zero (h.len.trans h0)
  have e2 : setX s = false := by unfold setX; rw [e]; rfl
  refine ⟨e2, ?_, ?_⟩
  · unfold alarmX; rw [e2]; rfl
  · unfold tickK dueX; rw [bad_ten, e2]; rfl
theorem TrX.full (h : TrX s L win r t k D W) (h0 : 0 < L) (hk : (k : Int) = t) (now : Int) (hn : D + W ≤ now) : tickK 10 now s = 3 := by
  unfold tickK dueX
  rw [bad_ten, (h.alarms h0).2, h.alarm h0, decide_eq_true hn, h.tries, h.count, if_pos (show t ≤ (k : Int) by omega)]
  rfl
theorem TrX.tick (h : TrX s L win r t k D W) (h0 : 0 < L) (hL : L ≤ 4) (hk : (k : Int) < t) (now : Int) (hn : now = D + W) (hbd : 0 ≤ now ∧ now ≤ 4398046511104) :
    TrX (tickS 10 now s) L win r t (k + 1) now (W + W) ∧ tickB 10 now s = true ∧ tickE 10 now s = 0 ∧ (tickD 10 now s).length = max 1 (min L win.toNat) ∧ ∀ y ∈ tickD 10 now s, 0 ≤ y ∧ y < 256 := by
  have hK : tickK 10 now s = 4 := by
    unfold tickK dueX
    rw [bad_ten, (h.alarms h0).2, h.alarm h0, decide_eq_true (by omega), h.tries, h.count, if_neg (show ¬ t ≤ (k : Int) by omega)]
    rfl
  have hok := tick_ok (mss := 10) h.ok hbd
  have hl := h.len
  have hD : (tickD 10 now s).length = max 1 (min L win.toNat) := by
    unfold tickD
    rw [if_pos hK, List.length_take, h.win, hl, show (10 : Int).toNat = 10 from rfl]
    omega
  refine ⟨⟨?_, ?_, ?_, ?_, ?_, ?_, ?_, ?_, hok⟩, by unfold tickB; rw [hK]; rfl, by unfold tickE; rw [hK]; rfl, hD, fun y hy => ?_⟩
  · unfold tickS; rw [if_pos hK]; exact hl
  · unfold tickS; rw [if_pos hK]; exact h.win
  · unfold tickS; rw [if_pos hK]; exact h.rto
  · unfold tickS; rw [if_pos hK]; exact h.tries
  · unfold tickS; rw [if_pos hK]; show s.count + 1 = _; rw [h.count]; omega
  · unfold tickS; rw [if_pos hK]; show s.wait + s.wait = _; rw [h.wait]
  · intro _; unfold tickS; rw [if_pos hK]; show now + (s.wait + s.wait) = _; rw [h.wait]
  · intro _ _; unfold tickS; rw [if_pos hK]; show 1 ≤ max s.sent (tickD 10 now s).length; rw [hD]; omega
  · unfold tickD at hy
    rw [if_pos hK] at hy
    exact h.ok.byte y (List.mem_of_mem_take hy)
theorem far_one (u : Int) (n : Nat) (hn : n < 2147483648) (hu : 0 ≤ u ∧ u < 4294967296) : farX u (numX (u + n)) = n := by unfold farX numX; omega
theorem TrX.ack (h : TrX s L win r t k D W) (h0 : 0 < L) (hk : 0 < k) (now : Int) (hn : 0 ≤ now ∧ now ≤ 4398046511104) :
    TrX (ackS (numX (s.una + 1)) win now s) (L - 1) win r t 0 now r ∧ ackN (numX (s.una + 1)) win s = 1 ∧ ackE (numX (s.una + 1)) win s = 0 := by
  have hf : farX s.una (numX (s.una + 1)) = 1 := far_one s.una 1 (by omega) h.ok.una
  have hs := h.sent hk h0
  have hw := h.ok.win
  rw [h.win] at hw
  have hb : ¬ ackBad (numX (s.una + 1)) win s = true := by
    unfold ackBad
    rw [hf]
    simp
    omega
  have hok := ack_ok (ack := numX (s.una + 1)) (win := win) h.ok hn hw.1
  unfold ackN ackE
  unfold ackS at hok ⊢
  rw [if_neg hb, if_neg (by omega), hf] at hok
  rw [if_neg hb, if_neg hb, if_neg hb, if_neg (by omega), hf]
  refine ⟨⟨?_, rfl, h.rto, h.tries, rfl, h.rto, fun _ => ?_, fun e => absurd e (by omega), hok⟩, rfl, rfl⟩
  · show (s.bs.drop 1).length = L - 1
    rw [List.length_drop, h.len]
  · show now + s.rto = now + r
    rw [h.rto]
end
end Go.Proofs.Ytncbkgcblmohoaa
