/-
  RexmitGets, plain: each byte comes, whatever is lost.
-/
import Derived.Test.YtncbkgcblmohoaaRxPcs
import Derived.Test.YtncbkgcblmohoaaRxTriP
namespace Go.Proofs.Ytncbkgcblmohoaa
set_option maxRecDepth 10000
set_option linter.unusedSimpArgs false
set_option linter.unusedVariables false

/-- What is left of the data from place q on; c alarms have come in a row. -/
structure GtX (s : XS) (x : Int) (data : List Int) (q c : Nat) (win r : Int) : Prop where
  una : s.una = numX (x + (q : Int))
  bs : s.bs = data.drop q
  win : s.win = win
  rto : s.rto = r
  tries : s.tries = 10
  count : s.count = (c : Int)
  ok : OkX s
/-- A piece of the data, between places q and Q. -/
def PiG (x : Int) (data : List Int) (q Q : Nat) (p : Int × List Int) : Prop := ∃ o : Nat, p.1 = numX (x + (o : Int)) ∧ p.2 = (data.drop o).take p.2.length ∧ 0 < p.2.length ∧ q ≤ o ∧ o + p.2.length ≤ Q
theorem PiG.mono {x : Int} {data : List Int} {q Q Q' : Nat} {p : Int × List Int} (h : PiG x data q Q p) (hQ : Q ≤ Q') : PiG x data q Q' p := by
  obtain ⟨o, h1, h2, h3, h4, h5⟩ := h
  exact ⟨o, h1, h2, h3, h4, by omega⟩
theorem take_len {l : List Int} (m : Nat) : l.take m = l.take (l.take m).length := by
  rw [List.length_take]
  rcases Nat.le_total m l.length with h | h
  · rw [Nat.min_eq_left h]
  · rw [Nat.min_eq_right h, List.take_of_length_le h, List.take_of_length_le (Nat.le_refl _)]
section
variable {s : XS} {x win r : Int} {data : List Int} {q c : Nat}
theorem GtX.small (h : GtX s x data q c win r) (hr : r ≤ 50) : 1 ≤ s.wait ∧ s.wait ≤ 51200 := by
  have hc := h.ok.count
  have ht := h.ok.tries
  have h1 := pow_bd (k := s.count.toNat) (by omega)
  have h2 := h.ok.rto
  have h3 := h.rto
  have hw := h.ok.waits
  have e := h.ok.wait
  refine ⟨hw.1, ?_⟩
  have := Int.mul_le_mul (show s.rto ≤ 50 by omega) h1.2 (by omega) (by omega)
  omega
theorem gt_new (hx : 0 ≤ x ∧ x < 4294967296) (hw : 1 ≤ win ∧ win ≤ 9) (hr : 1 ≤ r ∧ r ≤ 50) (hl : data.length ≤ 60) (hb : ∀ y ∈ data, 0 ≤ y ∧ y < 256) :
    GtX (writeS data 0 (newX x win r 10)) x data 0 0 win r ∧ writeE data (newX x win r 10) = 0 ∧ (writeS data 0 (newX x win r 10)).alarm ≤ 60000 := by
  have hL : ¬ longX data (newX x win r 10) = true := by unfold longX newX; simp; omega
  have hok := write_ok (s := newX x win r 10) (now := 0) (data := data) (new_okX hx (by omega) (by unfold badX; omega)) (by omega) hb
  have hn : x = numX (x + ((0 : Nat) : Int)) := by unfold numX; omega
  unfold writeE
  unfold writeS at hok ⊢
  rw [if_neg hL] at hok ⊢
  rw [if_neg hL]
  refine ⟨?_, rfl, ?_⟩
  · split at hok <;> rename_i hc
    · rw [if_pos hc]
      exact ⟨hn, by show [] ++ data = _; simp, rfl, rfl, rfl, rfl, hok⟩
    · rw [if_neg hc]
      exact ⟨hn, by show [] ++ data = _; simp, rfl, rfl, rfl, rfl, hok⟩
  · split
    · show 0 + r ≤ 60000; omega
    · show (0 : Int) ≤ 60000; omega
theorem GtX.sends (h : GtX s x data q c win r) (hq : q ≤ data.length) (hl : data.length ≤ 60) (hw : 1 ≤ win ∧ win ≤ 9) :
    GtX (sendS 4 s) x data q c win r ∧ (∀ p ∈ sendL 4 s, PiG x data q (q + (sendS 4 s).sent) p) ∧ (sendL 4 s).length ≤ 60 ∧ sendE 4 = 0 ∧ (sendS 4 s).alarm = s.alarm := by
  have hb : ¬ badM 4 = true := by decide
  have hok := send_ok (mss := 4) h.ok
  have hbl : s.bs.length = data.length - q := by rw [h.bs, List.length_drop]
  have hlim := lim_le s
  have hrl : (sendR s).length = limX s - s.sent := restX_len s s.sent
  have hsl : sendL 4 s = cutX 4 (sendR s).length (nxtX s) (sendR s) := by unfold sendL; rw [if_neg hb]; rfl
  refine ⟨?_, ?_, ?_, by decide, ?_⟩
  · unfold sendS at hok ⊢
    rw [if_neg hb] at hok ⊢
    exact ⟨h.una, h.bs, h.win, h.rto, h.tries, h.count, hok⟩
  · intro p hp
    have hse : (sendS 4 s).sent = max s.sent (limX s) := by unfold sendS; rw [if_neg hb]
    rw [hsl] at hp
    obtain ⟨i, hi, hpe⟩ := List.mem_iff_getElem.1 hp
    have hlen := cutX_len 4 (by omega) (sendR s).length (nxtX s) (sendR s) (Nat.le_refl _)
    have hlt : i * 4 < (sendR s).length := by omega
    have hg := cutX_get 4 (by omega) (sendR s).length (nxtX s) (sendR s) i (Nat.le_refl _) (numX_bd _) hlt
    rw [List.getElem?_eq_getElem hi, hpe] at hg
    injection hg with hg
    obtain ⟨j, ej⟩ : ∃ j, i * 4 = j := ⟨_, rfl⟩
    rw [ej] at hg hlt
    have hd2 : (sendR s).drop j = ((data.drop (q + (s.sent + j))).take (limX s - (s.sent + j))) := by
      unfold sendR
      rw [List.drop_drop, h.bs, List.drop_take, List.drop_drop]
    have hpl : p.2.length = min 4 ((sendR s).length - j) := by rw [hg]; simp only []; rw [List.length_take, List.length_drop]
    refine ⟨q + (s.sent + j), ?_, ?_, by omega, by omega, by rw [hse]; omega⟩
    · rw [hg]
      show numX (nxtX s + (j : Int)) = _
      unfold nxtX
      rw [numX_num, h.una]
      have : numX (x + (q : Int)) + (s.sent : Int) + (j : Int) = numX (x + (q : Int)) + ((s.sent + j : Nat) : Int) := by omega
      rw [this, numX_num]
      congr 1
      omega
    · have e2 : p.2 = ((data.drop (q + (s.sent + j))).take (limX s - (s.sent + j))).take 4 := by rw [hg, ← hd2]
      rw [List.take_take] at e2
      rw [e2]
      exact take_len _
  · rw [hsl, cutX_len 4 (by omega) _ _ _ (Nat.le_refl _)]
    omega
  · unfold sendS; rw [if_neg hb]
theorem bad_four : badM 4 = false := by decide
theorem GtX.idle (h : GtX s x data q c win r) (now : Int) (hd : dueX now s = false) : tickK 4 now s = 2 := by
  unfold tickK
  rw [bad_four, hd]
  rfl
theorem GtX.tick (h : GtX s x data q c win r) (hq : q < data.length) (hc : c ≤ 8) (hw : 1 ≤ win ∧ win ≤ 9) (now : Int) (hd : dueX now s = true) (hn : 0 ≤ now ∧ now ≤ 4398046511104) :
    GtX (tickS 4 now s) x data q (c + 1) win r ∧ PiG x data q (q + (tickS 4 now s).sent) (tickA 4 now s, tickD 4 now s) ∧ tickA 4 now s = numX (x + (q : Int)) ∧ tickB 4 now s = true ∧ tickE 4 now s = 0 ∧ s.sent ≤ (tickS 4 now s).sent ∧ (tickS 4 now s).alarm = now + (tickS 4 now s).wait := by
  have hK : tickK 4 now s = 4 := by
    unfold tickK
    rw [bad_four, hd, h.tries, h.count, if_neg (show ¬ (10 : Int) ≤ (c : Int) by omega)]
    rfl
  have hok := tick_ok (mss := 4) h.ok hn
  have hbl : s.bs.length = data.length - q := by rw [h.bs, List.length_drop]
  have hD : tickD 4 now s = s.bs.take (min 4 (max 1 s.win.toNat)) := by unfold tickD; rw [if_pos hK]; rfl
  have hDl : (tickD 4 now s).length = min (min 4 (max 1 s.win.toNat)) (data.length - q) := by rw [hD, List.length_take, hbl]
  have hA : tickA 4 now s = s.una := by unfold tickA; rw [if_pos hK]
  have hS : (tickS 4 now s).sent = max s.sent (tickD 4 now s).length := by unfold tickS; rw [if_pos hK]
  refine ⟨?_, ⟨q, by rw [hA, h.una], ?_, ?_, Nat.le_refl _, ?_⟩, by rw [hA, h.una], by unfold tickB; rw [hK]; rfl, by unfold tickE; rw [hK]; rfl, by rw [hS]; omega, by unfold tickS; rw [if_pos hK]⟩
  · unfold tickS at hok ⊢
    rw [if_pos hK] at hok ⊢
    exact ⟨h.una, h.bs, h.win, h.rto, h.tries, by show s.count + 1 = _; rw [h.count]; omega, hok⟩
  · show tickD 4 now s = (data.drop q).take (tickD 4 now s).length
    rw [hD, h.bs]
    exact take_len _
  · show 0 < (tickD 4 now s).length
    rw [hDl]
    omega
  · show q + (tickD 4 now s).length ≤ _
    rw [hS]
    omega
theorem far_num (x : Int) (q e : Nat) (hqe : q ≤ e) (he : e ≤ 1000000) : farX (numX (x + (q : Int))) (numX (x + (e : Int))) = ((e - q : Nat) : Int) := by unfold farX numX; omega
theorem GtX.acks (h : GtX s x data q c win r) (e : Nat) (hqe : q ≤ e) (he : e ≤ q + s.sent) (hel : e ≤ data.length) (hl : data.length ≤ 60) (hw : 1 ≤ win ∧ win ≤ 9) (now : Int) (hn : 0 ≤ now ∧ now ≤ 4398046511104) :
    GtX (ackS (numX (x + (e : Int))) win now s) x data e (if e = q then c else 0) win r ∧ ackN (numX (x + (e : Int))) win s = ((e - q : Nat) : Int) ∧ ackE (numX (x + (e : Int))) win s = 0 ∧ ((ackS (numX (x + (e : Int))) win now s).alarm = s.alarm ∨ (ackS (numX (x + (e : Int))) win now s).alarm = now + r) := by
  have hf : farX s.una (numX (x + (e : Int))) = ((e - q : Nat) : Int) := by rw [h.una]; exact far_num x q e hqe (by omega)
  have hb : ¬ ackBad (numX (x + (e : Int))) win s = true := by
    unfold ackBad
    rw [hf]
    simp
    omega
  have hok := ack_ok (ack := numX (x + (e : Int))) (win := win) h.ok hn (by omega)
  unfold ackN ackE
  unfold ackS at hok ⊢
  rw [if_neg hb] at hok ⊢
  rw [if_neg hb, if_neg hb, hf]
  rw [hf] at hok
  refine ⟨?_, rfl, rfl, ?_⟩
  · by_cases e0 : e = q
    · subst e0
      rw [if_pos (by simp)] at hok ⊢
      rw [if_pos rfl]
      exact ⟨h.una, h.bs, rfl, h.rto, h.tries, h.count, hok⟩
    · rw [if_neg (by omega), Int.toNat_natCast] at hok ⊢
      rw [if_neg e0]
      refine ⟨?_, ?_, rfl, h.rto, h.tries, rfl, hok⟩
      · show numX (s.una + ((e - q : Nat) : Int)) = _
        rw [h.una, numX_num]
        congr 1
        omega
      · show s.bs.drop (e - q) = _
        rw [h.bs, List.drop_drop]
        congr 1
        omega
  · by_cases e0 : e = q
    · subst e0
      rw [if_pos (by simp)]
      exact .inl rfl
    · rw [if_neg (by omega)]
      exact .inr (by show now + s.rto = _; rw [h.rto])
theorem GtX.set_ (h : GtX s x data q c win r) (hq : q ≤ data.length) : setX s = decide (q < data.length) ∧ alarmX s = if q < data.length then s.alarm else 0 := by
  have e : setX s = decide (q < data.length) := by
    unfold setX
    have hl : s.bs.length = data.length - q := by rw [h.bs, List.length_drop]
    cases hb : s.bs with
    | nil =>
      rw [hb] at hl
      simp at hl
      rw [decide_eq_false (by omega)]
      rfl
    | cons y l =>
      rw [hb] at hl
      simp at hl
      rw [decide_eq_true (by omega)]
      rfl
  refine ⟨e, ?_⟩
  unfold alarmX
  rw [e]
  by_cases hlt : q < data.length
  · rw [if_pos hlt, if_pos (decide_eq_true hlt)]
  · rw [if_neg hlt, if_neg (by simp; omega)]
end
end Go.Proofs.Ytncbkgcblmohoaa
