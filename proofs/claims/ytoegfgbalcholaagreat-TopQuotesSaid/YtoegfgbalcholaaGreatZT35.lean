/-
  Texts laid together: NatPlace, NatChainP, TqA, TqB.
-/
import Derived.Test.YtoegfgbalcholaaGreatZT34
import Derived.Test.YtoegfgbalcholaaGreatZT24
import Derived.Test.YtoegfgbalcholaaGreatZT04
import Derived.Test.YtoegfgbalcholaaGreatZT21
import Derived.Test.YtoegfgbalcholaaGreatZT28
import Derived.Test.YtoegfgbalcholaaGreatZT08
import Derived.Test.YtoegfgbalcholaaGreatZT27

/-
  culvertlaw15's place and like (stage 15, written ahead).
-/
namespace Go.Proofs.YtoegfgbalcholaaGreat
set_option maxRecDepth 10000
open Go.RowKit
set_option linter.unusedSimpArgs false
set_option linter.unusedVariables false

def plc (pr : Int) : Int := if pr = 6 then 16 else if pr = 17 then 6 else if pr = 1 then 2 else 0
end Go.Proofs.YtoegfgbalcholaaGreat

/-
  By way of another tuple: plain facts (stage 15, written ahead).
-/
namespace Go.Proofs.YtoegfgbalcholaaGreat
set_option maxRecDepth 10000
open Go.RowKit
set_option linter.unusedSimpArgs false
set_option linter.unusedVariables false

/-- A tuple of the bytes' own protocol. -/
def ownT (b : List Int) (t : Tu) : Tu := ⟨b.getD 9 0, t.sr, t.ds, t.sp, if b.getD 9 0 = 1 then 0 else t.dp⟩
theorem ownT_num {b : List Int} {t : Tu} (hb : Bytes b) (ht : TuNum t) : TuNum (ownT b t) := by
  refine ⟨getD_mem b hb 9, ht.sr, ht.ds, ht.sp, ?_⟩
  unfold ownT
  simp only
  split
  · decide
  · exact ht.dp
theorem tup_pr {p : Pk} (h : isT p = true) : (tupT p).pr = p.h.pr := by
  unfold isT at h
  unfold tupT
  by_cases h6 : p.h.pr = 6
  · rw [if_pos h6]
  by_cases h17 : p.h.pr = 17
  · rw [if_neg h6, if_pos h17]
  simp [h6, h17] at h
  rw [if_neg h6, if_neg h17, if_pos h]
theorem rw_ok {b : List Int} {t : Tu} (he : errAll b = 0) (hT : isT (pkOfB b) = true) : errRw b (ownT b t) false = 0 ∧ rwT b (ownT b t) false = rwB b (rwK b (ownT b t) false) := by
  have e : errRw b (ownT b t) false = 0 := by
    unfold errRw
    rw [if_neg (by omega), if_neg (by rw [hT]; decide), if_neg, if_neg (fun h => absurd h.1 (by decide))]
    rintro (h | ⟨h1, h2⟩)
    · exact h rfl
    · have h3 : b.getD 9 0 = 1 := h1
      exact h2 (by unfold ownT; simp only; rw [if_pos h3])
  exact ⟨e, by unfold rwT; rw [if_pos e]⟩
theorem own_may {b : List Int} {t : Tu} (hb : Bytes b) (ht : TuNum t) : ∀ p ∈ rwK b (ownT b t) false, MayW b p := rw_may hb (ownT_num hb ht) (fun h => by cases h)
/-- What is rewritten has a tuple still. -/
theorem rw_isT {b : List Int} {t : Tu} (hb : Bytes b) (he : errAll b = 0) (hT : isT (pkOfB b) = true) (ht : TuNum t) : isT (pkOfB (rwB b (rwK b (ownT b t) false))) = true := by
  obtain ⟨k1, k2, k3, k4, k5, k6⟩ := rw_kept hb he (own_may hb ht)
  have hl := pk_lay hb he
  have hkeys := may_keys hb he (own_may (t := t) hb ht)
  have hat : ∀ {i : Nat}, i / 2 ≠ 5 → i / 2 ≠ fldW b → (rwB b (rwK b (ownT b t) false)).getD i 0 = _ := rwW_byte (pr := b.getD 9 0) _ hl hkeys
  unfold isT at hT ⊢
  rw [pkOfB_h, hd_pr] at hT ⊢
  rw [k5]
  by_cases h6 : b.getD 9 0 = 6
  · simp only [h6, decide_true, Bool.true_or]
  by_cases h17 : b.getD 9 0 = 17
  · simp only [h17, decide_true, Bool.true_or, Bool.or_true]
  have h1 : b.getD 9 0 = 1 := by
    have := errAll_pr he
    rw [hd_pr] at this
    omega
  have hm : ∀ c : List Int, c.getD 9 0 = 1 → (pkOfB c).m = msgOf (restOf c) := fun c hc => by
    unfold pkOfB
    rw [hd_pr, if_neg (by omega), if_neg (by omega)]
  rw [hm b h1] at hT
  rw [hm _ (k5.trans h1)]
  have hH := (pk_w hb he).hH
  have hH' := (pk_w k2 k1).hH
  have e4 : hdW (rwB b (rwK b (ownT b t) false)) = hdW b := k4
  rw [e4] at hH'
  have hF : fldW b = hdW b + 1 := by unfold fldW; rw [if_neg h6, if_neg h17]
  have h10 := hl.h10
  have hno : lastW (rwK b (ownT b t) false) (hdW b) = none := lastW_none.2 (fun p hp e => by
    have hp2 : p ∈ ([(6, t.sr / 65536), (7, t.sr % 65536), (8, t.ds / 65536), (9, t.ds % 65536)] : List (Nat × Int)) ++ [(hdW b + 2, t.sp)] := by
      have h := hp
      unfold rwK portK at h
      rw [if_pos h1] at h
      simpa [ownT] using h
    simp at hp2
    rcases hp2 with rfl | rfl | rfl | rfl | rfl <;> simp only at e <;> omega)
  have ety : (msgOf (restOf (rwB b (rwK b (ownT b t) false)))).ty = (msgOf (restOf b)).ty := by
    unfold msgOf
    simp only
    rw [rest_at _ _ 0 hH', rest_at _ _ 0 hH, Nat.add_zero, hat (by omega) (by omega), show 2 * hdW b / 2 = hdW b by omega, hno]
  have ecd : (msgOf (restOf (rwB b (rwK b (ownT b t) false)))).cd = (msgOf (restOf b)).cd := by
    unfold msgOf
    simp only
    rw [rest_at _ _ 1 hH', rest_at _ _ 1 hH, hat (by omega) (by omega), show (2 * hdW b + 1) / 2 = hdW b by omega, hno]
  rw [ety, ecd]
  exact hT
/-- By way of another tuple. -/
structure ChainIs (b : List Int) (t o : Tu) (x y z : List Int) (F : Nat) : Prop where
  e1 : errRw b (ownT b t) false = 0
  e2 : errRw b (ownT b o) false = 0
  e3 : errRw y (ownT b t) false = 0
  ex : rwT b (ownT b t) false = x
  ey : rwT b (ownT b o) false = y
  ez : rwT y (ownT b t) false = z
  lx : x.length = b.length
  ly : y.length = b.length
  lz : z.length = b.length
  bx : Bytes x
  by_ : Bytes y
  bz : Bytes z
  ag : ∀ i, i / 2 ≠ 5 → i / 2 ≠ F → x.getD i 0 = z.getD i 0
  h : likeB (wordL x 5) (wordL z 5) = true
  p : likeB (wordL x F) (wordL z F) = true
  f10 : 10 ≤ F
  len : 2 * F + 1 < b.length
  pl : 20 + ((pkOfB b).h.o.length : Int) + plc (pkOfB b).h.pr = ((2 * F : Nat) : Int)
end Go.Proofs.YtoegfgbalcholaaGreat

/-
  Through the layers, in plain lists: packets side by side, what a laid packet is read as, quotes cut (TopQuotes). Nothing of the program.
-/
namespace Go.Proofs.YtoegfgbalcholaaGreat
set_option maxRecDepth 10000
set_option linter.unusedSimpArgs false
set_option linter.unusedVariables false

/-- Alike: the same bytes, but that words 0 and ffff at 5 and F stand for each other; of what ends within F that byte is not looked at. -/
def AlikeP (a b : List Int) (F : Nat) : Prop := a.length = b.length ∧ ∀ i, i < a.length → (i ≠ 2 * F ∨ a.length ≠ 2 * F + 1) → a.getD i 0 = b.getD i 0 ∨ (i / 2 ∈ [5, F] ∧ 2 * (i / 2) + 2 ≤ a.length ∧ likeB (wordL a (i / 2)) (wordL b (i / 2)) = true)
theorem qF_five {pr : Int} {H : Nat} (h : 10 ≤ H) : H + 1 ≤ qF pr H ∧ qF pr H ≤ H + 8 := by unfold qF; split; omega; split <;> omega
theorem TwoQ.symm {pr : Int} {H : Nat} {a b : List Int} (h : TwoQ pr H a b) : TwoQ pr H b a := by
  have h10 := h.h10
  have hF := qF_five (pr := pr) h10
  have hk := fun k (hk : k ∈ keysQ pr H) => keys_in h.is_ hk
  have e9 : a.getD 9 0 = b.getD 9 0 := h.far 9 (by omega) (by omega) (fun hm => by have := hk _ hm; omega)
  have e0 : a.getD 0 0 = b.getD 0 0 := h.far 0 (by omega) (by omega) (fun hm => by have := hk _ hm; omega)
  refine ⟨h.bb, h.ba, h.len.symm, h.is_, h10, by rw [← h.len]; exact h.l8, by rw [← h.len]; exact h.lF, by rw [← e9]; exact h.a9, ?_, fun i h1 h2 h3 => (h.far i h1 h2 h3).symm, by have := h.hs; omega, ?_⟩
  · have := h.aH; unfold qH at this ⊢; rw [← e0]; exact this
  · have := h.ps
    by_cases h1 : pr = 1
    · rw [if_pos h1] at this ⊢; omega
    · rw [if_neg h1] at this ⊢; omega
/-- Two that are as the first, with the same words. -/
theorem two_like {pr : Int} {H : Nat} {b x z : List Int} (hx : TwoQ pr H b x) (hz : TwoQ pr H b z) (hh : wordL x 6 = wordL z 6 ∧ wordL x 7 = wordL z 7 ∧ wordL x 8 = wordL z 8 ∧ wordL x 9 = wordL z 9) (hk : ∀ k ∈ keysQ pr H, wordL x k = wordL z k) :
    x.length = z.length ∧ ∀ i, x.getD i 0 = z.getD i 0 ∨ (i / 2 ∈ [5, qF pr H] ∧ 2 * (i / 2) + 2 ≤ x.length ∧ likeB (wordL x (i / 2)) (wordL z (i / 2)) = true) := by
  have hF := qF_five (pr := pr) hx.h10
  have h10 := hx.h10
  have hl : x.length = z.length := hx.len.symm.trans hz.len
  obtain ⟨x5, xF⟩ := hx.fields
  obtain ⟨z5, zF⟩ := hz.fields
  have hhs : hsQ x = hsQ z := by unfold hsQ; rw [hh.1, hh.2.1, hh.2.2.1, hh.2.2.2]
  have hps : psQ pr H x = psQ pr H z := by
    have := ps_keys pr H x z
    rw [List.map_congr_left (g := fun _ => (0 : Int)) (fun k hm => by rw [hk k hm]; omega)] at this
    have e0 := sum_zeros (keysQ pr H)
    omega
  rw [hhs] at x5 xF
  rw [hps] at xF
  have l8 := hx.l8
  have lF := hx.lF
  have hlb := hx.len
  have k5 : likeB (wordL x 5) (wordL z 5) = true := like_of _ _ (wordL_bd hx.bb 5) (wordL_bd hz.bb 5) (by omega)
  have kF : likeB (wordL x (qF pr H)) (wordL z (qF pr H)) = true := like_of _ _ (wordL_bd hx.bb _) (wordL_bd hz.bb _) (by omega)
  refine ⟨hl, fun i => ?_⟩
  by_cases h5 : i / 2 = 5
  · right; rw [h5]; exact ⟨by simp, by omega, k5⟩
  by_cases h6 : i / 2 = qF pr H
  · right; rw [h6]; exact ⟨by simp, by omega, kF⟩
  left
  by_cases h7 : i / 2 ∈ keysQ pr H
  · exact getD_eq_word hx.bb hz.bb (hk _ h7) rfl
  by_cases h8 : 6 ≤ i / 2 ∧ i / 2 ≤ 9
  · have hw : wordL x (i / 2) = wordL z (i / 2) := by
      rcases (show i / 2 = 6 ∨ i / 2 = 7 ∨ i / 2 = 8 ∨ i / 2 = 9 by omega) with e | e | e | e <;> rw [e]
      · exact hh.1
      · exact hh.2.1
      · exact hh.2.2.1
      · exact hh.2.2.2
    exact getD_eq_word hx.bb hz.bb hw rfl
  · rw [← hx.far i (by omega) h6 h7]
    exact hz.far i (by omega) h6 h7
/-- A quote that is cut short says the same. -/
theorem take_q {c : List Int} {m : Nat} (he : errQ c = 0) (hm : 2 * qH c + 8 ≤ m) : errQ (c.take m) = 0 ∧ qTu (c.take m) = qTu c ∧ qSeq (c.take m) = qSeq c ∧ qH (c.take m) = qH c ∧ (c.take m).getD 9 0 = c.getD 9 0 := by
  obtain ⟨⟨h4, h10, h8, hw⟩, hp⟩ := errQ_ok he
  have hg : ∀ i, i < m → (c.take m).getD i 0 = c.getD i 0 := fun i hi => getD_takeQ _ _ _ hi
  have hwd : ∀ k, 2 * k + 1 < m → wordL (c.take m) k = wordL c k := fun k hk => wordL_takeQ _ _ _ hk
  have e0 := hg 0 (by omega)
  have e9 := hg 9 (by omega)
  have eH : qH (c.take m) = qH c := by unfold qH; rw [e0]
  refine ⟨?_, ?_, ?_, eH, e9⟩
  · unfold errQ
    have hlt : 2 * qH c + 8 ≤ (c.take m).length := by rw [List.length_take]; omega
    rw [if_neg (by omega), e0, eH, if_neg (by omega), if_neg (by omega), hwd 3 (by omega), if_neg (by omega), e9, hg (2 * qH c) (by omega), hg (2 * qH c + 1) (by omega)]
    rcases hp with h | h | h
    · rw [if_pos (.inl h)]
    · rw [if_pos (.inr h)]
    · by_cases hc : c.getD 9 0 = 6 ∨ c.getD 9 0 = 17
      · rw [if_pos hc]
      · rw [if_neg hc, if_pos h]
  · unfold qTu
    rw [e9, eH, hwd 6 (by omega), hwd 7 (by omega), hwd 8 (by omega), hwd 9 (by omega), hwd (qH c + 2) (by omega), hwd (qH c) (by omega), hwd (qH c + 1) (by omega)]
  · unfold qSeq
    rw [e9, eH, hwd (qH c + 2) (by omega), hwd (qH c + 3) (by omega)]
/-- The first bytes of a packet, as a cut. -/
theorem of_take {c : List Int} {n : Nat} (h20 : 20 ≤ c.length) (h8 : 8 ≤ n) (hl : 2 * qH c + 8 ≤ c.length) : ∃ m, ofL c (n : Int) = c.take m ∧ m = min c.length (2 * qH c + n) ∧ 2 * qH c + 8 ≤ m ∧ m ≤ c.length := by
  refine ⟨_, ?_, rfl, by omega, by omega⟩
  unfold ofL ofN
  rw [if_neg (by omega), if_neg (by omega)]
  congr 2
/-- A packet's list, read as a quote. -/
theorem ip_quote {c : List Int} (hb : Bytes c) (he : errAll c = 0) (hT : isT (pkOfB c) = true) : errQ c = 0 ∧ tupT (pkOfB c) = qTu c := by
  have hip := (errIp_parts c).1 (errAll_ip he)
  obtain ⟨l1, l2, v4, hh1, hh2, hlong, -, f1, f2, tt⟩ := hip
  obtain ⟨g6, g17, g1⟩ := parts_ok he
  have hpr := errAll_pr he
  have hpk := pk_w hb he
  have hH : (hdrL c).toNat = 2 * qH c := hpk.hH
  rw [hd_pr] at hpr
  have h10 : 10 ≤ qH c := hpk.ten.1
  have hrl := rest_len c (qH c) hH
  have hra := fun i => rest_at c (qH c) i hH
  have h8 : 8 ≤ (restOf c).length := by
    rcases hpr with h | h | h
    · have := seg_long (g6 h); omega
    · exact dg_long (g17 h)
    · exact errM_eight (g1 h)
  have hb0 := getD_byteQ hb
  have hrb : ∀ i, 0 ≤ (restOf c).getD i 0 ∧ (restOf c).getD i 0 < 256 := fun i => by rw [hra]; exact hb0 _
  have w3 : wordL c 3 % 8192 = 0 := by unfold flagsL at f1 f2; unfold wordL; simp only [Nat.reduceMul, Nat.reduceAdd]; omega
  have hw : ∀ k, wordL c (qH c + k) = (restOf c).getD (2 * k) 0 * 256 + (restOf c).getD (2 * k + 1) 0 := fun k => by
    unfold wordL
    rw [hra, hra, show 2 * (qH c + k) = 2 * qH c + 2 * k by omega, show 2 * qH c + 2 * k + 1 = 2 * qH c + (2 * k + 1) by omega]
  have hec : c.getD 9 0 = 1 → echoM (c.getD (2 * qH c) 0) (c.getD (2 * qH c + 1) 0) = true := by
    intro h1
    have e : (pkOfB c).m = msgOf (restOf c) := by unfold pkOfB; rw [hd_pr, if_neg (by omega), if_neg (by omega)]
    unfold isT at hT
    rw [pkOfB_h, hd_pr, h1, e] at hT
    have hh : echoM (msgOf (restOf c)).ty (msgOf (restOf c)).cd = true := by simpa using hT
    have e0 := hra 0
    have e1 := hra 1
    rw [Nat.add_zero] at e0
    rw [← e0, ← e1]
    exact hh
  have hq : errQ c = 0 := by
    unfold errQ
    rw [if_neg (by omega), if_neg (by omega), if_neg (by omega), if_neg (by omega)]
    rcases hpr with h | h | h
    · rw [if_pos (.inl h)]
    · rw [if_pos (.inr h)]
    · rw [if_neg (by omega), if_pos ⟨h, hec h⟩]
  refine ⟨hq, ?_⟩
  have hs := hd_sr c
  have hd := hd_ds c
  unfold srW at hs
  unfold dsW at hd
  have w0 := hw 0
  have w1 := hw 1
  have w2 := hw 2
  have w23 := hw 3
  simp only [Nat.add_zero, Nat.mul_zero, Nat.zero_add, Nat.reduceMul, Nat.reduceAdd] at w0 w1 w2 w23
  unfold tupT
  rw [pkOfB_h, hd_pr, hs, hd]
  unfold qTu
  rcases hpr with h | h | h
  · have e : (pkOfB c).s = segOf (restOf c) (offB (restOf c)) := by unfold pkOfB; rw [hd_pr, if_pos h]
    have s1 : (pkOfB c).s.sp = wordL c (qH c) := by
      rw [e, w0]
      unfold segOf
      obtain ⟨b0, b1, b2, b3, r, er⟩ : ∃ b0 b1 b2 b3 r, restOf c = b0 :: b1 :: b2 :: b3 :: r := by
        rcases hrr : restOf c with _ | ⟨b0, _ | ⟨b1, _ | ⟨b2, _ | ⟨b3, r⟩⟩⟩⟩
        all_goals first | (rw [hrr] at h8; simp at h8; done) | exact ⟨_, _, _, _, _, rfl⟩
      rw [er]
      simp [numL, Int.mul_comm]
    have s2 : (pkOfB c).s.dp = wordL c (qH c + 1) := by
      rw [e, w1]
      unfold segOf
      obtain ⟨b0, b1, b2, b3, r, er⟩ : ∃ b0 b1 b2 b3 r, restOf c = b0 :: b1 :: b2 :: b3 :: r := by
        rcases hrr : restOf c with _ | ⟨b0, _ | ⟨b1, _ | ⟨b2, _ | ⟨b3, r⟩⟩⟩⟩
        all_goals first | (rw [hrr] at h8; simp at h8; done) | exact ⟨_, _, _, _, _, rfl⟩
      rw [er]
      simp [numL, Int.mul_comm]
    rw [h, if_pos rfl, s1, s2, if_neg (by decide), if_neg (by decide)]
  · have e : (pkOfB c).u = dgOf (restOf c) := by unfold pkOfB; rw [hd_pr, if_neg (by omega), if_pos h]
    have s1 : (pkOfB c).u.sp = wordL c (qH c) := by rw [e, w0]; rfl
    have s2 : (pkOfB c).u.dp = wordL c (qH c + 1) := by rw [e, w1]; rfl
    rw [h, if_neg (by decide), if_pos rfl, s1, s2, if_neg (by decide), if_neg (by decide)]
  · have e : (pkOfB c).m = msgOf (restOf c) := by unfold pkOfB; rw [hd_pr, if_neg (by omega), if_neg (by omega)]
    have hh : echoM (pkOfB c).m.ty (pkOfB c).m.cd = true := by
      have e0 := hra 0
      have e1 := hra 1
      rw [Nat.add_zero] at e0
      rw [e]
      show echoM ((restOf c).getD 0 0) ((restOf c).getD 1 0) = true
      rw [e0, e1]
      exact hec h
    have s1 : (pkOfB c).m.rs / 65536 = wordL c (qH c + 2) := by
      rw [e, w2]
      show m32 (restOf c) 4 / 65536 = _
      unfold m32
      have := hrb 6
      have := hrb 7
      simp only [Nat.reduceAdd]
      omega
    rw [h, if_neg (by decide), if_neg (by decide), if_pos ⟨rfl, hh⟩, s1, if_pos rfl, if_pos rfl]
theorem dt_same {b b' : List Int} (hl : b'.length = b.length) (lo k : Nat) (h : ∀ i, lo ≤ i → i < lo + k → b'.getD i 0 = b.getD i 0) : (b'.drop lo).take k = (b.drop lo).take k := by
  have := part_same hl lo (lo + k) h
  rw [List.drop_take, List.drop_take] at this
  rwa [show lo + k - lo = k by omega] at this
/-- Fields do not count in what is read. -/
theorem agree_pk {c d : List Int} {pr : Int} {H : Nat} (hl : c.length = d.length) (h10 : 10 ≤ H) (h : ∀ i, i / 2 ≠ 5 → i / 2 ≠ qF pr H → c.getD i 0 = d.getD i 0) (h9 : c.getD 9 0 = pr) (hp : pr = 6 ∨ pr = 17 ∨ pr = 1) (hH : (hdrL c).toNat = 2 * H) (ho : pr = 6 → 18 ≤ offB (restOf c)) : pkOfB c = pkOfB d := by
  have hF := qF_five (pr := pr) h10
  have g : ∀ i, i < 2 * H → i ≠ 10 → i ≠ 11 → c.getD i 0 = d.getD i 0 := fun i h1 h2 h3 => h i (by omega) (by omega)
  have e0 : hdrL c = hdrL d := by unfold hdrL; rw [g 0 (by omega) (by omega) (by omega)]
  have ef : flagsL c = flagsL d := by unfold flagsL; rw [g 6 (by omega) (by omega) (by omega), g 7 (by omega) (by omega) (by omega)]
  have hh : hdOf c = hdOf d := by
    unfold hdOf
    rw [ef, e0, g 1 (by omega) (by omega) (by omega), g 4 (by omega) (by omega) (by omega), g 5 (by omega) (by omega) (by omega), g 8 (by omega) (by omega) (by omega), g 9 (by omega) (by omega) (by omega), g 12 (by omega) (by omega) (by omega), g 13 (by omega) (by omega) (by omega), g 14 (by omega) (by omega) (by omega), g 15 (by omega) (by omega) (by omega), g 16 (by omega) (by omega) (by omega), g 17 (by omega) (by omega) (by omega), g 18 (by omega) (by omega) (by omega), g 19 (by omega) (by omega) (by omega)]
    congr 1
    exact dt_same hl 20 _ (fun i h1 h2 => by rw [← e0] at h2; exact g i (by omega) (by omega) (by omega))
  have hrl : (restOf c).length = (restOf d).length := by unfold restOf; rw [e0, List.length_drop, List.length_drop, hl]
  have hHd : (hdrL d).toNat = 2 * H := by rw [← e0]; exact hH
  have hr : ∀ i, i / 2 ≠ qF pr 0 → (restOf c).getD i 0 = (restOf d).getD i 0 := fun i hi => by
    rw [rest_at c H i hH, rest_at d H i hHd]
    have := qF_shift pr H
    exact h _ (by omega) (by omega)
  have h9d : (hdOf c).pr = pr := by rw [hd_pr]; exact h9
  unfold pkOfB
  rw [← hh, h9d]
  rcases hp with e | e | e
  · rw [if_pos e, if_pos e]
    have hq : qF pr 0 = 8 := by rw [e]; rfl
    rw [hq] at hr
    have eo : offB (restOf c) = offB (restOf d) := by unfold offB; rw [hr 12 (by omega)]
    have es : segOf (restOf c) (offB (restOf c)) = segOf (restOf d) (offB (restOf d)) := by
      rw [← eo]
      unfold segOf
      rw [dt_same hrl 0 2 (fun i h1 h2 => hr i (by omega)), dt_same hrl 2 2 (fun i h1 h2 => hr i (by omega)), dt_same hrl 4 4 (fun i h1 h2 => hr i (by omega)), dt_same hrl 8 4 (fun i h1 h2 => hr i (by omega)), hr 13 (by omega), dt_same hrl 14 2 (fun i h1 h2 => hr i (by omega)), dt_same hrl 18 2 (fun i h1 h2 => hr i (by omega)),
        part_same hrl 20 (offB (restOf c)) (fun i h1 h2 => hr i (by omega))]
      congr 1
      have ho6 := ho e
      exact tail_same hrl _ (fun i h1 => hr i (by omega))
    rw [es]
  · rw [if_neg (by omega), if_pos e, if_neg (by omega), if_pos e]
    have hq : qF pr 0 = 3 := by rw [e]; rfl
    rw [hq] at hr
    have es : dgOf (restOf c) = dgOf (restOf d) := by
      unfold dgOf n16
      rw [hr 0 (by omega), hr (0 + 1) (by omega), hr 2 (by omega), hr (2 + 1) (by omega), tail_same hrl 8 (fun i h1 => hr i (by omega))]
    rw [es]
  · rw [if_neg (by omega), if_neg (by omega), if_neg (by omega), if_neg (by omega)]
    have hq : qF pr 0 = 1 := by rw [e]; rfl
    rw [hq] at hr
    have es : msgOf (restOf c) = msgOf (restOf d) := by
      unfold msgOf m32
      rw [hr 0 (by omega), hr 1 (by omega), hr 4 (by omega), hr (4 + 1) (by omega), hr (4 + 2) (by omega), hr (4 + 3) (by omega), tail_same hrl 8 (fun i h1 => hr i (by omega))]
    rw [es]
end Go.Proofs.YtoegfgbalcholaaGreat

/-
  Through the layers, in plain lists: what is laid is read back; the packet with another tuple; what TopQuotes' walk asks. Nothing of the program.
-/
namespace Go.Proofs.YtoegfgbalcholaaGreat
set_option maxRecDepth 10000
set_option linter.unusedSimpArgs false
set_option linter.unusedVariables false

theorem hd_back {h : Hd} {P : List Int} (hf : HdFits h P.length) : hdOf (hdB h P) = h ∧ hdrL (hdB h P) = 20 + (h.o.length : Int) ∧ restOf (hdB h P) = P ∧ (1 ≤ h.tt → errIp (hdB h P) = 0) := by
  obtain ⟨z, u, v, hz, e⟩ := hd_bytes h P
  have n := hf.num
  have h1 := n.to; have h2 := n.id; have h3 := n.tt; have h4 := n.pr; have h5 := n.sr; have h6 := n.ds
  have h40 := hf.o40; have o4 := hf.o4; have hlong := hf.long
  have hlen := hd_len h P
  have hr : hdrL (hdB h P) = 20 + (h.o.length : Int) := by
    unfold hdrL
    rw [e]
    simp only [List.cons_append, List.nil_append, List.getD_cons_zero]
    omega
  have hfl : flagsL (hdB h P) = flagsOf h.df := by
    unfold flagsL
    rw [e]
    simp only [List.cons_append, List.nil_append, List.getD_cons_zero, List.getD_cons_succ]
    have : flagsOf h.df = 16384 ∨ flagsOf h.df = 0 := by unfold flagsOf; cases h.df <;> simp
    omega
  have hdf : decide (flagsL (hdB h P) = 16384) = h.df := by rw [hfl]; unfold flagsOf; cases h.df <;> simp
  have hrest : restOf (hdB h P) = P := by
    unfold restOf
    rw [hr, show (20 + (h.o.length : Int)).toNat = 20 + h.o.length by omega]
    exact hd_drop h P
  refine ⟨?_, hr, hrest, fun ht => ?_⟩
  · have hopt : ((hdB h P).drop 20).take ((hdrL (hdB h P)).toNat - 20) = h.o := by
      rw [hr, show (20 + (h.o.length : Int)).toNat - 20 = h.o.length by omega, e]
      simp
    unfold hdOf
    rw [hdf, hopt, e]
    simp only [List.cons_append, List.nil_append, List.getD_cons_zero, List.getD_cons_succ]
    obtain ⟨a1, a2, a3, a4, a5, a6, a7, a8⟩ := h
    simp only at *
    congr 1
    all_goals first | rfl | omega
  · rw [errIp_parts]
    have hl : longL (hdB h P) = z := by
      unfold longL
      rw [e]
      simp only [List.cons_append, List.nil_append, List.getD_cons_zero, List.getD_cons_succ]
      omega
    have hs := head_sum h P n hf.ob h40 hlong
    have hfv : flagsOf h.df = 16384 ∨ flagsOf h.df = 0 := by unfold flagsOf; cases h.df <;> simp
    refine ⟨by omega, by omega, (hd_head h P hf).1, by omega, by omega, by rw [hl, hz, hlen]; omega, ?_, by rw [hfl]; omega, by rw [hfl]; omega, ?_⟩
    · rw [hr, show (20 + (h.o.length : Int)).toNat = 20 + h.o.length by omega]; exact hs
    · rw [e]
      simp only [List.cons_append, List.nil_append, List.getD_cons_zero, List.getD_cons_succ]
      omega
/-- A packet that may be laid: its parts. -/
structure LaidP (p : Pk) : Prop where
  fits : HdFits p.h (loadB p).length
  tt : 1 ≤ p.h.tt
  is_ : p.h.pr = 6 ∨ p.h.pr = 17 ∨ p.h.pr = 1
  part : partP p = p
  err : errLoad p = 0
  b : pkB p = hdB p.h (loadB p)
theorem laid_of {w : World} {p : Pk} {a : PkA} (hp : PkRd w p a) (h : errPk p = 0) : LaidP p := by
  obtain ⟨h1, h2, h3, h4⟩ := errPk_zero h
  obtain ⟨k1, k2, k3⟩ := may_zero h1
  unfold mayP mayB at h1
  simp only [Bool.and_eq_true, decide_eq_true_eq] at h1
  exact ⟨⟨hp.hn, hp.hr.byte, k2, k3, h3⟩, by have := h1.2.1.1.1; omega, k1, (pkSame_iff _ _).1 h1.2.2, h2, h4⟩
/-- What is laid is read back. -/
theorem back9 {w : World} {p : Pk} {a : PkA} (hp : PkRd w p a) (h : errPk p = 0) : errAll (pkB p) = 0 ∧ pkOfB (pkB p) = p := by
  have L := laid_of hp h
  obtain ⟨b1, b2, b3, b4⟩ := hd_back L.fits
  have hb := L.b
  have herr := L.err
  have hpart := L.part
  have e4 := b4 L.tt
  rw [hb]
  unfold errAll pkOfB
  rw [b1, b3, e4]
  unfold errLoad at herr
  unfold partP at hpart
  rcases L.is_ with e | e | e
  · rw [if_pos e] at herr hpart
    have hl : loadB p = segB p.h.sr p.h.ds p.s := by unfold loadB toldB; rw [if_pos e, if_pos herr]
    have hg : Good p.s := ⟨hp.sr.num, reads_bytes hp.sr.os, hp.sr.d.byte, herr⟩
    rw [if_neg (by simp), if_pos e, if_pos e, hl]
    exact ⟨hg.err _ _, by rw [hg.segOf]; exact hpart⟩
  · rw [if_neg (by omega), if_pos e] at herr hpart
    have hd : p.u.d.length ≤ 1472 := by unfold errUP at herr; by_cases hx : 1472 < p.u.d.length; rw [if_pos hx] at herr; omega; omega
    have hl : loadB p = dgB p.h.sr p.h.ds p.u := by unfold loadB toldU; rw [if_neg (by omega), if_pos e, if_neg (by omega)]
    rw [if_neg (by simp), if_neg (by omega), if_pos e, if_neg (by omega), if_pos e, hl, err_dgB p.h.sr p.h.ds p.h.sr p.h.ds p.u hp.hn.sr hp.hn.ds hp.hn.sr hp.hn.ds hd (restU_nn hp.un hd hp.ur.byte), dgOf_dgB]
    exact ⟨by rw [if_pos (by omega)], hpart⟩
  · rw [if_neg (by omega), if_neg (by omega)] at herr hpart
    have hd : p.m.d.length ≤ 1472 := by unfold errP at herr; by_cases hx : 1472 < p.m.d.length; rw [if_pos hx] at herr; omega; omega
    have hl : loadB p = msgB p.m := by unfold loadB toldM; rw [if_neg (by omega), if_neg (by omega), if_neg (by omega)]
    rw [if_neg (by simp), if_neg (by omega), if_neg (by omega), if_pos e, if_neg (by omega), if_neg (by omega), hl, err_msgB hp.mn hp.mr.byte hd, msgOf_msgB hp.mn]
    exact ⟨rfl, hpart⟩
/-- The packet with another tuple. -/
def topX (p : Pk) (t : Tu) : Pk :=
  if p.h.pr = 6 then ⟨{ p.h with sr := t.sr, ds := t.ds }, { p.s with sp := t.sp, dp := t.dp }, p.u, p.m⟩
  else if p.h.pr = 17 then ⟨{ p.h with sr := t.sr, ds := t.ds }, p.s, { p.u with sp := t.sp, dp := t.dp }, p.m⟩
  else ⟨{ p.h with sr := t.sr, ds := t.ds }, p.s, p.u, withM p.m t.sp⟩
theorem topX_h (p : Pk) (t : Tu) : (topX p t).h = { p.h with sr := t.sr, ds := t.ds } := by unfold topX; split; rfl; split <;> rfl
theorem topX_rd {w : World} {p : Pk} {a : PkA} {t : Tu} (hp : PkRd w p a) (ht : TuNum t) : PkRd w (topX p t) a := by
  obtain ⟨hmn, hmd⟩ := withM_n2 hp.mn ht.sp
  have hn' : HdNum { p.h with sr := t.sr, ds := t.ds } := ⟨hp.hn.to, hp.hn.id, hp.hn.tt, hp.hn.pr, ht.sr, ht.ds⟩
  unfold topX
  split
  · exact ⟨hn', hp.hc, hp.hr, ⟨⟨ht.sp, ht.dp, hp.sr.num.sq, hp.sr.num.ak, hp.sr.num.fl, hp.sr.num.wn, hp.sr.num.ug⟩, hp.sr.oc, hp.sr.dc, hp.sr.o, hp.sr.os, hp.sr.d⟩, hp.un, hp.uc, hp.ur, hp.mn, hp.mc, hp.mr⟩
  · split
    · exact ⟨hn', hp.hc, hp.hr, hp.sr, ⟨ht.sp, ht.dp⟩, hp.uc, hp.ur, hp.mn, hp.mc, hp.mr⟩
    · exact ⟨hn', hp.hc, hp.hr, hp.sr, hp.un, hp.uc, hp.ur, hmn, hp.mc, by rw [hmd]; exact hp.mr⟩
end Go.Proofs.YtoegfgbalcholaaGreat
