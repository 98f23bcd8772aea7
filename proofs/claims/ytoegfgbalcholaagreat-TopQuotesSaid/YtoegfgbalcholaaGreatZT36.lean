/-
  Texts laid together: TqC, TqD, InRun, InFld.
-/
import Derived.Test.YtoegfgbalcholaaGreatZT35
import Derived.Test.YtoegfgbalcholaaGreatZT04
import Derived.Test.YtoegfgbalcholaaGreatZT07
import Derived.Test.YtoegfgbalcholaaGreatZT01
import Derived.Test.YtoegfgbalcholaaGreatZT06
import Derived.Test.YtoegfgbalcholaaGreatZT24
import Derived.Deep.QuietTactic
import Derived.BigQuiet
import Derived.Deep.CutRange

/-
  Through the layers, in plain lists: the packet with another tuple is laid; the packet that is translated; all that TopQuotes' walk asks. Nothing of the program.
-/
namespace Go.Proofs.YtoegfgbalcholaaGreat
set_option maxRecDepth 10000
set_option linter.unusedSimpArgs false
set_option linter.unusedVariables false

theorem loadB_pay {p : Pk} (h : p.h.pr = 6 ∨ p.h.pr = 17 ∨ p.h.pr = 1) : loadB p = payP p ∧ errLoad p = okP p := by
  unfold loadB payP errLoad okP
  rcases h with e | e | e
  · rw [if_pos e, if_pos e, if_pos e, if_pos e]; exact ⟨rfl, rfl⟩
  · rw [if_neg (by omega), if_pos e, if_neg (by omega), if_pos e, if_neg (by omega), if_pos e, if_neg (by omega), if_pos e]; exact ⟨rfl, rfl⟩
  · rw [if_neg (by omega), if_neg (by omega), if_neg (by omega), if_neg (by omega), if_pos e, if_neg (by omega), if_neg (by omega), if_neg (by omega), if_neg (by omega), if_pos e]; exact ⟨rfl, rfl⟩
theorem topX_pay {p : Pk} {t : Tu} (hs : 0 ≤ p.s.sq ∧ p.s.sq < 4294967296) (h : p.h.pr = 6 ∨ p.h.pr = 17 ∨ p.h.pr = 1) : payP (topX p t) = payP (asPk p t 0) ∧ okP (topX p t) = okP (asPk p t 0) := by
  have e0 : (p.s.sq + 0) % 4294967296 = p.s.sq := by omega
  have eh : (topX p t).h.pr = p.h.pr := by rw [topX_h]
  have ea : (asPk p t 0).h.pr = p.h.pr := rfl
  unfold payP okP
  rw [eh, ea]
  rcases h with e | e | e
  · have es : (asPk p t 0).s = (topX p t).s := by unfold topX asPk; rw [if_pos e]; simp only; rw [e0]
    rw [if_pos e, if_pos e, if_pos e, if_pos e, es, topX_h]
    exact ⟨rfl, rfl⟩
  · have es : (asPk p t 0).u = (topX p t).u := by unfold topX asPk; rw [if_neg (by omega), if_pos e]
    rw [if_neg (by omega), if_pos e, if_neg (by omega), if_pos e, if_neg (by omega), if_pos e, if_neg (by omega), if_pos e, es, topX_h]
    exact ⟨rfl, rfl⟩
  · have es : (asPk p t 0).m = (topX p t).m := by unfold topX asPk; rw [if_neg (by omega), if_neg (by omega)]
    rw [if_neg (by omega), if_neg (by omega), if_pos e, if_neg (by omega), if_neg (by omega), if_pos e, if_neg (by omega), if_neg (by omega), if_pos e, if_neg (by omega), if_neg (by omega), if_pos e, es]
    exact ⟨rfl, rfl⟩
/-- The packet with another tuple is laid. -/
theorem topX_ok {w : World} {p : Pk} {a : PkA} {t : Tu} (hp : PkRd w p a) (h : errPk p = 0) (ht : TuNum t) :
    errPk (topX p t) = 0 ∧ loadB (topX p t) = payP (asPk p t 0) ∧ AsL p t 0 (loadB p) (loadB (topX p t)) := by
  have L := laid_of hp h
  have hf := L.fits
  obtain ⟨q1, q2⟩ := loadB_pay L.is_
  have hx3 : (topX p t).h.pr = 6 ∨ (topX p t).h.pr = 17 ∨ (topX p t).h.pr = 1 := by rw [topX_h]; exact L.is_
  obtain ⟨x1, x2⟩ := loadB_pay hx3
  obtain ⟨y1, y2⟩ := topX_pay (t := t) hp.sr.num.sq L.is_
  have hA := asl_of (sh := 0) hp (by rw [← q2]; exact L.err) ht
  rw [← q1, ← y1, ← x1] at hA
  have hlen := hA.len
  have hpart : partP (topX p t) = topX p t := by
    have hp0 := L.part
    unfold partP at hp0 ⊢
    rw [topX_h]
    rcases L.is_ with e | e | e
    · rw [if_pos e] at hp0 ⊢
      rw [← hp0]
      unfold topX
      simp only
      rw [if_pos e]
    · rw [if_neg (by omega), if_pos e] at hp0
      rw [if_neg (by simp only; omega), if_pos e]
      rw [← hp0]
      unfold topX
      simp only
      rw [if_neg (by omega), if_pos e]
    · rw [if_neg (by omega), if_neg (by omega)] at hp0
      rw [if_neg (by simp only; omega), if_neg (by simp only; omega)]
      rw [← hp0]
      unfold topX
      simp only
      rw [if_neg (by omega), if_neg (by omega)]
  have hmay : mayP (topX p t) = true := by
    unfold mayP mayB
    rw [hpart, pkSame_self, topX_h]
    have h1 := hf.o40; have h2 := hf.o4; have h3 := L.tt
    have h4 := L.is_
    simp only [Bool.and_eq_true, Bool.or_eq_true, decide_eq_true_eq]
    exact ⟨h4, ⟨⟨by omega, h1⟩, h2⟩, trivial⟩
  refine ⟨?_, by rw [x1, y1], hA⟩
  unfold errPk
  rw [if_pos hmay, x2, y2, if_pos hA.ok, if_neg (by rw [hlen, topX_h]; exact Nat.not_lt.2 hf.long)]
theorem last_of : ∀ {ks : List (Nat × Int)} {k : Nat} {n : Int}, (ks.map (·.1)).Nodup → (k, n) ∈ ks → lastW ks k = some n
  | [], _, _, _, h => by cases h
  | p :: ks, k, n, hd, h => by
    rw [List.map_cons, List.nodup_cons] at hd
    rw [lastW_cons]
    rcases List.mem_cons.1 h with e | h
    · subst e
      rw [lastW_none.2 (fun q hq e2 => hd.1 (List.mem_map.2 ⟨q, hq, e2⟩))]
      simp
    · rw [last_of hd.2 h]
/-- The packet that is translated. -/
structure Turned (b : List Int) (t : Tu) (c : List Int) : Prop where
  two : TwoQ (b.getD 9 0) (qH b) b c
  err : errAll c = 0
  byte : Bytes c
  len : c.length = b.length
  head : wordL c 6 = t.sr / 65536 ∧ wordL c 7 = t.sr % 65536 ∧ wordL c 8 = t.ds / 65536 ∧ wordL c 9 = t.ds % 65536
  port : b.getD 9 0 = 1 → wordL c (qH b + 2) = t.sp
  ports : b.getD 9 0 ≠ 1 → wordL c (qH b) = t.sp ∧ wordL c (qH b + 1) = t.dp
  num : b.getD 9 0 = 6 → wordL c (qH b + 2) = wordL b (qH b + 2) ∧ wordL c (qH b + 3) = wordL b (qH b + 3)
  nz : b.getD 9 0 = 17 → wordL c (qF (b.getD 9 0) (qH b)) ≠ 0
theorem turned {b : List Int} {t : Tu} (hb : Bytes b) (he : errAll b = 0) (hT : isT (pkOfB b) = true) (ht : TuNum t) (hnz : b.getD 9 0 = 17 → wordL b (qF (b.getD 9 0) (qH b)) ≠ 0) : Turned b t (rwB b (rwK b t false)) := by
  obtain ⟨hq, -⟩ := ip_quote hb he hT
  obtain ⟨⟨_, h10, h8, _⟩, hp3⟩ := errQ_ok hq
  have hpr : b.getD 9 0 = 6 ∨ b.getD 9 0 = 17 ∨ b.getD 9 0 = 1 := by rcases hp3 with h | h | h; exact .inl h; exact .inr (.inl h); exact .inr (.inr h.1)
  have hmay := rw_may (t := t) (hop := false) hb ht (fun h => by cases h)
  obtain ⟨k1, k2, k3, k4, k5, k6⟩ := rw_kept hb he hmay
  have hkeys := may_keys hb he hmay
  have hl := pk_lay hb he
  have hF : fldW b = qF (b.getD 9 0) (qH b) := rfl
  have hH : hdW b = qH b := rfl
  have hat : ∀ {i : Nat}, i / 2 ≠ 5 → i / 2 ≠ fldW b → (rwB b (rwK b t false)).getD i 0 = _ := rwW_byte (pr := b.getD 9 0) (rwK b t false) hl hkeys
  obtain ⟨c, ec⟩ : ∃ c, rwB b (rwK b t false) = c := ⟨_, rfl⟩
  rw [ec] at k1 k2 k3 k4 k5 k6 hat ⊢
  obtain ⟨pr, epr⟩ : ∃ p, b.getD 9 0 = p := ⟨_, rfl⟩
  obtain ⟨H, eH⟩ : ∃ H, qH b = H := ⟨_, rfl⟩
  obtain ⟨F, eF⟩ : ∃ F, qF pr H = F := ⟨_, rfl⟩
  rw [epr, eH] at hF
  rw [eH] at hH h10 h8
  rw [epr] at hpr k6 hnz k5
  rw [eH] at hnz
  rw [hF] at hat k6 hl
  rw [hH] at k6 hl
  have hlenF := hl.len
  have hFb := qF_five (pr := pr) h10
  rw [eF] at hF hat k6 hl hlenF hFb hnz
  have h1 := ht.sr; have h2 := ht.ds; have h3 := ht.sp; have h4 := ht.dp
  have hks : rwK b t false = [(6, t.sr / 65536), (7, t.sr % 65536), (8, t.ds / 65536), (9, t.ds % 65536)] ++ (if pr = 1 then [(H + 2, t.sp)] else [(H, t.sp), (H + 1, t.dp)]) := by
    unfold rwK portK
    rw [epr, hH]
    simp
  have hF2 : pr ≠ 1 → H + 3 ≤ F := by intro h; rw [← eF]; unfold qF; split; omega; split <;> omega
  have hF1 : pr = 1 → F = H + 1 := by intro h; rw [← eF]; unfold qF; rw [if_neg (by omega), if_neg (by omega)]
  have hF6 : pr = 6 → F = H + 8 := by intro h; rw [← eF]; unfold qF; rw [if_pos h]
  have hnd : ((rwK b t false).map (·.1)).Nodup := by
    rw [hks]
    by_cases h9 : pr = 1
    · rw [if_pos h9]; simp; omega
    · rw [if_neg h9]; simp; omega
  have hin : ∀ k n, (k, n) ∈ rwK b t false → k ≠ 5 → k ≠ F → U16 n → wordL c k = n := fun k n hm k5 kF hu => by
    have hlast := last_of hnd hm
    have e1 := hat (i := 2 * k) (by omega) (by omega)
    have e2 := hat (i := 2 * k + 1) (by omega) (by omega)
    rw [show 2 * k / 2 = k by omega, hlast] at e1
    rw [show (2 * k + 1) / 2 = k by omega, hlast] at e2
    simp only at e1 e2
    rw [if_pos (by omega)] at e1
    rw [if_neg (by omega)] at e2
    unfold wordL
    rw [e1, e2]
    unfold U16 at hu
    omega
  have hout : ∀ i, i / 2 ≠ 5 → i / 2 ≠ F → (∀ q ∈ rwK b t false, q.1 ≠ i / 2) → c.getD i 0 = b.getD i 0 := fun i h5 hf hno => by
    rw [hat h5 hf, lastW_none.2 hno]
  have hwo : ∀ k, k ≠ 5 → k ≠ F → (∀ q ∈ rwK b t false, q.1 ≠ k) → wordL c k = wordL b k := fun k h5 hf hno => by
    unfold wordL
    rw [hout (2 * k) (by omega) (by omega) (fun q hq => by rw [show 2 * k / 2 = k by omega]; exact hno q hq), hout (2 * k + 1) (by omega) (by omega) (fun q hq => by rw [show (2 * k + 1) / 2 = k by omega]; exact hno q hq)]
  have hkey : ∀ q ∈ rwK b t false, (6 ≤ q.1 ∧ q.1 ≤ 9) ∨ (pr = 1 ∧ q.1 = H + 2) ∨ (pr ≠ 1 ∧ (q.1 = H ∨ q.1 = H + 1)) := fun q hq => by
    rw [hks] at hq
    rcases List.mem_append.1 hq with hq | hq
    · simp only [List.mem_cons, List.not_mem_nil, or_false] at hq
      rcases hq with rfl | rfl | rfl | rfl <;> simp
    · by_cases h9 : pr = 1
      · rw [if_pos h9] at hq
        rcases List.mem_singleton.1 hq
        exact .inr (.inl ⟨h9, rfl⟩)
      · rw [if_neg h9] at hq
        simp only [List.mem_cons, List.not_mem_nil, or_false] at hq
        rcases hq with rfl | rfl
        · exact .inr (.inr ⟨h9, .inl rfl⟩)
        · exact .inr (.inr ⟨h9, .inr rfl⟩)
  have hz17 : ¬ (pr = 17 ∧ wordL b F = 0) := fun h => hnz h.1 h.2
  have two : TwoQ pr H b c := by
    refine ⟨hb, k2, k3.symm, hpr, h10, h8, by rw [eF]; omega, epr, eH, fun i hi hf hk => ?_, k6.h, ?_⟩
    · rw [eF] at hf
      refine (hout i (by omega) hf (fun q hq e => ?_)).symm
      rcases hkey q hq with h | h | h
      · omega
      · apply hk; unfold keysQ; rw [if_pos h.1, ← e, h.2]; simp
      · apply hk; unfold keysQ; rw [if_neg h.1, ← e]
        rcases h.2 with h | h <;> rw [h] <;> simp
    · have := k6.p hz17
      unfold totW adW at this
      unfold hsQ
      by_cases h9 : pr = 1
      · rw [if_pos h9] at this ⊢; rw [if_pos h9] at this; omega
      · rw [if_neg h9] at this ⊢; rw [if_neg h9] at this; omega
  have hm : ∀ q ∈ [((6 : Nat), t.sr / 65536), (7, t.sr % 65536), (8, t.ds / 65536), (9, t.ds % 65536)], wordL c q.1 = q.2 := fun q hq => by
    refine hin q.1 q.2 (by rw [hks]; exact List.mem_append_left _ hq) ?_ ?_ ?_
    all_goals (simp only [List.mem_cons, List.not_mem_nil, or_false] at hq; rcases hq with rfl | rfl | rfl | rfl <;> simp only [U16] <;> omega)
  refine ⟨by rw [epr, eH]; exact two, k1, k2, k3, ⟨hm (6, t.sr / 65536) (by simp), hm (7, t.sr % 65536) (by simp), hm (8, t.ds / 65536) (by simp), hm (9, t.ds % 65536) (by simp)⟩, fun h9 => ?_, fun h9 => ?_, fun h9 => ?_, fun h9 => ?_⟩
  · rw [epr] at h9
    rw [eH]
    exact hin (H + 2) t.sp (by rw [hks, if_pos h9]; simp) (by omega) (by have := hF1 h9; omega) ⟨by omega, by omega⟩
  · rw [epr] at h9
    rw [eH]
    have := hF2 h9
    exact ⟨hin H t.sp (by rw [hks, if_neg h9]; simp) (by omega) (by omega) ⟨by omega, by omega⟩, hin (H + 1) t.dp (by rw [hks, if_neg h9]; simp) (by omega) (by omega) ⟨by omega, by omega⟩⟩
  · rw [epr] at h9
    rw [eH]
    have := hF6 h9
    refine ⟨hwo (H + 2) (by omega) (by omega) (fun q hq e => ?_), hwo (H + 3) (by omega) (by omega) (fun q hq e => ?_)⟩
    · rcases hkey q hq with h | h | h <;> omega
    · rcases hkey q hq with h | h | h <;> omega
  · rw [epr] at h9 ⊢
    rw [eH, eF]
    exact k6.nz h9 (hnz h9)
end Go.Proofs.YtoegfgbalcholaaGreat

/-
  All that TopQuotes' walk asks of the lists. Nothing of the program.
-/
namespace Go.Proofs.YtoegfgbalcholaaGreat
set_option maxRecDepth 10000
set_option linter.unusedSimpArgs false
set_option linter.unusedVariables false

/-- A quote, rewritten: alike the quote of the other one. -/
theorem quote_like {pr : Int} {H m : Nat} {a b : List Int} {t : Tu} (h : TwoQ pr H a b) (hea : errQ a = 0) (hz : pr = 17 → wordL a (qF pr H) ≠ 0) (hm : 2 * H + 8 ≤ m) (hml : m ≤ a.length) (ht : TuNum t) (htp : t.pr = pr)
    (w6 : wordL b 6 = t.sr / 65536 ∧ wordL b 7 = t.sr % 65536 ∧ wordL b 8 = t.ds / 65536 ∧ wordL b 9 = t.ds % 65536) (p1 : pr = 1 → wordL b (H + 2) = t.sp) (p2 : pr ≠ 1 → wordL b H = t.sp ∧ wordL b (H + 1) = t.dp) (p6 : pr = 6 → wordL b (H + 2) = wordL a (H + 2) ∧ wordL b (H + 3) = wordL a (H + 3)) :
    errR (a.take m) t = 0 ∧ (rwR (a.take m) t 0).length = m ∧ AlikeP (rwR (a.take m) t 0) (b.take m) (qF pr H) ∧ RwIs (a.take m) (rwR (a.take m) t 0) t (qSeq (a.take m)) := by
  have hq := take_q (m := m) hea (by rw [h.aH]; exact hm)
  rw [h.aH, h.a9] at hq
  obtain ⟨q1, q2, q3, q4, q5⟩ := hq
  have hla : (a.take m).length = m := by rw [List.length_take]; omega
  have hba := h.ba.takeQ m
  have he : errR (a.take m) t = 0 := by unfold errR; rw [if_neg (by omega), q5, if_neg (fun hc => hc htp)]
  have hr : rwR (a.take m) t 0 = rwQ (a.take m) t 0 := by unfold rwR; rw [if_pos he]
  have hsq : 0 ≤ qSeq (a.take m) ∧ qSeq (a.take m) < 4294967296 := by
    unfold qSeq
    have x1 := wordL_bd hba (qH (a.take m) + 2)
    have x2 := wordL_bd hba (qH (a.take m) + 3)
    unfold U16 at x1 x2
    split <;> omega
  have es : seqQ (a.take m) 0 = qSeq (a.take m) := by unfold seqQ; omega
  have hR := rwQ_is (sh := 0) hba q1 ht
  rw [es] at hR
  rw [hr]
  refine ⟨he, hR.len.trans hla, ⟨?_, ?_⟩, hR⟩
  · rw [hR.len, List.length_take, List.length_take, h.len]
  · intro i hi hne
    rw [hR.len, hla] at hi hne ⊢
    refine as_like h hz hm hml hR w6 (fun p hp => ?_) i hi hne
    unfold portsQ at hp
    rw [q5, q4] at hp
    by_cases h1 : pr = 1
    · rw [if_pos h1] at hp
      rcases List.mem_singleton.1 hp
      exact p1 h1
    · rw [if_neg h1] at hp
      obtain ⟨e1, e2⟩ := p2 h1
      rcases List.mem_append.1 hp with hp | hp
      · simp only [List.mem_cons, List.not_mem_nil, or_false] at hp
        rcases hp with rfl | rfl
        · exact e1
        · exact e2
      · by_cases h6 : pr = 6
        · rw [if_pos h6] at hp
          obtain ⟨e3, e4⟩ := p6 h6
          have esq : qSeq (a.take m) = wordL a (H + 2) * 65536 + wordL a (H + 3) := by rw [q3]; unfold qSeq; rw [h.a9, if_pos h6, h.aH]
          have x1 := wordL_bd h.ba (H + 2)
          have x2 := wordL_bd h.ba (H + 3)
          unfold U16 at x1 x2
          simp only [List.mem_cons, List.not_mem_nil, or_false] at hp
          rcases hp with rfl | rfl
          · simp only; rw [e3, esq]; omega
          · simp only; rw [e4, esq]; omega
        · rw [if_neg h6] at hp; cases hp
/-- What the walk asks of a quote. -/
structure QuoT (t was : Tu) (F H : Nat) (la lc : List Int) (m : Nat) : Prop where
  ll1 : la.length = m
  ll2 : lc.length = m
  m8 : 2 * H + 8 ≤ m
  m15 : m ≤ 1500
  ba : Bytes la
  bc : Bytes lc
  e1 : errR la t = 0
  l1 : (rwR la t 0).length = m
  a1 : AlikeP (rwR la t 0) lc F
  b1 : Bytes (rwR la t 0)
  e2 : errQ lc = 0
  t2 : qT lc = t
  e3 : errR lc was = 0
  l3 : (rwR lc was 0).length = m
  a3 : AlikeP (rwR lc was 0) la F
  b3 : Bytes (rwR lc was 0)
  e4 : errQ ((rwR lc was 0).take 68) = 0
  t4 : qT ((rwR lc was 0).take 68) = was
  l4 : 2 * H + 8 ≤ ((rwR lc was 0).take 68).length
structure TqIs (p : Pk) (o : Tu) (b c d : List Int) (t was : Tu) (H F : Nat) : Prop where
  pb : pkB p = b
  bb : Bytes b
  lb : 28 ≤ b.length ∧ b.length ≤ 1500
  w : tupT p = was
  wn : TuNum was
  wp : was.pr = p.h.pr
  is_ : p.h.pr = 6 ∨ p.h.pr = 17 ∨ p.h.pr = 1
  te : t = ⟨was.pr, o.sr, o.ds, o.sp, if was.pr = 1 then 0 else o.dp⟩
  tn : TuNum t
  e1 : errRw b t false = 0
  c1 : rwT b t false = c
  bc : Bytes c
  lc : c.length = b.length
  e2 : errAll c = 0
  q2 : pkOfB c = topX p t
  i2 : isT (topX p t) = true
  t2 : tupT (topX p t) = t
  ex : errPk (topX p t) = 0
  xd : pkB (topX p t) = d
  bd : Bytes d
  dl : d.length = b.length
  al : AlikeP c d F
  h0 : b.getD 0 0 % 16 * 4 = 2 * (H : Int)
  hc0 : c.getD 0 0 % 16 * 4 = 2 * (H : Int)
  h30 : 10 ≤ H ∧ H ≤ 30 ∧ 2 * H + 8 ≤ b.length
  b9 : b.getD 9 0 = p.h.pr
  fF : F = qF p.h.pr H
  sr : sumL (c.take (2 * H)) = 65535
  quo : ∀ n : Nat, 8 ≤ n → ∃ m, QuoT t was F H (ofL b (n : Int)) (ofL c (n : Int)) m
theorem tq_of {w : World} {p : Pk} {a : PkA} {o : Tu} (hp : PkRd w p a) (h0 : errPk p = 0) (hT : isT p = true) (hto : TuNum o) : ∃ b c d t was H F, TqIs p o b c d t was H F := by
  have L := laid_of hp h0
  obtain ⟨eb, epk⟩ := back9 hp h0
  have hbb := L.b
  have hf := L.fits
  obtain ⟨P, eP⟩ : ∃ P, loadB p = P := ⟨_, rfl⟩
  rw [eP] at hbb hf
  obtain ⟨b, ebl⟩ : ∃ b, pkB p = b := ⟨_, rfl⟩
  rw [ebl] at eb epk hbb
  have hA0 := topX_ok (t := ⟨0, 0, 0, 0, 0⟩) hp h0 ⟨by decide, by decide, by decide, by decide, by decide⟩
  have hPby : Bytes P := by rw [← eP]; exact hA0.2.2.by_
  have hb : Bytes b := by rw [hbb]; exact hd_by hf hPby
  have hTb : isT (pkOfB b) = true := by rw [epk]; exact hT
  obtain ⟨hq, htq⟩ := ip_quote hb eb hTb
  rw [epk] at htq
  obtain ⟨⟨_, h10, h8, _⟩, hp3⟩ := errQ_ok hq
  have h9 : b.getD 9 0 = p.h.pr := by rw [← epk, pkOfB_h]; rfl
  have hlen := hd_len p.h P
  rw [← hbb] at hlen
  have hlong := hf.long
  have h40 := hf.o40
  have h4 := hf.o4
  have hH2 : 20 + p.h.o.length = 2 * qH b := by have := (hd_head p.h P hf).2.1; rw [← hbb] at this; omega
  obtain ⟨t, et⟩ : ∃ t, ownT b o = t := ⟨_, rfl⟩
  have htn : TuNum t := by rw [← et]; exact ownT_num hb hto
  have htp : t.pr = p.h.pr := by rw [← et]; exact h9
  obtain ⟨r1, r2⟩ := rw_ok (t := o) eb hTb
  rw [et] at r1 r2
  obtain ⟨c, ec⟩ : ∃ c, rwB b (rwK b t false) = c := ⟨_, rfl⟩
  obtain ⟨x1, x2, hA⟩ := topX_ok (t := t) hp h0 htn
  rw [eP] at hA
  obtain ⟨P', eP'⟩ : ∃ P', loadB (topX p t) = P' := ⟨_, rfl⟩
  rw [eP'] at hA
  have hec : p.h.pr = 1 → echoM p.m.ty p.m.cd = true := fun h1 => by
    unfold isT at hT
    rw [h1] at hT
    simpa using hT
  have hLd := hA.load p.s.sq (fun _ => by have := hp.sr.num.sq; omega) hec
  have hPP : P'.length = P.length := hA.len
  -- the other packet's list
  have hXL := laid_of (topX_rd hp htn) x1
  have hdd := hXL.b
  rw [eP', topX_h] at hdd
  obtain ⟨d, ed⟩ : ∃ d, pkB (topX p t) = d := ⟨_, rfl⟩
  rw [ed] at hdd
  have hn' : HdNum { p.h with sr := t.sr, ds := t.ds } := ⟨hp.hn.to, hp.hn.id, hp.hn.tt, hp.hn.pr, htn.sr, htn.ds⟩
  have hf' : HdFits { p.h with sr := t.sr, ds := t.ds } P'.length := ⟨hn', hf.ob, h40, h4, by rw [hPP]; exact hlong⟩
  have hs := head_sum p.h P hf.num hf.ob h40 hlong
  have hs' := head_sum { p.h with sr := t.sr, ds := t.ds } P' hn' hf.ob h40 (by rw [hPP]; exact hlong)
  simp only at hs'
  rw [hH2] at hs hs'
  have two_d := two_hd hf hf' hPP.symm L.is_ hH2 (by rw [← hbb]; exact hb) (hd_by hf' hA.by') hLd.h8 hLd.hF hs hs' hLd.agree hLd.sum
  rw [← hbb, ← hdd] at two_d
  have hFs := qF_shift p.h.pr (qH b)
  have hwb : ∀ k, wordL b (qH b + k) = wordL P k := fun k => by
    have e := hd_drop p.h P
    rw [← wordL_dropQ, ← hH2, hbb, e]
  have hwd : ∀ k, wordL d (qH b + k) = wordL P' k := fun k => by
    have e := hd_drop { p.h with sr := t.sr, ds := t.ds } P'
    simp only at e
    rw [← wordL_dropQ, ← hH2, hdd, e]
  have hnz : b.getD 9 0 = 17 → wordL b (qF (b.getD 9 0) (qH b)) ≠ 0 := fun h17 => by
    rw [h9] at h17 ⊢
    rw [hFs, hwb]
    exact hLd.nz h17
  have hC := turned hb eb hTb htn hnz
  rw [ec] at hC
  have two_c := hC.two
  rw [h9] at two_c
  obtain ⟨n1, n2, n3, n4, n5⟩ := (⟨hC.port, hC.ports, hC.num, hC.nz, hC.head⟩ : _ ∧ _ ∧ _ ∧ _ ∧ _)
  rw [h9] at n1 n2 n3 n4
  obtain ⟨_, _, _, _, d6, d7, d8, d9⟩ := hd_head { p.h with sr := t.sr, ds := t.ds } P' hf'
  simp only at d6 d7 d8 d9
  rw [← hdd] at d6 d7 d8 d9
  have hsq := hp.sr.num.sq
  have hbsq : p.h.pr = 6 → wordL b (qH b + 2) = p.s.sq / 65536 ∧ wordL b (qH b + 3) = p.s.sq % 65536 := fun h6 => by
    have := (hA.h20 h6).2
    rw [hwb, hwb]; exact this
  have hkeys : ∀ k ∈ keysQ p.h.pr (qH b), wordL c k = wordL d k := fun k hk => by
    unfold keysQ at hk
    by_cases h1 : p.h.pr = 1
    · rw [if_pos h1] at hk
      rcases List.mem_singleton.1 hk
      rw [n1 h1, hwd, hLd.id h1]
    · rw [if_neg h1] at hk
      obtain ⟨m1, m2⟩ := n2 h1
      obtain ⟨o1, o2⟩ := hLd.ports h1
      have w0 := hwd 0
      rw [Nat.add_zero] at w0
      rcases List.mem_append.1 hk with hk | hk
      · simp only [List.mem_cons, List.not_mem_nil, or_false] at hk
        rcases hk with rfl | rfl
        · rw [m1, w0, o1]
        · rw [m2, hwd, o2]
      · by_cases h6 : p.h.pr = 6
        · rw [if_pos h6] at hk
          obtain ⟨m3, m4⟩ := n3 h6
          obtain ⟨o3, o4⟩ := hLd.num h6
          obtain ⟨b3, b4⟩ := hbsq h6
          simp only [List.mem_cons, List.not_mem_nil, or_false] at hk
          rcases hk with rfl | rfl
          · rw [m3, b3, hwd, o3]
          · rw [m4, b4, hwd, o4]
        · rw [if_neg h6] at hk; cases hk
  obtain ⟨ll, hlike⟩ := two_like two_c two_d ⟨by rw [n5.1, d6], by rw [n5.2.1, d7], by rw [n5.2.2.1, d8], by rw [n5.2.2.2, d9]⟩ hkeys
  have hHc : qH c = qH b := two_c.symm.aH
  have h9c : c.getD 9 0 = p.h.pr := two_c.symm.a9
  have hpkc := pk_w hC.byte hC.err
  have hHdc : (hdrL c).toNat = 2 * qH b := by have := hpkc.hH; rw [this]; show 2 * qH c = _; rw [hHc]
  have hq2 : pkOfB c = topX p t := by
    have e1 : pkOfB c = pkOfB d := by
      refine agree_pk (pr := p.h.pr) (H := qH b) ll h10 (fun i h5 hF => ?_) h9c L.is_ hHdc (fun h6 => ?_)
      · rcases hlike i with h | h
        · exact h
        · have := h.1
          simp only [List.mem_cons, List.not_mem_nil, or_false] at this
          rcases this with h | h
          · exact absurd h h5
          · exact absurd h hF
      · have := (parts_ok hC.err).1 (by rw [h9c]; exact h6)
        unfold errSeg at this
        by_cases k1 : 1480 < (restOf c).length
        · rw [if_pos k1] at this; omega
        rw [if_neg k1] at this
        by_cases k2 : (restOf c).length < 20
        · rw [if_pos k2] at this; omega
        rw [if_neg k2] at this
        by_cases k3 : offB (restOf c) < 20
        · rw [if_pos k3] at this; omega
        omega
    rw [e1, ← ed]
    exact (back9 (topX_rd hp htn) x1).2
  have hiX : isT (topX p t) = true := by
    have := rw_isT (t := o) hb eb hTb hto
    rw [et, ec, hq2] at this
    exact this
  have hTc : isT (pkOfB c) = true := by rw [hq2]; exact hiX
  obtain ⟨hqc, htc⟩ := ip_quote hC.byte hC.err hTc
  have hquc : qTu c = t := by
    unfold qTu
    rw [h9c, hHc, n5.1, n5.2.1, n5.2.2.1, n5.2.2.2]
    have h1 := htn.sr; have h2 := htn.ds
    by_cases hp1 : p.h.pr = 1
    · rw [if_pos hp1, if_pos hp1, n1 hp1]
      have edp : t.dp = 0 := by rw [← et]; unfold ownT; simp only; rw [h9, if_pos hp1]
      obtain ⟨t1, t2, t3, t4, t5⟩ := t
      simp only at *
      subst htp edp
      congr 1 <;> omega
    · rw [if_neg hp1, if_neg hp1, (n2 hp1).1, (n2 hp1).2]
      obtain ⟨t1, t2, t3, t4, t5⟩ := t
      simp only at *
      subst htp
      congr 1 <;> omega
  rw [hq2] at htc
  have hwn : TuNum (qTu b) := qTu_num hb
  have hwp : (qTu b).pr = p.h.pr := h9
  have hbw : wordL b 6 = (qTu b).sr / 65536 ∧ wordL b 7 = (qTu b).sr % 65536 ∧ wordL b 8 = (qTu b).ds / 65536 ∧ wordL b 9 = (qTu b).ds % 65536 := by
    have x6 := wordL_bd hb 6; have x7 := wordL_bd hb 7; have x8 := wordL_bd hb 8; have x9 := wordL_bd hb 9
    unfold U16 at x6 x7 x8 x9
    unfold qTu
    simp only
    exact ⟨by omega, by omega, by omega, by omega⟩
  have h20 : 20 ≤ b.length := by omega
  have hlc := hC.len
  refine ⟨b, c, d, t, qTu b, qH b, qF p.h.pr (qH b), ⟨ebl, hb, ⟨by omega, by omega⟩, htq, hwn, hwp, L.is_, ?_, htn, r1, r2.trans ec, hC.byte, hlc, hC.err, hq2, hiX, htc.trans hquc, x1, ed, two_d.bb, two_d.len.symm,
    ⟨ll, fun i _ _ => hlike i⟩, ?_, ?_, ⟨h10, by omega, h8⟩, h9, rfl, ?_, fun n h8n => ?_⟩⟩
  · rw [← et]; unfold ownT; rw [hwp, h9]
  · unfold qH; have := getD_byteQ hb 0; omega
  · rw [← hHc]; unfold qH; have := getD_byteQ hC.byte 0; omega
  · have := ((errIp_parts c).1 (errAll_ip hC.err)).2.2.2.2.2.2.1
    rwa [hHdc] at this
  · obtain ⟨m, em, emin, hm8, hml⟩ := of_take (c := b) (n := n) h20 h8n h8
    obtain ⟨m', em', emin', hm8', hml'⟩ := of_take (c := c) (n := n) (by omega) h8n (by rw [hHc]; omega)
    have hmm : m' = m := by rw [emin, emin', hHc, hlc]
    subst hmm
    rw [em, em']
    have hmc : m' ≤ c.length := by omega
    obtain ⟨f1, f2, f3, f4⟩ := quote_like (m := m') (t := t) two_c hq (fun h17 => by have := hnz (by rw [h9]; exact h17); rwa [h9] at this) hm8 hml htn htp n5 n1 n2 n3
    obtain ⟨g1, g2, g3, g4⟩ := quote_like (m := m') (t := qTu b) two_c.symm hqc n4 hm8 hmc hwn hwp hbw (fun h1 => by unfold qTu; simp only; rw [h9, if_pos h1]) (fun h1 => by unfold qTu; simp only; rw [h9, if_neg h1, if_neg h1]; exact ⟨rfl, rfl⟩) (fun h6 => by obtain ⟨e1, e2⟩ := n3 h6; exact ⟨e1.symm, e2.symm⟩)
    have tq := take_q (m := m') hqc (by rw [hHc]; exact hm8)
    obtain ⟨k1, k2, k3, k4, k5⟩ := tq
    have hsb : 0 ≤ qSeq (c.take m') ∧ qSeq (c.take m') < 4294967296 := by
      unfold qSeq
      have y1 := wordL_bd (hC.byte.takeQ m') (qH (c.take m') + 2)
      have y2 := wordL_bd (hC.byte.takeQ m') (qH (c.take m') + 3)
      unfold U16 at y1 y2
      split <;> omega
    have hfit : TuFits (c.take m') (qTu b) := ⟨by rw [k5, h9c]; exact h9, fun h1 => by rw [k5, h9c] at h1; unfold qTu; simp only; rw [h9, if_pos h1]⟩
    obtain ⟨v1, v2, v3⟩ := g4.read (hC.byte.takeQ m') k1 hwn hfit hsb
    have hH4 : qH (rwR (c.take m') (qTu b) 0) = qH b := by rw [(g4.nine (by rw [k4, hHc]; exact h10)).2, k4, hHc]
    obtain ⟨z1, z2, z3, z4, z5⟩ := take_q (m := 68) v1 (by rw [hH4]; omega)
    refine ⟨m', ⟨by rw [List.length_take]; omega, by rw [List.length_take]; omega, hm8, by omega, hb.takeQ m', hC.byte.takeQ m', f1, f2, f3, f4.byte, k1, ?_, g1, g2, g3, g4.byte, z1, ?_, ?_⟩⟩
    · unfold qT; rw [if_pos k1, k2, hquc]
    · unfold qT; rw [if_pos z1, z2, v2]
    · rw [List.length_take, g2]; omega
end Go.Proofs.YtoegfgbalcholaaGreat

/-
  What package inner's closure does, step by step, in plain lists: the same as the document's own rewriting (stage 16). Nothing of the program.
-/
namespace Go.Proofs.YtoegfgbalcholaaGreat
set_option maxRecDepth 10000
set_option linter.unusedSimpArgs false
set_option linter.unusedVariables false

theorem layL_over (b : List Int) (k : Nat) (x y : Int) : layL (layL b k x) k y = layL b k y := by
  unfold layL
  rw [List.set_comm _ _ (show 2 * k + 1 ≠ 2 * k by omega), List.set_set, List.set_set]
theorem layL_comm (b : List Int) {j k : Nat} (h : j ≠ k) (x y : Int) : layL (layL b j x) k y = layL (layL b k y) j x := by
  unfold layL
  rw [List.set_comm _ _ (show 2 * j + 1 ≠ 2 * k by omega), List.set_comm _ _ (show 2 * j ≠ 2 * k by omega), List.set_comm _ _ (show 2 * j + 1 ≠ 2 * k + 1 by omega), List.set_comm _ _ (show 2 * j ≠ 2 * k + 1 by omega)]
/-- The program's step: a word becomes another one, the fields follow at once. -/
def ownS (pr : Int) (H : Nat) (th : Bool) (b : List Int) (k : Nat) (x : Int) : List Int :=
  if th = true ∧ (H ≤ k ∨ pr ≠ 1) then layL (headW H b k x) (qF pr H) (fixP pr (wordL (headW H b k x) (qF pr H)) (wordL b k) x) else headW H b k x
def ownR (pr : Int) (H : Nat) (th : Bool) (ks : List (Nat × Int)) (b : List Int) : List Int := ks.foldl (fun c p => ownS pr H th c p.1 p.2) b
/-- A field that is 0 and may not be so. -/
def normQ (pr : Int) (F : Nat) (c : List Int) : List Int := if pr ≠ 6 ∧ wordL c F = 0 then layL c F 65535 else c
theorem headW_len (H : Nat) (b : List Int) (k : Nat) (x : Int) : (headW H b k x).length = b.length := by unfold headW; split <;> simp [layL_len]
theorem headW_byte {H : Nat} {b : List Int} (h : Bytes b) (k : Nat) {x : Int} (hx : U16 x) : Bytes (headW H b k x) := by
  unfold headW
  split
  · exact layL_byte (layL_byte h k hx) 5 (wordF_bd _ _ _ (wordL_bd (layL_byte h k hx) 5) (wordL_bd h k) hx)
  · exact layL_byte h k hx
theorem ownS_len (pr : Int) (H : Nat) (th : Bool) (b : List Int) (k : Nat) (x : Int) : (ownS pr H th b k x).length = b.length := by
  unfold ownS; split
  · rw [layL_len, headW_len]
  · exact headW_len _ _ _ _
theorem ownS_byte {pr : Int} {H : Nat} {th : Bool} {b : List Int} (h : Bytes b) (k : Nat) {x : Int} (hx : U16 x) : Bytes (ownS pr H th b k x) := by
  have hb := headW_byte (H := H) h k hx
  unfold ownS; split
  · exact layL_byte hb _ (fixP_bd _ (wordL_bd hb _) (wordL_bd h k) hx)
  · exact hb
/-- The document's step, where the payload's field follows. -/
theorem chQ_two {H F k : Nat} (Q : List Int) (x : Int) : chQ (if k < H then [5, F] else [F]) Q k x = layL (headW H Q k x) F (wordF (wordL (headW H Q k x) F) (wordL Q k) x) := by
  unfold chQ headW fldQ
  by_cases h : k < H
  · rw [if_pos h, if_pos h]; rfl
  · rw [if_neg h, if_neg h]; rfl
theorem chQ_one {H k : Nat} (Q : List Int) (x : Int) : chQ (if k < H then [5] else []) Q k x = headW H Q k x := by
  unfold chQ headW fldQ
  by_cases h : k < H
  · rw [if_pos h, if_pos h]; rfl
  · rw [if_neg h, if_neg h]; rfl
theorem fixP_same {pr f was x : Int} (hp : pr ≠ 6) (hw : U16 was) (hx : U16 x) : fixP pr 65535 was x = fixP pr 0 was x := by
  obtain ⟨a1, a2⟩ := fixP_bd pr (show U16 65535 from ⟨by omega, by omega⟩) hw hx
  obtain ⟨b1, b2⟩ := fixP_bd pr (show U16 0 from ⟨by omega, by omega⟩) hw hx
  have a3 := fixP_nz (f := 65535) (was := was) (n := x) hp
  have b3 := fixP_nz (f := 0) (was := was) (n := x) hp
  have a4 := fixP_mod pr 65535 was x
  have b4 := fixP_mod pr 0 was x
  omega
/-- A step that the field follows: from the document's row, or from it as it may be. -/
theorem own_step {pr : Int} {H k : Nat} {P Q : List Int} {x : Int} (hb : Bytes Q) (hx : U16 x) (hF : 2 * qF pr H + 1 < Q.length) (h5 : qF pr H ≠ 5) (hk : k ≠ qF pr H) (ho : H ≤ k ∨ pr ≠ 1) (hP : P = Q ∨ P = normQ pr (qF pr H) Q) :
    ownS pr H true P k x = normQ pr (qF pr H) (chQ (if k < H then [5, qF pr H] else [qF pr H]) Q k x) := by
  obtain ⟨F, eF⟩ : ∃ F, qF pr H = F := ⟨_, rfl⟩
  rw [eF] at hF h5 hk hP ⊢
  have hln : 2 * F + 1 < (headW H Q k x).length := by rw [headW_len]; exact hF
  have key : ∀ y, normQ pr F (layL (headW H Q k x) F y) = layL (headW H Q k x) F (if pr ≠ 6 ∧ y = 0 then 65535 else y) := by
    intro y
    unfold normQ
    rw [wordL_lay_same _ _ _ hln]
    by_cases h : pr ≠ 6 ∧ y = 0
    · rw [if_pos h, if_pos h, layL_over]
    · rw [if_neg h, if_neg h]
  have self : ownS pr H true Q k x = normQ pr F (chQ (if k < H then [5, F] else [F]) Q k x) := by
    rw [chQ_two, key]
    unfold ownS
    rw [if_pos ⟨rfl, ho⟩, eF]
    rfl
  rcases hP with rfl | rfl
  · exact self
  · by_cases h0 : pr ≠ 6 ∧ wordL Q F = 0
    · have e : normQ pr F Q = layL Q F 65535 := by unfold normQ; rw [if_pos h0]
      rw [e, chQ_two, key]
      have hc : headW H (layL Q F 65535) k x = layL (headW H Q k x) F 65535 := by
        unfold headW
        rw [wordL_lay_other _ F k _ (fun e => hk e.symm), layL_comm Q (fun e => hk e.symm)]
        by_cases h : k < H
        · rw [if_pos h, if_pos h, wordL_lay_other _ F 5 _ h5, layL_comm _ h5]
        · rw [if_neg h, if_neg h]
      have hwc : wordL (headW H Q k x) F = 0 := by rw [headW_word h5 (fun e => hk e.symm)]; exact h0.2
      unfold ownS
      rw [if_pos ⟨rfl, ho⟩, eF, hc, wordL_lay_same _ _ _ hln, layL_over, wordL_lay_other _ F k _ (fun e => hk e.symm), hwc]
      have := fixP_same (f := 0) h0.1 (wordL_bd hb k) hx
      rw [this]
      rfl
    · have e : normQ pr F Q = Q := by unfold normQ; rw [if_neg h0]
      rw [e]
      exact self
/-- A row of such steps. -/
theorem own_run {pr : Int} {H : Nat} (fs : List Nat) (h5 : qF pr H ≠ 5) : ∀ (ks : List (Nat × Int)) (Q : List Int), Bytes Q → 2 * qF pr H + 1 < Q.length →
    (∀ p ∈ ks, U16 p.2 ∧ p.1 ≠ qF pr H ∧ (H ≤ p.1 ∨ pr ≠ 1) ∧ fs = (if p.1 < H then [5, qF pr H] else [qF pr H]) ∧ (∀ M : List Int, Bytes M → M.length = Q.length → MayQ fs M p.1 p.2)) →
    ownR pr H true ks (normQ pr (qF pr H) Q) = normQ pr (qF pr H) (runQ fs ks Q)
  | [], _, _, _, _ => rfl
  | p :: ks, Q, hb, hF, h => by
    obtain ⟨h1, h2, h3, h4, h6⟩ := h p (List.mem_cons_self ..)
    have hm := h6 Q hb rfl
    have e1 : ownR pr H true (p :: ks) (normQ pr (qF pr H) Q) = ownR pr H true ks (ownS pr H true (normQ pr (qF pr H) Q) p.1 p.2) := rfl
    have e2 : runQ fs (p :: ks) Q = runQ fs ks (chQ fs Q p.1 p.2) := rfl
    rw [e1, e2, own_step hb h1 hF h5 h2 h3 (.inr rfl), ← h4]
    have hl := chQ_len fs Q p.1 p.2
    exact own_run fs h5 ks _ hm.bytes (by rw [hl]; exact hF) (fun q hq => by
      obtain ⟨g1, g2, g3, g4, g6⟩ := h q (List.mem_cons_of_mem _ hq)
      exact ⟨g1, g2, g3, g4, fun M hM hl2 => g6 M hM (hl2.trans hl)⟩)
/-- A row of steps that the payload's field does not follow. -/
theorem own_plain {pr : Int} {H : Nat} {th : Bool} (fs : List Nat) : ∀ (ks : List (Nat × Int)) (Q : List Int), (∀ p ∈ ks, ¬ (th = true ∧ (H ≤ p.1 ∨ pr ≠ 1)) ∧ fs = (if p.1 < H then [5] else [])) → ownR pr H th ks Q = runQ fs ks Q
  | [], _, _ => rfl
  | p :: ks, Q, h => by
    obtain ⟨h1, h2⟩ := h p (List.mem_cons_self ..)
    have e1 : ownR pr H th (p :: ks) Q = ownR pr H th ks (ownS pr H th Q p.1 p.2) := rfl
    have e2 : runQ fs (p :: ks) Q = runQ fs ks (chQ fs Q p.1 p.2) := rfl
    have e3 : ownS pr H th Q p.1 p.2 = chQ fs Q p.1 p.2 := by
      rw [h2, chQ_one]
      unfold ownS
      rw [if_neg h1]
    rw [e1, e2, e3]
    exact own_plain fs ks _ (fun q hq => h q (List.mem_cons_of_mem _ hq))
theorem ownR_app (pr : Int) (H : Nat) (th : Bool) (k1 k2 : List (Nat × Int)) (b : List Int) : ownR pr H th (k1 ++ k2) b = ownR pr H th k2 (ownR pr H th k1 b) := by
  unfold ownR; rw [List.foldl_append]
def thQ (b : List Int) : Bool := decide (partQ b ≠ [])
/-- The program's rewriting is the document's. -/
theorem own_is {b : List Int} {t : Tu} {sh : Int} (hb : Bytes b) (he : errQ b = 0) (ht : TuNum t) : ownR (b.getD 9 0) (qH b) (thQ b) (headQ t ++ portsQ b t (seqQ b sh)) b = rwQ b t sh := by
  obtain ⟨⟨_, h10, hl, _⟩, hp⟩ := errQ_ok he
  obtain ⟨pr, epr⟩ : ∃ p, b.getD 9 0 = p := ⟨_, rfl⟩
  obtain ⟨H, eH⟩ : ∃ H, qH b = H := ⟨_, rfl⟩
  obtain ⟨s, es⟩ : ∃ s, seqQ b sh = s := ⟨_, rfl⟩
  have hs : 0 ≤ s ∧ s < 4294967296 := by rw [← es]; unfold seqQ; omega
  have hpr : pr = 6 ∨ pr = 17 ∨ pr = 1 := by rw [epr] at hp; rcases hp with h | h | h; exact .inl h; exact .inr (.inl h); exact .inr (.inr h.1)
  have h1 := ht.sr; have h2 := ht.ds; have h3 := ht.sp; have h4 := ht.dp
  rw [epr, eH, es, ownR_app]
  unfold rwQ
  rw [es]
  rw [eH] at h10 hl
  have hFb : H + 1 ≤ qF pr H := by unfold qF; split; omega; split <;> omega
  have hF6 : pr ≠ 1 → H + 3 ≤ qF pr H := by intro h; unfold qF; split; omega; split <;> omega
  have hF7 : pr = 6 → qF pr H = H + 8 := by intro h; unfold qF; rw [if_pos h]
  have hF1 : pr = 1 → qF pr H = H + 1 := by intro h; unfold qF; rw [if_neg (by omega), if_neg (by omega)]
  have hF17 : pr = 17 → qF pr H = H + 3 := by intro h; unfold qF; rw [if_neg (by omega), if_pos h]
  have hhk : ∀ p ∈ headQ t, U16 p.2 ∧ 6 ≤ p.1 ∧ p.1 ≤ 9 := by
    intro p hp
    unfold headQ at hp; simp only [List.mem_cons, List.not_mem_nil, or_false] at hp
    rcases hp with rfl | rfl | rfl | rfl <;> exact ⟨⟨by simp only; omega, by simp only; omega⟩, by simp, by simp⟩
  have hpk : ∀ p ∈ portsQ b t s, H ≤ p.1 ∧ p.1 ≤ H + 3 ∧ U16 p.2 ∧ p.1 ≠ qF pr H := by
    intro p hp
    unfold portsQ at hp
    rw [epr, eH] at hp
    by_cases h9 : pr = 1
    · have := hF1 h9
      rw [if_pos h9] at hp
      rcases List.mem_singleton.1 hp
      exact ⟨by simp only; omega, by simp only; omega, ⟨by simp only; omega, by simp only; omega⟩, by simp only; omega⟩
    · rw [if_neg h9] at hp
      have := hF6 h9
      rcases List.mem_append.1 hp with hp | hp
      · simp only [List.mem_cons, List.not_mem_nil, or_false] at hp
        rcases hp with rfl | rfl
        · exact ⟨by simp only; omega, by simp only; omega, ⟨by simp only; omega, by simp only; omega⟩, by simp only; omega⟩
        · exact ⟨by simp only; omega, by simp only; omega, ⟨by simp only; omega, by simp only; omega⟩, by simp only; omega⟩
      · by_cases h6 : pr = 6
        · rw [if_pos h6] at hp
          have := hF7 h6
          simp only [List.mem_cons, List.not_mem_nil, or_false] at hp
          rcases hp with rfl | rfl
          · exact ⟨by simp only; omega, by simp only; omega, ⟨by simp only; omega, by simp only; omega⟩, by simp only; omega⟩
          · exact ⟨by simp only; omega, by simp only; omega, ⟨by simp only; omega, by simp only; omega⟩, by simp only; omega⟩
        · rw [if_neg h6] at hp; cases hp
  have hpc := part_cases b
  rw [epr, eH] at hpc
  rcases hpc with hpt | ⟨hpt, hlen⟩
  · -- no field
    have eth : thQ b = false := by unfold thQ; rw [hpt]; rfl
    have ebo : bothQ b = [5] := by unfold bothQ; rw [hpt]; simp
    have efx : ∀ c, fixQ b c = c := fun c => by unfold fixQ; rw [if_neg (fun h => h.2.1 hpt)]
    rw [efx, eth, ebo, hpt, own_plain [5] (headQ t) b (fun p hp => ⟨by simp, by rw [if_pos (by have := hhk p hp; omega)]⟩), own_plain [] (portsQ b t s) _ (fun p hp => ⟨by simp, by rw [if_neg (by have := hpk p hp; omega)]⟩)]
  · have eth : thQ b = true := by unfold thQ; rw [hpt]; simp
    have efx : ∀ c, fixQ b c = normQ pr (qF pr H) c := fun c => by
      unfold fixQ normQ
      rw [epr, eH, hpt]
      by_cases h : pr ≠ 6 ∧ wordL c (qF pr H) = 0
      · rw [if_pos h, if_pos ⟨h.1, by simp, h.2⟩]
      · rw [if_neg h, if_neg (fun hc => h ⟨hc.1, hc.2.2⟩)]
    rw [efx, eth, hpt]
    by_cases h9 : pr = 1
    · -- an echo: the head does not count
      have ebo : bothQ b = [5] := by unfold bothQ; rw [epr, if_pos h9]
      rw [ebo, own_plain [5] (headQ t) b (fun p hp => ⟨by have := hhk p hp; rintro ⟨_, h | h⟩; omega; exact h h9, by rw [if_pos (by have := hhk p hp; omega)]⟩)]
      obtain ⟨c, ec⟩ : ∃ c, runQ [5] (headQ t) b = c := ⟨_, rfl⟩
      have hcs := runQ_spec [5] (headQ t) b hb (fun p hp => by
        have := hhk p hp
        exact ⟨by omega, this.1, by simp; omega⟩) (by simp) (fun f hf => by rw [List.mem_singleton] at hf; omega) (by unfold headQ; simp)
      rw [ec] at hcs ⊢
      have epo : portsQ b t s = [(H + 2, t.sp)] := by unfold portsQ; rw [epr, eH, if_pos h9]
      rw [epo]
      have := own_step (pr := pr) (H := H) (k := H + 2) (P := c) (Q := c) (x := t.sp) hcs.2.1 ⟨by omega, by omega⟩ (by rw [hcs.1]; omega) (by omega) (by have := hF1 h9; omega) (.inl (by omega)) (.inl rfl)
      rw [if_neg (by omega)] at this
      exact this
    · have ebo : bothQ b = [5, qF pr H] := by unfold bothQ; rw [epr, if_neg h9, hpt]
      have enb : normQ pr (qF pr H) b = b := by
        unfold normQ
        rw [if_neg]
        rintro ⟨h6, h0⟩
        have h17 : pr = 17 := by omega
        have : partQ b = [] := by
          unfold partQ
          rw [epr, eH, if_neg (fun h => h.2 ⟨h17, h0⟩)]
        rw [hpt] at this
        cases this
      rw [ebo]
      have e1 := own_run (pr := pr) (H := H) [5, qF pr H] (by omega) (headQ t) b hb (by omega) (fun p hp => by
        have hq := hhk p hp
        have := hF6 h9
        exact ⟨hq.1, by omega, .inr h9, by rw [if_pos (by omega)], fun M hM hlM => ⟨hM, by omega, hq.1, fun f hf => by
          simp only [List.mem_cons, List.not_mem_nil, or_false] at hf
          rcases hf with rfl | rfl <;> exact ⟨by omega, by omega⟩, by simp; omega⟩⟩)
      rw [enb] at e1
      obtain ⟨c, ec⟩ : ∃ c, runQ [5, qF pr H] (headQ t) b = c := ⟨_, rfl⟩
      have hcs := runQ_spec [5, qF pr H] (headQ t) b hb (fun p hp => by
        have := hhk p hp
        exact ⟨by omega, this.1, by simp; omega⟩) (by simp; omega) (fun f hf => by simp only [List.mem_cons, List.not_mem_nil, or_false] at hf; rcases hf with rfl | rfl <;> omega) (by unfold headQ; simp)
      rw [ec] at e1 hcs ⊢
      rw [e1]
      exact own_run (pr := pr) (H := H) [qF pr H] (by omega) (portsQ b t s) c hcs.2.1 (by rw [hcs.1]; omega) (fun p hp => by
        obtain ⟨g1, g2, g3, g4⟩ := hpk p hp
        exact ⟨g3, g4, .inr h9, by rw [if_neg (by omega)], fun M hM hlM => ⟨hM, by rw [hlM, hcs.1]; omega, g3, fun f hf => by
          rw [List.mem_singleton] at hf; subst hf; exact ⟨by rw [hlM, hcs.1]; omega, fun e => g4 e.symm⟩, by simp⟩⟩)
end Go.Proofs.YtoegfgbalcholaaGreat

/-
  The small functions of package inner: word, lay, header, follow, fields.
-/
namespace Go.Proofs.YtoegfgbalcholaaGreat
set_option maxRecDepth 10000
open Go.RowKit
set_option linter.unusedSimpArgs false
set_option linter.unusedVariables false

theorem wraps8I (n : Int) (h₀ : 0 ≤ n) (h₁ : n < 2 ^ 8) : IntKind.u8.wrap n = n := by simp [IntKind.wrap, IntKind.bits, IntKind.signed]; omega
theorem and15I (x : Int) (h : 0 ≤ x ∧ x < 256) : bits .and .u8 x 15 = x % 16 := bits_mask .u8 8 (by decide) wraps8I 4 (by omega) x h.1 h.2
theorem header16_any (x H : Int) (w : World) (hx : 0 ≤ x ∧ x < 256) (hH : x % 16 * 4 = H) :
    Calls Tryz.prog 40 #[.int .u8 x] w fun e w' => e = .returned (.int .i64 H) ∧ w = w' := by
  have hand := and15I x hx
  have hw1 : IntKind.i64.wrap (x % 16) = x % 16 := IntWalk.i64_in _ (by omega)
  have hw2 : IntKind.i64.wrap (x % 16 * 4) = x % 16 * 4 := IntWalk.i64_in _ (by omega)
  have HH := Lib.hid hH
  clear hH
  go_enter Tryz.func40, Tryz.ntmps40
  go_wp2_with fail
  go_ret
  exact ⟨ret_int HH.out, rfl⟩
/-- A word of the bytes. -/
theorem iword_any (A : Option Addr) (m c : Nat) (l : List Int) (a x : Int) (K : Nat) (w : World) (hm : m ≤ 140737488355328) (ha : a = 2 * (K : Int)) (hK : 2 * K + 1 < m) (h : Rd w A m l) (hx : wordL l K = x) :
    Calls Tryz.prog 86 #[.slice A m c, .int .i64 a] w (SumIs x w) := by
  subst ha
  obtain ⟨b, o, rfl, hb, hc⟩ := h.at_ (by omega)
  have hc1 := hc (2 * K) (by omega)
  have hc2 := hc (2 * K + 1) (by omega)
  have hx1 := getD_byte h.byte (2 * K)
  have hy := getD_byte h.byte (2 * K + 1)
  obtain ⟨x1, ex⟩ : ∃ x, l.getD (2 * K) 0 = x := ⟨_, rfl⟩
  obtain ⟨y, ey⟩ : ∃ y, l.getD (2 * K + 1) 0 = y := ⟨_, rfl⟩
  have Hw := Lib.hid (show x = x1 * 256 + y by rw [← hx]; unfold wordL; rw [ex, ey])
  rw [ex] at hc1 hx1
  rw [ey] at hc2 hy
  have hor := or16 x1 y hx1 hy
  have hi1 : 2 * (K : Int) + 1 < (m : Int) := by omega
  have hi0 : 2 * (K : Int) < (m : Int) := by omega
  have hk0 : 0 ≤ 2 * (K : Int) := by omega
  obtain ⟨hx0, hx1'⟩ := id hx1
  obtain ⟨hy0, hy1⟩ := id hy
  have hmi : (m : Int) ≤ 140737488355328 := by omega
  have hbnd : 2 * (K : Int) + 1 ≤ 140737488355328 := by omega
  have hw2 : IntKind.i64.wrap (2 * (K : Int) + 1) = 2 * (K : Int) + 1 := IntWalk.i64_in _ (by omega)
  have hc2 : w.cell? ⟨b, o + (2 * (K : Int) + 1).toNat, none⟩ = some (.int .u8 y) := by rw [show (2 * (K : Int) + 1).toNat = 2 * K + 1 by omega]; exact hc2
  have hc1 : w.cell? ⟨b, o + (2 * (K : Int)).toNat, none⟩ = some (.int .u8 x1) := by rw [show (2 * (K : Int)).toNat = 2 * K by omega]; exact hc1
  clear h hc ex ey hx1 hy hx hK hm
  go_enter Tryz.func86, Tryz.ntmps86
  go_wp2_with fail
  go_quiet (fail)
  go_wp2_with fail
  go_ret
  exact ⟨ret_int Hw.out.symm, rfl, rfl, rfl, Nat.le_refl _, fun _ _ => rfl⟩

/-- A word of a row of the call's own becomes another one. -/
def ILayIs (B g n c : Nat) (l : List Int) (w : World) (e : Ending) (w' : World) : Prop := e = .returned (.tuple #[]) ∧ OwnB w' B (some ⟨g, 0, none⟩) n c l ∧ But (fun k => k = g) w w'
theorem ilay_any (B g m c : Nat) (l : List Int) (a x : Int) (K : Nat) (w : World) (hm : m ≤ 140737488355328) (ha : a = 2 * (K : Int)) (hK : 2 * K + 1 < m) (hx : U16 x) (h : OwnB w B (some ⟨g, 0, none⟩) m c l) (L : List Int) (hL : layL l K x = L) :
    Calls Tryz.prog 88 #[.slice (some ⟨g, 0, none⟩) m c, .int .i64 a, .int .u16 x] w (ILayIs B g m c L w) := by
  subst ha
  have hcap := h.cap
  have hc1 := h.cell (2 * K) (by omega)
  have hc2 := h.cell (2 * K + 1) (by omega)
  have hf1 : w.frozen? ⟨g, 2 * K, none⟩ = false := World.ownsRow.frozenAt h _
  have hf2 : w.frozen? ⟨g, 2 * K + 1, none⟩ = false := World.ownsRow.frozenAt h _
  have hi1 : 2 * (K : Int) + 1 < (m : Int) := by omega
  have hi2 : 2 * K + 1 < m := by omega
  obtain ⟨hx0, hx1⟩ := id hx
  have Hw := Lib.hid (show OwnB ((w.setCell ⟨g, 2 * K, none⟩ (.int .u8 (x / 256))).setCell ⟨g, 2 * K + 1, none⟩ (.int .u8 (x % 256))) B (some ⟨g, 0, none⟩) m c L by rw [← hL]; exact (h.set_ (2 * K) (x / 256)).set_ (2 * K + 1) (x % 256))
  have hmi : (m : Int) ≤ 140737488355328 := by omega
  have hbnd : 2 * (K : Int) + 1 ≤ 140737488355328 := by omega
  have hw2 : IntKind.i64.wrap (2 * (K : Int) + 1) = 2 * (K : Int) + 1 := IntWalk.i64_in _ (by omega)
  clear h hcap hx hL
  go_enter Tryz.func88, Tryz.ntmps88
  go_wp2_with fail
  go_end0
  exact ⟨rfl, Hw.out, ((But.refl (fun k => k = g) _).setCell (p := ⟨g, 2 * K, none⟩) rfl _).setCell (p := ⟨g, 2 * K + 1, none⟩) rfl _⟩


set_option maxHeartbeats 1000000 in
theorem follow16_any (pr f was n x : Int) (w : World) (hf : U16 f ∧ U16 was ∧ U16 n) (hx : fixP pr f was n = x) :
    Calls Tryz.prog 90 #[.int .u8 pr, .int .u16 f, .int .u16 was, .int .u16 n] w (SumIs x w) := by
  obtain ⟨y, ey⟩ : ∃ y, wordF f was n = y := ⟨_, rfl⟩
  have hyb : U16 y := by rw [← ey]; exact wordF_bd _ _ _ hf.1 hf.2.1 hf.2.2
  have hnot := not16 0 (by omega)
  unfold fixP at hx
  rw [ey] at hx
  have Hx := Lib.hid hx
  have Hf := Lib.hid hf
  have Hy := Lib.hid ey
  have Hnot := Lib.hid hnot
  clear hf hx ey hyb hnot
  go_enter Tryz.func90, Tryz.ntmps90
  go_wp2_with fail
  refine (word_told f was n y w Hf.out.1 Hf.out.2.1 Hf.out.2.2 Hy.out).mono ?_
  rintro e w1 ⟨rfl, rfl⟩
  by_cases hy : y = 0
  · have p2 : (y == 0) = true := by simpa using hy
    by_cases hp : pr = 6
    · have p3 : (pr != 6) = false := by simpa using hp
      have hx := Hx.out
      rw [if_neg (fun h => h.1 hp)] at hx
      have Hx0 := Lib.hid hx
      clear hx Hx hy hp
      go_wp2_with fail
      go_ret
      exact ⟨ret_int Hx0.out, Below.refl _ _⟩
    · have p3 : (pr != 6) = true := by simpa using hp
      have hx := Hx.out
      rw [if_pos ⟨hp, hy⟩] at hx
      have Hx0 := Lib.hid hx
      have Hy0 := Lib.hid hy
      have hnot := Hnot.out
      obtain rfl := hy
      clear hx Hx hp
      go_wp2_with fail
      go_ret
      exact ⟨ret_int (by rw [← Hx0.out]), Below.refl _ _⟩
  · have p2 : (y == 0) = false := by simpa using hy
    have hx := Hx.out
    rw [if_neg (fun h => hy h.2)] at hx
    have Hx0 := Lib.hid hx
    clear hx Hx hy
    go_wp2_with fail
    go_ret
    exact ⟨ret_int Hx0.out, Below.refl _ _⟩

/-- Where the fields stand: a map. -/
def fieldsO : Obj := .map #[⟨.int .u8 6, .int .i64 16, 0⟩, ⟨.int .u8 17, .int .i64 6, 1⟩, ⟨.int .u8 1, .int .i64 2, 2⟩] 3
def FieldsIs (w : World) (e : Ending) (w' : World) : Prop := ∃ g, e = .returned (.map (some g)) ∧ w'.heap[g]? = some fieldsO ∧ w.heap.size ≤ g ∧ Below w.heap.size w w'
theorem fields16_any (w : World) : Calls Tryz.prog 85 #[] w (FieldsIs w) := by
  obtain ⟨w0, e0⟩ : ∃ w0, w.alloc (.map #[] 0) = w0 := ⟨_, rfl⟩
  have k0 : w0.heap[w.heap.size]? = some (.map #[] 0) := by rw [← e0]; exact heap_alloc_new w _
  have b0 : Below w.heap.size w w0 := by rw [← e0]; exact (Below.refl _ _).alloc (Nat.le_refl _) _
  have r1 := put_u8 w0 w.heap.size _ _ 6 16 k0 (findU8 _ _ _ (by simp))
  have k1 := setO_at (.map (#[].push ⟨.int .u8 6, .int .i64 16, 0⟩) 1) k0
  have b1 := setO_below (o := .map (#[].push ⟨.int .u8 6, .int .i64 16, 0⟩) 1) b0 (Nat.le_refl _)
  simp only [List.push_toArray, List.nil_append, List.cons_append, Nat.reduceAdd] at r1 k1 b1
  obtain ⟨w1, e1⟩ : ∃ v, setO w0 w.heap.size (.map #[⟨.int .u8 6, .int .i64 16, 0⟩] 1) = v := ⟨_, rfl⟩
  rw [e1] at r1 k1 b1
  clear e1
  have r2 := put_u8 w1 w.heap.size _ _ 17 6 k1 (findU8 _ _ _ (by simp))
  have k2 := setO_at (.map (#[⟨.int .u8 6, .int .i64 16, 0⟩].push ⟨.int .u8 17, .int .i64 6, 1⟩) 2) k1
  have b2 := setO_below (o := .map (#[⟨.int .u8 6, .int .i64 16, 0⟩].push ⟨.int .u8 17, .int .i64 6, 1⟩) 2) b1 (Nat.le_refl _)
  simp only [List.push_toArray, List.nil_append, List.cons_append, Nat.reduceAdd] at r2 k2 b2
  obtain ⟨w2, e2⟩ : ∃ v, setO w1 w.heap.size (.map #[⟨.int .u8 6, .int .i64 16, 0⟩, ⟨.int .u8 17, .int .i64 6, 1⟩] 2) = v := ⟨_, rfl⟩
  rw [e2] at r2 k2 b2
  clear e2
  have r3 := put_u8 w2 w.heap.size _ _ 1 2 k2 (findU8 _ _ _ (by simp))
  have k3 := setO_at (.map (#[⟨.int .u8 6, .int .i64 16, 0⟩, ⟨.int .u8 17, .int .i64 6, 1⟩].push ⟨.int .u8 1, .int .i64 2, 2⟩) 3) k2
  have b3 := setO_below (o := .map (#[⟨.int .u8 6, .int .i64 16, 0⟩, ⟨.int .u8 17, .int .i64 6, 1⟩].push ⟨.int .u8 1, .int .i64 2, 2⟩) 3) b2 (Nat.le_refl _)
  simp only [List.push_toArray, List.nil_append, List.cons_append, Nat.reduceAdd] at r3 k3 b3
  obtain ⟨w3, e3⟩ : ∃ v, setO w2 w.heap.size (.map #[⟨.int .u8 6, .int .i64 16, 0⟩, ⟨.int .u8 17, .int .i64 6, 1⟩, ⟨.int .u8 1, .int .i64 2, 2⟩] 3) = v := ⟨_, rfl⟩
  rw [e3] at r3 k3 b3
  clear e3
  have K3 := Lib.hid k3
  have B3 := Lib.hid b3
  have hmk := run_makeMap_plain (P := Tryz.prog) w 147
  rw [e0] at hmk
  clear k0 k1 k2 k3 b0 b1 b2 b3
  go_enter Tryz.func85, Tryz.ntmps85
  go_wp2_with fail
  go_ret
  exact ⟨_, rfl, K3.out, Nat.le_refl _, B3.out⟩
/-- How far behind the header the field stands. -/
def behQ (pr : Int) : Int := if pr = 6 then 16 else if pr = 17 then 6 else if pr = 1 then 2 else 0
theorem look_fields (w : World) (g : Nat) (pr y : Int) (hg : w.heap[g]? = some fieldsO) (hy : behQ pr = y) : (Instr.lookup 147 (.map (some g)) (.int .u8 pr) false).run Tryz.prog w = .ok (.int .i64 y) w := by
  refine look_u8 w g _ _ pr y hg ?_
  subst hy
  by_cases h6 : pr = 6
  · subst h6; exact .inr ⟨0, rfl⟩
  by_cases h17 : pr = 17
  · subst h17; exact .inr ⟨1, rfl⟩
  by_cases h1 : pr = 1
  · subst h1; exact .inr ⟨2, rfl⟩
  exact .inl ⟨findU8 _ _ _ (by simp [h6, h17, h1]), by unfold behQ; rw [if_neg h6, if_neg h17, if_neg h1]⟩
end Go.Proofs.YtoegfgbalcholaaGreat
