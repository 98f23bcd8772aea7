/-
  Texts laid together: InAsQ, NatQ, NatR, Map3.
-/
import Derived.Test.YtoegfgbalcholaaGreatZT21
import Derived.Test.YtoegfgbalcholaaGreatZT27
import Derived.Test.YtoegfgbalcholaaGreatZT02
import Derived.Test.YtoegfgbalcholaaGreatZT07
import Derived.Test.YtoegfgbalcholaaGreatZT24
import Derived.WideMake

/-
  InnerAsIf's packet and the packet as if: all that the law's walk asks (stage 16, written ahead): plain lists.
-/
namespace Go.Proofs.YtoegfgbalcholaaGreat
set_option maxRecDepth 10000
set_option linter.unusedSimpArgs false
set_option linter.unusedVariables false

/-- The packet as if. -/
def asPk (p : Pk) (t : Tu) (sh : Int) : Pk := ⟨{ p.h with sr := t.sr, ds := t.ds }, { p.s with sp := t.sp, dp := t.dp, sq := (p.s.sq + sh) % 4294967296 }, { p.u with sp := t.sp, dp := t.dp }, withM p.m t.sp⟩
/-- What ipv4.Put says. -/
def errI (h : Hd) (k : Nat) : Int := if mayB h.tt h.o.length = true then (if 1500 < 20 + h.o.length + k then 3 else 0) else 1
theorem hd_by {h : Hd} {P : List Int} (hf : HdFits h P.length) (hb : Bytes P) : Bytes (hdB h P) := by
  have hfd := fieldL_bd h.to h.id h.df h.tt h.pr h.sr h.ds h.o (20 + h.o.length + P.length)
  have := hf.long
  have := hf.o40
  unfold hdB packetL
  exact (Bytes.app (Bytes.app (aheadL_bytes hf.num.to hf.num.id hf.num.tt hf.num.pr (by omega) (by omega)) (b16_bytes hfd)) (behindL_bytes hf.num.sr hf.num.ds hf.ob)).app hb
structure AsL (p : Pk) (t : Tu) (sh : Int) (P P' : List Int) : Prop where
  ok : okP (asPk p t sh) = 0
  by_ : Bytes P
  by' : Bytes P'
  len : P'.length = P.length
  h8 : 8 ≤ P.length
  sn : SegNum (asPk p t sh).s
  un : DgNum (asPk p t sh).u
  mn : MsgNum (asPk p t sh).m
  h20 : p.h.pr = 6 → 20 ≤ P.length ∧ wordL P 2 = p.s.sq / 65536 ∧ wordL P 3 = p.s.sq % 65536
  ec : p.h.pr = 1 → P.getD 0 0 = p.m.ty ∧ P.getD 1 0 = p.m.cd
  kn : knowP p
  load : ∀ qv, (p.h.pr = 6 → qv = (p.s.sq + sh) % 4294967296) → (p.h.pr = 1 → echoM p.m.ty p.m.cd = true) → LoadQ p.h.pr p.h.sr p.h.ds t.sr t.ds t.sp t.dp qv P P'
theorem withM_n2 {s : Msg} {sp : Int} (hn : MsgNum s) (h : 0 ≤ sp ∧ sp < 65536) : MsgNum (withM s sp) ∧ (withM s sp).d = s.d := by
  unfold withM
  have hrs := hn.rs
  split
  · exact ⟨⟨hn.ty, hn.cd, by simp only; omega⟩, rfl⟩
  · exact ⟨hn, rfl⟩
theorem asl_of {w : World} {p : Pk} {a : PkA} {t : Tu} {sh : Int} (hp : PkRd w p a) (ho : okP p = 0) (ht : TuNum t) : AsL p t sh (payP p) (payP (asPk p t sh)) := by
  have hsq : 0 ≤ (p.s.sq + sh) % 4294967296 ∧ (p.s.sq + sh) % 4294967296 < 4294967296 := by omega
  obtain ⟨hmn, hmd⟩ := withM_n2 hp.mn ht.sp
  have hsn : SegNum (asPk p t sh).s := ⟨ht.sp, ht.dp, hsq, hp.sr.num.ak, hp.sr.num.fl, hp.sr.num.wn, hp.sr.num.ug⟩
  have hun : DgNum (asPk p t sh).u := ⟨ht.sp, ht.dp⟩
  have e1 : (asPk p t sh).h.pr = p.h.pr := rfl
  by_cases h6 : p.h.pr = 6
  · have hs : errS p.s = 0 := by unfold okP at ho; rw [if_pos h6] at ho; exact ho
    have hg : Good p.s := ⟨hp.sr.num, reads_bytes hp.sr.os, hp.sr.d.byte, hs⟩
    have hL := fun qv hq => seg_load p.s p.h.sr p.h.ds t.sr t.ds t.sp t.dp qv hg hp.hn.sr hp.hn.ds ht.sr ht.ds ht.sp ht.dp hq
    obtain ⟨l1, l2⟩ := hL _ hsq
    have eP : payP p = segB p.h.sr p.h.ds p.s := by unfold payP; rw [if_pos h6]; unfold toldB; rw [if_pos hs]
    have eP' : payP (asPk p t sh) = segB t.sr t.ds { p.s with sp := t.sp, dp := t.dp, sq := (p.s.sq + sh) % 4294967296 } := by
      unfold payP; rw [e1, if_pos h6]; unfold toldB; rw [if_pos (show errS (asPk p t sh).s = 0 from l2.ok)]; rfl
    rw [eP, eP']
    have hsl := segB_len p.h.sr p.h.ds p.s
    have hq0 := hp.sr.num.sq
    refine ⟨?_, l1.byte, l1.byte', l1.len.symm, l1.h8, hsn, hun, hmn, fun _ => ⟨by rw [hsl]; unfold lenB; omega, ?_, ?_⟩, fun h => by omega, .inl h6, fun qv hq _ => ?_⟩
    · unfold okP; rw [e1, if_pos h6]; exact l2.ok
    · rw [segB_list]; unfold wordL; show p.s.sq / 16777216 % 256 * 256 + p.s.sq / 65536 % 256 = p.s.sq / 65536; omega
    · rw [segB_list]; unfold wordL; show p.s.sq / 256 % 256 * 256 + p.s.sq % 256 = p.s.sq % 65536; omega
    · rw [hq h6, h6]; exact l1
  · by_cases h17 : p.h.pr = 17
    · have hs : errUP p.u = 0 := by unfold okP at ho; rw [if_neg h6, if_pos h17] at ho; exact ho
      have hd : p.u.d.length ≤ 1472 := by unfold errUP at hs; by_cases h : 1472 < p.u.d.length; rw [if_pos h] at hs; omega; omega
      have hL := fun qv => dg_load p.u p.h.sr p.h.ds t.sr t.ds t.sp t.dp qv hp.un hd hp.ur.byte hp.hn.sr hp.hn.ds ht.sr ht.ds ht.sp ht.dp
      obtain ⟨l1, l2⟩ := hL 0
      have eP : payP p = dgB p.h.sr p.h.ds p.u := by unfold payP; rw [if_neg h6, if_pos h17]; unfold toldU; rw [if_neg (by omega)]
      have eP' : payP (asPk p t sh) = dgB t.sr t.ds { p.u with sp := t.sp, dp := t.dp } := by
        unfold payP; rw [e1, if_neg h6, if_pos h17]; unfold toldU; rw [if_neg (show ¬ 1472 < (asPk p t sh).u.d.length by show ¬ 1472 < p.u.d.length; omega)]; rfl
      rw [eP, eP']
      refine ⟨?_, l1.byte, l1.byte', l1.len.symm, l1.h8, hsn, hun, hmn, fun h => by omega, fun h => by omega, .inr (.inl h17), fun qv hq _ => ?_⟩
      · unfold okP; rw [e1, if_neg h6, if_pos h17]; exact hs
      · rw [h17]; exact (hL qv).1
    · by_cases h1 : p.h.pr = 1
      · have hs : errP p.m = 0 := by unfold okP at ho; rw [if_neg h6, if_neg h17, if_pos h1] at ho; exact ho
        have hd : p.m.d.length ≤ 1472 := by unfold errP at hs; by_cases h : 1472 < p.m.d.length; rw [if_pos h] at hs; omega; omega
        have eP : payP p = msgB p.m := by unfold payP; rw [if_neg h6, if_neg h17, if_pos h1]; unfold toldM; rw [if_neg (by omega)]
        have eP' : payP (asPk p t sh) = msgB (withM p.m t.sp) := by
          unfold payP; rw [e1, if_neg h6, if_neg h17, if_pos h1]; unfold toldM; rw [if_neg (show ¬ 1472 < (asPk p t sh).m.d.length by show ¬ 1472 < (withM p.m t.sp).d.length; rw [hmd]; omega)]; rfl
        have hok : okP (asPk p t sh) = 0 := by
          unfold okP; rw [e1, if_neg h6, if_neg h17, if_pos h1]; unfold errP; rw [if_neg (show ¬ 1472 < (asPk p t sh).m.d.length by show ¬ 1472 < (withM p.m t.sp).d.length; rw [hmd]; omega)]
        have hby : Bytes (msgB p.m) := by have := toldM_by hp.mn hp.mr.byte; unfold toldM at this; rw [if_neg (by omega)] at this; exact this
        have hby' : Bytes (msgB (withM p.m t.sp)) := by have := toldM_by hmn (by rw [hmd]; exact hp.mr.byte); unfold toldM at this; rw [if_neg (by rw [hmd]; omega)] at this; exact this
        have hl1 := msgB_len p.m
        have hl2 := msgB_len (withM p.m t.sp)
        rw [hmd] at hl2
        rw [eP, eP']
        refine ⟨hok, hby, hby', by rw [hl1, hl2], by rw [hl1]; omega, hsn, hun, hmn, fun h => by omega, fun _ => ⟨by simp [msgB, headM], by simp [msgB, headM]⟩, .inr (.inr h1), fun qv hq he => ?_⟩
        rw [h1]
        exact (msg_load p.m p.h.sr p.h.ds t.sr t.ds t.sp t.dp qv hp.mn hd hp.mr.byte (he h1) ht.sp).1
      · unfold okP at ho
        rw [if_neg h6, if_neg h17, if_neg h1] at ho
        omega
/-- What the law asks of the quote. -/
structure AsR (pr : Int) (H many : Nat) (fall : Prop) (la lb : List Int) (t : Tu) (sh : Int) : Prop where
  no : fall → (errR la t = 4 ∨ errR la t = 22) ∧ rwR la t sh = []
  yes : ¬ fall → errR la t = 0 ∧ (rwR la t sh).length = lb.length
  cut : ¬ fall → pr = 6 ∧ many = 17 → lb.length = 2 * H + 17 ∧ likeQ ((rwR la t sh).take (2 * H + 16)) (lb.take (2 * H + 16)) [5, qF pr H] = true
  whole : ¬ fall → ¬ (pr = 6 ∧ many = 17) → likeQ (rwR la t sh) lb [5, qF pr H] = true
structure AsQ (p : Pk) (t : Tu) (sh : Int) (P P' : List Int) (H : Nat) : Prop where
  hH : 20 + p.h.o.length = 2 * H
  h30 : H ≤ 30
  ei : errI (asPk p t sh).h P'.length = 0
  bd : Bytes (hdB p.h P)
  bd' : Bytes (hdB (asPk p t sh).h P')
  l1 : (hdB p.h P).length = 2 * H + P.length
  l2 : (hdB (asPk p t sh).h P').length = 2 * H + P.length
  l3 : 2 * H + P.length ≤ 1500
  ans : ∀ many : Nat, AsR p.h.pr H many (many < 8 ∨ (p.h.pr = 1 ∧ echoM p.m.ty p.m.cd = false)) (ofL (hdB p.h P) (many : Int)) (ofL (hdB (asPk p t sh).h P') (many : Int)) t sh
end Go.Proofs.YtoegfgbalcholaaGreat

/-
  Packets that go on with other words, in a row of changes (stage 15, written ahead): plain lists. Two ways to the same words end alike.
-/
namespace Go.Proofs.YtoegfgbalcholaaGreat
set_option maxRecDepth 10000
set_option linter.unusedSimpArgs false
set_option linter.unusedVariables false

def rwW (pr : Int) (H F : Nat) (b : List Int) (ks : List (Nat × Int)) : List Int := ks.foldl (fun b p => chW pr H F b p.1 p.2) b
theorem rwW_cons (pr : Int) (H F : Nat) (b : List Int) (p : Nat × Int) (ks : List (Nat × Int)) : rwW pr H F b (p :: ks) = rwW pr H F (chW pr H F b p.1 p.2) ks := rfl
/-- Words that may be changed. -/
def KeysW (F m : Nat) (ks : List (Nat × Int)) : Prop := ∀ p ∈ ks, p.1 ≠ 5 ∧ p.1 ≠ F ∧ 2 * p.1 + 1 < m ∧ U16 p.2
theorem rwW_same {pr : Int} {H F : Nat} (ks : List (Nat × Int)) : ∀ {b : List Int}, LayW H F b → KeysW F b.length ks → SameW pr H F b (rwW pr H F b ks) := by
  induction ks with
  | nil => intro b h _; exact SameW.refl h
  | cons p ks ih =>
    intro b h hk
    obtain ⟨h1, h2, h3, h4⟩ := hk p (List.mem_cons_self ..)
    have hs := chW_same (pr := pr) h h4 h1 h2 h3
    rw [rwW_cons]
    refine hs.trans (ih hs.lay (fun q hq => ?_))
    rw [hs.len]
    exact hk q (List.mem_cons_of_mem _ hq)
/-- What stands last for a word. -/
def lastW (ks : List (Nat × Int)) (k : Nat) : Option Int := ks.foldl (fun r p => if p.1 = k then some p.2 else r) none
theorem lastW_from (ks : List (Nat × Int)) (k : Nat) : ∀ r : Option Int, ks.foldl (fun r p => if p.1 = k then some p.2 else r) r = (match lastW ks k with | none => r | some n => some n) := by
  unfold lastW
  induction ks with
  | nil => intro r; rfl
  | cons p ks ih =>
    intro r
    simp only [List.foldl_cons]
    rw [ih, ih (if p.1 = k then some p.2 else none)]
    cases hh : ks.foldl (fun r p => if p.1 = k then some p.2 else r) none with
    | some n => rfl
    | none => by_cases e : p.1 = k <;> simp [e]
theorem lastW_cons (p : Nat × Int) (ks : List (Nat × Int)) (k : Nat) : lastW (p :: ks) k = (match lastW ks k with | some n => some n | none => if p.1 = k then some p.2 else none) := by
  show (p :: ks).foldl _ none = _
  rw [List.foldl_cons, lastW_from]
  cases lastW ks k <;> rfl
theorem lastW_none {ks : List (Nat × Int)} {k : Nat} : lastW ks k = none ↔ ∀ p ∈ ks, p.1 ≠ k := by
  induction ks with
  | nil => simp [lastW]
  | cons p ks ih =>
    rw [lastW_cons]
    constructor
    · intro h q hq
      cases hh : lastW ks k with
      | some n => rw [hh] at h; cases h
      | none =>
        rw [hh] at h
        simp only at h
        rcases List.mem_cons.1 hq with rfl | hq
        · intro e; rw [if_pos e] at h; cases h
        · exact ih.1 hh q hq
    · intro h
      rw [ih.2 (fun q hq => h q (List.mem_cons_of_mem _ hq))]
      simp only
      rw [if_neg (h p (List.mem_cons_self ..))]
theorem lastW_mem {ks : List (Nat × Int)} {k : Nat} {n : Int} (h : lastW ks k = some n) : ∃ p ∈ ks, p.1 = k ∧ p.2 = n := by
  induction ks with
  | nil => cases h
  | cons p ks ih =>
    rw [lastW_cons] at h
    cases hh : lastW ks k with
    | some m =>
      rw [hh] at h
      simp only [Option.some.injEq] at h
      obtain ⟨q, hq, h1, h2⟩ := ih (by rw [hh, h])
      exact ⟨q, List.mem_cons_of_mem _ hq, h1, h2⟩
    | none =>
      rw [hh] at h
      simp only at h
      by_cases e : p.1 = k
      · rw [if_pos e] at h
        exact ⟨p, List.mem_cons_self .., e, by injection h⟩
      · rw [if_neg e] at h; cases h
theorem rwW_byte {pr : Int} {H F : Nat} (ks : List (Nat × Int)) : ∀ {b : List Int}, LayW H F b → KeysW F b.length ks → ∀ {i : Nat}, i / 2 ≠ 5 → i / 2 ≠ F → (rwW pr H F b ks).getD i 0 = (match lastW ks (i / 2) with | some n => (if i % 2 = 0 then n / 256 else n % 256) | none => b.getD i 0) := by
  induction ks with
  | nil => intro b h _ i h5 hF; rfl
  | cons p ks ih =>
    intro b h hk i h5 hF
    obtain ⟨h1, h2, h3, h4⟩ := hk p (List.mem_cons_self ..)
    have hs := chW_same (pr := pr) h h4 h1 h2 h3
    rw [rwW_cons, ih hs.lay (fun q hq => by rw [hs.len]; exact hk q (List.mem_cons_of_mem _ hq)) h5 hF, lastW_cons]
    cases hh : lastW ks (i / 2) with
    | some n => rfl
    | none =>
      simp only
      by_cases e : p.1 = i / 2
      · rw [if_pos e]
        exact chW_at h1 h2 e.symm h3
      · rw [if_neg e]
        exact chW_byte h5 hF (fun q => e q.symm)
theorem getD_takeW (l : List Int) (m i : Nat) (h : i < m) : (l.take m).getD i 0 = l.getD i 0 := by
  simp only [List.getD]
  rw [List.getElem?_take_of_lt h]
theorem getD_dropW (l : List Int) (m i : Nat) : (l.drop m).getD i 0 = l.getD (m + i) 0 := by
  simp only [List.getD, List.getElem?_drop]
end Go.Proofs.YtoegfgbalcholaaGreat

/-
  What is rewritten is a packet still (stage 15, written ahead): plain lists. Its header is right, its payload's sum, its other parts.
-/
namespace Go.Proofs.YtoegfgbalcholaaGreat
set_option maxRecDepth 10000
set_option linter.unusedSimpArgs false
set_option linter.unusedVariables false

theorem sumL_full {l : List Int} : sumL l = 65535 ↔ 0 < ws false l ∧ ws false l % 65535 = 0 := by
  unfold sumL fold16
  constructor
  · intro h
    split at h
    · omega
    · exact ⟨by omega, by omega⟩
  · rintro ⟨h1, h2⟩
    rw [if_neg (by omega)]
    omega
theorem ws_pos {l : List Int} (hb : Bytes l) {i : Nat} (h : l.getD i 0 ≠ 0) : 0 < ws false l := by
  have h1 := ws_nn l hb false
  rcases Int.lt_or_le 0 (ws false l) with h2 | h2
  · exact h2
  · have h3 : ws false l = 0 := by omega
    have hil : i < l.length := by
      rcases Nat.lt_or_ge i l.length with h4 | h4
      · exact h4
      · exact absurd (by simp [List.getD, List.getElem?_eq_none h4]) h
    exact absurd ((ws_zero hb false).1 h3 i hil) h
theorem Bytes.take {l : List Int} (h : Bytes l) (m : Nat) : Bytes (l.take m) := fun x hx => h x (List.mem_of_mem_take hx)
theorem Bytes.drop {l : List Int} (h : Bytes l) (m : Nat) : Bytes (l.drop m) := fun x hx => h x (List.mem_of_mem_drop hx)
theorem errIp_parts (b : List Int) : errIp b = 0 ↔ b.length ≤ 1500 ∧ 20 ≤ b.length ∧ b.getD 0 0 / 16 = 4 ∧ 20 ≤ hdrL b ∧ hdrL b ≤ b.length ∧ longL b = b.length ∧ sumL (b.take (hdrL b).toNat) = 65535 ∧ flagsL b < 32768 ∧ flagsL b % 16384 = 0 ∧ b.getD 8 0 ≠ 0 := by
  unfold errIp
  by_cases h1 : 1500 < b.length
  · rw [if_pos h1]
    constructor
    · intro h; omega
    · intro h; omega
  · rw [if_neg h1]
    by_cases h2 : b.length < 20
    · rw [if_pos h2]
      constructor
      · intro h; omega
      · intro h; omega
    · rw [if_neg h2]
      unfold faultsIp
      rw [ask7]
      simp only [Bool.or_eq_false_iff, decide_eq_false_iff_not, Bool.not_eq_false', beq_iff_eq]
      omega
/-- Where a packet's words stand. -/
structure PkW (H : Nat) (b : List Int) : Prop where
  ok : errIp b = 0
  byte : Bytes b
  hH : (hdrL b).toNat = 2 * H
theorem PkW.of {b : List Int} (h : errIp b = 0) (hb : Bytes b) : PkW (2 * (b.getD 0 0 % 16).toNat) b := ⟨h, hb, by unfold hdrL; omega⟩
theorem PkW.ten {H : Nat} {b : List Int} (h : PkW H b) : 10 ≤ H ∧ 2 * H ≤ b.length := by
  have := (errIp_parts b).1 h.ok
  have := h.hH
  omega
theorem PkW.kept {pr : Int} {H F : Nat} {b b' : List Int} (h : PkW H b) (hs : SameW pr H F b b') (hi : ∀ i, i < 8 → b'.getD i 0 = b.getD i 0) (h8 : b'.getD 8 0 ≠ 0) : PkW H b' := by
  obtain ⟨g1, g2, g3, g4, g5, g6, g7, g8, g9, g10⟩ := (errIp_parts b).1 h.ok
  have e0 := hi 0 (by omega)
  have eh : hdrL b' = hdrL b := by unfold hdrL; rw [e0]
  have el : longL b' = longL b := by unfold longL; rw [hi 2 (by omega), hi 3 (by omega)]
  have ef : flagsL b' = flagsL b := by unfold flagsL; rw [hi 6 (by omega), hi 7 (by omega)]
  have hln := hs.len
  refine ⟨(errIp_parts b').2 ⟨by omega, by omega, by rw [e0]; exact g3, by omega, by omega, by rw [el, hln]; exact g6, ?_, by omega, by omega, h8⟩, hs.lay.byte, by rw [eh]; exact h.hH⟩
  rw [eh, h.hH]
  rw [h.hH] at g7
  obtain ⟨s1, s2⟩ := sumL_full.1 g7
  refine sumL_full.2 ⟨?_, by have := hs.h; omega⟩
  refine ws_pos (hs.lay.byte.take _) (i := 0) ?_
  have := h.ten
  rw [getD_takeW _ _ _ (by omega), e0]
  omega
def srW (b : List Int) : Int := wordL b 6 * 65536 + wordL b 7
def dsW (b : List Int) : Int := wordL b 8 * 65536 + wordL b 9
theorem ws_pseudoW {b : List Int} (hb : Bytes b) (p n : Int) (hp : 0 ≤ p ∧ p < 256) : ws false (pseudoL (srW b) (dsW b) p n) = adW b + p + (n / 256 % 256 * 256 + n % 256) := by
  have h6 := wordL_bd hb 6
  have h7 := wordL_bd hb 7
  have h8 := wordL_bd hb 8
  have h9 := wordL_bd hb 9
  unfold U16 at h6 h7 h8 h9
  unfold srW dsW adW pseudoL
  simp only [ws]
  omega
/-- The payload's sum, with the addresses, stays right. -/
theorem load_kept {pr : Int} {H F : Nat} {b b' : List Int} (hp1 : pr ≠ 1) (hp : 0 < pr ∧ pr < 256) (hs : SameW pr H F b b') (hb : Bytes b) (n : Int) (hz : ¬ (pr = 17 ∧ wordL b F = 0)) (h : sumL (pseudoL (srW b) (dsW b) pr n ++ b.drop (2 * H)) = 65535) :
    sumL (pseudoL (srW b') (dsW b') pr n ++ b'.drop (2 * H)) = 65535 := by
  have hev : ∀ s d : Int, (pseudoL s d pr n).length % 2 = 0 := by intro s d; simp [pseudoL]
  obtain ⟨h1, h2⟩ := sumL_full.1 h
  rw [ws_even _ _ (hev _ _), ws_pseudoW hb pr n ⟨by omega, hp.2⟩] at h1 h2
  have hb' := hs.lay.byte
  refine sumL_full.2 ?_
  rw [ws_even _ _ (hev _ _), ws_pseudoW hb' pr n ⟨by omega, hp.2⟩]
  have hpp := hs.p hz
  unfold totW at hpp
  rw [if_neg hp1, if_neg hp1] at hpp
  have hn := ws_nn (b'.drop (2 * H)) (hb'.drop _) false
  have ha : 0 ≤ adW b' := by
    have h6 := wordL_bd hb' 6
    have h7 := wordL_bd hb' 7
    have h8 := wordL_bd hb' 8
    have h9 := wordL_bd hb' 9
    unfold U16 at h6 h7 h8 h9
    unfold adW
    omega
  have h3 : 0 ≤ n / 256 % 256 * 256 + n % 256 := by omega
  exact ⟨by omega, by omega⟩
/-- The same of a payload that is summed alone (Icmp). -/
theorem load_kept1 {H F : Nat} {b b' : List Int} (hs : SameW 1 H F b b') (h : sumL (b.drop (2 * H)) = 65535) : sumL (b'.drop (2 * H)) = 65535 := by
  rcases hs.i rfl with e | e
  · rw [e]; exact h
  · obtain ⟨h1, h2⟩ := sumL_full.1 h
    have hpp := hs.p (fun hc => absurd hc.1 (by decide))
    unfold totW at hpp
    rw [if_pos rfl, if_pos rfl] at hpp
    refine sumL_full.2 ⟨?_, by omega⟩
    have hF := hs.lay.hF
    have hd := hs.lay.byte.drop (2 * H)
    have : (b'.drop (2 * H)).getD (2 * (F - H)) 0 ≠ 0 ∨ (b'.drop (2 * H)).getD (2 * (F - H) + 1) 0 ≠ 0 := by
      rw [← wordL_drop b' F H hF] at e
      unfold wordL at e
      rcases Classical.em ((b'.drop (2 * H)).getD (2 * (F - H)) 0 = 0) with h3 | h3
      · rcases Classical.em ((b'.drop (2 * H)).getD (2 * (F - H) + 1) 0 = 0) with h4 | h4
        · rw [h3, h4] at e; omega
        · exact .inr h4
      · exact .inl h3
    rcases this with h3 | h3
    · exact ws_pos hd h3
    · exact ws_pos hd h3
end Go.Proofs.YtoegfgbalcholaaGreat

/-
  Maps of function values by a Proto, as packages packet and tuple make them: how the run puts in and looks up.
-/
namespace Go.Proofs.YtoegfgbalcholaaGreat
set_option maxRecDepth 10000
open Go.RowKit
set_option linter.unusedSimpArgs false
set_option linter.unusedVariables false

theorem put_payload (w : World) (b : Nat) (es : Array MapEntry) (clock : Nat) (k : Int) (v : Value) (hb : w.heap[b]? = some (.map es clock)) (hf : Instr.findNow (.int .u8) (.int .u8 k) es.toList 0 = some none) :
    (Instr.mapUpdate 71 (.map (some b)) (.int .u8 k) v).run Tryz.prog w = .ok () (setO w b (.map (es.push ⟨.int .u8 k, v, clock⟩) (clock + 1))) := by
  simp [setO, Instr.mapUpdate, run_underlying Tryz.underlying71, MapKept.run_getObj_map hb, check_u8 k w, MapKept.run_findKey Tryz.underlying5 hf, MapKept.run_setObj_map _ hb, Result.andThen]
theorem info_payload : (Tryz.prog.info? 70).map (·.zero) = some (some .nilFunc) := by kernel_rfl
theorem zero_payload (w : World) : (zeroValue 70).run Tryz.prog w = .ok .nilFunc w := by
  have h := info_payload
  cases hi : Tryz.prog.info? 70 with
  | none => rw [hi] at h; simp at h
  | some i =>
    rw [hi] at h
    simp at h
    simp [zeroValue, typeInfo, hi, h, go_sem]
theorem look2_payload (w : World) (b : Nat) (es : Array MapEntry) (clock : Nat) (k : Int) (x : Value) (ok : Bool) (hb : w.heap[b]? = some (.map es clock))
    (hf : Instr.findNow (.int .u8) (.int .u8 k) es.toList 0 = some none ∧ x = .nilFunc ∧ ok = false ∨ ∃ i, Instr.findNow (.int .u8) (.int .u8 k) es.toList 0 = some (some (i, x)) ∧ ok = true) :
    (Instr.lookup 71 (.map (some b)) (.int .u8 k) true).run Tryz.prog w = .ok (.tuple #[x, .bool ok]) w := by
  rcases hf with ⟨hf, rfl, rfl⟩ | ⟨i, hf, rfl⟩
  · simp [Instr.lookup, run_underlying Tryz.underlying71, MapKept.run_getObj_map hb, check_u8 k w, MapKept.run_findKey Tryz.underlying5 hf, zero_payload, Result.andThen]
  · simp [Instr.lookup, run_underlying Tryz.underlying71, MapKept.run_getObj_map hb, check_u8 k w, MapKept.run_findKey Tryz.underlying5 hf, Result.andThen]
theorem look1_payload (w : World) (b : Nat) (es : Array MapEntry) (clock i : Nat) (k : Int) (x : Value) (hb : w.heap[b]? = some (.map es clock))
    (hf : Instr.findNow (.int .u8) (.int .u8 k) es.toList 0 = some (some (i, x))) :
    (Instr.lookup 71 (.map (some b)) (.int .u8 k) false).run Tryz.prog w = .ok x w := by
  simp [Instr.lookup, run_underlying Tryz.underlying71, MapKept.run_getObj_map hb, check_u8 k w, MapKept.run_findKey Tryz.underlying5 hf, Result.andThen]
theorem put_reading (w : World) (b : Nat) (es : Array MapEntry) (clock : Nat) (k : Int) (v : Value) (hb : w.heap[b]? = some (.map es clock)) (hf : Instr.findNow (.int .u8) (.int .u8 k) es.toList 0 = some none) :
    (Instr.mapUpdate 85 (.map (some b)) (.int .u8 k) v).run Tryz.prog w = .ok () (setO w b (.map (es.push ⟨.int .u8 k, v, clock⟩) (clock + 1))) := by
  simp [setO, Instr.mapUpdate, run_underlying Tryz.underlying85, MapKept.run_getObj_map hb, check_u8 k w, MapKept.run_findKey Tryz.underlying5 hf, MapKept.run_setObj_map _ hb, Result.andThen]
theorem info_reading : (Tryz.prog.info? 83).map (·.zero) = some (some .nilFunc) := by kernel_rfl
theorem zero_reading (w : World) : (zeroValue 83).run Tryz.prog w = .ok .nilFunc w := by
  have h := info_reading
  cases hi : Tryz.prog.info? 83 with
  | none => rw [hi] at h; simp at h
  | some i =>
    rw [hi] at h
    simp at h
    simp [zeroValue, typeInfo, hi, h, go_sem]
theorem look2_reading (w : World) (b : Nat) (es : Array MapEntry) (clock : Nat) (k : Int) (x : Value) (ok : Bool) (hb : w.heap[b]? = some (.map es clock))
    (hf : Instr.findNow (.int .u8) (.int .u8 k) es.toList 0 = some none ∧ x = .nilFunc ∧ ok = false ∨ ∃ i, Instr.findNow (.int .u8) (.int .u8 k) es.toList 0 = some (some (i, x)) ∧ ok = true) :
    (Instr.lookup 85 (.map (some b)) (.int .u8 k) true).run Tryz.prog w = .ok (.tuple #[x, .bool ok]) w := by
  rcases hf with ⟨hf, rfl, rfl⟩ | ⟨i, hf, rfl⟩
  · simp [Instr.lookup, run_underlying Tryz.underlying85, MapKept.run_getObj_map hb, check_u8 k w, MapKept.run_findKey Tryz.underlying5 hf, zero_reading, Result.andThen]
  · simp [Instr.lookup, run_underlying Tryz.underlying85, MapKept.run_getObj_map hb, check_u8 k w, MapKept.run_findKey Tryz.underlying5 hf, Result.andThen]
theorem put_ports (w : World) (b : Nat) (es : Array MapEntry) (clock : Nat) (k : Int) (v : Value) (hb : w.heap[b]? = some (.map es clock)) (hf : Instr.findNow (.int .u8) (.int .u8 k) es.toList 0 = some none) :
    (Instr.mapUpdate 65 (.map (some b)) (.int .u8 k) v).run Tryz.prog w = .ok () (setO w b (.map (es.push ⟨.int .u8 k, v, clock⟩) (clock + 1))) := by
  simp [setO, Instr.mapUpdate, run_underlying Tryz.underlying65, MapKept.run_getObj_map hb, check_u8 k w, MapKept.run_findKey Tryz.underlying5 hf, MapKept.run_setObj_map _ hb, Result.andThen]
theorem info_ports : (Tryz.prog.info? 63).map (·.zero) = some (some .nilFunc) := by kernel_rfl
theorem zero_ports (w : World) : (zeroValue 63).run Tryz.prog w = .ok .nilFunc w := by
  have h := info_ports
  cases hi : Tryz.prog.info? 63 with
  | none => rw [hi] at h; simp at h
  | some i =>
    rw [hi] at h
    simp at h
    simp [zeroValue, typeInfo, hi, h, go_sem]
theorem look2_ports (w : World) (b : Nat) (es : Array MapEntry) (clock : Nat) (k : Int) (x : Value) (ok : Bool) (hb : w.heap[b]? = some (.map es clock))
    (hf : Instr.findNow (.int .u8) (.int .u8 k) es.toList 0 = some none ∧ x = .nilFunc ∧ ok = false ∨ ∃ i, Instr.findNow (.int .u8) (.int .u8 k) es.toList 0 = some (some (i, x)) ∧ ok = true) :
    (Instr.lookup 65 (.map (some b)) (.int .u8 k) true).run Tryz.prog w = .ok (.tuple #[x, .bool ok]) w := by
  rcases hf with ⟨hf, rfl, rfl⟩ | ⟨i, hf, rfl⟩
  · simp [Instr.lookup, run_underlying Tryz.underlying65, MapKept.run_getObj_map hb, check_u8 k w, MapKept.run_findKey Tryz.underlying5 hf, zero_ports, Result.andThen]
  · simp [Instr.lookup, run_underlying Tryz.underlying65, MapKept.run_getObj_map hb, check_u8 k w, MapKept.run_findKey Tryz.underlying5 hf, Result.andThen]
/-- A map of three by the Protos. -/
def threeO (f6 f17 f1 : Value) : Obj := .map #[⟨.int .u8 6, f6, 0⟩, ⟨.int .u8 17, f17, 1⟩, ⟨.int .u8 1, f1, 2⟩] 3
theorem three_6 (f6 f17 f1 : Value) : Instr.findNow (.int .u8) (.int .u8 6) [⟨.int .u8 6, f6, 0⟩, ⟨.int .u8 17, f17, 1⟩, ⟨.int .u8 1, f1, 2⟩] 0 = some (some (0, f6)) := rfl
theorem three_17 (f6 f17 f1 : Value) : Instr.findNow (.int .u8) (.int .u8 17) [⟨.int .u8 6, f6, 0⟩, ⟨.int .u8 17, f17, 1⟩, ⟨.int .u8 1, f1, 2⟩] 0 = some (some (1, f17)) := rfl
theorem three_1 (f6 f17 f1 : Value) : Instr.findNow (.int .u8) (.int .u8 1) [⟨.int .u8 6, f6, 0⟩, ⟨.int .u8 17, f17, 1⟩, ⟨.int .u8 1, f1, 2⟩] 0 = some (some (2, f1)) := rfl
theorem three_no (f6 f17 f1 : Value) (k : Int) (h6 : k ≠ 6) (h17 : k ≠ 17) (h1 : k ≠ 1) : Instr.findNow (.int .u8) (.int .u8 k) [⟨.int .u8 6, f6, 0⟩, ⟨.int .u8 17, f17, 1⟩, ⟨.int .u8 1, f1, 2⟩] 0 = some none :=
  findU8 _ _ _ (by simp [h6, h17, h1])
/-- What stands at a Proto. -/
def atP (f6 f17 f1 : Value) (k : Int) : Value := if k = 6 then f6 else if k = 17 then f17 else if k = 1 then f1 else .nilFunc
def knownP (k : Int) : Bool := decide (k = 6) || (decide (k = 17) || decide (k = 1))
theorem look3_payload (w : World) (g : Nat) (f6 f17 f1 : Value) (k : Int) (x : Value) (ok : Bool) (hg : w.heap[g]? = some (threeO f6 f17 f1)) (hx : atP f6 f17 f1 k = x) (hk : knownP k = ok) :
    (Instr.lookup 71 (.map (some g)) (.int .u8 k) true).run Tryz.prog w = .ok (.tuple #[x, .bool ok]) w := by
  subst hx; subst hk
  refine look2_payload w g _ _ k _ _ hg ?_
  by_cases h6 : k = 6
  · subst h6; exact .inr ⟨0, three_6 _ _ _, rfl⟩
  by_cases h17 : k = 17
  · subst h17; exact .inr ⟨1, three_17 _ _ _, rfl⟩
  by_cases h1 : k = 1
  · subst h1; exact .inr ⟨2, three_1 _ _ _, rfl⟩
  exact .inl ⟨three_no _ _ _ _ h6 h17 h1, by unfold atP; rw [if_neg h6, if_neg h17, if_neg h1], by simp [knownP, h6, h17, h1]⟩
theorem look3_reading (w : World) (g : Nat) (f6 f17 f1 : Value) (k : Int) (x : Value) (ok : Bool) (hg : w.heap[g]? = some (threeO f6 f17 f1)) (hx : atP f6 f17 f1 k = x) (hk : knownP k = ok) :
    (Instr.lookup 85 (.map (some g)) (.int .u8 k) true).run Tryz.prog w = .ok (.tuple #[x, .bool ok]) w := by
  subst hx; subst hk
  refine look2_reading w g _ _ k _ _ hg ?_
  by_cases h6 : k = 6
  · subst h6; exact .inr ⟨0, three_6 _ _ _, rfl⟩
  by_cases h17 : k = 17
  · subst h17; exact .inr ⟨1, three_17 _ _ _, rfl⟩
  by_cases h1 : k = 1
  · subst h1; exact .inr ⟨2, three_1 _ _ _, rfl⟩
  exact .inl ⟨three_no _ _ _ _ h6 h17 h1, by unfold atP; rw [if_neg h6, if_neg h17, if_neg h1], by simp [knownP, h6, h17, h1]⟩
theorem look3_ports (w : World) (g : Nat) (f6 f17 f1 : Value) (k : Int) (x : Value) (ok : Bool) (hg : w.heap[g]? = some (threeO f6 f17 f1)) (hx : atP f6 f17 f1 k = x) (hk : knownP k = ok) :
    (Instr.lookup 65 (.map (some g)) (.int .u8 k) true).run Tryz.prog w = .ok (.tuple #[x, .bool ok]) w := by
  subst hx; subst hk
  refine look2_ports w g _ _ k _ _ hg ?_
  by_cases h6 : k = 6
  · subst h6; exact .inr ⟨0, three_6 _ _ _, rfl⟩
  by_cases h17 : k = 17
  · subst h17; exact .inr ⟨1, three_17 _ _ _, rfl⟩
  by_cases h1 : k = 1
  · subst h1; exact .inr ⟨2, three_1 _ _ _, rfl⟩
  exact .inl ⟨three_no _ _ _ _ h6 h17 h1, by unfold atP; rw [if_neg h6, if_neg h17, if_neg h1], by simp [knownP, h6, h17, h1]⟩
theorem at_payload (w : World) (g : Nat) (f6 f17 f1 : Value) (k : Int) (x : Value) (hg : w.heap[g]? = some (threeO f6 f17 f1)) (hx : atP f6 f17 f1 k = x) (hk : knownP k = true) :
    (Instr.lookup 71 (.map (some g)) (.int .u8 k) false).run Tryz.prog w = .ok x w := by
  subst hx
  unfold knownP at hk
  simp at hk
  rcases hk with rfl | rfl | rfl
  · exact look1_payload w g _ _ _ 6 _ hg (three_6 _ _ _)
  · exact look1_payload w g _ _ _ 17 _ hg (three_17 _ _ _)
  · exact look1_payload w g _ _ _ 1 _ hg (three_1 _ _ _)

theorem runs_payload {W w0 : World} {g : Nat} (f6 f17 f1 : Value) (b0 : Below W.heap.size W w0) (hg : W.heap.size ≤ g) (k0 : w0.heap[g]? = some (.map #[] 0)) :
    ∃ w1 w2 w3, (Instr.mapUpdate 71 (.map (some g)) (.int .u8 6) f6).run Tryz.prog w0 = .ok () w1 ∧ (Instr.mapUpdate 71 (.map (some g)) (.int .u8 17) f17).run Tryz.prog w1 = .ok () w2 ∧
      (Instr.mapUpdate 71 (.map (some g)) (.int .u8 1) f1).run Tryz.prog w2 = .ok () w3 ∧ w3.heap[g]? = some (threeO f6 f17 f1) ∧ Below W.heap.size W w3 := by
  have r1 := put_payload w0 g _ _ 6 f6 k0 (findU8 _ _ _ (by simp))
  have k1 := setO_at (.map (#[].push ⟨.int .u8 6, f6, 0⟩) 1) k0
  have b1 := setO_below (o := .map (#[].push ⟨.int .u8 6, f6, 0⟩) 1) b0 hg
  simp only [List.push_toArray, List.nil_append, List.cons_append, Nat.reduceAdd] at r1 k1 b1
  obtain ⟨w1, e1⟩ : ∃ v, setO w0 g (.map #[⟨.int .u8 6, f6, 0⟩] 1) = v := ⟨_, rfl⟩
  rw [e1] at r1 k1 b1
  clear e1
  have r2 := put_payload w1 g _ _ 17 f17 k1 (findU8 _ _ _ (by simp))
  have k2 := setO_at (.map (#[⟨.int .u8 6, f6, 0⟩].push ⟨.int .u8 17, f17, 1⟩) 2) k1
  have b2 := setO_below (o := .map (#[⟨.int .u8 6, f6, 0⟩].push ⟨.int .u8 17, f17, 1⟩) 2) b1 hg
  simp only [List.push_toArray, List.nil_append, List.cons_append, Nat.reduceAdd] at r2 k2 b2
  obtain ⟨w2, e2⟩ : ∃ v, setO w1 g (.map #[⟨.int .u8 6, f6, 0⟩, ⟨.int .u8 17, f17, 1⟩] 2) = v := ⟨_, rfl⟩
  rw [e2] at r2 k2 b2
  clear e2
  have r3 := put_payload w2 g _ _ 1 f1 k2 (findU8 _ _ _ (by simp))
  have k3 := setO_at (.map (#[⟨.int .u8 6, f6, 0⟩, ⟨.int .u8 17, f17, 1⟩].push ⟨.int .u8 1, f1, 2⟩) 3) k2
  have b3 := setO_below (o := .map (#[⟨.int .u8 6, f6, 0⟩, ⟨.int .u8 17, f17, 1⟩].push ⟨.int .u8 1, f1, 2⟩) 3) b2 hg
  simp only [List.push_toArray, List.nil_append, List.cons_append, Nat.reduceAdd] at r3 k3 b3
  exact ⟨w1, w2, _, r1, r2, r3, k3, b3⟩
theorem runs_reading {W w0 : World} {g : Nat} (f6 f17 f1 : Value) (b0 : Below W.heap.size W w0) (hg : W.heap.size ≤ g) (k0 : w0.heap[g]? = some (.map #[] 0)) :
    ∃ w1 w2 w3, (Instr.mapUpdate 85 (.map (some g)) (.int .u8 6) f6).run Tryz.prog w0 = .ok () w1 ∧ (Instr.mapUpdate 85 (.map (some g)) (.int .u8 17) f17).run Tryz.prog w1 = .ok () w2 ∧
      (Instr.mapUpdate 85 (.map (some g)) (.int .u8 1) f1).run Tryz.prog w2 = .ok () w3 ∧ w3.heap[g]? = some (threeO f6 f17 f1) ∧ Below W.heap.size W w3 := by
  have r1 := put_reading w0 g _ _ 6 f6 k0 (findU8 _ _ _ (by simp))
  have k1 := setO_at (.map (#[].push ⟨.int .u8 6, f6, 0⟩) 1) k0
  have b1 := setO_below (o := .map (#[].push ⟨.int .u8 6, f6, 0⟩) 1) b0 hg
  simp only [List.push_toArray, List.nil_append, List.cons_append, Nat.reduceAdd] at r1 k1 b1
  obtain ⟨w1, e1⟩ : ∃ v, setO w0 g (.map #[⟨.int .u8 6, f6, 0⟩] 1) = v := ⟨_, rfl⟩
  rw [e1] at r1 k1 b1
  clear e1
  have r2 := put_reading w1 g _ _ 17 f17 k1 (findU8 _ _ _ (by simp))
  have k2 := setO_at (.map (#[⟨.int .u8 6, f6, 0⟩].push ⟨.int .u8 17, f17, 1⟩) 2) k1
  have b2 := setO_below (o := .map (#[⟨.int .u8 6, f6, 0⟩].push ⟨.int .u8 17, f17, 1⟩) 2) b1 hg
  simp only [List.push_toArray, List.nil_append, List.cons_append, Nat.reduceAdd] at r2 k2 b2
  obtain ⟨w2, e2⟩ : ∃ v, setO w1 g (.map #[⟨.int .u8 6, f6, 0⟩, ⟨.int .u8 17, f17, 1⟩] 2) = v := ⟨_, rfl⟩
  rw [e2] at r2 k2 b2
  clear e2
  have r3 := put_reading w2 g _ _ 1 f1 k2 (findU8 _ _ _ (by simp))
  have k3 := setO_at (.map (#[⟨.int .u8 6, f6, 0⟩, ⟨.int .u8 17, f17, 1⟩].push ⟨.int .u8 1, f1, 2⟩) 3) k2
  have b3 := setO_below (o := .map (#[⟨.int .u8 6, f6, 0⟩, ⟨.int .u8 17, f17, 1⟩].push ⟨.int .u8 1, f1, 2⟩) 3) b2 hg
  simp only [List.push_toArray, List.nil_append, List.cons_append, Nat.reduceAdd] at r3 k3 b3
  exact ⟨w1, w2, _, r1, r2, r3, k3, b3⟩
theorem runs_ports {W w0 : World} {g : Nat} (f6 f17 f1 : Value) (b0 : Below W.heap.size W w0) (hg : W.heap.size ≤ g) (k0 : w0.heap[g]? = some (.map #[] 0)) :
    ∃ w1 w2 w3, (Instr.mapUpdate 65 (.map (some g)) (.int .u8 6) f6).run Tryz.prog w0 = .ok () w1 ∧ (Instr.mapUpdate 65 (.map (some g)) (.int .u8 17) f17).run Tryz.prog w1 = .ok () w2 ∧
      (Instr.mapUpdate 65 (.map (some g)) (.int .u8 1) f1).run Tryz.prog w2 = .ok () w3 ∧ w3.heap[g]? = some (threeO f6 f17 f1) ∧ Below W.heap.size W w3 := by
  have r1 := put_ports w0 g _ _ 6 f6 k0 (findU8 _ _ _ (by simp))
  have k1 := setO_at (.map (#[].push ⟨.int .u8 6, f6, 0⟩) 1) k0
  have b1 := setO_below (o := .map (#[].push ⟨.int .u8 6, f6, 0⟩) 1) b0 hg
  simp only [List.push_toArray, List.nil_append, List.cons_append, Nat.reduceAdd] at r1 k1 b1
  obtain ⟨w1, e1⟩ : ∃ v, setO w0 g (.map #[⟨.int .u8 6, f6, 0⟩] 1) = v := ⟨_, rfl⟩
  rw [e1] at r1 k1 b1
  clear e1
  have r2 := put_ports w1 g _ _ 17 f17 k1 (findU8 _ _ _ (by simp))
  have k2 := setO_at (.map (#[⟨.int .u8 6, f6, 0⟩].push ⟨.int .u8 17, f17, 1⟩) 2) k1
  have b2 := setO_below (o := .map (#[⟨.int .u8 6, f6, 0⟩].push ⟨.int .u8 17, f17, 1⟩) 2) b1 hg
  simp only [List.push_toArray, List.nil_append, List.cons_append, Nat.reduceAdd] at r2 k2 b2
  obtain ⟨w2, e2⟩ : ∃ v, setO w1 g (.map #[⟨.int .u8 6, f6, 0⟩, ⟨.int .u8 17, f17, 1⟩] 2) = v := ⟨_, rfl⟩
  rw [e2] at r2 k2 b2
  clear e2
  have r3 := put_ports w2 g _ _ 1 f1 k2 (findU8 _ _ _ (by simp))
  have k3 := setO_at (.map (#[⟨.int .u8 6, f6, 0⟩, ⟨.int .u8 17, f17, 1⟩].push ⟨.int .u8 1, f1, 2⟩) 3) k2
  have b3 := setO_below (o := .map (#[⟨.int .u8 6, f6, 0⟩, ⟨.int .u8 17, f17, 1⟩].push ⟨.int .u8 1, f1, 2⟩) 3) b2 hg
  simp only [List.push_toArray, List.nil_append, List.cons_append, Nat.reduceAdd] at r3 k3 b3
  exact ⟨w1, w2, _, r1, r2, r3, k3, b3⟩
end Go.Proofs.YtoegfgbalcholaaGreat
