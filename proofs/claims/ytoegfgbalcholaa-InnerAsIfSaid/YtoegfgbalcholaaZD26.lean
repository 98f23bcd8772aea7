/-
  Texts laid together: PkSums, InAsQ, Map3, PkMap.
-/
import Derived.Test.YtoegfgbalcholaaZD24
import Derived.Test.YtoegfgbalcholaaZD11
import Derived.Test.YtoegfgbalcholaaZD19
import Derived.Test.YtoegfgbalcholaaZD25
import Derived.Test.YtoegfgbalcholaaZD22
import Derived.WideMake
import Derived.Deep.RegionHeld3
import Derived.Deep.DeepCutAuto
import Derived.Deep.CutRange

/-
  A packet's bytes that Put tells: lengths, and sums worked out anew. No function of the program.
-/
namespace Go.Proofs.Ytoegfgbalcholaa
set_option maxRecDepth 10000
open Go.RowKit

theorem ws_b16h (x : Int) : ws false (b16 x) = x := by simp [b16, ws]; omega
theorem head_sum (h : Hd) (P : List Int) (hn : HdNum h) (ho : ∀ x ∈ h.o, 0 ≤ x ∧ x < 256) (h40 : h.o.length ≤ 40) (hl : 20 + h.o.length + P.length ≤ 1500) : sumL ((hdB h P).take (20 + h.o.length)) = 65535 := by
  obtain ⟨a, ea⟩ : ∃ a, aheadL h.to h.id h.df h.tt h.pr h.o.length (20 + h.o.length + P.length) = a := ⟨_, rfl⟩
  obtain ⟨b, eb⟩ : ∃ b, behindL h.sr h.ds h.o = b := ⟨_, rfl⟩
  have ha : a.length = 10 := by rw [← ea]; rfl
  have hbl : b.length = 8 + h.o.length := by rw [← eb]; exact behindL_len _ _ _
  have h1 := ws_nn a (by rw [← ea]; exact aheadL_bytes hn.to hn.id hn.tt hn.pr h40 (by omega)) false
  have h2 := ws_nn b (by rw [← eb]; exact behindL_bytes hn.sr hn.ds ho) false
  have he : (hdB h P).take (20 + h.o.length) = a ++ (b16 (65535 - sumL (a ++ b)) ++ b) := by
    unfold hdB packetL fieldL
    rw [ea, eb, List.take_append_of_le_length (by simp [ha, hbl, b16]; omega), List.take_of_length_le (by simp [ha, hbl, b16]; omega), List.append_assoc]
  rw [he]
  unfold sumL
  rw [ws_even _ _ (by omega), ws_even _ _ (by simp [b16]), ws_b16h, ws_even _ _ (by omega)]
  generalize ws false a = x at *
  generalize ws false b = y at *
  unfold fold16
  split <;> split <;> omega
theorem reads_bytes {w : World} : ∀ {os : List OptV} {ls : List (Int × List Int)}, Reads w os ls → ∀ l ∈ ls, (0 ≤ l.1 ∧ l.1 < 256) ∧ ∀ x ∈ l.2, 0 ≤ x ∧ x < 256
  | [], [], _, l, hl => by cases hl
  | o :: os, l :: ls, h, u, hu => by
    rcases List.mem_cons.1 hu with rfl | hu
    · exact ⟨by rw [← h.1.1]; exact h.1.2.1, h.1.2.2.2.2.byte⟩
    · exact reads_bytes h.2 u hu
end Go.Proofs.Ytoegfgbalcholaa

/-
  InnerAsIf's packet and the packet as if: all that the law's walk asks (stage 16, written ahead): plain lists.
-/
namespace Go.Proofs.Ytoegfgbalcholaa
set_option maxRecDepth 10000
set_option linter.unusedSimpArgs false
set_option linter.unusedVariables false

/-- The packet as if. -/
def asPk (p : Pk) (t : Tu) (sh : Int) : Pk := ⟨{ p.h with sr := t.sr, ds := t.ds }, { p.s with sp := t.sp, dp := t.dp, sq := (p.s.sq + sh) % 4294967296 }, { p.u with sp := t.sp, dp := t.dp }, withM p.m t.sp⟩
/-- What ipv4.Put says. -/
def errI (h : Hd) (k : Nat) : Int := if mayB h.tt h.o.length = true then (if 1500 < 20 + h.o.length + k then 3 else 0) else 1
theorem hd_by {h : Hd} {P : List Int} (hf : HdFits h P.length) (hb : Bytes P) : Bytes (hdB h P) := by
  have hfd := fieldL_bd h.to h.id h.df h.tt h.pr h.sr h.ds h.o (20 + h.o.length + P.length)
  have := hf.long
  have := hf.o40
  unfold hdB packetL
  exact (Bytes.app (Bytes.app (aheadL_bytes hf.num.to hf.num.id hf.num.tt hf.num.pr (by omega) (by omega)) (b16_bytes hfd)) (behindL_bytes hf.num.sr hf.num.ds hf.ob)).app hb
structure AsL (p : Pk) (t : Tu) (sh : Int) (P P' : List Int) : Prop where
  ok : okP (asPk p t sh) = 0
  by_ : Bytes P
  by' : Bytes P'
  len : P'.length = P.length
  h8 : 8 ≤ P.length
  sn : SegNum (asPk p t sh).s
  un : DgNum (asPk p t sh).u
  mn : MsgNum (asPk p t sh).m
  h20 : p.h.pr = 6 → 20 ≤ P.length ∧ wordL P 2 = p.s.sq / 65536 ∧ wordL P 3 = p.s.sq % 65536
  ec : p.h.pr = 1 → P.getD 0 0 = p.m.ty ∧ P.getD 1 0 = p.m.cd
  kn : knowP p
  load : ∀ qv, (p.h.pr = 6 → qv = (p.s.sq + sh) % 4294967296) → (p.h.pr = 1 → echoM p.m.ty p.m.cd = true) → LoadQ p.h.pr p.h.sr p.h.ds t.sr t.ds t.sp t.dp qv P P'
theorem withM_n2 {s : Msg} {sp : Int} (hn : MsgNum s) (h : 0 ≤ sp ∧ sp < 65536) : MsgNum (withM s sp) ∧ (withM s sp).d = s.d := by
  unfold withM
  have hrs := hn.rs
  split
  · exact ⟨⟨hn.ty, hn.cd, by simp only; omega⟩, rfl⟩
  · exact ⟨hn, rfl⟩
theorem asl_of {w : World} {p : Pk} {a : PkA} {t : Tu} {sh : Int} (hp : PkRd w p a) (ho : okP p = 0) (ht : TuNum t) : AsL p t sh (payP p) (payP (asPk p t sh)) := by
  have hsq : 0 ≤ (p.s.sq + sh) % 4294967296 ∧ (p.s.sq + sh) % 4294967296 < 4294967296 := by omega
  obtain ⟨hmn, hmd⟩ := withM_n2 hp.mn ht.sp
  have hsn : SegNum (asPk p t sh).s := ⟨ht.sp, ht.dp, hsq, hp.sr.num.ak, hp.sr.num.fl, hp.sr.num.wn, hp.sr.num.ug⟩
  have hun : DgNum (asPk p t sh).u := ⟨ht.sp, ht.dp⟩
  have e1 : (asPk p t sh).h.pr = p.h.pr := rfl
  by_cases h6 : p.h.pr = 6
  · have hs : errS p.s = 0 := by unfold okP at ho; rw [if_pos h6] at ho; exact ho
    have hg : Good p.s := ⟨hp.sr.num, reads_bytes hp.sr.os, hp.sr.d.byte, hs⟩
    have hL := fun qv hq => seg_load p.s p.h.sr p.h.ds t.sr t.ds t.sp t.dp qv hg hp.hn.sr hp.hn.ds ht.sr ht.ds ht.sp ht.dp hq
    obtain ⟨l1, l2⟩ := hL _ hsq
    have eP : payP p = segB p.h.sr p.h.ds p.s := by unfold payP; rw [if_pos h6]; unfold toldB; rw [if_pos hs]
    have eP' : payP (asPk p t sh) = segB t.sr t.ds { p.s with sp := t.sp, dp := t.dp, sq := (p.s.sq + sh) % 4294967296 } := by
      unfold payP; rw [e1, if_pos h6]; unfold toldB; rw [if_pos (show errS (asPk p t sh).s = 0 from l2.ok)]; rfl
    rw [eP, eP']
    have hsl := segB_len p.h.sr p.h.ds p.s
    have hq0 := hp.sr.num.sq
    refine ⟨?_, l1.byte, l1.byte', l1.len.symm, l1.h8, hsn, hun, hmn, fun _ => ⟨by rw [hsl]; unfold lenB; omega, ?_, ?_⟩, fun h => by omega, .inl h6, fun qv hq _ => ?_⟩
    · unfold okP; rw [e1, if_pos h6]; exact l2.ok
    · rw [segB_list]; unfold wordL; show p.s.sq / 16777216 % 256 * 256 + p.s.sq / 65536 % 256 = p.s.sq / 65536; omega
    · rw [segB_list]; unfold wordL; show p.s.sq / 256 % 256 * 256 + p.s.sq % 256 = p.s.sq % 65536; omega
    · rw [hq h6, h6]; exact l1
  · by_cases h17 : p.h.pr = 17
    · have hs : errUP p.u = 0 := by unfold okP at ho; rw [if_neg h6, if_pos h17] at ho; exact ho
      have hd : p.u.d.length ≤ 1472 := by unfold errUP at hs; by_cases h : 1472 < p.u.d.length; rw [if_pos h] at hs; omega; omega
      have hL := fun qv => dg_load p.u p.h.sr p.h.ds t.sr t.ds t.sp t.dp qv hp.un hd hp.ur.byte hp.hn.sr hp.hn.ds ht.sr ht.ds ht.sp ht.dp
      obtain ⟨l1, l2⟩ := hL 0
      have eP : payP p = dgB p.h.sr p.h.ds p.u := by unfold payP; rw [if_neg h6, if_pos h17]; unfold toldU; rw [if_neg (by omega)]
      have eP' : payP (asPk p t sh) = dgB t.sr t.ds { p.u with sp := t.sp, dp := t.dp } := by
        unfold payP; rw [e1, if_neg h6, if_pos h17]; unfold toldU; rw [if_neg (show ¬ 1472 < (asPk p t sh).u.d.length by show ¬ 1472 < p.u.d.length; omega)]; rfl
      rw [eP, eP']
      refine ⟨?_, l1.byte, l1.byte', l1.len.symm, l1.h8, hsn, hun, hmn, fun h => by omega, fun h => by omega, .inr (.inl h17), fun qv hq _ => ?_⟩
      · unfold okP; rw [e1, if_neg h6, if_pos h17]; exact hs
      · rw [h17]; exact (hL qv).1
    · by_cases h1 : p.h.pr = 1
      · have hs : errP p.m = 0 := by unfold okP at ho; rw [if_neg h6, if_neg h17, if_pos h1] at ho; exact ho
        have hd : p.m.d.length ≤ 1472 := by unfold errP at hs; by_cases h : 1472 < p.m.d.length; rw [if_pos h] at hs; omega; omega
        have eP : payP p = msgB p.m := by unfold payP; rw [if_neg h6, if_neg h17, if_pos h1]; unfold toldM; rw [if_neg (by omega)]
        have eP' : payP (asPk p t sh) = msgB (withM p.m t.sp) := by
          unfold payP; rw [e1, if_neg h6, if_neg h17, if_pos h1]; unfold toldM; rw [if_neg (show ¬ 1472 < (asPk p t sh).m.d.length by show ¬ 1472 < (withM p.m t.sp).d.length; rw [hmd]; omega)]; rfl
        have hok : okP (asPk p t sh) = 0 := by
          unfold okP; rw [e1, if_neg h6, if_neg h17, if_pos h1]; unfold errP; rw [if_neg (show ¬ 1472 < (asPk p t sh).m.d.length by show ¬ 1472 < (withM p.m t.sp).d.length; rw [hmd]; omega)]
        have hby : Bytes (msgB p.m) := by have := toldM_by hp.mn hp.mr.byte; unfold toldM at this; rw [if_neg (by omega)] at this; exact this
        have hby' : Bytes (msgB (withM p.m t.sp)) := by have := toldM_by hmn (by rw [hmd]; exact hp.mr.byte); unfold toldM at this; rw [if_neg (by rw [hmd]; omega)] at this; exact this
        have hl1 := msgB_len p.m
        have hl2 := msgB_len (withM p.m t.sp)
        rw [hmd] at hl2
        rw [eP, eP']
        refine ⟨hok, hby, hby', by rw [hl1, hl2], by rw [hl1]; omega, hsn, hun, hmn, fun h => by omega, fun _ => ⟨by simp [msgB, headM], by simp [msgB, headM]⟩, .inr (.inr h1), fun qv hq he => ?_⟩
        rw [h1]
        exact (msg_load p.m p.h.sr p.h.ds t.sr t.ds t.sp t.dp qv hp.mn hd hp.mr.byte (he h1) ht.sp).1
      · unfold okP at ho
        rw [if_neg h6, if_neg h17, if_neg h1] at ho
        omega
/-- What the law asks of the quote. -/
structure AsR (pr : Int) (H many : Nat) (fall : Prop) (la lb : List Int) (t : Tu) (sh : Int) : Prop where
  no : fall → (errR la t = 4 ∨ errR la t = 22) ∧ rwR la t sh = []
  yes : ¬ fall → errR la t = 0 ∧ (rwR la t sh).length = lb.length
  cut : ¬ fall → pr = 6 ∧ many = 17 → lb.length = 2 * H + 17 ∧ likeQ ((rwR la t sh).take (2 * H + 16)) (lb.take (2 * H + 16)) [5, qF pr H] = true
  whole : ¬ fall → ¬ (pr = 6 ∧ many = 17) → likeQ (rwR la t sh) lb [5, qF pr H] = true
structure AsQ (p : Pk) (t : Tu) (sh : Int) (P P' : List Int) (H : Nat) : Prop where
  hH : 20 + p.h.o.length = 2 * H
  h30 : H ≤ 30
  ei : errI (asPk p t sh).h P'.length = 0
  bd : Bytes (hdB p.h P)
  bd' : Bytes (hdB (asPk p t sh).h P')
  l1 : (hdB p.h P).length = 2 * H + P.length
  l2 : (hdB (asPk p t sh).h P').length = 2 * H + P.length
  l3 : 2 * H + P.length ≤ 1500
  ans : ∀ many : Nat, AsR p.h.pr H many (many < 8 ∨ (p.h.pr = 1 ∧ echoM p.m.ty p.m.cd = false)) (ofL (hdB p.h P) (many : Int)) (ofL (hdB (asPk p t sh).h P') (many : Int)) t sh
theorem asq_of {w : World} {p : Pk} {a : PkA} {t : Tu} {sh : Int} {P P' : List Int} (hp : PkRd w p a) (hi : errI p.h P.length = 0) (hA : AsL p t sh P P') (ht : TuNum t) (hpr : t.pr = p.h.pr) : ∃ H, AsQ p t sh P P' H := by
  unfold errI at hi
  by_cases hm : mayB p.h.tt p.h.o.length = true
  case neg => rw [if_neg hm] at hi; omega
  rw [if_pos hm] at hi
  by_cases hl : 1500 < 20 + p.h.o.length + P.length
  · rw [if_pos hl] at hi; omega
  have hm2 := hm
  unfold mayB at hm2
  simp at hm2
  have hf : HdFits p.h P.length := ⟨hp.hn, hp.hr.byte, hm2.1.2, hm2.2, by omega⟩
  have hn' : HdNum { p.h with sr := t.sr, ds := t.ds } := ⟨hp.hn.to, hp.hn.id, hp.hn.tt, hp.hn.pr, ht.sr, ht.ds⟩
  have hf' : HdFits { p.h with sr := t.sr, ds := t.ds } P'.length := ⟨hn', hp.hr.byte, hm2.1.2, hm2.2, by rw [hA.len]; show 20 + p.h.o.length + P.length ≤ 1500; omega⟩
  have hH : 20 + p.h.o.length = 2 * ((20 + p.h.o.length) / 2) := by omega
  obtain ⟨H, eH⟩ : ∃ H, (20 + p.h.o.length) / 2 = H := ⟨_, rfl⟩
  rw [eH] at hH
  have hb := hd_by hf hA.by_
  have hb' := hd_by hf' hA.by'
  have hs := head_sum p.h P hp.hn hp.hr.byte hm2.1.2 (by omega)
  have hs' := head_sum { p.h with sr := t.sr, ds := t.ds } P' hn' hp.hr.byte hm2.1.2 (by rw [hA.len]; show 20 + p.h.o.length + P.length ≤ 1500; omega)
  simp only at hs'
  rw [hH] at hs hs'
  have hl1 := hd_len p.h P
  have hl2 := hd_len { p.h with sr := t.sr, ds := t.ds } P'
  simp only at hl2
  refine ⟨H, hH, by omega, ?_, hb, hb', by omega, by rw [← hH, ← hA.len]; exact hl2, by omega, fun many => ?_⟩
  · unfold errI
    rw [if_pos (show mayB (asPk p t sh).h.tt (asPk p t sh).h.o.length = true from hm), if_neg (show ¬ 1500 < 20 + (asPk p t sh).h.o.length + P'.length by rw [hA.len]; show ¬ 1500 < 20 + p.h.o.length + P.length; omega)]
  obtain ⟨m, hqa⟩ := quo_a_of (many := many) hf hH
  obtain ⟨m', hqb⟩ := quo_a_of (many := many) hf' (show 20 + ({ p.h with sr := t.sr, ds := t.ds } : Hd).o.length = 2 * H from hH)
  have e8 := hA.h8
  have hyes : ¬ (many < 8 ∨ (p.h.pr = 1 ∧ echoM p.m.ty p.m.cd = false)) → 8 ≤ many ∧ (p.h.pr = 6 ∨ p.h.pr = 17 ∨ (p.h.pr = 1 ∧ echoM (P.getD 0 0) (P.getD 1 0) = true)) ∧ (p.h.pr = 1 → echoM p.m.ty p.m.cd = true) := fun h => by
    have h1 : p.h.pr = 1 → echoM p.m.ty p.m.cd = true := fun h1 => by
      by_cases he : echoM p.m.ty p.m.cd = true
      · exact he
      · exact absurd (.inr ⟨h1, by simpa using he⟩) h
    refine ⟨by omega, ?_, h1⟩
    rcases hA.kn with k | k | k
    · exact .inl k
    · exact .inr (.inl k)
    · exact .inr (.inr ⟨k, by rw [(hA.ec k).1, (hA.ec k).2]; exact h1 k⟩)
  have hmain := fun (h : ¬ (many < 8 ∨ (p.h.pr = 1 ∧ echoM p.m.ty p.m.cd = false))) => by
    obtain ⟨g8, gp, ge⟩ := hyes h
    obtain ⟨⟨g1, g2⟩, g3, g4, g5, g6⟩ := quo_ok hqa hf hH e8 g8
    have hqs : p.h.pr = 6 → seqQ (ofL (hdB p.h P) (many : Int)) sh = (p.s.sq + sh) % 4294967296 := fun h6 => by
      have hla := hd_len p.h P
      have hdra : ∀ k, wordL (hdB p.h P) (H + k) = wordL P k := fun k => by
        have e := hd_drop p.h P
        rw [← wordL_dropQ, ← hH, e]
      unfold seqQ qSeq
      rw [if_pos (by rw [g3]; exact h6), g4, g6 (H + 2) (by omega), g6 (H + 3) (by omega), hdra, hdra, (hA.h20 h6).2.1, (hA.h20 h6).2.2]
      congr 2
      omega
    exact asif_like hf hf' hH gp hb hb' ht hs hs' (hA.load _ hqs ge) g8 hqa hqb (r := rwQ (ofL (hdB p.h P) (many : Int)) t sh) rfl
  refine ⟨fun h => ?_, fun h => ?_, fun h h2 => ?_, fun h h2 => ?_⟩
  · have hq : errQ (ofL (hdB p.h P) (many : Int)) = 4 ∨ errQ (ofL (hdB p.h P) (many : Int)) = 22 := by
      by_cases h8 : many < 8
      · exact .inl (quo_short hqa hf hH h8)
      · rcases h with h | ⟨h1, he⟩
        · exact absurd h h8
        · exact .inr (quo_noecho hqa hf hH e8 (by omega) h1 (by rw [(hA.ec h1).1, (hA.ec h1).2]; exact he))
    have hr : errR (ofL (hdB p.h P) (many : Int)) t = errQ (ofL (hdB p.h P) (many : Int)) := by
      unfold errR; rw [if_pos (by omega)]
    refine ⟨by rw [hr]; exact hq, ?_⟩
    unfold rwR
    rw [hr, if_neg (by omega)]
  · obtain ⟨k1, k2, k3, k4, k5, k6, k7⟩ := hmain h
    have he : errR (ofL (hdB p.h P) (many : Int)) t = 0 := by unfold errR; rw [if_neg (by omega), k5, if_neg (by omega)]
    refine ⟨he, ?_⟩
    unfold rwR
    rw [if_pos he, k1]
    exact k3.symm
  · obtain ⟨k1, k2, k3, k4, k5, k6, k7⟩ := hmain h
    have he : errR (ofL (hdB p.h P) (many : Int)) t = 0 := by unfold errR; rw [if_neg (by omega), k5, if_neg (by omega)]
    have hm17 : m = 2 * H + 17 := by have := hqa.cut; have := (hA.h20 h2.1).1; omega
    refine ⟨by rw [← hm17]; exact k3, ?_⟩
    unfold rwR
    rw [if_pos he]
    exact k7 h2.1 hm17
  · obtain ⟨k1, k2, k3, k4, k5, k6, k7⟩ := hmain h
    have he : errR (ofL (hdB p.h P) (many : Int)) t = 0 := by unfold errR; rw [if_neg (by omega), k5, if_neg (by omega)]
    unfold rwR
    rw [if_pos he]
    refine k6 ?_
    by_cases h6 : p.h.pr = 6
    · right
      have := hqa.cut
      have := (hA.h20 h6).1
      have : ¬ many = 17 := fun e => h2 ⟨h6, e⟩
      omega
    · exact .inl h6
end Go.Proofs.Ytoegfgbalcholaa

/-
  Maps of function values by a Proto, as packages packet and tuple make them: how the run puts in and looks up.
-/
namespace Go.Proofs.Ytoegfgbalcholaa
set_option maxRecDepth 10000
open Go.RowKit
set_option linter.unusedSimpArgs false
set_option linter.unusedVariables false

end Go.Proofs.Ytoegfgbalcholaa

/-
  Maps of function values by a Proto, as package packet's payloads and readings make them: how the run puts in and looks up; the contract of payloads.
-/
namespace Go.Proofs.Ytoegfgbalcholaa
set_option maxRecDepth 10000
open Go.RowKit
set_option linter.unusedSimpArgs false
set_option linter.unusedVariables false

end Go.Proofs.Ytoegfgbalcholaa
