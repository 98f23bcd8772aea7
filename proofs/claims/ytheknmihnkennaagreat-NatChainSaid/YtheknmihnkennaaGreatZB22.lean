/-
  Texts laid together: IcmpBoth, Payload, UdpRead, UdpParse.
-/
import Derived.Test.YtheknmihnkennaaGreatZB21
import Derived.Test.YtheknmihnkennaaGreatZB20
import Derived.Test.YtheknmihnkennaaGreatZB19
import Derived.Test.YtheknmihnkennaaGreatZB01
import Derived.Deep.CutRange

/-
  Package icmp's Parse and the document's own, by one word: the message, or noughts, its data in a row of the call's own.
-/
namespace Go.Proofs.YtheknmihnkennaaGreat
set_option maxRecDepth 10000
open Go.RowKit

theorem toldM_by {s : Msg} (h : MsgNum s) (hd : ∀ x ∈ s.d, 0 ≤ x ∧ x < 256) : ∀ x ∈ toldM s, 0 ≤ x ∧ x < 256 := by
  unfold toldM
  split
  · simp
  · exact msgB_by h hd
end Go.Proofs.YtheknmihnkennaaGreat

/-
  A payload's bytes, by each protocol: what package tcp, udp, icmp and the document's own answers (culvertref06, 07, 08) tell, by one word.
-/
namespace Go.Proofs.YtheknmihnkennaaGreat
set_option maxRecDepth 10000
open Go.RowKit

/-- A row that reads as L, and a number. -/
def PutGot (L : List Int) (m : Nat) (x : Int) (w : World) (e : Ending) (w' : World) : Prop := ∃ A c, e = .returned (.tuple #[.slice A m c, .int .i64 x]) ∧ (m ≤ c ∧ c ≤ maxLen) ∧ Rd w' A m L ∧ Below w.heap.size w w'
theorem PutGot.none_ {x : Int} {w : World} {e : Ending} {w' : World} (he : e = .returned (.tuple #[.slice none 0 0, .int .i64 x])) (hb : Below w.heap.size w w') : PutGot [] 0 x w e w' := ⟨none, 0, he, ⟨Nat.le_refl _, by simp [maxLen]⟩, Rd.nil _ _, hb⟩
theorem PutM.got {L : List Int} {m : Nat} {x : Int} {w : World} {e : Ending} {w' : World} (h : PutM L m x w e w') (hL : ∀ y ∈ L, 0 ≤ y ∧ y < 256) : PutGot L m x w e w' := by
  obtain ⟨A, c, he, h1, h2, ho, hb⟩ := h
  exact ⟨A, c, he, ⟨h1, h2⟩, ho.rd hL, hb⟩
theorem put6_got (src dst : Int) (s : Seg) (AO : Option Addr) (nO cO : Nat) (oss : List OptV) (AD : Option Addr) (nD cD : Nat) (w : World) (L : List Int) (m : Nat) (x : Int) (hn : nO ≤ 140737488355328) (hd : nD ≤ 140737488355328) (h : SegRd w s AO nO cO oss AD nD cD) (hx : errS s = x) (hL : toldB src dst s = L) (hm : L.length = m) :
    Calls Tryz.prog 61 #[.int .u32 src, .int .u32 dst, .agg #[.int .u16 s.sp, .int .u16 s.dp, .int .u32 s.sq, .int .u32 s.ak, .int .u8 s.fl, .int .u16 s.wn, .int .u16 s.ug, .slice AO nO cO, .slice AD nD cD]] w (PutGot L m x w) := by
  refine (put6_any src dst s AO nO cO oss AD nD cD w hn hd h).mono fun e w' hh => ?_
  unfold toldB at hL
  by_cases h0 : errS s = 0
  · rw [if_pos h0] at hh hL
    obtain ⟨A, c, rfl, k, k2, ho, hb⟩ := hh
    subst hx; subst hL; subst hm
    rw [h0, segB_len]
    exact ⟨A, c, rfl, ⟨k, k2⟩, ho.rd (segB_bytes h.num h0 h.os.byte h.d.byte), hb⟩
  · rw [if_neg h0] at hh hL
    obtain ⟨rfl, hb⟩ := hh
    subst hx; subst hL; subst hm
    exact PutGot.none_ rfl hb
def errUP (s : Dg) : Int := if 1472 < s.d.length then 3 else 0
def toldU (src dst : Int) (s : Dg) : List Int := if 1472 < s.d.length then [] else dgB src dst s
theorem put7_got (src dst : Int) (s : Dg) (A : Option Addr) (n c : Nat) (w : World) (L : List Int) (m : Nat) (x : Int) (hnum : DgNum s) (hc : n ≤ c ∧ c ≤ maxLen) (h : Rd w A n s.d) (hx : errUP s = x) (hL : toldU src dst s = L) (hm : L.length = m) :
    Calls Tryz.prog 63 #[.int .u32 src, .int .u32 dst, .agg #[.int .u16 s.sp, .int .u16 s.dp, .slice A n c]] w (PutGot L m x w) := by
  have hl := h.len
  unfold errUP at hx
  unfold toldU at hL
  rw [hl] at hx hL
  by_cases h0 : 1472 < n
  · rw [if_pos h0] at hx hL
    subst hx; subst hL; subst hm
    exact (uput_bad src dst s.sp s.dp A n c w h0).mono fun e w' ⟨he, hb⟩ => PutGot.none_ he hb
  · rw [if_neg h0] at hx hL
    subst hx; subst hL
    have hbb := dgB_bytes src dst hnum (by omega) h.byte
    have hm8 : 8 + n = m := by rw [← hm, dgB_len, hl]
    refine (uput_ok src dst s A n c w hnum hc h (by omega)).mono fun e w' hh => ?_
    obtain ⟨A1, c1, he, k, k2, ho, hb⟩ := hh
    rw [hm8] at he ho k
    exact ⟨A1, c1, he, ⟨k, k2⟩, ho.rd hbb, hb⟩
theorem put8_got (s : Msg) (A : Option Addr) (n c : Nat) (w : World) (L : List Int) (m : Nat) (x : Int) (hnum : MsgNum s) (hc : n ≤ c ∧ c ≤ maxLen) (hr : Rd w A n s.d) (hx : errP s = x) (hL : toldM s = L) (hm : L.length = m) :
    Calls Tryz.prog 65 #[.agg #[.int .u8 s.ty, .int .u8 s.cd, .int .u32 s.rs, .slice A n c]] w (PutGot L m x w) :=
  (put8_any s A n c w L m x hnum hc hr hx hL hm).mono fun e w' h => h.got (by rw [← hL]; exact toldM_by hnum hr.byte)
end Go.Proofs.YtheknmihnkennaaGreat

/-
  The contract of the closure within package udp's Parse: what is wrong is told in the document's own order; else the datagram, its data in a row of the call's own.
-/
namespace Go.Proofs.YtheknmihnkennaaGreat
set_option maxRecDepth 10000
open Go.RowKit

def n16 (b : List Int) (i : Nat) : Int := b.getD i 0 * 256 + b.getD (i + 1) 0
/-- What is wrong with bytes that should be a datagram; 0: nothing. -/
def errU (src dst : Int) (b : List Int) : Int :=
  if 1480 < b.length then 3 else if b.length < 8 then 4 else if n16 b 4 ≠ (b.length : Int) then 5 else if n16 b 6 ≠ 0 ∧ sumL (pseudoL src dst 17 b.length ++ b) ≠ 65535 then 20 else 0
def dgOf (b : List Int) : Dg := ⟨n16 b 0, n16 b 2, b.drop 8⟩
def zeroU : Array Value := #[.int .u16 0, .int .u16 0, .slice none 0 0]
/-- What Parse's closure leaves. -/
def DgR (q : Nat) (src dst : Int) (b : List Int) (w1 : World) (x : Int) (w' : World) : Prop :=
  x = errU src dst b ∧ ((x ≠ 0 ∧ w'.heap[q]? = some (.cells zeroU 31 (0, 0))) ∨
    (x = 0 ∧ ∃ AD cD, w'.heap[q]? = some (.cells #[.int .u16 (dgOf b).sp, .int .u16 (dgOf b).dp, .slice AD (b.length - 8) cD] 31 (0, 0)) ∧ OwnB w' w1.heap.size AD (b.length - 8) cD (b.drop 8)))

theorem set3_blk {w : World} {q : Nat} {u0 u1 u2 : Value} {t : TypeId} (h : w.heap[q]? = some (.cells #[u0, u1, u2] t (0, 0))) (v0 v1 v2 : Value) :
    (((w.setCell ⟨q, 0, none⟩ v0).setCell ⟨q, 1, none⟩ v1).setCell ⟨q, 2, none⟩ v2).heap[q]? = some (.cells #[v0, v1, v2] t (0, 0)) := by
  have h1 := setCell_block (i := 0) h v0
  have h2 := setCell_block (i := 1) h1 v1
  have h3 := setCell_block (i := 2) h2 v2
  simpa using h3
theorem set3_but (w : World) (q : Nat) (v0 v1 v2 : Value) : But (fun k => k = q) w (((w.setCell ⟨q, 0, none⟩ v0).setCell ⟨q, 1, none⟩ v1).setCell ⟨q, 2, none⟩ v2) :=
  (((But.refl (fun k => k = q) w).setCell (p := ⟨q, 0, none⟩) rfl _).setCell (p := ⟨q, 1, none⟩) rfl _).setCell (p := ⟨q, 2, none⟩) rfl _
theorem eight (b : List Int) (h : 8 ≤ b.length) : ∃ b0 b1 b2 b3 b4 b5 b6 b7 l, b = b0 :: b1 :: b2 :: b3 :: b4 :: b5 :: b6 :: b7 :: l := by
  match b, h with
  | b0 :: b1 :: b2 :: b3 :: b4 :: b5 :: b6 :: b7 :: l, _ => exact ⟨b0, b1, b2, b3, b4, b5, b6, b7, l, rfl⟩

theorem uparse1_short (B g p1 p2 p3 q n : Nat) (src dst : Int) (l : List Int) (w : World) (hB : q < B) (hl : n < 8) (hlen : l.length = n)
    (hq : w.heap[q]? = some (.cells zeroU 31 (0, 0))) (h : Rdr w B g l 0) :
    Calls Tryz.prog 81 #[.pointer (some ⟨g, 0, none⟩), .pointer (some ⟨p3, 0, none⟩), .pointer (some ⟨p1, 0, none⟩), .pointer (some ⟨p2, 0, none⟩), .pointer (some ⟨q, 0, none⟩)] w
      (Did (fun k => k = q) g (DgR q src dst l w) w) := by
  have hg : B ≤ g := h.choose_spec.choose_spec.choose_spec.2.2.2.1.1
  have Hend := Lib.hid (show ∀ w', Gave w' g 4 → But (fun k => k = g) w w' → Did (fun k => k = q) g (DgR q src dst l w) w (.panicked (gaveUp g)) w' from fun w' ⟨A', n', c', a', hg1⟩ hb =>
    ⟨4, A', n', c', a', .inr rfl, hg1, hb.mono (fun _ _ hk => .inr hk), by unfold errU; rw [if_neg (by omega), if_pos (by omega)], .inl ⟨by decide, hb.blk hq (by omega)⟩⟩)
  have Hr := Lib.hid h
  have Hlen := Lib.hid hlen
  have Hl := Lib.hid hl
  have Hb := Lib.hid (But.refl (fun k => k = g) w)
  clear h hq hlen hl
  go_enter Tryz.func81, Tryz.ntmps81
  go_wp2_with fail
  have Hl := Hl.out
  rcases l with _ | ⟨b0, l⟩
  · refine (u16_short B g [] _ _ (by simp) Hr.out).mono ?_
    rintro e w' ⟨rfl, hg1, hb⟩
    exact ⟨rfl, Hend.out w' hg1 (Hb.out.trans hb)⟩
  rcases l with _ | ⟨b1, l⟩
  · refine (u16_short B g [b0] _ _ (by simp) Hr.out).mono ?_
    rintro e w' ⟨rfl, hg1, hb⟩
    exact ⟨rfl, Hend.out w' hg1 (Hb.out.trans hb)⟩
  refine (u16_told B g b0 b1 l _ _ Hr.out).mono ?_
  rintro e w1 ⟨rfl, hR, hb⟩
  have Hr := Lib.hid hR
  have Hb := Lib.hid (Hb.out.trans hb)
  clear hR hb
  go_wp2_with fail
  rcases l with _ | ⟨b2, l⟩
  · refine (u16_short B g [] _ _ (by simp) Hr.out).mono ?_
    rintro e w' ⟨rfl, hg1, hb⟩
    exact ⟨rfl, Hend.out w' hg1 (Hb.out.trans hb)⟩
  rcases l with _ | ⟨b3, l⟩
  · refine (u16_short B g [b2] _ _ (by simp) Hr.out).mono ?_
    rintro e w' ⟨rfl, hg1, hb⟩
    exact ⟨rfl, Hend.out w' hg1 (Hb.out.trans hb)⟩
  refine (u16_told B g b2 b3 l _ _ Hr.out).mono ?_
  rintro e w1 ⟨rfl, hR, hb⟩
  have Hr := Lib.hid hR
  have Hb := Lib.hid (Hb.out.trans hb)
  clear hR hb
  go_wp2_with fail
  rcases l with _ | ⟨b4, l⟩
  · refine (u16_short B g [] _ _ (by simp) Hr.out).mono ?_
    rintro e w' ⟨rfl, hg1, hb⟩
    exact ⟨rfl, Hend.out w' hg1 (Hb.out.trans hb)⟩
  rcases l with _ | ⟨b5, l⟩
  · refine (u16_short B g [b4] _ _ (by simp) Hr.out).mono ?_
    rintro e w' ⟨rfl, hg1, hb⟩
    exact ⟨rfl, Hend.out w' hg1 (Hb.out.trans hb)⟩
  refine (u16_told B g b4 b5 l _ _ Hr.out).mono ?_
  rintro e w1 ⟨rfl, hR, hb⟩
  have Hr := Lib.hid hR
  have Hb := Lib.hid (Hb.out.trans hb)
  clear hR hb
  go_wp2_with fail
  rcases l with _ | ⟨b6, l⟩
  · refine (u16_short B g [] _ _ (by simp) Hr.out).mono ?_
    rintro e w' ⟨rfl, hg1, hb⟩
    exact ⟨rfl, Hend.out w' hg1 (Hb.out.trans hb)⟩
  rcases l with _ | ⟨b7, l⟩
  · refine (u16_short B g [b6] _ _ (by simp) Hr.out).mono ?_
    rintro e w' ⟨rfl, hg1, hb⟩
    exact ⟨rfl, Hend.out w' hg1 (Hb.out.trans hb)⟩
  have h8 := Hlen.out
  simp at h8
  omega

set_option maxHeartbeats 4000000 in
theorem uparse1_ok (B g p1 p2 p3 q n c : Nat) (src dst : Int) (A : Option Addr) (b0 b1 b2 b3 b4 b5 b6 b7 : Int) (l : List Int) (w : World) (hB : p1 < B ∧ p2 < B ∧ p3 < B ∧ q < B ∧ p1 ≠ q ∧ p2 ≠ q ∧ p3 ≠ q) (hl : n ≤ 1480) (b : List Int) (eb : b = b0 :: b1 :: b2 :: b3 :: b4 :: b5 :: b6 :: b7 :: l) (hlen : b.length = n) (hc : n ≤ c ∧ c ≤ maxLen) (hAB : ∀ x o, A = some ⟨x, o, none⟩ → x < B) (hA : Rd w A n b)
    (hp1 : Box w p1 24 (.int .u32 src)) (hp2 : Box w p2 24 (.int .u32 dst)) (hp3 : Box w p3 22 (.slice A n c)) (hq : w.heap[q]? = some (.cells zeroU 31 (0, 0))) (h : Rdr w B g b 0) :
    Calls Tryz.prog 81 #[.pointer (some ⟨g, 0, none⟩), .pointer (some ⟨p3, 0, none⟩), .pointer (some ⟨p1, 0, none⟩), .pointer (some ⟨p2, 0, none⟩), .pointer (some ⟨q, 0, none⟩)] w
      (Did (fun k => k = q) g (DgR q src dst b w) w) := by
  have hg : B ≤ g := h.choose_spec.choose_spec.choose_spec.2.2.2.1.1
  have hgw : g < w.heap.size := lt_of_block h.choose_spec.choose_spec.choose_spec.2.2.2.2.2.1
  have hn8 : 8 ≤ n := by rw [← hlen, eb]; simp
  have hbyte := hA.byte
  have Hend := Lib.hid (show ∀ x w', x ≠ 0 → errU src dst b = x → Gave w' g x → But (fun k => k = g) w w' → Did (fun k => k = q) g (DgR q src dst b w) w (.panicked (gaveUp g)) w' from fun x w' h0 hx ⟨A', n', c', a', hg1⟩ hb =>
    ⟨x, A', n', c', a', .inr rfl, hg1, hb.mono (fun _ _ hk => .inr hk), hx.symm, .inl ⟨h0, hb.blk hq (by omega)⟩⟩)
  have Hof := Lib.hid (show dgOf b = ⟨b0 * 256 + b1, b2 * 256 + b3, l⟩ by rw [eb]; rfl)
  have H4 := Lib.hid (show n16 b 4 = b4 * 256 + b5 by rw [eb]; rfl)
  have H6 := Lib.hid (show n16 b 6 = b6 * 256 + b7 by rw [eb]; rfl)
  have Hbd := Lib.hid (show (0 ≤ b0 ∧ b0 < 256) ∧ (0 ≤ b1 ∧ b1 < 256) ∧ (0 ≤ b2 ∧ b2 < 256) ∧ (0 ≤ b3 ∧ b3 < 256) ∧ (0 ≤ b4 ∧ b4 < 256) ∧ (0 ≤ b5 ∧ b5 < 256) ∧ (0 ≤ b6 ∧ b6 < 256) ∧ (0 ≤ b7 ∧ b7 < 256) from
    ⟨hbyte _ (by rw [eb]; simp), hbyte _ (by rw [eb]; simp), hbyte _ (by rw [eb]; simp), hbyte _ (by rw [eb]; simp), hbyte _ (by rw [eb]; simp), hbyte _ (by rw [eb]; simp), hbyte _ (by rw [eb]; simp), hbyte _ (by rw [eb]; simp)⟩)
  have Hr := Lib.hid (show Rdr w B g (b0 :: b1 :: b2 :: b3 :: b4 :: b5 :: b6 :: b7 :: l) 0 by rw [← eb]; exact h)
  have Hp1 := Lib.hid hp1
  have Hp2 := Lib.hid hp2
  have Hp3 := Lib.hid hp3
  have Hq := Lib.hid hq
  have HA := Lib.hid hA
  have Hlen := Lib.hid hlen
  have Hll := Lib.hid (show l.length = n - 8 by rw [← hlen, eb]; simp)
  have Heb := Lib.hid (show b.drop 8 = l by rw [eb]; rfl)
  have Hlb := Lib.hid (show ∀ x ∈ l, 0 ≤ x ∧ x < 256 from fun x hx => hbyte x (by rw [eb]; simp [hx]))
  have Hb := Lib.hid (But.refl (fun k => k = g) w)
  clear h hp1 hp2 hp3 hq hA hlen hbyte eb
  go_enter Tryz.func81, Tryz.ntmps81
  go_wp2_with fail
  refine (u16_told B g b0 b1 (b2 :: b3 :: b4 :: b5 :: b6 :: b7 :: l) _ _ Hr.out).mono ?_
  rintro e w1 ⟨rfl, hR, hb⟩
  have Hr := Lib.hid hR
  have Hb := Lib.hid (Hb.out.trans hb)
  clear hR hb
  go_wp2_with fail
  refine (u16_told B g b2 b3 (b4 :: b5 :: b6 :: b7 :: l) _ _ Hr.out).mono ?_
  rintro e w1 ⟨rfl, hR, hb⟩
  have Hr := Lib.hid hR
  have Hb := Lib.hid (Hb.out.trans hb)
  clear hR hb
  go_wp2_with fail
  refine (u16_told B g b4 b5 (b6 :: b7 :: l) _ _ Hr.out).mono ?_
  rintro e w1 ⟨rfl, hR, hb⟩
  have Hr := Lib.hid hR
  have Hb := Lib.hid (Hb.out.trans hb)
  clear hR hb
  go_wp2_with fail
  refine (u16_told B g b6 b7 (l) _ _ Hr.out).mono ?_
  rintro e w1 ⟨rfl, hR, hb⟩
  have Hr := Lib.hid hR
  have Hb := Lib.hid (Hb.out.trans hb)
  clear hR hb
  have hpA : ∀ w', But (fun k => k = g) w w' → (w'.cell? ⟨p1, 0, none⟩ = some (.int .u32 src) ∧ w'.cell? ⟨p2, 0, none⟩ = some (.int .u32 dst) ∧ w'.cell? ⟨p3, 0, none⟩ = some (.slice A n c)) := fun w' hb => ⟨(Hp1.out.but hb (by omega)).cell, (Hp2.out.but hb (by omega)).cell, (Hp3.out.but hb (by omega)).cell⟩
  have HpA := Lib.hid hpA
  have hc3 := (HpA.out _ Hb.out).2.2
  clear hpA
  obtain ⟨N, eN⟩ : ∃ N, b4 * 256 + b5 = N := ⟨_, rfl⟩
  obtain ⟨F, eF⟩ : ∃ F, b6 * 256 + b7 = F := ⟨_, rfl⟩
  have hNb : 0 ≤ N ∧ N < 65536 := by have := Hbd.out; omega
  have hFb : 0 ≤ F ∧ F < 65536 := by have := Hbd.out; omega
  rw [eN] at H4
  rw [eF] at H6
  rw [eN, eF]
  obtain ⟨hN0, hN1⟩ := hNb
  have hwN : wrap64 N = N := IntWalk.wrap64_in _ (by omega)
  clear eN eF
  by_cases h5 : N = (n : Int)
  case neg =>
    have He := Lib.hid (show errU src dst b = 5 by unfold errU; rw [if_neg (by have := Hlen.out; omega), if_neg (by have := Hlen.out; omega), if_pos (by rw [H4.out, Hlen.out]; exact h5)])
    have h5d : (N != (n : Int)) = true := by simpa using h5
    clear h5 hFb
    go_wp2_with fail
    refine (fail_any B g 5 _ _ _ (by decide) Hr.out).mono ?_
    rintro e w2 ⟨rfl, hg2, hb2⟩
    exact ⟨rfl, Hend.out 5 _ (by decide) He.out hg2 (Hb.out.trans hb2)⟩
  have h5d : (N != (n : Int)) = false := by simpa using h5
  have E5 := Lib.hid h5
  clear h5
  go_wp2_with fail
  have HbD := Lib.hid Hb.out.drew
  have HrD := Lib.hid (Hr.out.below (Below.drew (Below.refl _ _)))
  refine wp_region_held_drew (S := fun w' => w'.cell? ⟨p1, 0, none⟩ = some (.int .u32 src) ∧ w'.cell? ⟨p2, 0, none⟩ = some (.int .u32 dst) ∧ w'.cell? ⟨p3, 0, none⟩ = some (.slice A n c)) (by kernel_rfl) (HpA.out _ HbD.out) (fun hHeld => ?_)
  obtain ⟨wd, ewd⟩ : ∃ wd, w1.drew = wd := ⟨_, rfl⟩
  rw [ewd] at HbD HrD hHeld ⊢
  clear ewd Hb Hr hc3
  have HsumL := Lib.hid (show (sumL ([pseudoL src dst 17 N, b] : List (List Int)).flatten == 65535) = (sumL (pseudoL src dst 17 b.length ++ b) == 65535) by rw [Hlen.out, E5.out]; simp)
  obtain ⟨y, ey⟩ : ∃ y, sumL (pseudoL src dst 17 b.length ++ b) = y := ⟨_, rfl⟩
  rw [ey] at HsumL
  have Ey := Lib.hid ey
  clear ey
  have Hfin : Hid (∀ (w2 : World), Rdr w2 B g l (0 + 2 + 2 + 2 + 2) → But (fun k => k = g) w w2 → errU src dst b = 0 → ∀ (e : Ending) (w3 : World), BytesIs B g (n - 8) l [] (0 + 2 + 2 + 2 + 2 + (n - 8 : Nat)) w2 e w3 → ∃ A8 c8, e = .returned (.slice A8 (n - 8) c8) ∧ w3.heap[q]? = some (.cells zeroU 31 (0, 0)) ∧
      ∀ w4, w4 = ((w3.setCell ⟨q, 0, none⟩ (.int .u16 (b0 * 256 + b1))).setCell ⟨q, 1, none⟩ (.int .u16 (b2 * 256 + b3))).setCell ⟨q, 2, none⟩ (.slice A8 (n - 8) c8) → Did (fun k => k = q) g (DgR q src dst b w) w (.returned (.tuple #[])) w4) := by
    refine Lib.hid (fun w2 hr2 hb2 hx e w3 ⟨A8, c8, he, k8, m8, ho8, hr8, hb8⟩ => ⟨A8, c8, he, (hb2.trans hb8).blk Hq.out (by omega), ?_⟩)
    rintro w4 rfl
    have hqb := (hb2.trans hb8).blk Hq.out (by omega)
    have hb9 := set3_but w3 q (.int .u16 (b0 * 256 + b1)) (.int .u16 (b2 * 256 + b3)) (.slice A8 (n - 8) c8)
    have hs9 := set3_blk hqb (.int .u16 (b0 * 256 + b1)) (.int .u16 (b2 * 256 + b3)) (.slice A8 (n - 8) c8)
    have hr9 := hr8.but hb9 (fun k e => by rw [e]; omega)
    obtain ⟨A7, n7, c7, _, _, _, _, _, hg7, _⟩ := hr9
    refine ⟨0, A7, n7, c7, _, .inl ⟨rfl, rfl⟩, hg7, ((hb2.trans hb8).mono (fun _ _ h => .inr h)).trans (hb9.mono (fun _ _ h => .inl h)), hx.symm, .inr ⟨rfl, A8, c8, ?_, ?_⟩⟩
    · rw [Hof.out, Hlen.out]
      exact hs9
    · rw [Hlen.out, Heb.out]
      exact (ho8.mono hb2.size).but hb9 (fun k hk e => by omega)
  by_cases h0 : F = 0
  · subst h0
    have Herr := Lib.hid (show errU src dst b = 0 by unfold errU; rw [if_neg (by have := Hlen.out; omega), if_neg (by have := Hlen.out; omega), if_neg (by rw [H4.out, Hlen.out, E5.out]; simp), if_neg (by rw [H6.out]; simp)])
    refine tk 0 ?_ rfl ?_ ?_
    rotate_left
    · intro w' hSw; (go_simp <;> (with_reducible rfl))
    try simp only [Act.put, putL]
    refine tk 1 ?_ rfl ?_ ?_
    rotate_left
    · intro w' hSw; (go_simp <;> (with_reducible rfl))
    try simp only [Act.put, putL]
    refine tk 2 ?_ rfl ?_ ?_
    rotate_left
    · intro w' hSw; (go_simp <;> (with_reducible rfl))
    try simp only [Act.put, putL]
    refine tkN 3 rfl ?_
    try simp only [Act.put, putL]
    refine tkN 4 rfl ?_
    try simp only [Act.put, putL]
    refine tkN 5 rfl ?_
    try simp only [Act.put, putL]
    refine tkN 6 rfl ?_
    try simp only [Act.put, putL]
    refine tkN 7 rfl ?_
    try simp only [Act.put, putL]
    refine tkN 8 rfl ?_
    try simp only [Act.put, putL]
    refine tkN 9 rfl ?_
    try simp only [Act.put, putL]
    refine tkN 10 rfl ?_
    try simp only [Act.put, putL]
    refine tk 11 ?_ rfl ?_ ?_
    rotate_left
    · intro w' hSw; (go_simp <;> (with_reducible rfl))
    try simp only [Act.put, putL]
    refine wpAnyH_done (by kernel_rfl) ?_ _
    have Hr := HrD
    have Hb := HbD
    clear HbD HrD hHeld HsumL
    go_wp2_with fail
    refine (rest_is B g (n - 8) l _ _ Hll.out (by omega) Hr.out).mono ?_
    intro e w3 h3
    obtain ⟨A8, c8, rfl, hq3, hfin⟩ := Hfin.out _ Hr.out Hb.out Herr.out e w3 h3
    obtain ⟨q0, q1, q2⟩ := cells3 hq3
    have qf := blk_free hq3
    have HF := Lib.hid hfin
    clear h3 hq3 hfin
    go_wp2_with fail
    go_end0
    exact HF.out _ rfl
  · have h0d : (F != 0) = true := by simpa using h0
    have H0 := Lib.hid h0
    clear h0
    by_cases h7 : y = 65535
    · have h7b : (y == 65535) = true := by simpa using h7
      have Herr := Lib.hid (show errU src dst b = 0 by unfold errU; rw [if_neg (by have := Hlen.out; omega), if_neg (by have := Hlen.out; omega), if_neg (by rw [H4.out, Hlen.out, E5.out]; simp), if_neg (by rw [Ey.out]; simp [h7])])
      clear h7
      refine tk 0 ?_ rfl ?_ ?_
      rotate_left
      · intro w' hSw; (go_simp <;> (with_reducible rfl))
      try simp only [Act.put, putL]
      refine tk 1 ?_ rfl ?_ ?_
      rotate_left
      · intro w' hSw; (go_simp <;> (with_reducible rfl))
      try simp only [Act.put, putL]
      refine tk 2 ?_ rfl ?_ ?_
      rotate_left
      · intro w' hSw; (go_simp <;> (with_reducible rfl))
      try simp only [Act.put, putL]
      refine tk 3 ?_ rfl ?_ ?_
      rotate_left
      · intro w' hSw; (go_simp <;> (with_reducible rfl))
      try simp only [Act.put, putL]
      refine tk 4 ?_ rfl ?_ ?_
      rotate_left
      · intro w' hSw; (go_simp <;> (with_reducible rfl))
      try simp only [Act.put, putL]
      refine tk 5 ?_ rfl ?_ ?_
      rotate_left
      · intro w' hSw; (go_simp <;> (with_reducible rfl))
      try simp only [Act.put, putL]
      refine tk 7 ?_ rfl ?_ ?_
      rotate_left
      · intro w' hSw; (go_simp <;> (with_reducible rfl))
      try simp only [Act.put, putL]
      refine tkC 6 rfl (fun K hK => ?_)
      go_simp
      (go_at_call 79; refine (pseudo_any src dst 17 N _ (by omega)).mono ?_; rintro e w6 ⟨A6, c6, rfl, k6, m6, ho6, hb6⟩; have Hb6 := Lib.hid hb6; have Hr6 := Lib.hid (ho6.rd (pseudo_byte _ _ _ _ (by omega))); have Hc6 := Lib.hid (And.intro k6 m6); clear ho6 hb6 k6 m6)
      refine hK.out _ _ ?_ (fun hHeld => ?_)
      · exact HpA.out _ (HbD.out.trans (But.of Hb6.out))
      clear hK K
      try simp only [Act.put, putL]
      refine tkC 8 rfl (fun K hK => ?_)
      go_simp
      skip
      refine hK.out _ _ ?_ (fun hHeld => ?_)
      · exact HpA.out _ (HbD.out.trans (But.of (below_trans Hb6.out ((Below.refl _ _).alloc (Nat.le_refl _) _))))
      clear hK K
      try simp only [Act.put, putL]
      refine tkC 9 rfl (fun K hK => ?_)
      go_simp
      (go_at_call 37; refine (right_told _ 2 2 [pseudoL src dst 17 N, b] _ (y == 65535) (by omega) (RdL.twoW w6 _ A6 A 12 c6 n c _ _ Hc6.out hc Hr6.out (HA.out.but (HbD.out.trans (But.of Hb6.out)) (fun x o e _ => by have := hAB x o e; omega))) HsumL.out).mono ?_; rintro e w7 ⟨rfl, hb7⟩; have Hb7 := Lib.hid (below_trans Hb6.out (on_alloc hb7)); clear hb7)
      refine hK.out _ _ ?_ (fun hHeld => ?_)
      · exact HpA.out _ (HbD.out.trans (But.of Hb7.out))
      clear hK K
      try simp only [Act.put, putL]
      refine tk 10 ?_ rfl ?_ ?_
      rotate_left
      · intro w' hSw; (go_simp <;> (with_reducible rfl))
      try simp only [Act.put, putL]
      refine tk 11 ?_ rfl ?_ ?_
      rotate_left
      · intro w' hSw; (go_simp <;> (with_reducible rfl))
      try simp only [Act.put, putL]
      refine wpAnyH_done (by kernel_rfl) ?_ _
      have Hr := Lib.hid (HrD.out.below Hb7.out)
      have Hb := Lib.hid (HbD.out.trans (But.of Hb7.out))
      clear Hb6 Hr6 Hc6 Hb7 HbD HrD hHeld HsumL
      go_wp2_with fail
      refine (rest_is B g (n - 8) l _ _ Hll.out (by omega) Hr.out).mono ?_
      intro e w3 h3
      obtain ⟨A8, c8, rfl, hq3, hfin⟩ := Hfin.out _ Hr.out Hb.out Herr.out e w3 h3
      obtain ⟨q0, q1, q2⟩ := cells3 hq3
      have qf := blk_free hq3
      have HF := Lib.hid hfin
      clear h3 hq3 hfin
      go_wp2_with fail
      go_end0
      exact HF.out _ rfl
    · have h7b : (y == 65535) = false := by simpa using h7
      have He := Lib.hid (show errU src dst b = 20 by unfold errU; rw [if_neg (by have := Hlen.out; omega), if_neg (by have := Hlen.out; omega), if_neg (by rw [H4.out, Hlen.out, E5.out]; simp), if_pos ⟨by rw [H6.out]; exact H0.out, by rw [Ey.out]; exact h7⟩])
      clear h7
      refine tk 0 ?_ rfl ?_ ?_
      rotate_left
      · intro w' hSw; (go_simp <;> (with_reducible rfl))
      try simp only [Act.put, putL]
      refine tk 1 ?_ rfl ?_ ?_
      rotate_left
      · intro w' hSw; (go_simp <;> (with_reducible rfl))
      try simp only [Act.put, putL]
      refine tk 2 ?_ rfl ?_ ?_
      rotate_left
      · intro w' hSw; (go_simp <;> (with_reducible rfl))
      try simp only [Act.put, putL]
      refine tk 3 ?_ rfl ?_ ?_
      rotate_left
      · intro w' hSw; (go_simp <;> (with_reducible rfl))
      try simp only [Act.put, putL]
      refine tk 4 ?_ rfl ?_ ?_
      rotate_left
      · intro w' hSw; (go_simp <;> (with_reducible rfl))
      try simp only [Act.put, putL]
      refine tk 5 ?_ rfl ?_ ?_
      rotate_left
      · intro w' hSw; (go_simp <;> (with_reducible rfl))
      try simp only [Act.put, putL]
      refine tk 7 ?_ rfl ?_ ?_
      rotate_left
      · intro w' hSw; (go_simp <;> (with_reducible rfl))
      try simp only [Act.put, putL]
      refine tkC 6 rfl (fun K hK => ?_)
      go_simp
      (go_at_call 79; refine (pseudo_any src dst 17 N _ (by omega)).mono ?_; rintro e w6 ⟨A6, c6, rfl, k6, m6, ho6, hb6⟩; have Hb6 := Lib.hid hb6; have Hr6 := Lib.hid (ho6.rd (pseudo_byte _ _ _ _ (by omega))); have Hc6 := Lib.hid (And.intro k6 m6); clear ho6 hb6 k6 m6)
      refine hK.out _ _ ?_ (fun hHeld => ?_)
      · exact HpA.out _ (HbD.out.trans (But.of Hb6.out))
      clear hK K
      try simp only [Act.put, putL]
      refine tkC 8 rfl (fun K hK => ?_)
      go_simp
      skip
      refine hK.out _ _ ?_ (fun hHeld => ?_)
      · exact HpA.out _ (HbD.out.trans (But.of (below_trans Hb6.out ((Below.refl _ _).alloc (Nat.le_refl _) _))))
      clear hK K
      try simp only [Act.put, putL]
      refine tkC 9 rfl (fun K hK => ?_)
      go_simp
      (go_at_call 37; refine (right_told _ 2 2 [pseudoL src dst 17 N, b] _ (y == 65535) (by omega) (RdL.twoW w6 _ A6 A 12 c6 n c _ _ Hc6.out hc Hr6.out (HA.out.but (HbD.out.trans (But.of Hb6.out)) (fun x o e _ => by have := hAB x o e; omega))) HsumL.out).mono ?_; rintro e w7 ⟨rfl, hb7⟩; have Hb7 := Lib.hid (below_trans Hb6.out (on_alloc hb7)); clear hb7)
      refine hK.out _ _ ?_ (fun hHeld => ?_)
      · exact HpA.out _ (HbD.out.trans (But.of Hb7.out))
      clear hK K
      try simp only [Act.put, putL]
      refine tk 10 ?_ rfl ?_ ?_
      rotate_left
      · intro w' hSw; (go_simp <;> (with_reducible rfl))
      try simp only [Act.put, putL]
      refine tk 11 ?_ rfl ?_ ?_
      rotate_left
      · intro w' hSw; (go_simp <;> (with_reducible rfl))
      try simp only [Act.put, putL]
      refine wpAnyH_done (by kernel_rfl) ?_ _
      have Hr := Lib.hid (HrD.out.below Hb7.out)
      have Hb := Lib.hid (HbD.out.trans (But.of Hb7.out))
      clear Hb6 Hr6 Hc6 Hb7 HbD HrD hHeld HsumL
      go_wp2_with fail
      refine (fail_any B g 20 _ _ _ (by decide) Hr.out).mono ?_
      rintro e w2 ⟨rfl, hg2, hb2⟩
      exact ⟨rfl, Hend.out 20 _ (by decide) He.out hg2 (Hb.out.trans hb2)⟩
theorem uparse1_any (B g p1 p2 p3 q n c : Nat) (src dst : Int) (A : Option Addr) (w : World) (hB : p1 < B ∧ p2 < B ∧ p3 < B ∧ q < B ∧ p1 ≠ q ∧ p2 ≠ q ∧ p3 ≠ q) (hl : n ≤ 1480) (b : List Int) (hc : n ≤ c ∧ c ≤ maxLen) (hAB : 0 < n → ∀ x o, A = some ⟨x, o, none⟩ → x < B) (hA : Rd w A n b)
    (hp1 : Box w p1 24 (.int .u32 src)) (hp2 : Box w p2 24 (.int .u32 dst)) (hp3 : Box w p3 22 (.slice A n c)) (hq : w.heap[q]? = some (.cells zeroU 31 (0, 0))) (h : Rdr w B g b 0) :
    Calls Tryz.prog 81 #[.pointer (some ⟨g, 0, none⟩), .pointer (some ⟨p3, 0, none⟩), .pointer (some ⟨p1, 0, none⟩), .pointer (some ⟨p2, 0, none⟩), .pointer (some ⟨q, 0, none⟩)] w
      (Did (fun k => k = q) g (DgR q src dst b w) w) := by
  have hlen := hA.len
  by_cases h2 : n < 8
  · exact uparse1_short B g p1 p2 p3 q n src dst b w hB.2.2.2.1 h2 hlen hq h
  · obtain ⟨b0, b1, b2, b3, b4, b5, b6, b7, l, eb⟩ := eight b (by omega)
    exact uparse1_ok B g p1 p2 p3 q n c src dst A b0 b1 b2 b3 b4 b5 b6 b7 l w hB hl b eb hlen hc (hAB (by omega)) hA hp1 hp2 hp3 hq h
end Go.Proofs.YtheknmihnkennaaGreat

/-
  The contract of package udp's Parse: what is wrong is told in the document's own order; else the datagram, its data in a row of the call's own.
-/
namespace Go.Proofs.YtheknmihnkennaaGreat
set_option maxRecDepth 10000
open Go.RowKit

/-- What Parse tells where something is wrong. -/
def DgBad (x : Int) (w : World) (e : Ending) (w' : World) : Prop := e = .returned (.tuple #[.agg #[.int .u16 0, .int .u16 0, .slice none 0 0], .int .i64 x]) ∧ Below w.heap.size w w'
/-- What Parse tells of bytes that are a datagram. -/
def DgGood (s : Dg) (m : Nat) (w : World) (e : Ending) (w' : World) : Prop :=
  ∃ AD cD, e = .returned (.tuple #[.agg #[.int .u16 s.sp, .int .u16 s.dp, .slice AD m cD], .int .i64 0]) ∧ m ≤ cD ∧ cD ≤ maxLen ∧ OwnB w' w.heap.size AD m cD s.d ∧ Below w.heap.size w w'
theorem set3_cells {w : World} {q : Nat} {u0 u1 u2 : Value} {t : TypeId} (h : w.heap[q]? = some (.cells #[u0, u1, u2] t (0, 0))) (v0 v1 v2 : Value) :
    (((w.setCell ⟨q, 0, none⟩ v0).setCell ⟨q, 1, none⟩ v1).setCell ⟨q, 2, none⟩ v2).cell? ⟨q, 0, none⟩ = some v0 ∧ (((w.setCell ⟨q, 0, none⟩ v0).setCell ⟨q, 1, none⟩ v1).setCell ⟨q, 2, none⟩ v2).cell? ⟨q, 1, none⟩ = some v1 ∧ (((w.setCell ⟨q, 0, none⟩ v0).setCell ⟨q, 1, none⟩ v1).setCell ⟨q, 2, none⟩ v2).cell? ⟨q, 2, none⟩ = some v2 :=
  cells3 (set3_blk h v0 v1 v2)

theorem uparse_long (src dst : Int) (A : Option Addr) (n c : Nat) (w : World) (h1 : 1480 < n) :
    Calls Tryz.prog 43 #[.int .u32 src, .int .u32 dst, .slice A n c] w (DgBad 3 w) := by
  have hal : Below w.heap.size w w := Below.refl _ _
  have i1 : 1480 < (n : Int) := by omega
  clear h1
  obtain ⟨z, hz⟩ : ∃ z, w.heap.size = z := ⟨_, rfl⟩
  go_enter Tryz.func43, Tryz.ntmps43
  go_upto_region 2 with (fail)
  obtain ⟨w0, hw0⟩ : ∃ w0, w0 = (((w.alloc (.cells #[.int .u32 src] 24)).alloc (.cells #[.int .u32 dst] 24)).alloc (.cells #[.slice A n c] 22)).alloc (.cells #[.int .u16 0, .int .u16 0, .slice none 0 0] 31) := ⟨_, rfl⟩
  rw [← hw0]
  have hb0 : Below w.heap.size w w0 := by rw [hw0]; exact (((hal.alloc (Nat.le_refl _) _).alloc (by simp) _).alloc (by simp <;> omega) _).alloc (by simp <;> omega) _
  have hrb : w0.heap[z + 3]? = some (.cells #[.int .u16 0, .int .u16 0, .slice none 0 0] 31 (0, 0)) := by
    rw [hw0, ← hz]
    have := heap_alloc_new (((w.alloc (.cells #[.int .u32 src] 24)).alloc (.cells #[.int .u32 dst] 24)).alloc (.cells #[.slice A n c] 22)) (.cells #[.int .u16 0, .int .u16 0, .slice none 0 0] 31)
    simpa using this
  have HB := Lib.hid hb0
  have HS9 := Lib.hid (set3_cells hrb)
  obtain ⟨r0, r1, r2⟩ := cells3 hrb
  have rf := blk_free hrb
  have Hz := Lib.hid hz
  clear hrb hw0 hb0 hal hz
  go_wp2_with fail
  have hz := Hz.out
  obtain ⟨s0, s1, s2⟩ := HS9.out (.int .u16 0) (.int .u16 0) (.slice none 0 0)
  refine bodyPost_ret (v := .tuple #[.agg #[.int .u16 0, .int .u16 0, .slice none 0 0], .int .i64 3]) (by simp [results, Tryz.results43, go_sem, s0, s1, s2]) rfl ⟨rfl, ?_⟩
  exact (((HB.out.setCell (by simp <;> omega) _).setCell (by simp <;> omega) _).setCell (by simp <;> omega) _)

theorem uparse_bad (src dst : Int) (A : Option Addr) (n c : Nat) (b : List Int) (x : Int) (w : World) (hc : n ≤ c ∧ c ≤ maxLen) (hn : n ≤ 1480) (hA : Rd w A n b) (hx : errU src dst b = x) (h0 : x ≠ 0) :
    Calls Tryz.prog 43 #[.int .u32 src, .int .u32 dst, .slice A n c] w (DgBad x w) := by
  have hmf : ∀ (fn : Fn) (first cap : Array Value) (w : World), (Instr.makeFunc fn first cap).run Tryz.prog w = .ok (.func fn first cap) w := fun _ _ _ _ => rfl
  have hal : Below w.heap.size w w := Below.refl _ _
  have HA := Lib.hid hA
  have Hx := Lib.hid hx
  have hni : (n : Int) ≤ 1480 := by omega
  clear hA hx
  obtain ⟨z, hz⟩ : ∃ z, w.heap.size = z := ⟨_, rfl⟩
  go_enter Tryz.func43, Tryz.ntmps43
  go_wp2_with fail
  obtain ⟨w0, hw0⟩ : ∃ w0, w0 = ((((w.alloc (.cells #[.int .u32 src] 24)).alloc (.cells #[.int .u32 dst] 24)).alloc (.cells #[.slice A n c] 22)).alloc (.cells #[.int .u16 0, .int .u16 0, .slice none 0 0] 31)).alloc (.cells #[.int .u16 0, .int .u16 0, .slice none 0 0] 31) := ⟨_, rfl⟩
  rw [← hw0]
  have hsz : w0.heap.size = z + 5 := by rw [hw0, ← hz]; simp
  have hb0 : Below w.heap.size w w0 := by rw [hw0]; exact ((((hal.alloc (Nat.le_refl _) _).alloc (by simp) _).alloc (by simp <;> omega) _).alloc (by simp <;> omega) _).alloc (by simp <;> omega) _
  have h1 : Box w0 z 24 (.int .u32 src) := by rw [hw0, ← hz]; exact ((((Box.new w _ _).alloc _).alloc _).alloc _).alloc _
  have h2 : Box w0 (z + 1) 24 (.int .u32 dst) := by
    rw [hw0, ← hz]
    have := Box.new (w.alloc (.cells #[.int .u32 src] 24)) 24 (.int .u32 dst)
    exact (((by simpa using this : Box _ (w.heap.size + 1) _ _).alloc _).alloc _).alloc _
  have h3 : Box w0 (z + 2) 22 (.slice A n c) := by
    rw [hw0, ← hz]
    have := Box.new ((w.alloc (.cells #[.int .u32 src] 24)).alloc (.cells #[.int .u32 dst] 24)) 22 (.slice A n c)
    exact ((by simpa using this : Box _ (w.heap.size + 2) _ _).alloc _).alloc _
  have h4 : w0.heap[z + 3]? = some (.cells zeroU 31 (0, 0)) := by
    rw [hw0, ← hz]
    have := heap_alloc_new (((w.alloc (.cells #[.int .u32 src] 24)).alloc (.cells #[.int .u32 dst] 24)).alloc (.cells #[.slice A n c] 22)) (.cells #[.int .u16 0, .int .u16 0, .slice none 0 0] 31)
    rw [Below.heap_alloc _ _ _ (by simp)]
    simpa [zeroU] using this
  have h5 : w0.heap[z + 4]? = some (.cells zeroU 31 (0, 0)) := by
    rw [hw0, ← hz]
    have := heap_alloc_new ((((w.alloc (.cells #[.int .u32 src] 24)).alloc (.cells #[.int .u32 dst] 24)).alloc (.cells #[.slice A n c] 22)).alloc (.cells #[.int .u16 0, .int .u16 0, .slice none 0 0] 31)) (.cells #[.int .u16 0, .int .u16 0, .slice none 0 0] 31)
    simpa [zeroU] using this
  have hr0 := HA.out.below hb0
  clear hw0
  have hdo := fun w1 g (hb : Below w0.heap.size w0 w1) (_ : w0.heap.size ≤ g) (_ : g < w1.heap.size) (hR : Rdr w1 w0.heap.size g b 0) =>
    uparse1_any w0.heap.size g z (z + 1) (z + 2) (z + 4) n c src dst A w1 (by omega) hn b hc (fun h x o e => by
      obtain ⟨x', o', e', hlt, _⟩ := hr0.at_ h
      rw [e] at e'; injection e' with e'; injection e' with e'; subst e'; exact hlt) (hr0.below hb) (h1.below hb (by omega)) (h2.below hb (by omega)) (h3.below hb (by omega)) ((hb.block _ (by omega)).trans h5) hR
  have hread := read_any (fun k => k = z + 4) _ n c #[.pointer (some ⟨z + 2, 0, none⟩), .pointer (some ⟨z, 0, none⟩), .pointer (some ⟨z + 1, 0, none⟩), .pointer (some ⟨z + 4, 0, none⟩)] _ (fun _ => rfl) A b (DgR (z + 4) src dst b) w0 (fun k hk => by omega) (by omega) hr0 (enter_of Tryz.func81 (by kernel_rfl) rfl) hdo
  have Hb0 := Lib.hid hb0
  have Hc3 := h3.cell
  have H4 := Lib.hid h4
  have Hsz := Lib.hid hsz
  have Hz := Lib.hid hz
  clear hb0 h1 h2 h3 h4 h5 hr0 hdo hal hsz hz
  refine hread.mono ?_
  clear hread
  rintro e w5 ⟨x', w1, w4, rfl, hb1, ⟨hxe, hR⟩, hb4, hb5⟩
  rw [Hx.out] at hxe
  subst hxe
  rcases hR with ⟨_, hq⟩ | ⟨h, _⟩
  rotate_left 1
  · exact absurd h h0
  have hsz := Hsz.out
  have hz := Hz.out
  have hqb := hb4.blk hq (by omega)
  have hrb := hb5.blk H4.out (by omega)
  unfold zeroU at hqb hrb
  have hB := Hb0.out.trans (hb5.below (B := w.heap.size) (fun k hk => by omega) Hb0.out.size)
  have HB := Lib.hid hB
  obtain ⟨q0, q1, q2⟩ := cells3 hqb
  obtain ⟨r0, r1, r2⟩ := cells3 hrb
  have rf := blk_free hrb
  have HS9 := Lib.hid (set3_cells hrb)
  clear hqb hrb hq hb1 hb4 hb5 hsz hB
  clear hz
  go_wp2_with fail
  have hz := Hz.out
  obtain ⟨s0, s1, s2⟩ := HS9.out (.int .u16 0) (.int .u16 0) (.slice none 0 0)
  refine bodyPost_ret (v := .tuple #[.agg #[.int .u16 0, .int .u16 0, .slice none 0 0], .int .i64 x']) (by simp [results, Tryz.results43, go_sem, s0, s1, s2]) rfl ⟨rfl, ?_⟩
  exact (((HB.out.setCell (by simp <;> omega) _).setCell (by simp <;> omega) _).setCell (by simp <;> omega) _)

theorem uparse_good (src dst : Int) (A : Option Addr) (n c m : Nat) (b : List Int) (sp dp : Int) (d : List Int) (w : World) (hc : n ≤ c ∧ c ≤ maxLen) (hn : n ≤ 1480) (hA : Rd w A n b) (hx : errU src dst b = 0) (hS : dgOf b = ⟨sp, dp, d⟩) (hm : d.length = m) :
    Calls Tryz.prog 43 #[.int .u32 src, .int .u32 dst, .slice A n c] w (DgGood ⟨sp, dp, d⟩ m w) := by
  have Hlm := Lib.hid (show b.length - 8 = m by rw [← hm, show d = (dgOf b).d by rw [hS]]; simp [dgOf])
  have Hd := Lib.hid (show b.drop 8 = d by rw [show d = (dgOf b).d by rw [hS]]; rfl)
  have HS := Lib.hid hS
  clear hS hm
  have hmf : ∀ (fn : Fn) (first cap : Array Value) (w : World), (Instr.makeFunc fn first cap).run Tryz.prog w = .ok (.func fn first cap) w := fun _ _ _ _ => rfl
  have hal : Below w.heap.size w w := Below.refl _ _
  have HA := Lib.hid hA
  have Hx := Lib.hid hx
  have hni : (n : Int) ≤ 1480 := by omega
  clear hA hx
  obtain ⟨z, hz⟩ : ∃ z, w.heap.size = z := ⟨_, rfl⟩
  go_enter Tryz.func43, Tryz.ntmps43
  go_wp2_with fail
  obtain ⟨w0, hw0⟩ : ∃ w0, w0 = ((((w.alloc (.cells #[.int .u32 src] 24)).alloc (.cells #[.int .u32 dst] 24)).alloc (.cells #[.slice A n c] 22)).alloc (.cells #[.int .u16 0, .int .u16 0, .slice none 0 0] 31)).alloc (.cells #[.int .u16 0, .int .u16 0, .slice none 0 0] 31) := ⟨_, rfl⟩
  rw [← hw0]
  have hsz : w0.heap.size = z + 5 := by rw [hw0, ← hz]; simp
  have hb0 : Below w.heap.size w w0 := by rw [hw0]; exact ((((hal.alloc (Nat.le_refl _) _).alloc (by simp) _).alloc (by simp <;> omega) _).alloc (by simp <;> omega) _).alloc (by simp <;> omega) _
  have h1 : Box w0 z 24 (.int .u32 src) := by rw [hw0, ← hz]; exact ((((Box.new w _ _).alloc _).alloc _).alloc _).alloc _
  have h2 : Box w0 (z + 1) 24 (.int .u32 dst) := by
    rw [hw0, ← hz]
    have := Box.new (w.alloc (.cells #[.int .u32 src] 24)) 24 (.int .u32 dst)
    exact (((by simpa using this : Box _ (w.heap.size + 1) _ _).alloc _).alloc _).alloc _
  have h3 : Box w0 (z + 2) 22 (.slice A n c) := by
    rw [hw0, ← hz]
    have := Box.new ((w.alloc (.cells #[.int .u32 src] 24)).alloc (.cells #[.int .u32 dst] 24)) 22 (.slice A n c)
    exact ((by simpa using this : Box _ (w.heap.size + 2) _ _).alloc _).alloc _
  have h4 : w0.heap[z + 3]? = some (.cells zeroU 31 (0, 0)) := by
    rw [hw0, ← hz]
    have := heap_alloc_new (((w.alloc (.cells #[.int .u32 src] 24)).alloc (.cells #[.int .u32 dst] 24)).alloc (.cells #[.slice A n c] 22)) (.cells #[.int .u16 0, .int .u16 0, .slice none 0 0] 31)
    rw [Below.heap_alloc _ _ _ (by simp)]
    simpa [zeroU] using this
  have h5 : w0.heap[z + 4]? = some (.cells zeroU 31 (0, 0)) := by
    rw [hw0, ← hz]
    have := heap_alloc_new ((((w.alloc (.cells #[.int .u32 src] 24)).alloc (.cells #[.int .u32 dst] 24)).alloc (.cells #[.slice A n c] 22)).alloc (.cells #[.int .u16 0, .int .u16 0, .slice none 0 0] 31)) (.cells #[.int .u16 0, .int .u16 0, .slice none 0 0] 31)
    simpa [zeroU] using this
  have hr0 := HA.out.below hb0
  clear hw0
  have hdo := fun w1 g (hb : Below w0.heap.size w0 w1) (_ : w0.heap.size ≤ g) (_ : g < w1.heap.size) (hR : Rdr w1 w0.heap.size g b 0) =>
    uparse1_any w0.heap.size g z (z + 1) (z + 2) (z + 4) n c src dst A w1 (by omega) hn b hc (fun h x o e => by
      obtain ⟨x', o', e', hlt, _⟩ := hr0.at_ h
      rw [e] at e'; injection e' with e'; injection e' with e'; subst e'; exact hlt) (hr0.below hb) (h1.below hb (by omega)) (h2.below hb (by omega)) (h3.below hb (by omega)) ((hb.block _ (by omega)).trans h5) hR
  have hread := read_any (fun k => k = z + 4) _ n c #[.pointer (some ⟨z + 2, 0, none⟩), .pointer (some ⟨z, 0, none⟩), .pointer (some ⟨z + 1, 0, none⟩), .pointer (some ⟨z + 4, 0, none⟩)] _ (fun _ => rfl) A b (DgR (z + 4) src dst b) w0 (fun k hk => by omega) (by omega) hr0 (enter_of Tryz.func81 (by kernel_rfl) rfl) hdo
  have Hb0 := Lib.hid hb0
  have Hc3 := h3.cell
  have H4 := Lib.hid h4
  have Hsz := Lib.hid hsz
  have Hz := Lib.hid hz
  clear hb0 h1 h2 h3 h4 h5 hr0 hdo hal hsz hz
  refine hread.mono ?_
  clear hread
  rintro e w5 ⟨x', w1, w4, rfl, hb1, ⟨hxe, hR⟩, hb4, hb5⟩
  rw [Hx.out] at hxe
  subst hxe
  rcases hR with ⟨h, _⟩ | ⟨_, AD, cD, hq, hd⟩
  · exact absurd rfl h
  have hsz := Hsz.out
  have hz := Hz.out
  have hqb := hb4.blk hq (by omega)
  have hrb := hb5.blk H4.out (by omega)
  have hd5 := hd.but hb4 (fun k hk e => by omega)
  rw [HS.out, Hlm.out] at hqb
  rw [Hlm.out, Hd.out] at hd5
  simp only at hqb
  unfold zeroU at hrb
  have hB := Hb0.out.trans (hb5.below (B := w.heap.size) (fun k hk => by omega) Hb0.out.size)
  have HB := Lib.hid hB
  obtain ⟨q0, q1, q2⟩ := cells3 hqb
  obtain ⟨r0, r1, r2⟩ := cells3 hrb
  have rf := blk_free hrb
  have HS9 := Lib.hid (set3_cells hrb)
  have Hset := Lib.hid (set3_but w5 (z + 3))
  have HD := Lib.hid hd5
  have hw1 : z + 5 ≤ w1.heap.size := by have := hb1.size; omega
  clear hqb hrb hq hb1 hb4 hb5 hsz hB hd hd5 hz
  go_wp2_with fail
  have hz := Hz.out
  obtain ⟨s0, s1, s2⟩ := HS9.out (.int .u16 sp) (.int .u16 dp) (.slice AD m cD)
  have Hset := Hset.out (.int .u16 sp) (.int .u16 dp) (.slice AD m cD)
  refine bodyPost_ret (v := .tuple #[.agg #[.int .u16 sp, .int .u16 dp, .slice AD m cD], .int .i64 0]) (by simp [results, Tryz.results43, go_sem, s0, s1, s2]) rfl ⟨AD, cD, rfl, HD.out.cap, HD.out.capMax, ?_, ?_⟩
  · exact (HD.out.but Hset (fun k hk e => by omega)).mono (by omega)
  · exact (((HB.out.setCell (by simp <;> omega) _).setCell (by simp <;> omega) _).setCell (by simp <;> omega) _)

/-- Parse, by whether something is wrong. -/
theorem uparse_err (src dst : Int) (A : Option Addr) (n c : Nat) (b : List Int) (x : Int) (w : World) (hc : n ≤ c ∧ c ≤ maxLen) (hA : Rd w A n b) (hx : errU src dst b = x) (h0 : x ≠ 0) :
    Calls Tryz.prog 43 #[.int .u32 src, .int .u32 dst, .slice A n c] w (DgBad x w) := by
  by_cases h1 : 1480 < n
  · have := uparse_long src dst A n c w h1
    rw [show x = 3 by rw [← hx]; unfold errU; rw [if_pos (by rw [hA.len]; exact h1)]]
    exact this
  · exact uparse_bad src dst A n c b x w hc (by omega) hA hx h0
theorem uparse_told (src dst : Int) (A : Option Addr) (n c m : Nat) (b : List Int) (sp dp : Int) (d : List Int) (w : World) (hc : n ≤ c ∧ c ≤ maxLen) (hA : Rd w A n b) (hx : errU src dst b = 0) (hS : dgOf b = ⟨sp, dp, d⟩) (hm : d.length = m) :
    Calls Tryz.prog 43 #[.int .u32 src, .int .u32 dst, .slice A n c] w (DgGood ⟨sp, dp, d⟩ m w) := by
  refine uparse_good src dst A n c m b sp dp d w hc ?_ hA hx hS hm
  rw [← hA.len]
  unfold errU at hx
  by_cases h3 : 1480 < b.length
  · rw [if_pos h3] at hx; omega
  · omega
end Go.Proofs.YtheknmihnkennaaGreat
