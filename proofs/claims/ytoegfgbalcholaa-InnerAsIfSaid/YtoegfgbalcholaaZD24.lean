/-
  Texts laid together: Payload, UdpParse, UdpLaw, Pkt.
-/
import Derived.Test.YtoegfgbalcholaaZD21
import Derived.Test.YtoegfgbalcholaaZD11
import Derived.Test.YtoegfgbalcholaaZD22
import Derived.Test.YtoegfgbalcholaaZD23
import Derived.Deep.CutRange
import Derived.Test.YtoegfgbalcholaaZD08
import Derived.Test.YtoegfgbalcholaaZD20

/-
  A payload's bytes, by each protocol: what package tcp, udp, icmp and the document's own answers (culvertref06, 07, 08) tell, by one word.
-/
namespace Go.Proofs.Ytoegfgbalcholaa
set_option maxRecDepth 10000
open Go.RowKit

/-- A row that reads as L, and a number. -/
def PutGot (L : List Int) (m : Nat) (x : Int) (w : World) (e : Ending) (w' : World) : Prop := ∃ A c, e = .returned (.tuple #[.slice A m c, .int .i64 x]) ∧ (m ≤ c ∧ c ≤ maxLen) ∧ Rd w' A m L ∧ Below w.heap.size w w'
theorem PutGot.none_ {x : Int} {w : World} {e : Ending} {w' : World} (he : e = .returned (.tuple #[.slice none 0 0, .int .i64 x])) (hb : Below w.heap.size w w') : PutGot [] 0 x w e w' := ⟨none, 0, he, ⟨Nat.le_refl _, by simp [maxLen]⟩, Rd.nil _ _, hb⟩
theorem PutM.got {L : List Int} {m : Nat} {x : Int} {w : World} {e : Ending} {w' : World} (h : PutM L m x w e w') (hL : ∀ y ∈ L, 0 ≤ y ∧ y < 256) : PutGot L m x w e w' := by
  obtain ⟨A, c, he, h1, h2, ho, hb⟩ := h
  exact ⟨A, c, he, ⟨h1, h2⟩, ho.rd hL, hb⟩
theorem put6_got (src dst : Int) (s : Seg) (AO : Option Addr) (nO cO : Nat) (oss : List OptV) (AD : Option Addr) (nD cD : Nat) (w : World) (L : List Int) (m : Nat) (x : Int) (hn : nO ≤ 140737488355328) (hd : nD ≤ 140737488355328) (h : SegRd w s AO nO cO oss AD nD cD) (hx : errS s = x) (hL : toldB src dst s = L) (hm : L.length = m) :
    Calls Try.prog 31 #[.int .u32 src, .int .u32 dst, .agg #[.int .u16 s.sp, .int .u16 s.dp, .int .u32 s.sq, .int .u32 s.ak, .int .u8 s.fl, .int .u16 s.wn, .int .u16 s.ug, .slice AO nO cO, .slice AD nD cD]] w (PutGot L m x w) := by
  refine (put6_any src dst s AO nO cO oss AD nD cD w hn hd h).mono fun e w' hh => ?_
  unfold toldB at hL
  by_cases h0 : errS s = 0
  · rw [if_pos h0] at hh hL
    obtain ⟨A, c, rfl, k, k2, ho, hb⟩ := hh
    subst hx; subst hL; subst hm
    rw [h0, segB_len]
    exact ⟨A, c, rfl, ⟨k, k2⟩, ho.rd (segB_bytes h.num h0 h.os.byte h.d.byte), hb⟩
  · rw [if_neg h0] at hh hL
    obtain ⟨rfl, hb⟩ := hh
    subst hx; subst hL; subst hm
    exact PutGot.none_ rfl hb
def errUP (s : Dg) : Int := if 1472 < s.d.length then 3 else 0
def toldU (src dst : Int) (s : Dg) : List Int := if 1472 < s.d.length then [] else dgB src dst s
theorem put7_got (src dst : Int) (s : Dg) (A : Option Addr) (n c : Nat) (w : World) (L : List Int) (m : Nat) (x : Int) (hnum : DgNum s) (hc : n ≤ c ∧ c ≤ maxLen) (h : Rd w A n s.d) (hx : errUP s = x) (hL : toldU src dst s = L) (hm : L.length = m) :
    Calls Try.prog 22 #[.int .u32 src, .int .u32 dst, .agg #[.int .u16 s.sp, .int .u16 s.dp, .slice A n c]] w (PutGot L m x w) := by
  have hl := h.len
  unfold errUP at hx
  unfold toldU at hL
  rw [hl] at hx hL
  by_cases h0 : 1472 < n
  · rw [if_pos h0] at hx hL
    subst hx; subst hL; subst hm
    exact (uput_bad src dst s.sp s.dp A n c w h0).mono fun e w' ⟨he, hb⟩ => PutGot.none_ he hb
  · rw [if_neg h0] at hx hL
    subst hx; subst hL
    have hbb := dgB_bytes src dst hnum (by omega) h.byte
    have hm8 : 8 + n = m := by rw [← hm, dgB_len, hl]
    refine (uput_ok src dst s A n c w hnum hc h (by omega)).mono fun e w' hh => ?_
    obtain ⟨A1, c1, he, k, k2, ho, hb⟩ := hh
    rw [hm8] at he ho k
    exact ⟨A1, c1, he, ⟨k, k2⟩, ho.rd hbb, hb⟩
theorem put8_got (s : Msg) (A : Option Addr) (n c : Nat) (w : World) (L : List Int) (m : Nat) (x : Int) (hnum : MsgNum s) (hc : n ≤ c ∧ c ≤ maxLen) (hr : Rd w A n s.d) (hx : errP s = x) (hL : toldM s = L) (hm : L.length = m) :
    Calls Try.prog 32 #[.agg #[.int .u8 s.ty, .int .u8 s.cd, .int .u32 s.rs, .slice A n c]] w (PutGot L m x w) :=
  (put8_any s A n c w L m x hnum hc hr hx hL hm).mono fun e w' h => h.got (by rw [← hL]; exact toldM_by hnum hr.byte)
end Go.Proofs.Ytoegfgbalcholaa

/-
  The contract of package udp's Parse: what is wrong is told in the document's own order; else the datagram, its data in a row of the call's own.
-/
namespace Go.Proofs.Ytoegfgbalcholaa
set_option maxRecDepth 10000
open Go.RowKit

end Go.Proofs.Ytoegfgbalcholaa

/-
  What the laws of udp have in common: whether two datagrams have all the same; Parse's error alone; culvertlaw07's awake; what comes in, opened.
-/
namespace Go.Proofs.Ytoegfgbalcholaa
set_option maxRecDepth 10000
open Go.RowKit

end Go.Proofs.Ytoegfgbalcholaa

/-
  Packets (api.Packet): a head, a segment, a datagram, a message, as numbers and lists; how they lie in memory. No function of the program.
-/
namespace Go.Proofs.Ytoegfgbalcholaa
set_option maxRecDepth 10000
open Go.RowKit

end Go.Proofs.Ytoegfgbalcholaa
