/-
  Texts laid together: IcmpPut, IcmpParse, IcmpBoth, Payload.
-/
import Derived.Test.YtoegfgbalcholaaZB01
import Derived.Test.YtoegfgbalcholaaZB23
import Derived.Test.YtoegfgbalcholaaZB04
import Derived.BigRegion
import Derived.Deep.DeepCutAuto
import Derived.Deep.CutRange
import Derived.Deep.RegionHeld3
import Derived.Test.YtoegfgbalcholaaZB17
import Derived.Test.YtoegfgbalcholaaZB02
import Derived.Test.YtoegfgbalcholaaZB22

/-
  The contract of package icmp's Put.
-/
namespace Go.Proofs.Ytoegfgbalcholaa
set_option maxRecDepth 10000
open Go.RowKit
set_option linter.unusedSimpArgs false
set_option linter.unusedVariables false

end Go.Proofs.Ytoegfgbalcholaa

/-
  The contract of package icmp's Parse, and of the closure in it: what is wrong is told in the document's own order; else the message, its data in a row of the call's own.
-/
namespace Go.Proofs.Ytoegfgbalcholaa
set_option maxRecDepth 10000
open Go.RowKit
set_option linter.unusedSimpArgs false
set_option linter.unusedVariables false

end Go.Proofs.Ytoegfgbalcholaa

/-
  Package icmp's Parse and the document's own, by one word: the message, or noughts, its data in a row of the call's own.
-/
namespace Go.Proofs.Ytoegfgbalcholaa
set_option maxRecDepth 10000
open Go.RowKit

end Go.Proofs.Ytoegfgbalcholaa

/-
  A payload's bytes, by each protocol: what package tcp, udp, icmp and the document's own answers (culvertref06, 07, 08) tell, by one word.
-/
namespace Go.Proofs.Ytoegfgbalcholaa
set_option maxRecDepth 10000
open Go.RowKit

/-- A row that reads as L, and a number. -/
def PutGot (L : List Int) (m : Nat) (x : Int) (w : World) (e : Ending) (w' : World) : Prop := ∃ A c, e = .returned (.tuple #[.slice A m c, .int .i64 x]) ∧ (m ≤ c ∧ c ≤ maxLen) ∧ Rd w' A m L ∧ Below w.heap.size w w'
theorem PutGot.none_ {x : Int} {w : World} {e : Ending} {w' : World} (he : e = .returned (.tuple #[.slice none 0 0, .int .i64 x])) (hb : Below w.heap.size w w') : PutGot [] 0 x w e w' := ⟨none, 0, he, ⟨Nat.le_refl _, by simp [maxLen]⟩, Rd.nil _ _, hb⟩
theorem put6_got (src dst : Int) (s : Seg) (AO : Option Addr) (nO cO : Nat) (oss : List OptV) (AD : Option Addr) (nD cD : Nat) (w : World) (L : List Int) (m : Nat) (x : Int) (hn : nO ≤ 140737488355328) (hd : nD ≤ 140737488355328) (h : SegRd w s AO nO cO oss AD nD cD) (hx : errS s = x) (hL : toldB src dst s = L) (hm : L.length = m) :
    Calls Try.prog 31 #[.int .u32 src, .int .u32 dst, .agg #[.int .u16 s.sp, .int .u16 s.dp, .int .u32 s.sq, .int .u32 s.ak, .int .u8 s.fl, .int .u16 s.wn, .int .u16 s.ug, .slice AO nO cO, .slice AD nD cD]] w (PutGot L m x w) := by
  refine (put6_any src dst s AO nO cO oss AD nD cD w hn hd h).mono fun e w' hh => ?_
  unfold toldB at hL
  by_cases h0 : errS s = 0
  · rw [if_pos h0] at hh hL
    obtain ⟨A, c, rfl, k, k2, ho, hb⟩ := hh
    subst hx; subst hL; subst hm
    rw [h0, segB_len]
    exact ⟨A, c, rfl, ⟨k, k2⟩, ho.rd (segB_bytes h.num h0 h.os.byte h.d.byte), hb⟩
  · rw [if_neg h0] at hh hL
    obtain ⟨rfl, hb⟩ := hh
    subst hx; subst hL; subst hm
    exact PutGot.none_ rfl hb
end Go.Proofs.Ytoegfgbalcholaa
