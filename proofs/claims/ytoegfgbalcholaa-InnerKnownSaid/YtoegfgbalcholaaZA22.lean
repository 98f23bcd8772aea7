/-
  Texts laid together: IcmpParse, IcmpBoth, Payload, InQuote.
-/
import Derived.Test.YtoegfgbalcholaaZA21
import Derived.Test.YtoegfgbalcholaaZA12
import Derived.Test.YtoegfgbalcholaaZA02
import Derived.Deep.CutRange
import Derived.Test.YtoegfgbalcholaaZA20
import Derived.Test.YtoegfgbalcholaaZA13

/-
  The contract of package icmp's Parse, and of the closure in it: what is wrong is told in the document's own order; else the message, its data in a row of the call's own.
-/
namespace Go.Proofs.Ytoegfgbalcholaa
set_option maxRecDepth 10000
open Go.RowKit
set_option linter.unusedSimpArgs false
set_option linter.unusedVariables false

end Go.Proofs.Ytoegfgbalcholaa

/-
  Package icmp's Parse and the document's own, by one word: the message, or noughts, its data in a row of the call's own.
-/
namespace Go.Proofs.Ytoegfgbalcholaa
set_option maxRecDepth 10000
open Go.RowKit

end Go.Proofs.Ytoegfgbalcholaa

/-
  A payload's bytes, by each protocol: what package tcp, udp, icmp and the document's own answers (culvertref06, 07, 08) tell, by one word.
-/
namespace Go.Proofs.Ytoegfgbalcholaa
set_option maxRecDepth 10000
open Go.RowKit

/-- A row that reads as L, and a number. -/
def PutGot (L : List Int) (m : Nat) (x : Int) (w : World) (e : Ending) (w' : World) : Prop := ∃ A c, e = .returned (.tuple #[.slice A m c, .int .i64 x]) ∧ (m ≤ c ∧ c ≤ maxLen) ∧ Rd w' A m L ∧ Below w.heap.size w w'
theorem PutGot.none_ {x : Int} {w : World} {e : Ending} {w' : World} (he : e = .returned (.tuple #[.slice none 0 0, .int .i64 x])) (hb : Below w.heap.size w w') : PutGot [] 0 x w e w' := ⟨none, 0, he, ⟨Nat.le_refl _, by simp [maxLen]⟩, Rd.nil _ _, hb⟩
theorem put6_got (src dst : Int) (s : Seg) (AO : Option Addr) (nO cO : Nat) (oss : List OptV) (AD : Option Addr) (nD cD : Nat) (w : World) (L : List Int) (m : Nat) (x : Int) (hn : nO ≤ 140737488355328) (hd : nD ≤ 140737488355328) (h : SegRd w s AO nO cO oss AD nD cD) (hx : errS s = x) (hL : toldB src dst s = L) (hm : L.length = m) :
    Calls Try.prog 31 #[.int .u32 src, .int .u32 dst, .agg #[.int .u16 s.sp, .int .u16 s.dp, .int .u32 s.sq, .int .u32 s.ak, .int .u8 s.fl, .int .u16 s.wn, .int .u16 s.ug, .slice AO nO cO, .slice AD nD cD]] w (PutGot L m x w) := by
  refine (put6_any src dst s AO nO cO oss AD nD cD w hn hd h).mono fun e w' hh => ?_
  unfold toldB at hL
  by_cases h0 : errS s = 0
  · rw [if_pos h0] at hh hL
    obtain ⟨A, c, rfl, k, k2, ho, hb⟩ := hh
    subst hx; subst hL; subst hm
    rw [h0, segB_len]
    exact ⟨A, c, rfl, ⟨k, k2⟩, ho.rd (segB_bytes h.num h0 h.os.byte h.d.byte), hb⟩
  · rw [if_neg h0] at hh hL
    obtain ⟨rfl, hb⟩ := hh
    subst hx; subst hL; subst hm
    exact PutGot.none_ rfl hb
end Go.Proofs.Ytoegfgbalcholaa

/-
  culvertlaw16's quote (stage 16, written ahead).
-/
namespace Go.Proofs.Ytoegfgbalcholaa
set_option maxRecDepth 10000
open Go.RowKit
set_option linter.unusedSimpArgs false
set_option linter.unusedVariables false

theorem quo_1 : errS quoS = 0 := by decide +kernel
theorem quo_told : toldB 167772161 167772162 quoS = quoP := by unfold toldB; rw [if_pos quo_1]; rfl
theorem quote16_any (w : World) (L : List Int) (hL : quoL = L) : Calls Try.prog 21 #[] w (RowIs 40 L w) := by
  have HL := Lib.hid hL
  obtain ⟨P, eP⟩ : ∃ P, quoP = P := ⟨_, rfl⟩
  have HP := Lib.hid eP
  have HC := Lib.hid (show Calls Try.prog 31 #[.int .u32 167772161, .int .u32 167772162, .agg #[.int .u16 5, .int .u16 80, .int .u32 9, .int .u32 0, .int .u8 16, .int .u16 0, .int .u16 0, .slice none 0 0, .slice none 0 0]] w (PutGot P 20 0 w) from
    put6_got 167772161 167772162 quoS none 0 0 [] none 0 0 w P 20 0 (by decide) (by decide) ⟨⟨by decide, by decide, by decide, by decide, by decide, by decide, by decide⟩, ⟨Nat.le_refl _, by simp [maxLen]⟩, ⟨Nat.le_refl _, by simp [maxLen]⟩, RdO.nil _ _, trivial, Rd.nil _ _⟩ quo_1 (quo_told.trans eP) (by rw [← eP]; exact quo_2))
  clear hL eP
  go_enter Try.func21, Try.ntmps21
  go_wp2_with fail
  refine HC.out.mono ?_
  rintro e w1 ⟨A1, c1, rfl, hc1, hr1, hb1⟩
  have Hr1 := Lib.hid hr1
  have Hc1 := Lib.hid hc1
  have HB1 := Lib.hid hb1
  clear hr1 hc1 hb1 HC
  go_wp2_with fail
  refine (put_ok 0 0 9 6 167772161 167772162 false none A1 0 0 20 c1 [] P _ (by omega) (by omega) (by omega) (by omega) (by omega) (by omega) (by decide) (by omega) ⟨by omega, by simp [maxLen]⟩ Hc1.out (by omega) (Rd.nil _ _) Hr1.out).mono ?_
  rintro e w2 ⟨A2, c2, rfl, hc2, hcm2, ho2, hb2⟩
  have HO2 := Lib.hid (show OwnB w2 w1.heap.size A2 40 c2 L by rw [← HL.out]; unfold quoL; rw [HP.out]; exact ho2)
  have HB2 := Lib.hid (below_trans HB1.out hb2)
  have Hc2 := Lib.hid (And.intro hc2 hcm2)
  clear ho2 hb2 hc2 hcm2
  go_wp2_with fail
  go_ret
  exact ⟨A2, c2, rfl, Hc2.out.1, Hc2.out.2, HO2.out.mono HB1.out.size, HB2.out⟩
theorem quof : QuoF := fun w => quote16_any w quoL rfl
end Go.Proofs.Ytoegfgbalcholaa
