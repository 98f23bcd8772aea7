/-
  Texts laid together: Payload, InQuote, TupVal, InSay.
-/
import Derived.Test.YtoegfgbalcholaaZC22
import Derived.Test.YtoegfgbalcholaaZC23
import Derived.Test.YtoegfgbalcholaaZC24
import Derived.Test.YtoegfgbalcholaaZC12
import Derived.Test.YtoegfgbalcholaaZC19
import Derived.Test.YtoegfgbalcholaaZC04
import Derived.Test.YtoegfgbalcholaaZC06
import Derived.Test.YtoegfgbalcholaaZC05
import Derived.Laws.StructEq
import Derived.Test.YtoegfgbalcholaaZC16
import Derived.Test.YtoegfgbalcholaaZC07
import Derived.Deep.DeepCutAuto

/-
  A payload's bytes, by each protocol: what package tcp, udp, icmp and the document's own answers (culvertref06, 07, 08) tell, by one word.
-/
namespace Go.Proofs.Ytoegfgbalcholaa
set_option maxRecDepth 10000
open Go.RowKit

/-- A row that reads as L, and a number. -/
def PutGot (L : List Int) (m : Nat) (x : Int) (w : World) (e : Ending) (w' : World) : Prop := ∃ A c, e = .returned (.tuple #[.slice A m c, .int .i64 x]) ∧ (m ≤ c ∧ c ≤ maxLen) ∧ Rd w' A m L ∧ Below w.heap.size w w'
theorem PutGot.none_ {x : Int} {w : World} {e : Ending} {w' : World} (he : e = .returned (.tuple #[.slice none 0 0, .int .i64 x])) (hb : Below w.heap.size w w') : PutGot [] 0 x w e w' := ⟨none, 0, he, ⟨Nat.le_refl _, by simp [maxLen]⟩, Rd.nil _ _, hb⟩
theorem put6_got (src dst : Int) (s : Seg) (AO : Option Addr) (nO cO : Nat) (oss : List OptV) (AD : Option Addr) (nD cD : Nat) (w : World) (L : List Int) (m : Nat) (x : Int) (hn : nO ≤ 140737488355328) (hd : nD ≤ 140737488355328) (h : SegRd w s AO nO cO oss AD nD cD) (hx : errS s = x) (hL : toldB src dst s = L) (hm : L.length = m) :
    Calls Try.prog 31 #[.int .u32 src, .int .u32 dst, .agg #[.int .u16 s.sp, .int .u16 s.dp, .int .u32 s.sq, .int .u32 s.ak, .int .u8 s.fl, .int .u16 s.wn, .int .u16 s.ug, .slice AO nO cO, .slice AD nD cD]] w (PutGot L m x w) := by
  refine (put6_any src dst s AO nO cO oss AD nD cD w hn hd h).mono fun e w' hh => ?_
  unfold toldB at hL
  by_cases h0 : errS s = 0
  · rw [if_pos h0] at hh hL
    obtain ⟨A, c, rfl, k, k2, ho, hb⟩ := hh
    subst hx; subst hL; subst hm
    rw [h0, segB_len]
    exact ⟨A, c, rfl, ⟨k, k2⟩, ho.rd (segB_bytes h.num h0 h.os.byte h.d.byte), hb⟩
  · rw [if_neg h0] at hh hL
    obtain ⟨rfl, hb⟩ := hh
    subst hx; subst hL; subst hm
    exact PutGot.none_ rfl hb
end Go.Proofs.Ytoegfgbalcholaa

/-
  culvertlaw16's quote (stage 16, written ahead).
-/
namespace Go.Proofs.Ytoegfgbalcholaa
set_option maxRecDepth 10000
open Go.RowKit
set_option linter.unusedSimpArgs false
set_option linter.unusedVariables false

theorem quo_1 : errS quoS = 0 := by decide +kernel
theorem quo_told : toldB 167772161 167772162 quoS = quoP := by unfold toldB; rw [if_pos quo_1]; rfl
theorem quote16_any (w : World) (L : List Int) (hL : quoL = L) : Calls Try.prog 21 #[] w (RowIs 40 L w) := by
  have HL := Lib.hid hL
  obtain ⟨P, eP⟩ : ∃ P, quoP = P := ⟨_, rfl⟩
  have HP := Lib.hid eP
  have HC := Lib.hid (show Calls Try.prog 31 #[.int .u32 167772161, .int .u32 167772162, .agg #[.int .u16 5, .int .u16 80, .int .u32 9, .int .u32 0, .int .u8 16, .int .u16 0, .int .u16 0, .slice none 0 0, .slice none 0 0]] w (PutGot P 20 0 w) from
    put6_got 167772161 167772162 quoS none 0 0 [] none 0 0 w P 20 0 (by decide) (by decide) ⟨⟨by decide, by decide, by decide, by decide, by decide, by decide, by decide⟩, ⟨Nat.le_refl _, by simp [maxLen]⟩, ⟨Nat.le_refl _, by simp [maxLen]⟩, RdO.nil _ _, trivial, Rd.nil _ _⟩ quo_1 (quo_told.trans eP) (by rw [← eP]; exact quo_2))
  clear hL eP
  go_enter Try.func21, Try.ntmps21
  go_wp2_with fail
  refine HC.out.mono ?_
  rintro e w1 ⟨A1, c1, rfl, hc1, hr1, hb1⟩
  have Hr1 := Lib.hid hr1
  have Hc1 := Lib.hid hc1
  have HB1 := Lib.hid hb1
  clear hr1 hc1 hb1 HC
  go_wp2_with fail
  refine (put_ok 0 0 9 6 167772161 167772162 false none A1 0 0 20 c1 [] P _ (by omega) (by omega) (by omega) (by omega) (by omega) (by omega) (by decide) (by omega) ⟨by omega, by simp [maxLen]⟩ Hc1.out (by omega) (Rd.nil _ _) Hr1.out).mono ?_
  rintro e w2 ⟨A2, c2, rfl, hc2, hcm2, ho2, hb2⟩
  have HO2 := Lib.hid (show OwnB w2 w1.heap.size A2 40 c2 L by rw [← HL.out]; unfold quoL; rw [HP.out]; exact ho2)
  have HB2 := Lib.hid (below_trans HB1.out hb2)
  have Hc2 := Lib.hid (And.intro hc2 hcm2)
  clear ho2 hb2 hc2 hcm2
  go_wp2_with fail
  go_ret
  exact ⟨A2, c2, rfl, Hc2.out.1, Hc2.out.2, HO2.out.mono HB1.out.size, HB2.out⟩
theorem quof : QuoF := fun w => quote16_any w quoL rfl
end Go.Proofs.Ytoegfgbalcholaa

/-
  Tuples (api.Tuple) as values: their cells, how the run holds one against another; two results of which the first is a tuple.
-/
namespace Go.Proofs.Ytoegfgbalcholaa
set_option maxRecDepth 10000
open Go.RowKit
set_option linter.unusedSimpArgs false
set_option linter.unusedVariables false

theorem cells5 {w : World} {g : Nat} {u0 u1 u2 u3 u4 : Value} {t : TypeId} (h : w.heap[g]? = some (.cells #[u0, u1, u2, u3, u4] t (0, 0))) : w.cell? ⟨g, 0, none⟩ = some u0 ∧ w.cell? ⟨g, 1, none⟩ = some u1 ∧ w.cell? ⟨g, 2, none⟩ = some u2 ∧ w.cell? ⟨g, 3, none⟩ = some u3 ∧ w.cell? ⟨g, 4, none⟩ = some u4 := ⟨by rw [blk_cell h]; rfl, by rw [blk_cell h]; rfl, by rw [blk_cell h]; rfl, by rw [blk_cell h]; rfl, by rw [blk_cell h]; rfl⟩
end Go.Proofs.Ytoegfgbalcholaa

/-
  Package inner's say: what the beginning behind a header says.
-/
namespace Go.Proofs.Ytoegfgbalcholaa
set_option maxRecDepth 10000
open Go.RowKit
set_option linter.unusedSimpArgs false
set_option linter.unusedVariables false

/-- What is said: the tuple (without addresses), the number. -/
def sayTu (pr f s last : Int) : Tu := if pr = 6 ∨ pr = 17 then ⟨pr, 0, 0, f, s⟩ else ⟨pr, 0, 0, last / 65536, 0⟩
def saySeq (pr last : Int) : Int := if pr = 6 then last else 0
def sayIs (pr f : Int) : Bool := decide (pr = 6 ∨ pr = 17 ∨ (pr = 1 ∧ echoM (f / 256) (f % 256) = true))
def SayIs (pr f s last : Int) (w : World) (e : Ending) (w' : World) : Prop :=
  ∃ t q, e = .returned (.tuple #[.agg #[.int .u8 t.pr, .int .u32 t.sr, .int .u32 t.ds, .int .u16 t.sp, .int .u16 t.dp, .int .u32 q], .bool (sayIs pr f)]) ∧ (sayIs pr f = true → t = sayTu pr f s last ∧ q = saySeq pr last) ∧ Below w.heap.size w w'
set_option maxHeartbeats 1000000 in
theorem say16_any (pr f s last : Int) (w : World) (hp : 0 ≤ pr ∧ pr < 256) (hf : U16 f) (hs : U16 s) (hl : 0 ≤ last ∧ last < 4294967296) :
    Calls Try.prog 52 #[.agg #[.int .u16 f, .int .u16 s, .int .u32 last], .int .u8 pr] w (SayIs pr f s last w) := by
  obtain ⟨z0, hz⟩ : ∃ z, w.heap.size = z := ⟨_, rfl⟩
  obtain ⟨w0, ew⟩ : ∃ v, ((w.alloc (.cells #[.int .u16 f, .int .u16 s, .int .u32 last] 100)).alloc (.cells #[.int .u8 0, .int .u32 0, .int .u32 0, .int .u16 0, .int .u16 0, .int .u32 0] 28)).alloc (.cells #[.int .u8 pr, .int .u32 0, .int .u32 0, .int .u16 f, .int .u16 s] 26) = v := ⟨_, rfl⟩
  have hb0 : Below w.heap.size w w0 := by rw [← ew]; exact (((Below.refl _ _).alloc (Nat.le_refl _) _).alloc (by simp) _).alloc (by simp; omega) _
  have hk0 : w0.heap[z0]? = some (.cells #[.int .u16 f, .int .u16 s, .int .u32 last] 100 (0, 0)) := by rw [← ew, Below.heap_alloc _ _ _ (by simp [hz]; omega), Below.heap_alloc _ _ _ (by simp [hz]), ← hz]; exact heap_alloc_new w _
  have hk1 : w0.heap[z0 + 1]? = some (.cells #[.int .u8 0, .int .u32 0, .int .u32 0, .int .u16 0, .int .u16 0, .int .u32 0] 28 (0, 0)) := by
    rw [← ew, Below.heap_alloc _ _ _ (by simp [hz]), ← hz]; simpa using heap_alloc_new (w.alloc (.cells #[.int .u16 f, .int .u16 s, .int .u32 last] 100)) (.cells #[.int .u8 0, .int .u32 0, .int .u32 0, .int .u16 0, .int .u16 0, .int .u32 0] 28)
  have hk2 : w0.heap[z0 + 1 + 1]? = some (.cells #[.int .u8 pr, .int .u32 0, .int .u32 0, .int .u16 f, .int .u16 s] 26 (0, 0)) := by
    rw [← ew, ← hz]; simpa using heap_alloc_new ((w.alloc (.cells #[.int .u16 f, .int .u16 s, .int .u32 last] 100)).alloc (.cells #[.int .u8 0, .int .u32 0, .int .u32 0, .int .u16 0, .int .u16 0, .int .u32 0] 28)) (.cells #[.int .u8 pr, .int .u32 0, .int .u32 0, .int .u16 f, .int .u16 s] 26)
  have c0 : w0.cell? ⟨z0, 0, none⟩ = some (.int .u16 f) := blk_cell hk0 0
  have c1 : w0.cell? ⟨z0, 1, none⟩ = some (.int .u16 s) := blk_cell hk0 1
  have c2 : w0.cell? ⟨z0, 2, none⟩ = some (.int .u32 last) := blk_cell hk0 2
  have HK0 := Lib.hid hk0
  have HK1 := Lib.hid hk1
  have HK2 := Lib.hid hk2
  have Hb0 := Lib.hid hb0
  have Ew := Lib.hid ew
  have Hz := Lib.hid hz
  have Hl := Lib.hid hl
  have Hf := Lib.hid hf
  have Hp := Lib.hid hp
  have Hle := Lib.hid (show w.heap.size ≤ z0 + 1 by omega)
  clear hb0 ew hz hf hk0 hk1 hk2 hl hp
  go_enter Try.func52, Try.ntmps52
  go_upto_region 2 with (fail)
  rw [Ew.out]
  try rw [Hz.out]
  clear Ew
  by_cases h6 : pr = 6
  · have p6 : (pr == 6) = true := by simpa using h6
    have His := Lib.hid (show sayIs pr f = true by unfold sayIs; simp [h6])
    have Ht := Lib.hid (show sayTu pr f s last = ⟨pr, 0, 0, f, s⟩ ∧ saySeq pr last = last by unfold sayTu saySeq; rw [if_pos (.inl h6), if_pos h6]; exact ⟨rfl, rfl⟩)
    clear h6
    obtain ⟨t0, t1, t2, t3, t4⟩ := cells5 HK2.out
    have fz := fun i => blk_free HK1.out i
    obtain ⟨u0, u1, u2, u3, u4, u5⟩ := cells6 HK1.out
    go_wp2_with fail
    exact bodyPost_ret (v := .tuple #[.agg #[.int .u8 pr, .int .u32 0, .int .u32 0, .int .u16 f, .int .u16 s, .int .u32 last], .bool true]) (results_row_tmp rfl _ _ (z0 + 1) _ _ _ _ _ rfl rfl (set6_blk HK1.out _ _ _ _ _ _) Try.underlying28 rfl (by kernel_rfl)) rfl ⟨⟨pr, 0, 0, f, s⟩, last, by rw [His.out], fun _ => ⟨Ht.out.1.symm, Ht.out.2.symm⟩, set6_below Hb0.out Hle.out _ _ _ _ _ _⟩
  · have p6 : (pr == 6) = false := by simpa using h6
    by_cases h17 : pr = 17
    · have p17 : (pr == 17) = true := by simpa using h17
      have His := Lib.hid (show sayIs pr f = true by unfold sayIs; simp [h17])
      have Ht := Lib.hid (show sayTu pr f s last = ⟨pr, 0, 0, f, s⟩ ∧ saySeq pr last = 0 by unfold sayTu saySeq; rw [if_pos (.inr h17), if_neg h6]; exact ⟨rfl, rfl⟩)
      clear h6 h17
      obtain ⟨t0, t1, t2, t3, t4⟩ := cells5 HK2.out
      have fz := fun i => blk_free HK1.out i
      obtain ⟨u0, u1, u2, u3, u4, u5⟩ := cells6 HK1.out
      go_wp2_with fail
      exact bodyPost_ret (v := .tuple #[.agg #[.int .u8 pr, .int .u32 0, .int .u32 0, .int .u16 f, .int .u16 s, .int .u32 0], .bool true]) (results_row_tmp rfl _ _ (z0 + 1) _ _ _ _ _ rfl rfl (set6_blk HK1.out _ _ _ _ _ _) Try.underlying28 rfl (by kernel_rfl)) rfl ⟨⟨pr, 0, 0, f, s⟩, 0, by rw [His.out], fun _ => ⟨Ht.out.1.symm, Ht.out.2.symm⟩, set6_below Hb0.out Hle.out _ _ _ _ _ _⟩
    · have p17 : (pr == 17) = false := by simpa using h17
      by_cases h1 : pr = 1
      · have p1 : (pr == 1) = true := by simpa using h1
        obtain ⟨ty, ety⟩ : ∃ y, f / 256 = y := ⟨_, rfl⟩
        obtain ⟨cd, ecd⟩ : ∃ y, f % 256 = y := ⟨_, rfl⟩
        have hw1 : IntKind.u8.wrap (f / 256) = ty := by rw [← ety]; exact IntWalk.u8_in _ (by obtain ⟨_, _⟩ := Hf.out; omega)
        have hw2 : IntKind.u8.wrap f = cd := by rw [← ecd]; simp [IntKind.wrap, IntKind.bits, IntKind.signed]
        obtain ⟨is, eis⟩ : ∃ y, echoM ty cd = y := ⟨_, rfl⟩
        have His := Lib.hid (show sayIs pr f = is by unfold sayIs; rw [ety, ecd, eis]; simp [h1])
        have Ht := Lib.hid (show sayTu pr f s last = ⟨pr, 0, 0, last / 65536, 0⟩ ∧ saySeq pr last = 0 by unfold sayTu saySeq; rw [if_neg (by omega), if_neg h6]; exact ⟨rfl, rfl⟩)
        have He := Lib.hid (fun W => echo8_any ty cd last none 0 0 W Hl.out)
        have Eis := Lib.hid eis
        clear h6 h17 h1 ety ecd eis
        go_wp2_with fail
        refine (He.out _).mono ?_
        rintro e w4 ⟨h4, hb4⟩
        rw [Eis.out] at h4
        have hb4 := on_alloc hb4
        have HK1 := Lib.hid (blk_on HK1.out hb4)
        have Hb4 := Lib.hid (below_trans Hb0.out hb4)
        clear hb4
        have fz := fun i => blk_free HK1.out i
        obtain ⟨u0, u1, u2, u3, u4, u5⟩ := cells6 HK1.out
        cases is with
        | true =>
          rw [if_pos rfl] at h4
          subst h4
          go_wp2_with fail
          exact bodyPost_ret (v := .tuple #[.agg #[.int .u8 pr, .int .u32 0, .int .u32 0, .int .u16 (last / 65536), .int .u16 0, .int .u32 0], .bool true]) (results_row_tmp rfl _ _ (z0 + 1) _ _ _ _ _ rfl rfl (set6_blk HK1.out _ _ _ _ _ _) Try.underlying28 rfl (by kernel_rfl)) rfl ⟨⟨pr, 0, 0, last / 65536, 0⟩, 0, by rw [His.out], fun _ => ⟨Ht.out.1.symm, Ht.out.2.symm⟩, set6_below Hb4.out Hle.out _ _ _ _ _ _⟩
        | false =>
          rw [if_neg (by decide)] at h4
          subst h4
          go_wp2_with fail
          exact bodyPost_ret (v := .tuple #[.agg #[.int .u8 pr, .int .u32 0, .int .u32 0, .int .u16 0, .int .u16 0, .int .u32 0], .bool false]) (results_row_tmp rfl _ _ (z0 + 1) _ _ _ _ _ rfl rfl (set6_blk HK1.out _ _ _ _ _ _) Try.underlying28 rfl (by kernel_rfl)) rfl ⟨⟨pr, 0, 0, 0, 0⟩, 0, by rw [His.out], fun h => (by rw [His.out] at h; cases h), set6_below Hb4.out Hle.out _ _ _ _ _ _⟩
      · have p1 : (pr == 1) = false := by simpa using h1
        have His := Lib.hid (show sayIs pr f = false by unfold sayIs; simp [h1, h6, h17])
        clear h6 h17 h1
        have fz := fun i => blk_free HK1.out i
        obtain ⟨u0, u1, u2, u3, u4, u5⟩ := cells6 HK1.out
        go_wp2_with fail
        exact bodyPost_ret (v := .tuple #[.agg #[.int .u8 0, .int .u32 0, .int .u32 0, .int .u16 0, .int .u16 0, .int .u32 0], .bool false]) (results_row_tmp rfl _ _ (z0 + 1) _ _ _ _ _ rfl rfl (set6_blk HK1.out _ _ _ _ _ _) Try.underlying28 rfl (by kernel_rfl)) rfl ⟨⟨0, 0, 0, 0, 0⟩, 0, by rw [His.out], fun h => (by rw [His.out] at h; cases h), set6_below Hb0.out Hle.out _ _ _ _ _ _⟩
end Go.Proofs.Ytoegfgbalcholaa
