/-
  Texts laid together: InWakes, InQuote, InSay, InRun.
-/
import Derived.Test.YtoegfgbalcholaaZD08
import Derived.Test.YtoegfgbalcholaaZD14
import Derived.Test.YtoegfgbalcholaaZD03
import Derived.Laws.StructEq
import Derived.Test.YtoegfgbalcholaaZD24
import Derived.Test.YtoegfgbalcholaaZD17
import Derived.Test.YtoegfgbalcholaaZD05
import Derived.Test.YtoegfgbalcholaaZD22
import Derived.Test.YtoegfgbalcholaaZD23
import Derived.Test.YtoegfgbalcholaaZD07
import Derived.Test.YtoegfgbalcholaaZD28
import Derived.Deep.DeepCutAuto

/-
  culvertlaw16's quote and wakes, over the face (stage 16, written ahead).
-/
namespace Go.Proofs.Ytoegfgbalcholaa
set_option maxRecDepth 10000
open Go.RowKit
set_option linter.unusedSimpArgs false
set_option linter.unusedVariables false

instance tuDec : DecidableEq Tu := fun a b => if h : a.pr = b.pr ∧ a.sr = b.sr ∧ a.ds = b.ds ∧ a.sp = b.sp ∧ a.dp = b.dp then isTrue (by cases a; cases b; simp at h; simp [h]) else isFalse (fun e => h (by subst e; simp))
def quoS : Seg := ⟨5, 80, 9, 0, 16, 0, 0, [], []⟩
def quoP : List Int := segB 167772161 167772162 quoS
def quoL : List Int := packetL 0 0 false 9 6 167772161 167772162 [] quoP
def quoB : List Int := ofL quoL 8
def quoT : Tu := ⟨6, 167772161, 167772162, 5, 80⟩
theorem quo_2 : quoP.length = 20 := by decide +kernel
theorem quo_4 : quoB.length = 28 := by decide +kernel
theorem quo_5 : errQ quoB = 0 ∧ qT quoB = quoT ∧ qS quoB = 9 := by decide +kernel
theorem quo_6 : errQ (quoB.take 27) = 4 ∧ qT (quoB.take 27) = zTu ∧ qS (quoB.take 27) = 0 := by decide +kernel
theorem quo_7 : errQ (quoB.set 0 85) = 5 ∧ qT (quoB.set 0 85) = zTu ∧ qS (quoB.set 0 85) = 0 := by decide +kernel
theorem quo_8 : errQ (quoB.set 9 47) = 22 ∧ qT (quoB.set 9 47) = zTu ∧ qS (quoB.set 9 47) = 0 := by decide +kernel
theorem quo_9 : errR quoB ⟨17, 0, 0, 0, 0⟩ = 1 := by decide +kernel
theorem quo_a : rwR quoB ⟨17, 0, 0, 0, 0⟩ 0 = [] := by decide +kernel
theorem quo_b : Bytes quoL := by unfold Bytes; decide +kernel
def QuoF : Prop := ∀ w : World, Calls Try.prog 21 #[] w (RowIs 40 quoL w)
set_option maxHeartbeats 2000000 in
theorem wakes16_any (hQuo : QuoF) (hRead : ReadF16) (hRw : RwF16) (hOf : OfF16) : AwF16 := by
  intro w
  have HQuo := Lib.hid hQuo
  have HRead := Lib.hid hRead
  have HRw := Lib.hid hRw
  have HOf := Lib.hid hOf
  obtain ⟨Q, eQ⟩ : ∃ Q, quoL = Q := ⟨_, rfl⟩
  obtain ⟨b, eb⟩ : ∃ b, quoB = b := ⟨_, rfl⟩
  have h4 := quo_4; have h5 := quo_5; have h6 := quo_6; have h7 := quo_7; have h8 := quo_8; have h9 := quo_9; have ha := quo_a; have hbq := quo_b
  rw [eb] at h4 h5 h6 h7 h8 h9 ha
  rw [eQ] at hbq
  have HQ := Lib.hid eQ
  have Hb := Lib.hid (show ofL Q 8 = b by rw [← eQ, ← eb]; rfl)
  have H4 := Lib.hid h4; have H5 := Lib.hid h5; have H6 := Lib.hid h6; have H7 := Lib.hid h7; have H8 := Lib.hid h8; have H9 := Lib.hid h9; have Ha := Lib.hid ha
  have HbQ := Lib.hid hbq
  have Hby := Lib.hid (show Bytes b by rw [← Hb.out]; exact fun x hx => hbq x (List.mem_of_mem_take hx))
  clear hQuo hRead hRw hOf eQ eb h4 h5 h6 h7 h8 h9 ha hbq
  go_enter Try.func13, Try.ntmps13
  go_wp2_with fail
  refine (HQuo.out _).mono ?_
  rintro e w1 ⟨A1, c1, rfl, hc1, hcm1, ho1, hb1⟩
  rw [HQ.out] at ho1
  have HR1 := Lib.hid (ho1.rd HbQ.out)
  have HB1 := Lib.hid hb1
  have Hc1 := Lib.hid (And.intro hc1 hcm1)
  clear hc1 hcm1 ho1 hb1
  go_wp2_with fail
  refine (HOf.out A1 40 c1 Q 8 b 28 _ Hc1.out (by decide) HR1.out (by decide) Hb.out H4.out).mono ?_
  rintro e w2 ⟨A2, c2, rfl, hc2, hcm2, ho2, hb2⟩
  have HO2 := Lib.hid ho2
  have HR2 := Lib.hid (ho2.rd Hby.out)
  have HB2 := Lib.hid (below_trans HB1.out hb2)
  have Hc2 := Lib.hid (And.intro hc2 hcm2)
  have hc2i : (28 : Int) ≤ (c2 : Int) := by omega
  clear hc2 hcm2 ho2 hb2
  go_wp2_with fail
  refine (HRead.out A2 28 c2 b ⟨6, 167772161, 167772162, 5, 80⟩ 9 0 _ Hc2.out (by decide) HR2.out H5.out.2.1 H5.out.2.2 H5.out.1).mono ?_
  rintro e w3 ⟨rfl, hb3⟩
  obtain ⟨z3, ez3⟩ : ∃ y, w3.heap.size = y := ⟨_, rfl⟩
  obtain ⟨w4, ew4⟩ : ∃ v, w3.alloc (.cells #[.int .u8 6, .int .u32 167772161, .int .u32 167772162, .int .u16 5, .int .u16 80, .int .u32 9] 28) = v := ⟨_, rfl⟩
  have HK4 := Lib.hid (show w4.heap[z3]? = some (.cells #[.int .u8 6, .int .u32 167772161, .int .u32 167772162, .int .u16 5, .int .u16 80, .int .u32 9] 28 (0, 0)) by rw [← ew4, ← ez3]; exact heap_alloc_new w3 _)
  have hba : Below w3.heap.size w3 w4 := by rw [← ew4]; exact (Below.refl _ _).alloc (Nat.le_refl _) _
  have HB24 := Lib.hid (below_trans hb3 hba)
  have Ew4 := Lib.hid ew4
  have Ez3 := Lib.hid ez3
  clear ew4 ez3 hba hb3
  go_upto_region 5 with (fail)
  rw [Ew4.out]
  try rw [Ez3.out]
  clear Ew4 Ez3
  have HO4 := Lib.hid (HO2.out.on HB24.out)
  have HR4 := Lib.hid (HR2.out.below HB24.out)
  have HB4 := Lib.hid (below_trans HB2.out HB24.out)
  go_wp2_with fail
  refine (HRead.out A2 27 _ (b.take 27) ⟨0, 0, 0, 0, 0⟩ 0 4 _ ⟨by have := Hc2.out; omega, Hc2.out.2⟩ (by decide) (HR4.out.take (by omega)) H6.out.2.1 H6.out.2.2 H6.out.1).mono ?_
  rintro e wr5 ⟨rfl, hb5⟩
  obtain ⟨z5, ez5⟩ : ∃ y, wr5.heap.size = y := ⟨_, rfl⟩
  obtain ⟨wa5, ew5⟩ : ∃ v, wr5.alloc (.cells #[.int .u8 0, .int .u32 0, .int .u32 0, .int .u16 0, .int .u16 0, .int .u32 0] 28) = v := ⟨_, rfl⟩
  have hba : Below wr5.heap.size wr5 wa5 := by rw [← ew5]; exact (Below.refl _ _).alloc (Nat.le_refl _) _
  have HBr5 := Lib.hid (below_trans hb5 hba)
  have Ew5 := Lib.hid ew5
  have Ez5 := Lib.hid ez5
  clear ew5 ez5 hba hb5
  go_upto_region 6 with (fail)
  rw [Ew5.out]
  try rw [Ez5.out]
  clear Ew5 Ez5
  have HR6 := Lib.hid (HR4.out.below HBr5.out)
  have HK6 := Lib.hid (blk_on HK4.out HBr5.out)
  have HBw6 := Lib.hid (below_trans HB4.out HBr5.out)
  go_upto_region 7 with (first | (refine wpList_app rfl (.const (.slice none 0 0)) (.tmp 30) rfl wa5.heap.size none A2 0 0 28 c2 [] b rfl rfl (OwnB.nil _ _) HR6.out (by omega) (Nat.le_refl _) ?_; intro A7 c7 w7 ho7 _ hb7 _) | (refine wpList_app rfl (.const (.slice none 0 0)) (.tmp 32) rfl w7.heap.size none A2 0 0 28 c2 [] b rfl rfl (OwnB.nil _ _) (HR6.out.below hb7) (by omega) (Nat.le_refl _) ?_; intro A8 c8 w8 ho8 _ hb8 _))
  have HO7 := Lib.hid (show OwnB w8 wa5.heap.size A7 28 c7 b from OwnB.on (by simpa using ho7) hb8)
  have HO8 := Lib.hid (show OwnB w8 w7.heap.size A8 28 c8 b by simpa using ho8)
  have HB8 := Lib.hid (show Below wa5.heap.size wa5 w8 from below_trans hb7 hb8)
  have hw78 := hb7.size
  obtain ⟨g7, rfl, hg7, hl7⟩ := (show OwnB w7 wa5.heap.size A7 28 c7 b by simpa using ho7).addr (by omega)
  obtain ⟨g8, rfl, hg8, hl8⟩ := HO8.out.addr (by omega)
  have Hg := Lib.hid (show g7 < g8 ∧ wa5.heap.size ≤ g7 from ⟨by omega, hg7⟩)
  have e1 := HO7.out.cell 0 (by omega)
  have e2 := HO8.out.cell 9 (by omega)
  have f1 : w8.frozen? ⟨g7, 0, none⟩ = false := World.ownsRow.frozenAt HO7.out _
  have f2 : w8.frozen? ⟨g8, 9, none⟩ = false := World.ownsRow.frozenAt HO8.out _
  have h7c : (28 : Int) ≤ (c7 : Int) := by have := HO7.out.cap; omega
  have h8c : (28 : Int) ≤ (c8 : Int) := by have := HO8.out.cap; omega
  have hne : ¬ g7 = g8 := by omega
  have hne2 : ¬ g8 = g7 := by omega
  obtain ⟨w9, e9⟩ : ∃ v, (w8.setCell ⟨g7, 0, none⟩ (.int .u8 85)).setCell ⟨g8, 9, none⟩ (.int .u8 47) = v := ⟨_, rfl⟩
  have hbs : ∀ (j : Nat) (x : Int), 0 ≤ x ∧ x < 256 → ∀ y ∈ b.set j x, 0 ≤ y ∧ y < 256 := fun j x hx y hy => by
    rcases List.mem_or_eq_of_mem_set hy with h | rfl
    · exact Hby.out y h
    · exact hx
  have HR9a := Lib.hid (show Rd w9 (some ⟨g7, 0, none⟩) 28 (b.set 0 85) by
    rw [← e9]
    refine ((HO7.out.set_ 0 85).rd (hbs 0 85 (by omega))).but (S := fun k => k = g8) ((But.refl (fun k => k = g8) _).setCell (p := ⟨g8, 9, none⟩) rfl _) (fun g o e _ hk => ?_)
    injection e with e
    injection e with e _ _
    omega)
  have HR9b := Lib.hid (show Rd w9 (some ⟨g8, 0, none⟩) 28 (b.set 9 47) by
    rw [← e9]
    have hO : OwnB (w8.setCell ⟨g7, 0, none⟩ (.int .u8 85)) w7.heap.size (some ⟨g8, 0, none⟩) 28 c8 b := HO8.out.but (S := fun k => k = g7) ((But.refl (fun k => k = g7) _).setCell (p := ⟨g7, 0, none⟩) rfl _) (fun k hk e => by omega)
    exact (hO.set_ 9 47).rd (hbs 9 47 (by omega)))
  have HB9 := Lib.hid (show Below wa5.heap.size wa5 w9 by rw [← e9]; exact (HB8.out.setCell (p := ⟨g7, 0, none⟩) hg7 _).setCell (p := ⟨g8, 9, none⟩) (by show wa5.heap.size ≤ g8; omega) _)
  have E9 := Lib.hid e9
  have Hcc := Lib.hid (show (28 ≤ c7 ∧ c7 ≤ maxLen) ∧ 28 ≤ c8 ∧ c8 ≤ maxLen from ⟨⟨HO7.out.cap, HO7.out.capMax⟩, HO8.out.cap, HO8.out.capMax⟩)
  clear ho7 hb7 ho8 hb8 hg7 hl7 hg8 hl8 e9 hbs hw78
  go_upto_region 8 with (fail)
  rw [E9.out]
  clear e1 e2 f1 f2 E9 HO7 HO8
  have HR9 := Lib.hid (HR6.out.below HB9.out)
  have HK9 := Lib.hid (blk_on HK6.out HB9.out)
  have HBw9 := Lib.hid (below_trans HBw6.out HB9.out)
  go_wp2_with fail
  refine (HRead.out (some ⟨g7, 0, none⟩) 28 _ (b.set 0 85) ⟨0, 0, 0, 0, 0⟩ 0 5 _ Hcc.out.1 (by decide) HR9a.out H7.out.2.1 H7.out.2.2 H7.out.1).mono ?_
  rintro e wr10 ⟨rfl, hb10⟩
  obtain ⟨z10, ez10⟩ : ∃ y, wr10.heap.size = y := ⟨_, rfl⟩
  obtain ⟨wa10, ew10⟩ : ∃ v, wr10.alloc (.cells #[.int .u8 0, .int .u32 0, .int .u32 0, .int .u16 0, .int .u16 0, .int .u32 0] 28) = v := ⟨_, rfl⟩
  have hba : Below wr10.heap.size wr10 wa10 := by rw [← ew10]; exact (Below.refl _ _).alloc (Nat.le_refl _) _
  have HBr10 := Lib.hid (below_trans hb10 hba)
  have Ew10 := Lib.hid ew10
  have Ez10 := Lib.hid ez10
  clear ew10 ez10 hba hb10
  go_upto_region 9 with (fail)
  rw [Ew10.out]
  try rw [Ez10.out]
  clear Ew10 Ez10
  have HBw10 := Lib.hid (below_trans HBw9.out HBr10.out)
  go_wp2_with fail
  refine (HRead.out (some ⟨g8, 0, none⟩) 28 _ (b.set 9 47) ⟨0, 0, 0, 0, 0⟩ 0 22 _ Hcc.out.2 (by decide) (HR9b.out.below HBr10.out) H8.out.2.1 H8.out.2.2 H8.out.1).mono ?_
  rintro e wr11 ⟨rfl, hb11⟩
  obtain ⟨z11, ez11⟩ : ∃ y, wr11.heap.size = y := ⟨_, rfl⟩
  obtain ⟨wa11, ew11⟩ : ∃ v, wr11.alloc (.cells #[.int .u8 0, .int .u32 0, .int .u32 0, .int .u16 0, .int .u16 0, .int .u32 0] 28) = v := ⟨_, rfl⟩
  have hba : Below wr11.heap.size wr11 wa11 := by rw [← ew11]; exact (Below.refl _ _).alloc (Nat.le_refl _) _
  have HBr11 := Lib.hid (below_trans hb11 hba)
  have Ew11 := Lib.hid ew11
  have Ez11 := Lib.hid ez11
  clear ew11 ez11 hba hb11
  go_upto_region 10 with (fail)
  rw [Ew11.out]
  try rw [Ez11.out]
  clear Ew11 Ez11
  have HBw11 := Lib.hid (below_trans HBw10.out HBr11.out)
  have HB911 := Lib.hid (below_trans HBr10.out HBr11.out)
  go_wp2_with fail
  refine (HRw.out A2 28 c2 b ⟨17, 0, 0, 0, 0⟩ 0 _ [] 0 1 Hc2.out (by decide) (HR9.out.below HB911.out) ⟨by decide, by decide, by decide, by decide, by decide⟩ (by decide) Ha.out rfl H9.out).mono ?_
  rintro e w12 ⟨A12, c12, rfl, -, hb12⟩
  have HK12 := Lib.hid (blk_on (blk_on HK9.out HB911.out) hb12)
  have HBw12 := Lib.hid (below_trans HBw11.out hb12)
  clear hb12
  obtain ⟨k0, k1, k2, k3, k4, k5⟩ := cells6 HK12.out
  have heq : ∀ W : World, (binOp .eql 28 (.agg #[.int .u8 6, .int .u32 167772161, .int .u32 167772162, .int .u16 5, .int .u16 80, .int .u32 9]) (.agg #[.int .u8 6, .int .u32 167772161, .int .u32 167772162, .int .u16 5, .int .u16 80, .int .u32 9])).run Try.prog W = .ok (.bool true) W := fun W => by
    rw [run_eql_struct, run_equalIn_struct W 9999 28 _ _ (by kernel_rfl) (by kernel_rfl)]
    go_simp
  go_wp2_with fail
  go_ret
  exact ⟨rfl, HBw12.out⟩
end Go.Proofs.Ytoegfgbalcholaa

/-
  culvertlaw16's quote (stage 16, written ahead).
-/
namespace Go.Proofs.Ytoegfgbalcholaa
set_option maxRecDepth 10000
open Go.RowKit
set_option linter.unusedSimpArgs false
set_option linter.unusedVariables false

theorem quo_1 : errS quoS = 0 := by decide +kernel
theorem quo_told : toldB 167772161 167772162 quoS = quoP := by unfold toldB; rw [if_pos quo_1]; rfl
theorem quote16_any (w : World) (L : List Int) (hL : quoL = L) : Calls Try.prog 21 #[] w (RowIs 40 L w) := by
  have HL := Lib.hid hL
  obtain ⟨P, eP⟩ : ∃ P, quoP = P := ⟨_, rfl⟩
  have HP := Lib.hid eP
  have HC := Lib.hid (show Calls Try.prog 31 #[.int .u32 167772161, .int .u32 167772162, .agg #[.int .u16 5, .int .u16 80, .int .u32 9, .int .u32 0, .int .u8 16, .int .u16 0, .int .u16 0, .slice none 0 0, .slice none 0 0]] w (PutGot P 20 0 w) from
    put6_got 167772161 167772162 quoS none 0 0 [] none 0 0 w P 20 0 (by decide) (by decide) ⟨⟨by decide, by decide, by decide, by decide, by decide, by decide, by decide⟩, ⟨Nat.le_refl _, by simp [maxLen]⟩, ⟨Nat.le_refl _, by simp [maxLen]⟩, RdO.nil _ _, trivial, Rd.nil _ _⟩ quo_1 (quo_told.trans eP) (by rw [← eP]; exact quo_2))
  clear hL eP
  go_enter Try.func21, Try.ntmps21
  go_wp2_with fail
  refine HC.out.mono ?_
  rintro e w1 ⟨A1, c1, rfl, hc1, hr1, hb1⟩
  have Hr1 := Lib.hid hr1
  have Hc1 := Lib.hid hc1
  have HB1 := Lib.hid hb1
  clear hr1 hc1 hb1 HC
  go_wp2_with fail
  refine (put_ok 0 0 9 6 167772161 167772162 false none A1 0 0 20 c1 [] P _ (by omega) (by omega) (by omega) (by omega) (by omega) (by omega) (by decide) (by omega) ⟨by omega, by simp [maxLen]⟩ Hc1.out (by omega) (Rd.nil _ _) Hr1.out).mono ?_
  rintro e w2 ⟨A2, c2, rfl, hc2, hcm2, ho2, hb2⟩
  have HO2 := Lib.hid (show OwnB w2 w1.heap.size A2 40 c2 L by rw [← HL.out]; unfold quoL; rw [HP.out]; exact ho2)
  have HB2 := Lib.hid (below_trans HB1.out hb2)
  have Hc2 := Lib.hid (And.intro hc2 hcm2)
  clear ho2 hb2 hc2 hcm2
  go_wp2_with fail
  go_ret
  exact ⟨A2, c2, rfl, Hc2.out.1, Hc2.out.2, HO2.out.mono HB1.out.size, HB2.out⟩
theorem quof : QuoF := fun w => quote16_any w quoL rfl
end Go.Proofs.Ytoegfgbalcholaa

/-
  Package inner's say: what the beginning behind a header says.
-/
namespace Go.Proofs.Ytoegfgbalcholaa
set_option maxRecDepth 10000
open Go.RowKit
set_option linter.unusedSimpArgs false
set_option linter.unusedVariables false

/-- What is said: the tuple (without addresses), the number. -/
def sayTu (pr f s last : Int) : Tu := if pr = 6 ∨ pr = 17 then ⟨pr, 0, 0, f, s⟩ else ⟨pr, 0, 0, last / 65536, 0⟩
def saySeq (pr last : Int) : Int := if pr = 6 then last else 0
def sayIs (pr f : Int) : Bool := decide (pr = 6 ∨ pr = 17 ∨ (pr = 1 ∧ echoM (f / 256) (f % 256) = true))
def SayIs (pr f s last : Int) (w : World) (e : Ending) (w' : World) : Prop :=
  ∃ t q, e = .returned (.tuple #[.agg #[.int .u8 t.pr, .int .u32 t.sr, .int .u32 t.ds, .int .u16 t.sp, .int .u16 t.dp, .int .u32 q], .bool (sayIs pr f)]) ∧ (sayIs pr f = true → t = sayTu pr f s last ∧ q = saySeq pr last) ∧ Below w.heap.size w w'
set_option maxHeartbeats 1000000 in
theorem say16_any (pr f s last : Int) (w : World) (hp : 0 ≤ pr ∧ pr < 256) (hf : U16 f) (hs : U16 s) (hl : 0 ≤ last ∧ last < 4294967296) :
    Calls Try.prog 52 #[.agg #[.int .u16 f, .int .u16 s, .int .u32 last], .int .u8 pr] w (SayIs pr f s last w) := by
  obtain ⟨z0, hz⟩ : ∃ z, w.heap.size = z := ⟨_, rfl⟩
  obtain ⟨w0, ew⟩ : ∃ v, ((w.alloc (.cells #[.int .u16 f, .int .u16 s, .int .u32 last] 100)).alloc (.cells #[.int .u8 0, .int .u32 0, .int .u32 0, .int .u16 0, .int .u16 0, .int .u32 0] 28)).alloc (.cells #[.int .u8 pr, .int .u32 0, .int .u32 0, .int .u16 f, .int .u16 s] 26) = v := ⟨_, rfl⟩
  have hb0 : Below w.heap.size w w0 := by rw [← ew]; exact (((Below.refl _ _).alloc (Nat.le_refl _) _).alloc (by simp) _).alloc (by simp; omega) _
  have hk0 : w0.heap[z0]? = some (.cells #[.int .u16 f, .int .u16 s, .int .u32 last] 100 (0, 0)) := by rw [← ew, Below.heap_alloc _ _ _ (by simp [hz]; omega), Below.heap_alloc _ _ _ (by simp [hz]), ← hz]; exact heap_alloc_new w _
  have hk1 : w0.heap[z0 + 1]? = some (.cells #[.int .u8 0, .int .u32 0, .int .u32 0, .int .u16 0, .int .u16 0, .int .u32 0] 28 (0, 0)) := by
    rw [← ew, Below.heap_alloc _ _ _ (by simp [hz]), ← hz]; simpa using heap_alloc_new (w.alloc (.cells #[.int .u16 f, .int .u16 s, .int .u32 last] 100)) (.cells #[.int .u8 0, .int .u32 0, .int .u32 0, .int .u16 0, .int .u16 0, .int .u32 0] 28)
  have hk2 : w0.heap[z0 + 1 + 1]? = some (.cells #[.int .u8 pr, .int .u32 0, .int .u32 0, .int .u16 f, .int .u16 s] 26 (0, 0)) := by
    rw [← ew, ← hz]; simpa using heap_alloc_new ((w.alloc (.cells #[.int .u16 f, .int .u16 s, .int .u32 last] 100)).alloc (.cells #[.int .u8 0, .int .u32 0, .int .u32 0, .int .u16 0, .int .u16 0, .int .u32 0] 28)) (.cells #[.int .u8 pr, .int .u32 0, .int .u32 0, .int .u16 f, .int .u16 s] 26)
  have c0 : w0.cell? ⟨z0, 0, none⟩ = some (.int .u16 f) := blk_cell hk0 0
  have c1 : w0.cell? ⟨z0, 1, none⟩ = some (.int .u16 s) := blk_cell hk0 1
  have c2 : w0.cell? ⟨z0, 2, none⟩ = some (.int .u32 last) := blk_cell hk0 2
  have HK0 := Lib.hid hk0
  have HK1 := Lib.hid hk1
  have HK2 := Lib.hid hk2
  have Hb0 := Lib.hid hb0
  have Ew := Lib.hid ew
  have Hz := Lib.hid hz
  have Hl := Lib.hid hl
  have Hf := Lib.hid hf
  have Hp := Lib.hid hp
  have Hle := Lib.hid (show w.heap.size ≤ z0 + 1 by omega)
  clear hb0 ew hz hf hk0 hk1 hk2 hl hp
  go_enter Try.func52, Try.ntmps52
  go_upto_region 2 with (fail)
  rw [Ew.out]
  try rw [Hz.out]
  clear Ew
  by_cases h6 : pr = 6
  · have p6 : (pr == 6) = true := by simpa using h6
    have His := Lib.hid (show sayIs pr f = true by unfold sayIs; simp [h6])
    have Ht := Lib.hid (show sayTu pr f s last = ⟨pr, 0, 0, f, s⟩ ∧ saySeq pr last = last by unfold sayTu saySeq; rw [if_pos (.inl h6), if_pos h6]; exact ⟨rfl, rfl⟩)
    clear h6
    obtain ⟨t0, t1, t2, t3, t4⟩ := cells5 HK2.out
    have fz := fun i => blk_free HK1.out i
    obtain ⟨u0, u1, u2, u3, u4, u5⟩ := cells6 HK1.out
    go_wp2_with fail
    exact bodyPost_ret (v := .tuple #[.agg #[.int .u8 pr, .int .u32 0, .int .u32 0, .int .u16 f, .int .u16 s, .int .u32 last], .bool true]) (results_row_tmp rfl _ _ (z0 + 1) _ _ _ _ _ rfl rfl (set6_blk HK1.out _ _ _ _ _ _) Try.underlying28 rfl (by kernel_rfl)) rfl ⟨⟨pr, 0, 0, f, s⟩, last, by rw [His.out], fun _ => ⟨Ht.out.1.symm, Ht.out.2.symm⟩, set6_below Hb0.out Hle.out _ _ _ _ _ _⟩
  · have p6 : (pr == 6) = false := by simpa using h6
    by_cases h17 : pr = 17
    · have p17 : (pr == 17) = true := by simpa using h17
      have His := Lib.hid (show sayIs pr f = true by unfold sayIs; simp [h17])
      have Ht := Lib.hid (show sayTu pr f s last = ⟨pr, 0, 0, f, s⟩ ∧ saySeq pr last = 0 by unfold sayTu saySeq; rw [if_pos (.inr h17), if_neg h6]; exact ⟨rfl, rfl⟩)
      clear h6 h17
      obtain ⟨t0, t1, t2, t3, t4⟩ := cells5 HK2.out
      have fz := fun i => blk_free HK1.out i
      obtain ⟨u0, u1, u2, u3, u4, u5⟩ := cells6 HK1.out
      go_wp2_with fail
      exact bodyPost_ret (v := .tuple #[.agg #[.int .u8 pr, .int .u32 0, .int .u32 0, .int .u16 f, .int .u16 s, .int .u32 0], .bool true]) (results_row_tmp rfl _ _ (z0 + 1) _ _ _ _ _ rfl rfl (set6_blk HK1.out _ _ _ _ _ _) Try.underlying28 rfl (by kernel_rfl)) rfl ⟨⟨pr, 0, 0, f, s⟩, 0, by rw [His.out], fun _ => ⟨Ht.out.1.symm, Ht.out.2.symm⟩, set6_below Hb0.out Hle.out _ _ _ _ _ _⟩
    · have p17 : (pr == 17) = false := by simpa using h17
      by_cases h1 : pr = 1
      · have p1 : (pr == 1) = true := by simpa using h1
        obtain ⟨ty, ety⟩ : ∃ y, f / 256 = y := ⟨_, rfl⟩
        obtain ⟨cd, ecd⟩ : ∃ y, f % 256 = y := ⟨_, rfl⟩
        have hw1 : IntKind.u8.wrap (f / 256) = ty := by rw [← ety]; exact IntWalk.u8_in _ (by obtain ⟨_, _⟩ := Hf.out; omega)
        have hw2 : IntKind.u8.wrap f = cd := by rw [← ecd]; simp [IntKind.wrap, IntKind.bits, IntKind.signed]
        obtain ⟨is, eis⟩ : ∃ y, echoM ty cd = y := ⟨_, rfl⟩
        have His := Lib.hid (show sayIs pr f = is by unfold sayIs; rw [ety, ecd, eis]; simp [h1])
        have Ht := Lib.hid (show sayTu pr f s last = ⟨pr, 0, 0, last / 65536, 0⟩ ∧ saySeq pr last = 0 by unfold sayTu saySeq; rw [if_neg (by omega), if_neg h6]; exact ⟨rfl, rfl⟩)
        have He := Lib.hid (fun W => echo8_any ty cd last none 0 0 W Hl.out)
        have Eis := Lib.hid eis
        clear h6 h17 h1 ety ecd eis
        go_wp2_with fail
        refine (He.out _).mono ?_
        rintro e w4 ⟨h4, hb4⟩
        rw [Eis.out] at h4
        have hb4 := on_alloc hb4
        have HK1 := Lib.hid (blk_on HK1.out hb4)
        have Hb4 := Lib.hid (below_trans Hb0.out hb4)
        clear hb4
        have fz := fun i => blk_free HK1.out i
        obtain ⟨u0, u1, u2, u3, u4, u5⟩ := cells6 HK1.out
        cases is with
        | true =>
          rw [if_pos rfl] at h4
          subst h4
          go_wp2_with fail
          exact bodyPost_ret (v := .tuple #[.agg #[.int .u8 pr, .int .u32 0, .int .u32 0, .int .u16 (last / 65536), .int .u16 0, .int .u32 0], .bool true]) (results_row_tmp rfl _ _ (z0 + 1) _ _ _ _ _ rfl rfl (set6_blk HK1.out _ _ _ _ _ _) Try.underlying28 rfl (by kernel_rfl)) rfl ⟨⟨pr, 0, 0, last / 65536, 0⟩, 0, by rw [His.out], fun _ => ⟨Ht.out.1.symm, Ht.out.2.symm⟩, set6_below Hb4.out Hle.out _ _ _ _ _ _⟩
        | false =>
          rw [if_neg (by decide)] at h4
          subst h4
          go_wp2_with fail
          exact bodyPost_ret (v := .tuple #[.agg #[.int .u8 pr, .int .u32 0, .int .u32 0, .int .u16 0, .int .u16 0, .int .u32 0], .bool false]) (results_row_tmp rfl _ _ (z0 + 1) _ _ _ _ _ rfl rfl (set6_blk HK1.out _ _ _ _ _ _) Try.underlying28 rfl (by kernel_rfl)) rfl ⟨⟨pr, 0, 0, 0, 0⟩, 0, by rw [His.out], fun h => (by rw [His.out] at h; cases h), set6_below Hb4.out Hle.out _ _ _ _ _ _⟩
      · have p1 : (pr == 1) = false := by simpa using h1
        have His := Lib.hid (show sayIs pr f = false by unfold sayIs; simp [h1, h6, h17])
        clear h6 h17 h1
        have fz := fun i => blk_free HK1.out i
        obtain ⟨u0, u1, u2, u3, u4, u5⟩ := cells6 HK1.out
        go_wp2_with fail
        exact bodyPost_ret (v := .tuple #[.agg #[.int .u8 0, .int .u32 0, .int .u32 0, .int .u16 0, .int .u16 0, .int .u32 0], .bool false]) (results_row_tmp rfl _ _ (z0 + 1) _ _ _ _ _ rfl rfl (set6_blk HK1.out _ _ _ _ _ _) Try.underlying28 rfl (by kernel_rfl)) rfl ⟨⟨0, 0, 0, 0, 0⟩, 0, by rw [His.out], fun h => (by rw [His.out] at h; cases h), set6_below Hb0.out Hle.out _ _ _ _ _ _⟩
end Go.Proofs.Ytoegfgbalcholaa

/-
  What package inner's closure does, step by step, in plain lists: the same as the document's own rewriting (stage 16). Nothing of the program.
-/
namespace Go.Proofs.Ytoegfgbalcholaa
set_option maxRecDepth 10000
set_option linter.unusedSimpArgs false
set_option linter.unusedVariables false

theorem layL_over (b : List Int) (k : Nat) (x y : Int) : layL (layL b k x) k y = layL b k y := by
  unfold layL
  rw [List.set_comm _ _ (show 2 * k + 1 ≠ 2 * k by omega), List.set_set, List.set_set]
theorem layL_comm (b : List Int) {j k : Nat} (h : j ≠ k) (x y : Int) : layL (layL b j x) k y = layL (layL b k y) j x := by
  unfold layL
  rw [List.set_comm _ _ (show 2 * j + 1 ≠ 2 * k by omega), List.set_comm _ _ (show 2 * j ≠ 2 * k by omega), List.set_comm _ _ (show 2 * j + 1 ≠ 2 * k + 1 by omega), List.set_comm _ _ (show 2 * j ≠ 2 * k + 1 by omega)]
/-- The program's step: a word becomes another one, the fields follow at once. -/
def ownS (pr : Int) (H : Nat) (th : Bool) (b : List Int) (k : Nat) (x : Int) : List Int :=
  if th = true ∧ (H ≤ k ∨ pr ≠ 1) then layL (headW H b k x) (qF pr H) (fixP pr (wordL (headW H b k x) (qF pr H)) (wordL b k) x) else headW H b k x
def ownR (pr : Int) (H : Nat) (th : Bool) (ks : List (Nat × Int)) (b : List Int) : List Int := ks.foldl (fun c p => ownS pr H th c p.1 p.2) b
/-- A field that is 0 and may not be so. -/
def normQ (pr : Int) (F : Nat) (c : List Int) : List Int := if pr ≠ 6 ∧ wordL c F = 0 then layL c F 65535 else c
theorem headW_len (H : Nat) (b : List Int) (k : Nat) (x : Int) : (headW H b k x).length = b.length := by unfold headW; split <;> simp [layL_len]
theorem headW_byte {H : Nat} {b : List Int} (h : Bytes b) (k : Nat) {x : Int} (hx : U16 x) : Bytes (headW H b k x) := by
  unfold headW
  split
  · exact layL_byte (layL_byte h k hx) 5 (wordF_bd _ _ _ (wordL_bd (layL_byte h k hx) 5) (wordL_bd h k) hx)
  · exact layL_byte h k hx
theorem ownS_len (pr : Int) (H : Nat) (th : Bool) (b : List Int) (k : Nat) (x : Int) : (ownS pr H th b k x).length = b.length := by
  unfold ownS; split
  · rw [layL_len, headW_len]
  · exact headW_len _ _ _ _
theorem ownS_byte {pr : Int} {H : Nat} {th : Bool} {b : List Int} (h : Bytes b) (k : Nat) {x : Int} (hx : U16 x) : Bytes (ownS pr H th b k x) := by
  have hb := headW_byte (H := H) h k hx
  unfold ownS; split
  · exact layL_byte hb _ (fixP_bd _ (wordL_bd hb _) (wordL_bd h k) hx)
  · exact hb
/-- The document's step, where the payload's field follows. -/
theorem chQ_two {H F k : Nat} (Q : List Int) (x : Int) : chQ (if k < H then [5, F] else [F]) Q k x = layL (headW H Q k x) F (wordF (wordL (headW H Q k x) F) (wordL Q k) x) := by
  unfold chQ headW fldQ
  by_cases h : k < H
  · rw [if_pos h, if_pos h]; rfl
  · rw [if_neg h, if_neg h]; rfl
theorem chQ_one {H k : Nat} (Q : List Int) (x : Int) : chQ (if k < H then [5] else []) Q k x = headW H Q k x := by
  unfold chQ headW fldQ
  by_cases h : k < H
  · rw [if_pos h, if_pos h]; rfl
  · rw [if_neg h, if_neg h]; rfl
theorem fixP_same {pr f was x : Int} (hp : pr ≠ 6) (hw : U16 was) (hx : U16 x) : fixP pr 65535 was x = fixP pr 0 was x := by
  obtain ⟨a1, a2⟩ := fixP_bd pr (show U16 65535 from ⟨by omega, by omega⟩) hw hx
  obtain ⟨b1, b2⟩ := fixP_bd pr (show U16 0 from ⟨by omega, by omega⟩) hw hx
  have a3 := fixP_nz (f := 65535) (was := was) (n := x) hp
  have b3 := fixP_nz (f := 0) (was := was) (n := x) hp
  have a4 := fixP_mod pr 65535 was x
  have b4 := fixP_mod pr 0 was x
  omega
/-- A step that the field follows: from the document's row, or from it as it may be. -/
theorem own_step {pr : Int} {H k : Nat} {P Q : List Int} {x : Int} (hb : Bytes Q) (hx : U16 x) (hF : 2 * qF pr H + 1 < Q.length) (h5 : qF pr H ≠ 5) (hk : k ≠ qF pr H) (ho : H ≤ k ∨ pr ≠ 1) (hP : P = Q ∨ P = normQ pr (qF pr H) Q) :
    ownS pr H true P k x = normQ pr (qF pr H) (chQ (if k < H then [5, qF pr H] else [qF pr H]) Q k x) := by
  obtain ⟨F, eF⟩ : ∃ F, qF pr H = F := ⟨_, rfl⟩
  rw [eF] at hF h5 hk hP ⊢
  have hln : 2 * F + 1 < (headW H Q k x).length := by rw [headW_len]; exact hF
  have key : ∀ y, normQ pr F (layL (headW H Q k x) F y) = layL (headW H Q k x) F (if pr ≠ 6 ∧ y = 0 then 65535 else y) := by
    intro y
    unfold normQ
    rw [wordL_lay_same _ _ _ hln]
    by_cases h : pr ≠ 6 ∧ y = 0
    · rw [if_pos h, if_pos h, layL_over]
    · rw [if_neg h, if_neg h]
  have self : ownS pr H true Q k x = normQ pr F (chQ (if k < H then [5, F] else [F]) Q k x) := by
    rw [chQ_two, key]
    unfold ownS
    rw [if_pos ⟨rfl, ho⟩, eF]
    rfl
  rcases hP with rfl | rfl
  · exact self
  · by_cases h0 : pr ≠ 6 ∧ wordL Q F = 0
    · have e : normQ pr F Q = layL Q F 65535 := by unfold normQ; rw [if_pos h0]
      rw [e, chQ_two, key]
      have hc : headW H (layL Q F 65535) k x = layL (headW H Q k x) F 65535 := by
        unfold headW
        rw [wordL_lay_other _ F k _ (fun e => hk e.symm), layL_comm Q (fun e => hk e.symm)]
        by_cases h : k < H
        · rw [if_pos h, if_pos h, wordL_lay_other _ F 5 _ h5, layL_comm _ h5]
        · rw [if_neg h, if_neg h]
      have hwc : wordL (headW H Q k x) F = 0 := by rw [headW_word h5 (fun e => hk e.symm)]; exact h0.2
      unfold ownS
      rw [if_pos ⟨rfl, ho⟩, eF, hc, wordL_lay_same _ _ _ hln, layL_over, wordL_lay_other _ F k _ (fun e => hk e.symm), hwc]
      have := fixP_same (f := 0) h0.1 (wordL_bd hb k) hx
      rw [this]
      rfl
    · have e : normQ pr F Q = Q := by unfold normQ; rw [if_neg h0]
      rw [e]
      exact self
/-- A row of such steps. -/
theorem own_run {pr : Int} {H : Nat} (fs : List Nat) (h5 : qF pr H ≠ 5) : ∀ (ks : List (Nat × Int)) (Q : List Int), Bytes Q → 2 * qF pr H + 1 < Q.length →
    (∀ p ∈ ks, U16 p.2 ∧ p.1 ≠ qF pr H ∧ (H ≤ p.1 ∨ pr ≠ 1) ∧ fs = (if p.1 < H then [5, qF pr H] else [qF pr H]) ∧ (∀ M : List Int, Bytes M → M.length = Q.length → MayQ fs M p.1 p.2)) →
    ownR pr H true ks (normQ pr (qF pr H) Q) = normQ pr (qF pr H) (runQ fs ks Q)
  | [], _, _, _, _ => rfl
  | p :: ks, Q, hb, hF, h => by
    obtain ⟨h1, h2, h3, h4, h6⟩ := h p (List.mem_cons_self ..)
    have hm := h6 Q hb rfl
    have e1 : ownR pr H true (p :: ks) (normQ pr (qF pr H) Q) = ownR pr H true ks (ownS pr H true (normQ pr (qF pr H) Q) p.1 p.2) := rfl
    have e2 : runQ fs (p :: ks) Q = runQ fs ks (chQ fs Q p.1 p.2) := rfl
    rw [e1, e2, own_step hb h1 hF h5 h2 h3 (.inr rfl), ← h4]
    have hl := chQ_len fs Q p.1 p.2
    exact own_run fs h5 ks _ hm.bytes (by rw [hl]; exact hF) (fun q hq => by
      obtain ⟨g1, g2, g3, g4, g6⟩ := h q (List.mem_cons_of_mem _ hq)
      exact ⟨g1, g2, g3, g4, fun M hM hl2 => g6 M hM (hl2.trans hl)⟩)
/-- A row of steps that the payload's field does not follow. -/
theorem own_plain {pr : Int} {H : Nat} {th : Bool} (fs : List Nat) : ∀ (ks : List (Nat × Int)) (Q : List Int), (∀ p ∈ ks, ¬ (th = true ∧ (H ≤ p.1 ∨ pr ≠ 1)) ∧ fs = (if p.1 < H then [5] else [])) → ownR pr H th ks Q = runQ fs ks Q
  | [], _, _ => rfl
  | p :: ks, Q, h => by
    obtain ⟨h1, h2⟩ := h p (List.mem_cons_self ..)
    have e1 : ownR pr H th (p :: ks) Q = ownR pr H th ks (ownS pr H th Q p.1 p.2) := rfl
    have e2 : runQ fs (p :: ks) Q = runQ fs ks (chQ fs Q p.1 p.2) := rfl
    have e3 : ownS pr H th Q p.1 p.2 = chQ fs Q p.1 p.2 := by
      rw [h2, chQ_one]
      unfold ownS
      rw [if_neg h1]
    rw [e1, e2, e3]
    exact own_plain fs ks _ (fun q hq => h q (List.mem_cons_of_mem _ hq))
theorem ownR_app (pr : Int) (H : Nat) (th : Bool) (k1 k2 : List (Nat × Int)) (b : List Int) : ownR pr H th (k1 ++ k2) b = ownR pr H th k2 (ownR pr H th k1 b) := by
  unfold ownR; rw [List.foldl_append]
def thQ (b : List Int) : Bool := decide (partQ b ≠ [])
/-- The program's rewriting is the document's. -/
theorem own_is {b : List Int} {t : Tu} {sh : Int} (hb : Bytes b) (he : errQ b = 0) (ht : TuNum t) : ownR (b.getD 9 0) (qH b) (thQ b) (headQ t ++ portsQ b t (seqQ b sh)) b = rwQ b t sh := by
  obtain ⟨⟨_, h10, hl, _⟩, hp⟩ := errQ_ok he
  obtain ⟨pr, epr⟩ : ∃ p, b.getD 9 0 = p := ⟨_, rfl⟩
  obtain ⟨H, eH⟩ : ∃ H, qH b = H := ⟨_, rfl⟩
  obtain ⟨s, es⟩ : ∃ s, seqQ b sh = s := ⟨_, rfl⟩
  have hs : 0 ≤ s ∧ s < 4294967296 := by rw [← es]; unfold seqQ; omega
  have hpr : pr = 6 ∨ pr = 17 ∨ pr = 1 := by rw [epr] at hp; rcases hp with h | h | h; exact .inl h; exact .inr (.inl h); exact .inr (.inr h.1)
  have h1 := ht.sr; have h2 := ht.ds; have h3 := ht.sp; have h4 := ht.dp
  rw [epr, eH, es, ownR_app]
  unfold rwQ
  rw [es]
  rw [eH] at h10 hl
  have hFb : H + 1 ≤ qF pr H := by unfold qF; split; omega; split <;> omega
  have hF6 : pr ≠ 1 → H + 3 ≤ qF pr H := by intro h; unfold qF; split; omega; split <;> omega
  have hF7 : pr = 6 → qF pr H = H + 8 := by intro h; unfold qF; rw [if_pos h]
  have hF1 : pr = 1 → qF pr H = H + 1 := by intro h; unfold qF; rw [if_neg (by omega), if_neg (by omega)]
  have hF17 : pr = 17 → qF pr H = H + 3 := by intro h; unfold qF; rw [if_neg (by omega), if_pos h]
  have hhk : ∀ p ∈ headQ t, U16 p.2 ∧ 6 ≤ p.1 ∧ p.1 ≤ 9 := by
    intro p hp
    unfold headQ at hp; simp only [List.mem_cons, List.not_mem_nil, or_false] at hp
    rcases hp with rfl | rfl | rfl | rfl <;> exact ⟨⟨by simp only; omega, by simp only; omega⟩, by simp, by simp⟩
  have hpk : ∀ p ∈ portsQ b t s, H ≤ p.1 ∧ p.1 ≤ H + 3 ∧ U16 p.2 ∧ p.1 ≠ qF pr H := by
    intro p hp
    unfold portsQ at hp
    rw [epr, eH] at hp
    by_cases h9 : pr = 1
    · have := hF1 h9
      rw [if_pos h9] at hp
      rcases List.mem_singleton.1 hp
      exact ⟨by simp only; omega, by simp only; omega, ⟨by simp only; omega, by simp only; omega⟩, by simp only; omega⟩
    · rw [if_neg h9] at hp
      have := hF6 h9
      rcases List.mem_append.1 hp with hp | hp
      · simp only [List.mem_cons, List.not_mem_nil, or_false] at hp
        rcases hp with rfl | rfl
        · exact ⟨by simp only; omega, by simp only; omega, ⟨by simp only; omega, by simp only; omega⟩, by simp only; omega⟩
        · exact ⟨by simp only; omega, by simp only; omega, ⟨by simp only; omega, by simp only; omega⟩, by simp only; omega⟩
      · by_cases h6 : pr = 6
        · rw [if_pos h6] at hp
          have := hF7 h6
          simp only [List.mem_cons, List.not_mem_nil, or_false] at hp
          rcases hp with rfl | rfl
          · exact ⟨by simp only; omega, by simp only; omega, ⟨by simp only; omega, by simp only; omega⟩, by simp only; omega⟩
          · exact ⟨by simp only; omega, by simp only; omega, ⟨by simp only; omega, by simp only; omega⟩, by simp only; omega⟩
        · rw [if_neg h6] at hp; cases hp
  have hpc := part_cases b
  rw [epr, eH] at hpc
  rcases hpc with hpt | ⟨hpt, hlen⟩
  · -- no field
    have eth : thQ b = false := by unfold thQ; rw [hpt]; rfl
    have ebo : bothQ b = [5] := by unfold bothQ; rw [hpt]; simp
    have efx : ∀ c, fixQ b c = c := fun c => by unfold fixQ; rw [if_neg (fun h => h.2.1 hpt)]
    rw [efx, eth, ebo, hpt, own_plain [5] (headQ t) b (fun p hp => ⟨by simp, by rw [if_pos (by have := hhk p hp; omega)]⟩), own_plain [] (portsQ b t s) _ (fun p hp => ⟨by simp, by rw [if_neg (by have := hpk p hp; omega)]⟩)]
  · have eth : thQ b = true := by unfold thQ; rw [hpt]; simp
    have efx : ∀ c, fixQ b c = normQ pr (qF pr H) c := fun c => by
      unfold fixQ normQ
      rw [epr, eH, hpt]
      by_cases h : pr ≠ 6 ∧ wordL c (qF pr H) = 0
      · rw [if_pos h, if_pos ⟨h.1, by simp, h.2⟩]
      · rw [if_neg h, if_neg (fun hc => h ⟨hc.1, hc.2.2⟩)]
    rw [efx, eth, hpt]
    by_cases h9 : pr = 1
    · -- an echo: the head does not count
      have ebo : bothQ b = [5] := by unfold bothQ; rw [epr, if_pos h9]
      rw [ebo, own_plain [5] (headQ t) b (fun p hp => ⟨by have := hhk p hp; rintro ⟨_, h | h⟩; omega; exact h h9, by rw [if_pos (by have := hhk p hp; omega)]⟩)]
      obtain ⟨c, ec⟩ : ∃ c, runQ [5] (headQ t) b = c := ⟨_, rfl⟩
      have hcs := runQ_spec [5] (headQ t) b hb (fun p hp => by
        have := hhk p hp
        exact ⟨by omega, this.1, by simp; omega⟩) (by simp) (fun f hf => by rw [List.mem_singleton] at hf; omega) (by unfold headQ; simp)
      rw [ec] at hcs ⊢
      have epo : portsQ b t s = [(H + 2, t.sp)] := by unfold portsQ; rw [epr, eH, if_pos h9]
      rw [epo]
      have := own_step (pr := pr) (H := H) (k := H + 2) (P := c) (Q := c) (x := t.sp) hcs.2.1 ⟨by omega, by omega⟩ (by rw [hcs.1]; omega) (by omega) (by have := hF1 h9; omega) (.inl (by omega)) (.inl rfl)
      rw [if_neg (by omega)] at this
      exact this
    · have ebo : bothQ b = [5, qF pr H] := by unfold bothQ; rw [epr, if_neg h9, hpt]
      have enb : normQ pr (qF pr H) b = b := by
        unfold normQ
        rw [if_neg]
        rintro ⟨h6, h0⟩
        have h17 : pr = 17 := by omega
        have : partQ b = [] := by
          unfold partQ
          rw [epr, eH, if_neg (fun h => h.2 ⟨h17, h0⟩)]
        rw [hpt] at this
        cases this
      rw [ebo]
      have e1 := own_run (pr := pr) (H := H) [5, qF pr H] (by omega) (headQ t) b hb (by omega) (fun p hp => by
        have hq := hhk p hp
        have := hF6 h9
        exact ⟨hq.1, by omega, .inr h9, by rw [if_pos (by omega)], fun M hM hlM => ⟨hM, by omega, hq.1, fun f hf => by
          simp only [List.mem_cons, List.not_mem_nil, or_false] at hf
          rcases hf with rfl | rfl <;> exact ⟨by omega, by omega⟩, by simp; omega⟩⟩)
      rw [enb] at e1
      obtain ⟨c, ec⟩ : ∃ c, runQ [5, qF pr H] (headQ t) b = c := ⟨_, rfl⟩
      have hcs := runQ_spec [5, qF pr H] (headQ t) b hb (fun p hp => by
        have := hhk p hp
        exact ⟨by omega, this.1, by simp; omega⟩) (by simp; omega) (fun f hf => by simp only [List.mem_cons, List.not_mem_nil, or_false] at hf; rcases hf with rfl | rfl <;> omega) (by unfold headQ; simp)
      rw [ec] at e1 hcs ⊢
      rw [e1]
      exact own_run (pr := pr) (H := H) [qF pr H] (by omega) (portsQ b t s) c hcs.2.1 (by rw [hcs.1]; omega) (fun p hp => by
        obtain ⟨g1, g2, g3, g4⟩ := hpk p hp
        exact ⟨g3, g4, .inr h9, by rw [if_neg (by omega)], fun M hM hlM => ⟨hM, by rw [hlM, hcs.1]; omega, g3, fun f hf => by
          rw [List.mem_singleton] at hf; subst hf; exact ⟨by rw [hlM, hcs.1]; omega, fun e => g4 e.symm⟩, by simp⟩⟩)
end Go.Proofs.Ytoegfgbalcholaa
