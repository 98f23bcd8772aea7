/-
  Texts laid together: InQuote, InSay, InRun, InFld.
-/
import Derived.Test.YtoegfgbalcholaaZB12
import Derived.Test.YtoegfgbalcholaaZB24
import Derived.Test.YtoegfgbalcholaaZB19
import Derived.Test.YtoegfgbalcholaaZB05
import Derived.Test.YtoegfgbalcholaaZB15
import Derived.Test.YtoegfgbalcholaaZB23
import Derived.Test.YtoegfgbalcholaaZB07
import Derived.Test.YtoegfgbalcholaaZB16
import Derived.Deep.DeepCutAuto
import Derived.Test.YtoegfgbalcholaaZB01
import Derived.Test.YtoegfgbalcholaaZB06
import Derived.Deep.QuietTactic
import Derived.BigQuiet
import Derived.Deep.CutRange

/-
  culvertlaw16's quote (stage 16, written ahead).
-/
namespace Go.Proofs.Ytoegfgbalcholaa
set_option maxRecDepth 10000
open Go.RowKit
set_option linter.unusedSimpArgs false
set_option linter.unusedVariables false

theorem quo_1 : errS quoS = 0 := by decide +kernel
theorem quo_told : toldB 167772161 167772162 quoS = quoP := by unfold toldB; rw [if_pos quo_1]; rfl
theorem quote16_any (w : World) (L : List Int) (hL : quoL = L) : Calls Try.prog 21 #[] w (RowIs 40 L w) := by
  have HL := Lib.hid hL
  obtain ⟨P, eP⟩ : ∃ P, quoP = P := ⟨_, rfl⟩
  have HP := Lib.hid eP
  have HC := Lib.hid (show Calls Try.prog 31 #[.int .u32 167772161, .int .u32 167772162, .agg #[.int .u16 5, .int .u16 80, .int .u32 9, .int .u32 0, .int .u8 16, .int .u16 0, .int .u16 0, .slice none 0 0, .slice none 0 0]] w (PutGot P 20 0 w) from
    put6_got 167772161 167772162 quoS none 0 0 [] none 0 0 w P 20 0 (by decide) (by decide) ⟨⟨by decide, by decide, by decide, by decide, by decide, by decide, by decide⟩, ⟨Nat.le_refl _, by simp [maxLen]⟩, ⟨Nat.le_refl _, by simp [maxLen]⟩, RdO.nil _ _, trivial, Rd.nil _ _⟩ quo_1 (quo_told.trans eP) (by rw [← eP]; exact quo_2))
  clear hL eP
  go_enter Try.func21, Try.ntmps21
  go_wp2_with fail
  refine HC.out.mono ?_
  rintro e w1 ⟨A1, c1, rfl, hc1, hr1, hb1⟩
  have Hr1 := Lib.hid hr1
  have Hc1 := Lib.hid hc1
  have HB1 := Lib.hid hb1
  clear hr1 hc1 hb1 HC
  go_wp2_with fail
  refine (put_ok 0 0 9 6 167772161 167772162 false none A1 0 0 20 c1 [] P _ (by omega) (by omega) (by omega) (by omega) (by omega) (by omega) (by decide) (by omega) ⟨by omega, by simp [maxLen]⟩ Hc1.out (by omega) (Rd.nil _ _) Hr1.out).mono ?_
  rintro e w2 ⟨A2, c2, rfl, hc2, hcm2, ho2, hb2⟩
  have HO2 := Lib.hid (show OwnB w2 w1.heap.size A2 40 c2 L by rw [← HL.out]; unfold quoL; rw [HP.out]; exact ho2)
  have HB2 := Lib.hid (below_trans HB1.out hb2)
  have Hc2 := Lib.hid (And.intro hc2 hcm2)
  clear ho2 hb2 hc2 hcm2
  go_wp2_with fail
  go_ret
  exact ⟨A2, c2, rfl, Hc2.out.1, Hc2.out.2, HO2.out.mono HB1.out.size, HB2.out⟩
theorem quof : QuoF := fun w => quote16_any w quoL rfl
end Go.Proofs.Ytoegfgbalcholaa

/-
  Package inner's say: what the beginning behind a header says.
-/
namespace Go.Proofs.Ytoegfgbalcholaa
set_option maxRecDepth 10000
open Go.RowKit
set_option linter.unusedSimpArgs false
set_option linter.unusedVariables false

/-- What is said: the tuple (without addresses), the number. -/
def sayTu (pr f s last : Int) : Tu := if pr = 6 ∨ pr = 17 then ⟨pr, 0, 0, f, s⟩ else ⟨pr, 0, 0, last / 65536, 0⟩
def saySeq (pr last : Int) : Int := if pr = 6 then last else 0
def sayIs (pr f : Int) : Bool := decide (pr = 6 ∨ pr = 17 ∨ (pr = 1 ∧ echoM (f / 256) (f % 256) = true))
def SayIs (pr f s last : Int) (w : World) (e : Ending) (w' : World) : Prop :=
  ∃ t q, e = .returned (.tuple #[.agg #[.int .u8 t.pr, .int .u32 t.sr, .int .u32 t.ds, .int .u16 t.sp, .int .u16 t.dp, .int .u32 q], .bool (sayIs pr f)]) ∧ (sayIs pr f = true → t = sayTu pr f s last ∧ q = saySeq pr last) ∧ Below w.heap.size w w'
set_option maxHeartbeats 1000000 in
theorem say16_any (pr f s last : Int) (w : World) (hp : 0 ≤ pr ∧ pr < 256) (hf : U16 f) (hs : U16 s) (hl : 0 ≤ last ∧ last < 4294967296) :
    Calls Try.prog 52 #[.agg #[.int .u16 f, .int .u16 s, .int .u32 last], .int .u8 pr] w (SayIs pr f s last w) := by
  obtain ⟨z0, hz⟩ : ∃ z, w.heap.size = z := ⟨_, rfl⟩
  obtain ⟨w0, ew⟩ : ∃ v, ((w.alloc (.cells #[.int .u16 f, .int .u16 s, .int .u32 last] 100)).alloc (.cells #[.int .u8 0, .int .u32 0, .int .u32 0, .int .u16 0, .int .u16 0, .int .u32 0] 28)).alloc (.cells #[.int .u8 pr, .int .u32 0, .int .u32 0, .int .u16 f, .int .u16 s] 26) = v := ⟨_, rfl⟩
  have hb0 : Below w.heap.size w w0 := by rw [← ew]; exact (((Below.refl _ _).alloc (Nat.le_refl _) _).alloc (by simp) _).alloc (by simp; omega) _
  have hk0 : w0.heap[z0]? = some (.cells #[.int .u16 f, .int .u16 s, .int .u32 last] 100 (0, 0)) := by rw [← ew, Below.heap_alloc _ _ _ (by simp [hz]; omega), Below.heap_alloc _ _ _ (by simp [hz]), ← hz]; exact heap_alloc_new w _
  have hk1 : w0.heap[z0 + 1]? = some (.cells #[.int .u8 0, .int .u32 0, .int .u32 0, .int .u16 0, .int .u16 0, .int .u32 0] 28 (0, 0)) := by
    rw [← ew, Below.heap_alloc _ _ _ (by simp [hz]), ← hz]; simpa using heap_alloc_new (w.alloc (.cells #[.int .u16 f, .int .u16 s, .int .u32 last] 100)) (.cells #[.int .u8 0, .int .u32 0, .int .u32 0, .int .u16 0, .int .u16 0, .int .u32 0] 28)
  have hk2 : w0.heap[z0 + 1 + 1]? = some (.cells #[.int .u8 pr, .int .u32 0, .int .u32 0, .int .u16 f, .int .u16 s] 26 (0, 0)) := by
    rw [← ew, ← hz]; simpa using heap_alloc_new ((w.alloc (.cells #[.int .u16 f, .int .u16 s, .int .u32 last] 100)).alloc (.cells #[.int .u8 0, .int .u32 0, .int .u32 0, .int .u16 0, .int .u16 0, .int .u32 0] 28)) (.cells #[.int .u8 pr, .int .u32 0, .int .u32 0, .int .u16 f, .int .u16 s] 26)
  have c0 : w0.cell? ⟨z0, 0, none⟩ = some (.int .u16 f) := blk_cell hk0 0
  have c1 : w0.cell? ⟨z0, 1, none⟩ = some (.int .u16 s) := blk_cell hk0 1
  have c2 : w0.cell? ⟨z0, 2, none⟩ = some (.int .u32 last) := blk_cell hk0 2
  have HK0 := Lib.hid hk0
  have HK1 := Lib.hid hk1
  have HK2 := Lib.hid hk2
  have Hb0 := Lib.hid hb0
  have Ew := Lib.hid ew
  have Hz := Lib.hid hz
  have Hl := Lib.hid hl
  have Hf := Lib.hid hf
  have Hp := Lib.hid hp
  have Hle := Lib.hid (show w.heap.size ≤ z0 + 1 by omega)
  clear hb0 ew hz hf hk0 hk1 hk2 hl hp
  go_enter Try.func52, Try.ntmps52
  go_upto_region 2 with (fail)
  rw [Ew.out]
  try rw [Hz.out]
  clear Ew
  by_cases h6 : pr = 6
  · have p6 : (pr == 6) = true := by simpa using h6
    have His := Lib.hid (show sayIs pr f = true by unfold sayIs; simp [h6])
    have Ht := Lib.hid (show sayTu pr f s last = ⟨pr, 0, 0, f, s⟩ ∧ saySeq pr last = last by unfold sayTu saySeq; rw [if_pos (.inl h6), if_pos h6]; exact ⟨rfl, rfl⟩)
    clear h6
    obtain ⟨t0, t1, t2, t3, t4⟩ := cells5 HK2.out
    have fz := fun i => blk_free HK1.out i
    obtain ⟨u0, u1, u2, u3, u4, u5⟩ := cells6 HK1.out
    go_wp2_with fail
    exact bodyPost_ret (v := .tuple #[.agg #[.int .u8 pr, .int .u32 0, .int .u32 0, .int .u16 f, .int .u16 s, .int .u32 last], .bool true]) (results_row_tmp rfl _ _ (z0 + 1) _ _ _ _ _ rfl rfl (set6_blk HK1.out _ _ _ _ _ _) Try.underlying28 rfl (by kernel_rfl)) rfl ⟨⟨pr, 0, 0, f, s⟩, last, by rw [His.out], fun _ => ⟨Ht.out.1.symm, Ht.out.2.symm⟩, set6_below Hb0.out Hle.out _ _ _ _ _ _⟩
  · have p6 : (pr == 6) = false := by simpa using h6
    by_cases h17 : pr = 17
    · have p17 : (pr == 17) = true := by simpa using h17
      have His := Lib.hid (show sayIs pr f = true by unfold sayIs; simp [h17])
      have Ht := Lib.hid (show sayTu pr f s last = ⟨pr, 0, 0, f, s⟩ ∧ saySeq pr last = 0 by unfold sayTu saySeq; rw [if_pos (.inr h17), if_neg h6]; exact ⟨rfl, rfl⟩)
      clear h6 h17
      obtain ⟨t0, t1, t2, t3, t4⟩ := cells5 HK2.out
      have fz := fun i => blk_free HK1.out i
      obtain ⟨u0, u1, u2, u3, u4, u5⟩ := cells6 HK1.out
      go_wp2_with fail
      exact bodyPost_ret (v := .tuple #[.agg #[.int .u8 pr, .int .u32 0, .int .u32 0, .int .u16 f, .int .u16 s, .int .u32 0], .bool true]) (results_row_tmp rfl _ _ (z0 + 1) _ _ _ _ _ rfl rfl (set6_blk HK1.out _ _ _ _ _ _) Try.underlying28 rfl (by kernel_rfl)) rfl ⟨⟨pr, 0, 0, f, s⟩, 0, by rw [His.out], fun _ => ⟨Ht.out.1.symm, Ht.out.2.symm⟩, set6_below Hb0.out Hle.out _ _ _ _ _ _⟩
    · have p17 : (pr == 17) = false := by simpa using h17
      by_cases h1 : pr = 1
      · have p1 : (pr == 1) = true := by simpa using h1
        obtain ⟨ty, ety⟩ : ∃ y, f / 256 = y := ⟨_, rfl⟩
        obtain ⟨cd, ecd⟩ : ∃ y, f % 256 = y := ⟨_, rfl⟩
        have hw1 : IntKind.u8.wrap (f / 256) = ty := by rw [← ety]; exact IntWalk.u8_in _ (by obtain ⟨_, _⟩ := Hf.out; omega)
        have hw2 : IntKind.u8.wrap f = cd := by rw [← ecd]; simp [IntKind.wrap, IntKind.bits, IntKind.signed]
        obtain ⟨is, eis⟩ : ∃ y, echoM ty cd = y := ⟨_, rfl⟩
        have His := Lib.hid (show sayIs pr f = is by unfold sayIs; rw [ety, ecd, eis]; simp [h1])
        have Ht := Lib.hid (show sayTu pr f s last = ⟨pr, 0, 0, last / 65536, 0⟩ ∧ saySeq pr last = 0 by unfold sayTu saySeq; rw [if_neg (by omega), if_neg h6]; exact ⟨rfl, rfl⟩)
        have He := Lib.hid (fun W => echo8_any ty cd last none 0 0 W Hl.out)
        have Eis := Lib.hid eis
        clear h6 h17 h1 ety ecd eis
        go_wp2_with fail
        refine (He.out _).mono ?_
        rintro e w4 ⟨h4, hb4⟩
        rw [Eis.out] at h4
        have hb4 := on_alloc hb4
        have HK1 := Lib.hid (blk_on HK1.out hb4)
        have Hb4 := Lib.hid (below_trans Hb0.out hb4)
        clear hb4
        have fz := fun i => blk_free HK1.out i
        obtain ⟨u0, u1, u2, u3, u4, u5⟩ := cells6 HK1.out
        cases is with
        | true =>
          rw [if_pos rfl] at h4
          subst h4
          go_wp2_with fail
          exact bodyPost_ret (v := .tuple #[.agg #[.int .u8 pr, .int .u32 0, .int .u32 0, .int .u16 (last / 65536), .int .u16 0, .int .u32 0], .bool true]) (results_row_tmp rfl _ _ (z0 + 1) _ _ _ _ _ rfl rfl (set6_blk HK1.out _ _ _ _ _ _) Try.underlying28 rfl (by kernel_rfl)) rfl ⟨⟨pr, 0, 0, last / 65536, 0⟩, 0, by rw [His.out], fun _ => ⟨Ht.out.1.symm, Ht.out.2.symm⟩, set6_below Hb4.out Hle.out _ _ _ _ _ _⟩
        | false =>
          rw [if_neg (by decide)] at h4
          subst h4
          go_wp2_with fail
          exact bodyPost_ret (v := .tuple #[.agg #[.int .u8 pr, .int .u32 0, .int .u32 0, .int .u16 0, .int .u16 0, .int .u32 0], .bool false]) (results_row_tmp rfl _ _ (z0 + 1) _ _ _ _ _ rfl rfl (set6_blk HK1.out _ _ _ _ _ _) Try.underlying28 rfl (by kernel_rfl)) rfl ⟨⟨pr, 0, 0, 0, 0⟩, 0, by rw [His.out], fun h => (by rw [His.out] at h; cases h), set6_below Hb4.out Hle.out _ _ _ _ _ _⟩
      · have p1 : (pr == 1) = false := by simpa using h1
        have His := Lib.hid (show sayIs pr f = false by unfold sayIs; simp [h1, h6, h17])
        clear h6 h17 h1
        have fz := fun i => blk_free HK1.out i
        obtain ⟨u0, u1, u2, u3, u4, u5⟩ := cells6 HK1.out
        go_wp2_with fail
        exact bodyPost_ret (v := .tuple #[.agg #[.int .u8 0, .int .u32 0, .int .u32 0, .int .u16 0, .int .u16 0, .int .u32 0], .bool false]) (results_row_tmp rfl _ _ (z0 + 1) _ _ _ _ _ rfl rfl (set6_blk HK1.out _ _ _ _ _ _) Try.underlying28 rfl (by kernel_rfl)) rfl ⟨⟨0, 0, 0, 0, 0⟩, 0, by rw [His.out], fun h => (by rw [His.out] at h; cases h), set6_below Hb0.out Hle.out _ _ _ _ _ _⟩
end Go.Proofs.Ytoegfgbalcholaa

/-
  What package inner's closure does, step by step, in plain lists: the same as the document's own rewriting (stage 16). Nothing of the program.
-/
namespace Go.Proofs.Ytoegfgbalcholaa
set_option maxRecDepth 10000
set_option linter.unusedSimpArgs false
set_option linter.unusedVariables false

theorem layL_over (b : List Int) (k : Nat) (x y : Int) : layL (layL b k x) k y = layL b k y := by
  unfold layL
  rw [List.set_comm _ _ (show 2 * k + 1 ≠ 2 * k by omega), List.set_set, List.set_set]
theorem layL_comm (b : List Int) {j k : Nat} (h : j ≠ k) (x y : Int) : layL (layL b j x) k y = layL (layL b k y) j x := by
  unfold layL
  rw [List.set_comm _ _ (show 2 * j + 1 ≠ 2 * k by omega), List.set_comm _ _ (show 2 * j ≠ 2 * k by omega), List.set_comm _ _ (show 2 * j + 1 ≠ 2 * k + 1 by omega), List.set_comm _ _ (show 2 * j ≠ 2 * k + 1 by omega)]
/-- The program's step: a word becomes another one, the fields follow at once. -/
def ownS (pr : Int) (H : Nat) (th : Bool) (b : List Int) (k : Nat) (x : Int) : List Int :=
  if th = true ∧ (H ≤ k ∨ pr ≠ 1) then layL (headW H b k x) (qF pr H) (fixP pr (wordL (headW H b k x) (qF pr H)) (wordL b k) x) else headW H b k x
def ownR (pr : Int) (H : Nat) (th : Bool) (ks : List (Nat × Int)) (b : List Int) : List Int := ks.foldl (fun c p => ownS pr H th c p.1 p.2) b
/-- A field that is 0 and may not be so. -/
def normQ (pr : Int) (F : Nat) (c : List Int) : List Int := if pr ≠ 6 ∧ wordL c F = 0 then layL c F 65535 else c
theorem headW_len (H : Nat) (b : List Int) (k : Nat) (x : Int) : (headW H b k x).length = b.length := by unfold headW; split <;> simp [layL_len]
theorem headW_byte {H : Nat} {b : List Int} (h : Bytes b) (k : Nat) {x : Int} (hx : U16 x) : Bytes (headW H b k x) := by
  unfold headW
  split
  · exact layL_byte (layL_byte h k hx) 5 (wordF_bd _ _ _ (wordL_bd (layL_byte h k hx) 5) (wordL_bd h k) hx)
  · exact layL_byte h k hx
theorem ownS_len (pr : Int) (H : Nat) (th : Bool) (b : List Int) (k : Nat) (x : Int) : (ownS pr H th b k x).length = b.length := by
  unfold ownS; split
  · rw [layL_len, headW_len]
  · exact headW_len _ _ _ _
theorem ownS_byte {pr : Int} {H : Nat} {th : Bool} {b : List Int} (h : Bytes b) (k : Nat) {x : Int} (hx : U16 x) : Bytes (ownS pr H th b k x) := by
  have hb := headW_byte (H := H) h k hx
  unfold ownS; split
  · exact layL_byte hb _ (fixP_bd _ (wordL_bd hb _) (wordL_bd h k) hx)
  · exact hb
/-- The document's step, where the payload's field follows. -/
theorem chQ_two {H F k : Nat} (Q : List Int) (x : Int) : chQ (if k < H then [5, F] else [F]) Q k x = layL (headW H Q k x) F (wordF (wordL (headW H Q k x) F) (wordL Q k) x) := by
  unfold chQ headW fldQ
  by_cases h : k < H
  · rw [if_pos h, if_pos h]; rfl
  · rw [if_neg h, if_neg h]; rfl
theorem chQ_one {H k : Nat} (Q : List Int) (x : Int) : chQ (if k < H then [5] else []) Q k x = headW H Q k x := by
  unfold chQ headW fldQ
  by_cases h : k < H
  · rw [if_pos h, if_pos h]; rfl
  · rw [if_neg h, if_neg h]; rfl
theorem fixP_same {pr f was x : Int} (hp : pr ≠ 6) (hw : U16 was) (hx : U16 x) : fixP pr 65535 was x = fixP pr 0 was x := by
  obtain ⟨a1, a2⟩ := fixP_bd pr (show U16 65535 from ⟨by omega, by omega⟩) hw hx
  obtain ⟨b1, b2⟩ := fixP_bd pr (show U16 0 from ⟨by omega, by omega⟩) hw hx
  have a3 := fixP_nz (f := 65535) (was := was) (n := x) hp
  have b3 := fixP_nz (f := 0) (was := was) (n := x) hp
  have a4 := fixP_mod pr 65535 was x
  have b4 := fixP_mod pr 0 was x
  omega
/-- A step that the field follows: from the document's row, or from it as it may be. -/
theorem own_step {pr : Int} {H k : Nat} {P Q : List Int} {x : Int} (hb : Bytes Q) (hx : U16 x) (hF : 2 * qF pr H + 1 < Q.length) (h5 : qF pr H ≠ 5) (hk : k ≠ qF pr H) (ho : H ≤ k ∨ pr ≠ 1) (hP : P = Q ∨ P = normQ pr (qF pr H) Q) :
    ownS pr H true P k x = normQ pr (qF pr H) (chQ (if k < H then [5, qF pr H] else [qF pr H]) Q k x) := by
  obtain ⟨F, eF⟩ : ∃ F, qF pr H = F := ⟨_, rfl⟩
  rw [eF] at hF h5 hk hP ⊢
  have hln : 2 * F + 1 < (headW H Q k x).length := by rw [headW_len]; exact hF
  have key : ∀ y, normQ pr F (layL (headW H Q k x) F y) = layL (headW H Q k x) F (if pr ≠ 6 ∧ y = 0 then 65535 else y) := by
    intro y
    unfold normQ
    rw [wordL_lay_same _ _ _ hln]
    by_cases h : pr ≠ 6 ∧ y = 0
    · rw [if_pos h, if_pos h, layL_over]
    · rw [if_neg h, if_neg h]
  have self : ownS pr H true Q k x = normQ pr F (chQ (if k < H then [5, F] else [F]) Q k x) := by
    rw [chQ_two, key]
    unfold ownS
    rw [if_pos ⟨rfl, ho⟩, eF]
    rfl
  rcases hP with rfl | rfl
  · exact self
  · by_cases h0 : pr ≠ 6 ∧ wordL Q F = 0
    · have e : normQ pr F Q = layL Q F 65535 := by unfold normQ; rw [if_pos h0]
      rw [e, chQ_two, key]
      have hc : headW H (layL Q F 65535) k x = layL (headW H Q k x) F 65535 := by
        unfold headW
        rw [wordL_lay_other _ F k _ (fun e => hk e.symm), layL_comm Q (fun e => hk e.symm)]
        by_cases h : k < H
        · rw [if_pos h, if_pos h, wordL_lay_other _ F 5 _ h5, layL_comm _ h5]
        · rw [if_neg h, if_neg h]
      have hwc : wordL (headW H Q k x) F = 0 := by rw [headW_word h5 (fun e => hk e.symm)]; exact h0.2
      unfold ownS
      rw [if_pos ⟨rfl, ho⟩, eF, hc, wordL_lay_same _ _ _ hln, layL_over, wordL_lay_other _ F k _ (fun e => hk e.symm), hwc]
      have := fixP_same (f := 0) h0.1 (wordL_bd hb k) hx
      rw [this]
      rfl
    · have e : normQ pr F Q = Q := by unfold normQ; rw [if_neg h0]
      rw [e]
      exact self
/-- A row of such steps. -/
theorem own_run {pr : Int} {H : Nat} (fs : List Nat) (h5 : qF pr H ≠ 5) : ∀ (ks : List (Nat × Int)) (Q : List Int), Bytes Q → 2 * qF pr H + 1 < Q.length →
    (∀ p ∈ ks, U16 p.2 ∧ p.1 ≠ qF pr H ∧ (H ≤ p.1 ∨ pr ≠ 1) ∧ fs = (if p.1 < H then [5, qF pr H] else [qF pr H]) ∧ (∀ M : List Int, Bytes M → M.length = Q.length → MayQ fs M p.1 p.2)) →
    ownR pr H true ks (normQ pr (qF pr H) Q) = normQ pr (qF pr H) (runQ fs ks Q)
  | [], _, _, _, _ => rfl
  | p :: ks, Q, hb, hF, h => by
    obtain ⟨h1, h2, h3, h4, h6⟩ := h p (List.mem_cons_self ..)
    have hm := h6 Q hb rfl
    have e1 : ownR pr H true (p :: ks) (normQ pr (qF pr H) Q) = ownR pr H true ks (ownS pr H true (normQ pr (qF pr H) Q) p.1 p.2) := rfl
    have e2 : runQ fs (p :: ks) Q = runQ fs ks (chQ fs Q p.1 p.2) := rfl
    rw [e1, e2, own_step hb h1 hF h5 h2 h3 (.inr rfl), ← h4]
    have hl := chQ_len fs Q p.1 p.2
    exact own_run fs h5 ks _ hm.bytes (by rw [hl]; exact hF) (fun q hq => by
      obtain ⟨g1, g2, g3, g4, g6⟩ := h q (List.mem_cons_of_mem _ hq)
      exact ⟨g1, g2, g3, g4, fun M hM hl2 => g6 M hM (hl2.trans hl)⟩)
/-- A row of steps that the payload's field does not follow. -/
theorem own_plain {pr : Int} {H : Nat} {th : Bool} (fs : List Nat) : ∀ (ks : List (Nat × Int)) (Q : List Int), (∀ p ∈ ks, ¬ (th = true ∧ (H ≤ p.1 ∨ pr ≠ 1)) ∧ fs = (if p.1 < H then [5] else [])) → ownR pr H th ks Q = runQ fs ks Q
  | [], _, _ => rfl
  | p :: ks, Q, h => by
    obtain ⟨h1, h2⟩ := h p (List.mem_cons_self ..)
    have e1 : ownR pr H th (p :: ks) Q = ownR pr H th ks (ownS pr H th Q p.1 p.2) := rfl
    have e2 : runQ fs (p :: ks) Q = runQ fs ks (chQ fs Q p.1 p.2) := rfl
    have e3 : ownS pr H th Q p.1 p.2 = chQ fs Q p.1 p.2 := by
      rw [h2, chQ_one]
      unfold ownS
      rw [if_neg h1]
    rw [e1, e2, e3]
    exact own_plain fs ks _ (fun q hq => h q (List.mem_cons_of_mem _ hq))
theorem ownR_app (pr : Int) (H : Nat) (th : Bool) (k1 k2 : List (Nat × Int)) (b : List Int) : ownR pr H th (k1 ++ k2) b = ownR pr H th k2 (ownR pr H th k1 b) := by
  unfold ownR; rw [List.foldl_append]
def thQ (b : List Int) : Bool := decide (partQ b ≠ [])
/-- The program's rewriting is the document's. -/
theorem own_is {b : List Int} {t : Tu} {sh : Int} (hb : Bytes b) (he : errQ b = 0) (ht : TuNum t) : ownR (b.getD 9 0) (qH b) (thQ b) (headQ t ++ portsQ b t (seqQ b sh)) b = rwQ b t sh := by
  obtain ⟨⟨_, h10, hl, _⟩, hp⟩ := errQ_ok he
  obtain ⟨pr, epr⟩ : ∃ p, b.getD 9 0 = p := ⟨_, rfl⟩
  obtain ⟨H, eH⟩ : ∃ H, qH b = H := ⟨_, rfl⟩
  obtain ⟨s, es⟩ : ∃ s, seqQ b sh = s := ⟨_, rfl⟩
  have hs : 0 ≤ s ∧ s < 4294967296 := by rw [← es]; unfold seqQ; omega
  have hpr : pr = 6 ∨ pr = 17 ∨ pr = 1 := by rw [epr] at hp; rcases hp with h | h | h; exact .inl h; exact .inr (.inl h); exact .inr (.inr h.1)
  have h1 := ht.sr; have h2 := ht.ds; have h3 := ht.sp; have h4 := ht.dp
  rw [epr, eH, es, ownR_app]
  unfold rwQ
  rw [es]
  rw [eH] at h10 hl
  have hFb : H + 1 ≤ qF pr H := by unfold qF; split; omega; split <;> omega
  have hF6 : pr ≠ 1 → H + 3 ≤ qF pr H := by intro h; unfold qF; split; omega; split <;> omega
  have hF7 : pr = 6 → qF pr H = H + 8 := by intro h; unfold qF; rw [if_pos h]
  have hF1 : pr = 1 → qF pr H = H + 1 := by intro h; unfold qF; rw [if_neg (by omega), if_neg (by omega)]
  have hF17 : pr = 17 → qF pr H = H + 3 := by intro h; unfold qF; rw [if_neg (by omega), if_pos h]
  have hhk : ∀ p ∈ headQ t, U16 p.2 ∧ 6 ≤ p.1 ∧ p.1 ≤ 9 := by
    intro p hp
    unfold headQ at hp; simp only [List.mem_cons, List.not_mem_nil, or_false] at hp
    rcases hp with rfl | rfl | rfl | rfl <;> exact ⟨⟨by simp only; omega, by simp only; omega⟩, by simp, by simp⟩
  have hpk : ∀ p ∈ portsQ b t s, H ≤ p.1 ∧ p.1 ≤ H + 3 ∧ U16 p.2 ∧ p.1 ≠ qF pr H := by
    intro p hp
    unfold portsQ at hp
    rw [epr, eH] at hp
    by_cases h9 : pr = 1
    · have := hF1 h9
      rw [if_pos h9] at hp
      rcases List.mem_singleton.1 hp
      exact ⟨by simp only; omega, by simp only; omega, ⟨by simp only; omega, by simp only; omega⟩, by simp only; omega⟩
    · rw [if_neg h9] at hp
      have := hF6 h9
      rcases List.mem_append.1 hp with hp | hp
      · simp only [List.mem_cons, List.not_mem_nil, or_false] at hp
        rcases hp with rfl | rfl
        · exact ⟨by simp only; omega, by simp only; omega, ⟨by simp only; omega, by simp only; omega⟩, by simp only; omega⟩
        · exact ⟨by simp only; omega, by simp only; omega, ⟨by simp only; omega, by simp only; omega⟩, by simp only; omega⟩
      · by_cases h6 : pr = 6
        · rw [if_pos h6] at hp
          have := hF7 h6
          simp only [List.mem_cons, List.not_mem_nil, or_false] at hp
          rcases hp with rfl | rfl
          · exact ⟨by simp only; omega, by simp only; omega, ⟨by simp only; omega, by simp only; omega⟩, by simp only; omega⟩
          · exact ⟨by simp only; omega, by simp only; omega, ⟨by simp only; omega, by simp only; omega⟩, by simp only; omega⟩
        · rw [if_neg h6] at hp; cases hp
  have hpc := part_cases b
  rw [epr, eH] at hpc
  rcases hpc with hpt | ⟨hpt, hlen⟩
  · -- no field
    have eth : thQ b = false := by unfold thQ; rw [hpt]; rfl
    have ebo : bothQ b = [5] := by unfold bothQ; rw [hpt]; simp
    have efx : ∀ c, fixQ b c = c := fun c => by unfold fixQ; rw [if_neg (fun h => h.2.1 hpt)]
    rw [efx, eth, ebo, hpt, own_plain [5] (headQ t) b (fun p hp => ⟨by simp, by rw [if_pos (by have := hhk p hp; omega)]⟩), own_plain [] (portsQ b t s) _ (fun p hp => ⟨by simp, by rw [if_neg (by have := hpk p hp; omega)]⟩)]
  · have eth : thQ b = true := by unfold thQ; rw [hpt]; simp
    have efx : ∀ c, fixQ b c = normQ pr (qF pr H) c := fun c => by
      unfold fixQ normQ
      rw [epr, eH, hpt]
      by_cases h : pr ≠ 6 ∧ wordL c (qF pr H) = 0
      · rw [if_pos h, if_pos ⟨h.1, by simp, h.2⟩]
      · rw [if_neg h, if_neg (fun hc => h ⟨hc.1, hc.2.2⟩)]
    rw [efx, eth, hpt]
    by_cases h9 : pr = 1
    · -- an echo: the head does not count
      have ebo : bothQ b = [5] := by unfold bothQ; rw [epr, if_pos h9]
      rw [ebo, own_plain [5] (headQ t) b (fun p hp => ⟨by have := hhk p hp; rintro ⟨_, h | h⟩; omega; exact h h9, by rw [if_pos (by have := hhk p hp; omega)]⟩)]
      obtain ⟨c, ec⟩ : ∃ c, runQ [5] (headQ t) b = c := ⟨_, rfl⟩
      have hcs := runQ_spec [5] (headQ t) b hb (fun p hp => by
        have := hhk p hp
        exact ⟨by omega, this.1, by simp; omega⟩) (by simp) (fun f hf => by rw [List.mem_singleton] at hf; omega) (by unfold headQ; simp)
      rw [ec] at hcs ⊢
      have epo : portsQ b t s = [(H + 2, t.sp)] := by unfold portsQ; rw [epr, eH, if_pos h9]
      rw [epo]
      have := own_step (pr := pr) (H := H) (k := H + 2) (P := c) (Q := c) (x := t.sp) hcs.2.1 ⟨by omega, by omega⟩ (by rw [hcs.1]; omega) (by omega) (by have := hF1 h9; omega) (.inl (by omega)) (.inl rfl)
      rw [if_neg (by omega)] at this
      exact this
    · have ebo : bothQ b = [5, qF pr H] := by unfold bothQ; rw [epr, if_neg h9, hpt]
      have enb : normQ pr (qF pr H) b = b := by
        unfold normQ
        rw [if_neg]
        rintro ⟨h6, h0⟩
        have h17 : pr = 17 := by omega
        have : partQ b = [] := by
          unfold partQ
          rw [epr, eH, if_neg (fun h => h.2 ⟨h17, h0⟩)]
        rw [hpt] at this
        cases this
      rw [ebo]
      have e1 := own_run (pr := pr) (H := H) [5, qF pr H] (by omega) (headQ t) b hb (by omega) (fun p hp => by
        have hq := hhk p hp
        have := hF6 h9
        exact ⟨hq.1, by omega, .inr h9, by rw [if_pos (by omega)], fun M hM hlM => ⟨hM, by omega, hq.1, fun f hf => by
          simp only [List.mem_cons, List.not_mem_nil, or_false] at hf
          rcases hf with rfl | rfl <;> exact ⟨by omega, by omega⟩, by simp; omega⟩⟩)
      rw [enb] at e1
      obtain ⟨c, ec⟩ : ∃ c, runQ [5, qF pr H] (headQ t) b = c := ⟨_, rfl⟩
      have hcs := runQ_spec [5, qF pr H] (headQ t) b hb (fun p hp => by
        have := hhk p hp
        exact ⟨by omega, this.1, by simp; omega⟩) (by simp; omega) (fun f hf => by simp only [List.mem_cons, List.not_mem_nil, or_false] at hf; rcases hf with rfl | rfl <;> omega) (by unfold headQ; simp)
      rw [ec] at e1 hcs ⊢
      rw [e1]
      exact own_run (pr := pr) (H := H) [qF pr H] (by omega) (portsQ b t s) c hcs.2.1 (by rw [hcs.1]; omega) (fun p hp => by
        obtain ⟨g1, g2, g3, g4⟩ := hpk p hp
        exact ⟨g3, g4, .inr h9, by rw [if_neg (by omega)], fun M hM hlM => ⟨hM, by rw [hlM, hcs.1]; omega, g3, fun f hf => by
          rw [List.mem_singleton] at hf; subst hf; exact ⟨by rw [hlM, hcs.1]; omega, fun e => g4 e.symm⟩, by simp⟩⟩)
end Go.Proofs.Ytoegfgbalcholaa

/-
  The small functions of package inner: word, lay, header, follow, fields.
-/
namespace Go.Proofs.Ytoegfgbalcholaa
set_option maxRecDepth 10000
open Go.RowKit
set_option linter.unusedSimpArgs false
set_option linter.unusedVariables false

theorem wraps8I (n : Int) (h₀ : 0 ≤ n) (h₁ : n < 2 ^ 8) : IntKind.u8.wrap n = n := by simp [IntKind.wrap, IntKind.bits, IntKind.signed]; omega
theorem and15I (x : Int) (h : 0 ≤ x ∧ x < 256) : bits .and .u8 x 15 = x % 16 := bits_mask .u8 8 (by decide) wraps8I 4 (by omega) x h.1 h.2
theorem header16_any (x H : Int) (w : World) (hx : 0 ≤ x ∧ x < 256) (hH : x % 16 * 4 = H) :
    Calls Try.prog 30 #[.int .u8 x] w fun e w' => e = .returned (.int .i64 H) ∧ w = w' := by
  have hand := and15I x hx
  have hw1 : IntKind.i64.wrap (x % 16) = x % 16 := IntWalk.i64_in _ (by omega)
  have hw2 : IntKind.i64.wrap (x % 16 * 4) = x % 16 * 4 := IntWalk.i64_in _ (by omega)
  have HH := Lib.hid hH
  clear hH
  go_enter Try.func30, Try.ntmps30
  go_wp2_with fail
  go_ret
  exact ⟨ret_int HH.out, rfl⟩
/-- A word of the bytes. -/
theorem iword_any (A : Option Addr) (m c : Nat) (l : List Int) (a x : Int) (K : Nat) (w : World) (hm : m ≤ 140737488355328) (ha : a = 2 * (K : Int)) (hK : 2 * K + 1 < m) (h : Rd w A m l) (hx : wordL l K = x) :
    Calls Try.prog 55 #[.slice A m c, .int .i64 a] w (SumIs x w) := by
  subst ha
  obtain ⟨b, o, rfl, hb, hc⟩ := h.at_ (by omega)
  have hc1 := hc (2 * K) (by omega)
  have hc2 := hc (2 * K + 1) (by omega)
  have hx1 := getD_byte h.byte (2 * K)
  have hy := getD_byte h.byte (2 * K + 1)
  obtain ⟨x1, ex⟩ : ∃ x, l.getD (2 * K) 0 = x := ⟨_, rfl⟩
  obtain ⟨y, ey⟩ : ∃ y, l.getD (2 * K + 1) 0 = y := ⟨_, rfl⟩
  have Hw := Lib.hid (show x = x1 * 256 + y by rw [← hx]; unfold wordL; rw [ex, ey])
  rw [ex] at hc1 hx1
  rw [ey] at hc2 hy
  have hor := or16 x1 y hx1 hy
  have hi1 : 2 * (K : Int) + 1 < (m : Int) := by omega
  have hi0 : 2 * (K : Int) < (m : Int) := by omega
  have hk0 : 0 ≤ 2 * (K : Int) := by omega
  obtain ⟨hx0, hx1'⟩ := id hx1
  obtain ⟨hy0, hy1⟩ := id hy
  have hmi : (m : Int) ≤ 140737488355328 := by omega
  have hbnd : 2 * (K : Int) + 1 ≤ 140737488355328 := by omega
  have hw2 : IntKind.i64.wrap (2 * (K : Int) + 1) = 2 * (K : Int) + 1 := IntWalk.i64_in _ (by omega)
  have hc2 : w.cell? ⟨b, o + (2 * (K : Int) + 1).toNat, none⟩ = some (.int .u8 y) := by rw [show (2 * (K : Int) + 1).toNat = 2 * K + 1 by omega]; exact hc2
  have hc1 : w.cell? ⟨b, o + (2 * (K : Int)).toNat, none⟩ = some (.int .u8 x1) := by rw [show (2 * (K : Int)).toNat = 2 * K by omega]; exact hc1
  clear h hc ex ey hx1 hy hx hK hm
  go_enter Try.func55, Try.ntmps55
  go_wp2_with fail
  go_quiet (fail)
  go_wp2_with fail
  go_ret
  exact ⟨ret_int Hw.out.symm, rfl, rfl, rfl, Nat.le_refl _, fun _ _ => rfl⟩

/-- A word of a row of the call's own becomes another one. -/
def ILayIs (B g n c : Nat) (l : List Int) (w : World) (e : Ending) (w' : World) : Prop := e = .returned (.tuple #[]) ∧ OwnB w' B (some ⟨g, 0, none⟩) n c l ∧ But (fun k => k = g) w w'
theorem ilay_any (B g m c : Nat) (l : List Int) (a x : Int) (K : Nat) (w : World) (hm : m ≤ 140737488355328) (ha : a = 2 * (K : Int)) (hK : 2 * K + 1 < m) (hx : U16 x) (h : OwnB w B (some ⟨g, 0, none⟩) m c l) (L : List Int) (hL : layL l K x = L) :
    Calls Try.prog 57 #[.slice (some ⟨g, 0, none⟩) m c, .int .i64 a, .int .u16 x] w (ILayIs B g m c L w) := by
  subst ha
  have hcap := h.cap
  have hc1 := h.cell (2 * K) (by omega)
  have hc2 := h.cell (2 * K + 1) (by omega)
  have hf1 : w.frozen? ⟨g, 2 * K, none⟩ = false := World.ownsRow.frozenAt h _
  have hf2 : w.frozen? ⟨g, 2 * K + 1, none⟩ = false := World.ownsRow.frozenAt h _
  have hi1 : 2 * (K : Int) + 1 < (m : Int) := by omega
  have hi2 : 2 * K + 1 < m := by omega
  obtain ⟨hx0, hx1⟩ := id hx
  have Hw := Lib.hid (show OwnB ((w.setCell ⟨g, 2 * K, none⟩ (.int .u8 (x / 256))).setCell ⟨g, 2 * K + 1, none⟩ (.int .u8 (x % 256))) B (some ⟨g, 0, none⟩) m c L by rw [← hL]; exact (h.set_ (2 * K) (x / 256)).set_ (2 * K + 1) (x % 256))
  have hmi : (m : Int) ≤ 140737488355328 := by omega
  have hbnd : 2 * (K : Int) + 1 ≤ 140737488355328 := by omega
  have hw2 : IntKind.i64.wrap (2 * (K : Int) + 1) = 2 * (K : Int) + 1 := IntWalk.i64_in _ (by omega)
  clear h hcap hx hL
  go_enter Try.func57, Try.ntmps57
  go_wp2_with fail
  go_end0
  exact ⟨rfl, Hw.out, ((But.refl (fun k => k = g) _).setCell (p := ⟨g, 2 * K, none⟩) rfl _).setCell (p := ⟨g, 2 * K + 1, none⟩) rfl _⟩


set_option maxHeartbeats 1000000 in
theorem follow16_any (pr f was n x : Int) (w : World) (hf : U16 f ∧ U16 was ∧ U16 n) (hx : fixP pr f was n = x) :
    Calls Try.prog 59 #[.int .u8 pr, .int .u16 f, .int .u16 was, .int .u16 n] w (SumIs x w) := by
  obtain ⟨y, ey⟩ : ∃ y, wordF f was n = y := ⟨_, rfl⟩
  have hyb : U16 y := by rw [← ey]; exact wordF_bd _ _ _ hf.1 hf.2.1 hf.2.2
  have hnot := not16 0 (by omega)
  unfold fixP at hx
  rw [ey] at hx
  have Hx := Lib.hid hx
  have Hf := Lib.hid hf
  have Hy := Lib.hid ey
  have Hnot := Lib.hid hnot
  clear hf hx ey hyb hnot
  go_enter Try.func59, Try.ntmps59
  go_wp2_with fail
  refine (word_told f was n y w Hf.out.1 Hf.out.2.1 Hf.out.2.2 Hy.out).mono ?_
  rintro e w1 ⟨rfl, rfl⟩
  by_cases hy : y = 0
  · have p2 : (y == 0) = true := by simpa using hy
    by_cases hp : pr = 6
    · have p3 : (pr != 6) = false := by simpa using hp
      have hx := Hx.out
      rw [if_neg (fun h => h.1 hp)] at hx
      have Hx0 := Lib.hid hx
      clear hx Hx hy hp
      go_wp2_with fail
      go_ret
      exact ⟨ret_int Hx0.out, Below.refl _ _⟩
    · have p3 : (pr != 6) = true := by simpa using hp
      have hx := Hx.out
      rw [if_pos ⟨hp, hy⟩] at hx
      have Hx0 := Lib.hid hx
      have Hy0 := Lib.hid hy
      have hnot := Hnot.out
      obtain rfl := hy
      clear hx Hx hp
      go_wp2_with fail
      go_ret
      exact ⟨ret_int (by rw [← Hx0.out]), Below.refl _ _⟩
  · have p2 : (y == 0) = false := by simpa using hy
    have hx := Hx.out
    rw [if_neg (fun h => hy h.2)] at hx
    have Hx0 := Lib.hid hx
    clear hx Hx hy
    go_wp2_with fail
    go_ret
    exact ⟨ret_int Hx0.out, Below.refl _ _⟩

/-- Where the fields stand: a map. -/
def fieldsO : Obj := .map #[⟨.int .u8 6, .int .i64 16, 0⟩, ⟨.int .u8 17, .int .i64 6, 1⟩, ⟨.int .u8 1, .int .i64 2, 2⟩] 3
def FieldsIs (w : World) (e : Ending) (w' : World) : Prop := ∃ g, e = .returned (.map (some g)) ∧ w'.heap[g]? = some fieldsO ∧ w.heap.size ≤ g ∧ Below w.heap.size w w'
theorem fields16_any (w : World) : Calls Try.prog 54 #[] w (FieldsIs w) := by
  obtain ⟨w0, e0⟩ : ∃ w0, w.alloc (.map #[] 0) = w0 := ⟨_, rfl⟩
  have k0 : w0.heap[w.heap.size]? = some (.map #[] 0) := by rw [← e0]; exact heap_alloc_new w _
  have b0 : Below w.heap.size w w0 := by rw [← e0]; exact (Below.refl _ _).alloc (Nat.le_refl _) _
  have r1 := put_u8 w0 w.heap.size _ _ 6 16 k0 (findU8 _ _ _ (by simp))
  have k1 := setO_at (.map (#[].push ⟨.int .u8 6, .int .i64 16, 0⟩) 1) k0
  have b1 := setO_below (o := .map (#[].push ⟨.int .u8 6, .int .i64 16, 0⟩) 1) b0 (Nat.le_refl _)
  simp only [List.push_toArray, List.nil_append, List.cons_append, Nat.reduceAdd] at r1 k1 b1
  obtain ⟨w1, e1⟩ : ∃ v, setO w0 w.heap.size (.map #[⟨.int .u8 6, .int .i64 16, 0⟩] 1) = v := ⟨_, rfl⟩
  rw [e1] at r1 k1 b1
  clear e1
  have r2 := put_u8 w1 w.heap.size _ _ 17 6 k1 (findU8 _ _ _ (by simp))
  have k2 := setO_at (.map (#[⟨.int .u8 6, .int .i64 16, 0⟩].push ⟨.int .u8 17, .int .i64 6, 1⟩) 2) k1
  have b2 := setO_below (o := .map (#[⟨.int .u8 6, .int .i64 16, 0⟩].push ⟨.int .u8 17, .int .i64 6, 1⟩) 2) b1 (Nat.le_refl _)
  simp only [List.push_toArray, List.nil_append, List.cons_append, Nat.reduceAdd] at r2 k2 b2
  obtain ⟨w2, e2⟩ : ∃ v, setO w1 w.heap.size (.map #[⟨.int .u8 6, .int .i64 16, 0⟩, ⟨.int .u8 17, .int .i64 6, 1⟩] 2) = v := ⟨_, rfl⟩
  rw [e2] at r2 k2 b2
  clear e2
  have r3 := put_u8 w2 w.heap.size _ _ 1 2 k2 (findU8 _ _ _ (by simp))
  have k3 := setO_at (.map (#[⟨.int .u8 6, .int .i64 16, 0⟩, ⟨.int .u8 17, .int .i64 6, 1⟩].push ⟨.int .u8 1, .int .i64 2, 2⟩) 3) k2
  have b3 := setO_below (o := .map (#[⟨.int .u8 6, .int .i64 16, 0⟩, ⟨.int .u8 17, .int .i64 6, 1⟩].push ⟨.int .u8 1, .int .i64 2, 2⟩) 3) b2 (Nat.le_refl _)
  simp only [List.push_toArray, List.nil_append, List.cons_append, Nat.reduceAdd] at r3 k3 b3
  obtain ⟨w3, e3⟩ : ∃ v, setO w2 w.heap.size (.map #[⟨.int .u8 6, .int .i64 16, 0⟩, ⟨.int .u8 17, .int .i64 6, 1⟩, ⟨.int .u8 1, .int .i64 2, 2⟩] 3) = v := ⟨_, rfl⟩
  rw [e3] at r3 k3 b3
  clear e3
  have K3 := Lib.hid k3
  have B3 := Lib.hid b3
  have hmk := run_makeMap_plain (P := Try.prog) w 104
  rw [e0] at hmk
  clear k0 k1 k2 k3 b0 b1 b2 b3
  go_enter Try.func54, Try.ntmps54
  go_wp2_with fail
  go_ret
  exact ⟨_, rfl, K3.out, Nat.le_refl _, B3.out⟩
/-- How far behind the header the field stands. -/
def behQ (pr : Int) : Int := if pr = 6 then 16 else if pr = 17 then 6 else if pr = 1 then 2 else 0
theorem look_fields (w : World) (g : Nat) (pr y : Int) (hg : w.heap[g]? = some fieldsO) (hy : behQ pr = y) : (Instr.lookup 104 (.map (some g)) (.int .u8 pr) false).run Try.prog w = .ok (.int .i64 y) w := by
  refine look_u8 w g _ _ pr y hg ?_
  subst hy
  by_cases h6 : pr = 6
  · subst h6; exact .inr ⟨0, rfl⟩
  by_cases h17 : pr = 17
  · subst h17; exact .inr ⟨1, rfl⟩
  by_cases h1 : pr = 1
  · subst h1; exact .inr ⟨2, rfl⟩
  exact .inl ⟨findU8 _ _ _ (by simp [h6, h17, h1]), by unfold behQ; rw [if_neg h6, if_neg h17, if_neg h1]⟩
end Go.Proofs.Ytoegfgbalcholaa
