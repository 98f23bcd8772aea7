/-
  Texts laid together: InRefRead, Sl, InRefChange.
-/
import Derived.Test.YtoegfgbalcholaaZC01
import Derived.Test.YtoegfgbalcholaaZC02
import Derived.Test.YtoegfgbalcholaaZC05
import Derived.Test.YtoegfgbalcholaaZC06
import Derived.Deep.RegionHeld3
import Derived.Deep.DeepCutAuto
import Derived.Deep.AppendSrc
import Derived.Test.YtoegfgbalcholaaZC03
import Derived.Deep.CutRange

/-
  culvertref16's Read (stage 16, written ahead).
-/
namespace Go.Proofs.Ytoegfgbalcholaa
set_option maxRecDepth 10000
open Go.RowKit
set_option linter.unusedSimpArgs false
set_option linter.unusedVariables false

/-- A quote told, and an error. -/
def QuoteIs (t : Tu) (s x : Int) (w : World) (e : Ending) (w' : World) : Prop := e = .returned (.tuple #[.agg #[.int .u8 t.pr, .int .u32 t.sr, .int .u32 t.ds, .int .u16 t.sp, .int .u16 t.dp, .int .u32 s], .int .i64 x]) ∧ Below w.heap.size w w'
def zTu : Tu := ⟨0, 0, 0, 0, 0⟩
def qT (b : List Int) : Tu := if errQ b = 0 then qTu b else zTu
def qS (b : List Int) : Int := if errQ b = 0 then qSeq b else 0
theorem cells6 {w : World} {g : Nat} {v0 v1 v2 v3 v4 v5 : Value} {t : TypeId} (h : w.heap[g]? = some (.cells #[v0, v1, v2, v3, v4, v5] t (0, 0))) : w.cell? ⟨g, 0, none⟩ = some v0 ∧ w.cell? ⟨g, 1, none⟩ = some v1 ∧ w.cell? ⟨g, 2, none⟩ = some v2 ∧ w.cell? ⟨g, 3, none⟩ = some v3 ∧ w.cell? ⟨g, 4, none⟩ = some v4 ∧ w.cell? ⟨g, 5, none⟩ = some v5 := by
  refine ⟨?_, ?_, ?_, ?_, ?_, ?_⟩ <;> (rw [blk_cell h]; rfl)
theorem set6_blk {w : World} {q : Nat} {u0 u1 u2 u3 u4 u5 : Value} {t : TypeId} (h : w.heap[q]? = some (.cells #[u0, u1, u2, u3, u4, u5] t (0, 0))) (v0 v1 v2 v3 v4 v5 : Value) :
    ((((((w.setCell ⟨q, 0, none⟩ v0).setCell ⟨q, 1, none⟩ v1).setCell ⟨q, 2, none⟩ v2).setCell ⟨q, 3, none⟩ v3).setCell ⟨q, 4, none⟩ v4).setCell ⟨q, 5, none⟩ v5).heap[q]? = some (.cells #[v0, v1, v2, v3, v4, v5] t (0, 0)) := by
  simp [World.setCell, Array.getElem?_modify, h]
theorem set6_below {B : Nat} {w0 w : World} {q : Nat} (h : Below B w0 w) (hq : B ≤ q) (v0 v1 v2 v3 v4 v5 : Value) :
    Below B w0 ((((((w.setCell ⟨q, 0, none⟩ v0).setCell ⟨q, 1, none⟩ v1).setCell ⟨q, 2, none⟩ v2).setCell ⟨q, 3, none⟩ v3).setCell ⟨q, 4, none⟩ v4).setCell ⟨q, 5, none⟩ v5) :=
  (((((h.setCell (p := ⟨q, 0, none⟩) hq v0).setCell (p := ⟨q, 1, none⟩) hq v1).setCell (p := ⟨q, 2, none⟩) hq v2).setCell (p := ⟨q, 3, none⟩) hq v3).setCell (p := ⟨q, 4, none⟩) hq v4).setCell (p := ⟨q, 5, none⟩) hq v5
set_option maxHeartbeats 2000000 in
theorem rread16_any (A : Option Addr) (n c : Nat) (b : List Int) (t : Tu) (s x : Int) (w : World) (hn : n ≤ 140737488355328) (h : Rd w A n b) (ht : qT b = t) (hs : qS b = s) (hx : errQ b = x) :
    Calls Try.prog 8 #[.slice A n c] w (QuoteIs t s x w) := by
  obtain ⟨w0, ew⟩ : ∃ w0, w.alloc (.cells #[.int .u8 0, .int .u32 0, .int .u32 0, .int .u16 0, .int .u16 0, .int .u32 0] 32) = w0 := ⟨_, rfl⟩
  obtain ⟨z0, hz⟩ : ∃ z, w.heap.size = z := ⟨_, rfl⟩
  have hb0 : Below w.heap.size w w0 := by rw [← ew]; exact (Below.refl _ _).alloc (Nat.le_refl _) _
  have hk0 : w0.heap[z0]? = some (.cells #[.int .u8 0, .int .u32 0, .int .u32 0, .int .u16 0, .int .u16 0, .int .u32 0] 32 (0, 0)) := by rw [← ew, ← hz]; exact heap_alloc_new w _
  have hlen := h.len
  have hby := h.byte
  have HR := Lib.hid (h.below hb0)
  have Hby := Lib.hid hby
  have Hlen := Lib.hid hlen
  have HK0 := Lib.hid hk0
  have Hb0 := Lib.hid hb0
  have Ew := Lib.hid ew
  have Hz := Lib.hid hz
  have Hte := Lib.hid ht
  have Hse := Lib.hid hs
  have Hxe := Lib.hid hx
  have hni : (n : Int) ≤ 140737488355328 := by omega
  clear hz ew hb0 hk0 h ht hs hx hby
  go_enter Try.func8, Try.ntmps8
  go_upto_region 1 with (fail)
  rw [Ew.out]
  try rw [Hz.out]
  clear Ew
  by_cases h20 : n < 20
  · have h20i : (n : Int) < 20 := by omega
    have He := Lib.hid (show errQ b = 4 by unfold errQ; rw [if_pos (by omega)])
    have Ht := Lib.hid (show t = ⟨0, 0, 0, 0, 0⟩ by rw [← Hte.out]; unfold qT; rw [He.out]; rfl)
    have Hs := Lib.hid (show s = 0 by rw [← Hse.out]; unfold qS; rw [He.out]; rfl)
    have Hx := Lib.hid (show x = 4 by rw [← Hxe.out]; exact He.out)
    have fz := fun i => blk_free HK0.out i
    obtain ⟨u0, u1, u2, u3, u4, u5⟩ := cells6 HK0.out
    go_wp2_with fail
    exact bodyPost_ret (v := .tuple #[.agg #[.int .u8 0, .int .u32 0, .int .u32 0, .int .u16 0, .int .u16 0, .int .u32 0], .int .i64 4]) (results_row_tmp rfl _ _ z0 _ _ _ _ _ rfl rfl (set6_blk HK0.out _ _ _ _ _ _) Try.underlying32 rfl (by kernel_rfl)) rfl ⟨by rw [Ht.out, Hs.out, Hx.out], set6_below Hb0.out (by rw [Hz.out]; exact Nat.le_refl _) _ _ _ _ _ _⟩
  have h20i : ¬ (n : Int) < 20 := by omega
  have hno1 : ¬ b.length < 20 := by omega
  obtain ⟨q0, r0, c0, l0⟩ := HR.out.index (c := c) (j := 0) (by omega)
  have r0 : ∀ W : World, (Instr.indexAt 22 (.slice A n c) (.int .i64 0)).run Try.prog W = .ok (.pointer (some q0)) W := r0
  have hx0 := getD_byteQ Hby.out 0
  obtain ⟨x0, ex0⟩ : ∃ y, b.getD 0 0 = y := ⟨_, rfl⟩
  rw [ex0] at c0 hx0
  obtain ⟨N, eN⟩ : ∃ N : Nat, 2 * qH b = N := ⟨_, rfl⟩
  have hNx : (N : Int) = 4 * (x0 % 16) := by rw [← eN, ← ex0]; unfold qH; have := getD_byteQ Hby.out 0; omega
  have hN60 : N ≤ 60 := by omega
  have m1 : IntKind.i64.wrap (4 * (x0 % 16)) = (N : Int) := by rw [IntWalk.i64_in _ (by omega)]; omega
  have Hx0 := Lib.hid (And.intro ex0 hx0)
  have HN := Lib.hid eN
  have HNx := Lib.hid hNx
  obtain ⟨hx00, hx01⟩ := hx0
  clear eN hNx ex0
  by_cases h4 : x0 / 16 = 4
  · have h4b : (x0 / 16 != 4) = false := by simpa using h4
    by_cases h10 : N < 20
    · have h10i : (N : Int) < 20 := by omega
      have He := Lib.hid (show errQ b = 5 by unfold errQ; rw [if_neg hno1, if_pos (by right; have := HN.out; omega)])
      clear h4 h10 hno1
      have Ht := Lib.hid (show t = ⟨0, 0, 0, 0, 0⟩ by rw [← Hte.out]; unfold qT; rw [He.out]; rfl)
      have Hs := Lib.hid (show s = 0 by rw [← Hse.out]; unfold qS; rw [He.out]; rfl)
      have Hx := Lib.hid (show x = 5 by rw [← Hxe.out]; exact He.out)
      have fz := fun i => blk_free HK0.out i
      obtain ⟨u0, u1, u2, u3, u4, u5⟩ := cells6 HK0.out
      go_wp2_with fail
      exact bodyPost_ret (v := .tuple #[.agg #[.int .u8 0, .int .u32 0, .int .u32 0, .int .u16 0, .int .u16 0, .int .u32 0], .int .i64 5]) (results_row_tmp rfl _ _ z0 _ _ _ _ _ rfl rfl (set6_blk HK0.out _ _ _ _ _ _) Try.underlying32 rfl (by kernel_rfl)) rfl ⟨by rw [Ht.out, Hs.out, Hx.out], set6_below Hb0.out (by rw [Hz.out]; exact Nat.le_refl _) _ _ _ _ _ _⟩
    have h10i : ¬ (N : Int) < 20 := by omega
    have hno2 : ¬ (b.getD 0 0 / 16 ≠ 4 ∨ qH b < 10) := by have := HN.out; have := Hx0.out.1; omega
    have hw8 : IntKind.i64.wrap ((N : Int) + 8) = (N : Int) + 8 := IntWalk.i64_in _ (by omega)
    by_cases h8 : n < N + 8
    · have h8i : (n : Int) < (N : Int) + 8 := by omega
      have He := Lib.hid (show errQ b = 4 by unfold errQ; rw [if_neg hno1, if_neg hno2, if_pos (by have := HN.out; omega)])
      clear h4 h10 hno1 hno2 h8
      have Ht := Lib.hid (show t = ⟨0, 0, 0, 0, 0⟩ by rw [← Hte.out]; unfold qT; rw [He.out]; rfl)
      have Hs := Lib.hid (show s = 0 by rw [← Hse.out]; unfold qS; rw [He.out]; rfl)
      have Hx := Lib.hid (show x = 4 by rw [← Hxe.out]; exact He.out)
      have fz := fun i => blk_free HK0.out i
      obtain ⟨u0, u1, u2, u3, u4, u5⟩ := cells6 HK0.out
      go_wp2_with fail
      exact bodyPost_ret (v := .tuple #[.agg #[.int .u8 0, .int .u32 0, .int .u32 0, .int .u16 0, .int .u16 0, .int .u32 0], .int .i64 4]) (results_row_tmp rfl _ _ z0 _ _ _ _ _ rfl rfl (set6_blk HK0.out _ _ _ _ _ _) Try.underlying32 rfl (by kernel_rfl)) rfl ⟨by rw [Ht.out, Hs.out, Hx.out], set6_below Hb0.out (by rw [Hz.out]; exact Nat.le_refl _) _ _ _ _ _ _⟩
    have h8i : ¬ (n : Int) < (N : Int) + 8 := by omega
    have hno3 : ¬ b.length < 2 * qH b + 8 := by have := HN.out; omega
    have HNo := Lib.hid (And.intro hno1 (And.intro hno2 hno3))
    clear h4 hno1 hno2 hno3
    go_upto_region 8 with (fail)
    clear r0 c0 l0 m1 h4b
    go_wp2_with fail
    obtain ⟨v3, ev3⟩ : ∃ y, wordL b 3 = y := ⟨_, rfl⟩
    refine (num16_any A n c b 6 6 2 v3 _ hn rfl (by decide) (by omega) HR.out (by rw [← ev3]; exact nmQ_two b 3)).mono ?_
    rintro e w1 ⟨rfl, rfl⟩
    have hv3 := wordL_bd Hby.out 3
    rw [ev3] at hv3
    obtain ⟨hv30, hv31⟩ := hv3
    by_cases hfr : v3 % 8192 = 0
    · have hfb : (v3 % 8192 != 0) = false := by simpa using hfr
      have Hfr := Lib.hid (show ¬ wordL b 3 % 8192 ≠ 0 by rw [ev3]; omega)
      clear hfr ev3
      go_upto_region 10 with (fail)
      obtain ⟨q9, r9, c9, l9⟩ := HR.out.index (c := c) (j := 9) (by omega)
      have r9 : ∀ W : World, (Instr.indexAt 22 (.slice A n c) (.int .i64 9)).run Try.prog W = .ok (.pointer (some q9)) W := r9
      have hx9 := getD_byteQ Hby.out 9
      obtain ⟨x9, ex9⟩ : ∃ y, b.getD 9 0 = y := ⟨_, rfl⟩
      rw [ex9] at c9 hx9
      obtain ⟨sr, esr⟩ : ∃ y, wordL b 6 * 65536 + wordL b 7 = y := ⟨_, rfl⟩
      obtain ⟨ds, eds⟩ : ∃ y, wordL b 8 * 65536 + wordL b 9 = y := ⟨_, rfl⟩
      have hC12 : ∀ W : World, Rd W A n b → Calls Try.prog 24 #[.slice A n c, .int .i64 12, .int .i64 4] W (NumIs16 sr W) := fun W hW => num16_any A n c b 12 12 4 sr W hn rfl (by decide) (by omega) hW (by rw [← esr]; exact nmQ_four b 6)
      have hC16 : ∀ W : World, Rd W A n b → Calls Try.prog 24 #[.slice A n c, .int .i64 16, .int .i64 4] W (NumIs16 ds W) := fun W hW => num16_any A n c b 16 16 4 ds W hn rfl (by decide) (by omega) hW (by rw [← eds]; exact nmQ_four b 8)
      obtain ⟨z1, hz1⟩ : ∃ z, w0.heap.size = z := ⟨_, rfl⟩
      have Hz1 := Lib.hid hz1
      have HSr := Lib.hid (show ∀ w', Below w0.heap.size w0 w' → Rd w' A n b from fun w' hb => HR.out.below hb)
      have HS9 := Lib.hid (show ∀ w', Below w0.heap.size w0 w' → w'.cell? q9 = some (.int .u8 x9) from fun w' hb => (hb.cell l9).trans c9)
      have Hx9 := Lib.hid (And.intro ex9 hx9)
      have Hsd := Lib.hid (And.intro esr eds)
      clear ex9 esr eds l9 hz1
      go_cut [5] (fun s5 wx => s5 = .pointer (some ⟨z1, 0, none⟩) ∧ Hid (wx.heap[z1]? = some (.cells #[.int .u8 x9, .int .u32 sr, .int .u32 ds, .int .u16 0, .int .u16 0, .int .u32 0] 32 (0, 0))) ∧ Hid (Below w0.heap.size w0 wx))
      case first =>
        go_region_held3 (fun w' => w'.cell? q9 = some (.int .u8 x9)) (exact HS9.out _ (by repeat (first | exact Below.refl _ _ | refine Below.drew ?_ | (refine Below.alloc ?_ (by simp) _) | (refine Below.setCell ?_ (by simp) _)))) (first | (go_at_call 24; (with_reducible refine (hC12 _ (HSr.out _ ?_)).mono ?_); (repeat (first | exact Below.refl _ _ | refine Below.drew ?_ | (refine Below.alloc ?_ (by simp) _))); rintro e w1 ⟨rfl, rfl⟩) | (go_at_call 24; (with_reducible refine (hC16 _ (HSr.out _ ?_)).mono ?_); (repeat (first | exact Below.refl _ _ | refine Below.drew ?_ | (refine Below.alloc ?_ (by simp) _))); rintro e w1 ⟨rfl, rfl⟩))
        all_goals go_wp2_with fail
        all_goals go_meet
        all_goals exact ⟨by rw [Hz1.out], Lib.hid (by rw [← Hz1.out]; exact heap_alloc_new w0 _), Lib.hid (((Below.refl _ _).alloc (Nat.le_refl _) _).drew)⟩
      case rest =>
        obtain ⟨rfl, HQ, HB⟩ := hcut
        have c9c := HS9.out _ HB.out
        have HRc := Lib.hid (HSr.out _ HB.out)
        have Hz01 := Lib.hid (show z0 < z1 by have := lt_of_block HK0.out; have := Hz1.out; omega)
        have HKc := Lib.hid (blk_on HK0.out HB.out)
        obtain ⟨hx90, hx91⟩ := Hx9.out.2
        obtain ⟨H, eH⟩ : ∃ H, qH b = H := ⟨_, rfl⟩
        have HH := Lib.hid eH
        have HN2 := Lib.hid (show N = 2 * H by rw [← eH]; exact HN.out.symm)
        have hw2 : IntKind.i64.wrap ((N : Int) + 2) = (N : Int) + 2 := IntWalk.i64_in _ (by omega)
        have hw4 : IntKind.i64.wrap ((N : Int) + 4) = (N : Int) + 4 := IntWalk.i64_in _ (by omega)
        have hw1 : IntKind.i64.wrap ((N : Int) + 1) = (N : Int) + 1 := IntWalk.i64_in _ (by omega)
        clear eH c9
        by_cases hp : x9 = 6 ∨ x9 = 17
        · obtain ⟨sp, esp⟩ : ∃ y, wordL b H = y := ⟨_, rfl⟩
          obtain ⟨dp, edp⟩ : ∃ y, wordL b (H + 1) = y := ⟨_, rfl⟩
          have hspb := wordL_bd Hby.out H
          have hdpb := wordL_bd Hby.out (H + 1)
          rw [esp] at hspb
          rw [edp] at hdpb
          have hs16 : IntKind.u16.wrap sp = sp := IntWalk.u16_in _ hspb
          have hd16 : IntKind.u16.wrap dp = dp := IntWalk.u16_in _ hdpb
          have hC1 : ∀ W : World, Rd W A n b → Calls Try.prog 24 #[.slice A n c, .int .i64 (N : Int), .int .i64 2] W (NumIs16 sp W) := fun W hW => num16_any A n c b N N 2 sp W hn rfl (by decide) (by omega) hW (by rw [HN2.out, ← esp]; exact nmQ_two b H)
          have hC2 : ∀ W : World, Rd W A n b → Calls Try.prog 24 #[.slice A n c, .int .i64 ((N : Int) + 2), .int .i64 2] W (NumIs16 dp W) := fun W hW => num16_any A n c b ((N : Int) + 2) (N + 2) 2 dp W hn (by simp) (by decide) (by omega) hW (by rw [HN2.out, ← edp]; exact nmQ_two b (H + 1))
          obtain ⟨u0, u1, u2, u3, u4, u5⟩ := cells6 HQ.out
          have fz1 := fun i => blk_free HQ.out i
          obtain ⟨wa, ea⟩ : ∃ v, wc.setCell ⟨z1, 3, none⟩ (.int .u16 sp) = v := ⟨_, rfl⟩
          have hka : wa.heap[z1]? = some (.cells #[.int .u8 x9, .int .u32 sr, .int .u32 ds, .int .u16 sp, .int .u16 0, .int .u32 0] 32 (0, 0)) := by rw [← ea]; have := setCell_block (i := 3) HQ.out (.int .u16 sp); simpa using this
          have HBa := Lib.hid (show Below w0.heap.size w0 wa by rw [← ea]; exact HB.out.setCell (by rw [Hz1.out]; exact Nat.le_refl _) _)
          obtain ⟨wb, eb⟩ : ∃ v, wa.setCell ⟨z1, 4, none⟩ (.int .u16 dp) = v := ⟨_, rfl⟩
          have hkb : wb.heap[z1]? = some (.cells #[.int .u8 x9, .int .u32 sr, .int .u32 ds, .int .u16 sp, .int .u16 dp, .int .u32 0] 32 (0, 0)) := by rw [← eb]; have := setCell_block (i := 4) hka (.int .u16 dp); simpa using this
          have HBb := Lib.hid (show Below w0.heap.size w0 wb by rw [← eb]; exact HBa.out.setCell (by rw [Hz1.out]; exact Nat.le_refl _) _)
          have HKb := Lib.hid (show wb.heap[z0]? = some (.cells #[.int .u8 0, .int .u32 0, .int .u32 0, .int .u16 0, .int .u16 0, .int .u32 0] 32 (0, 0)) from blk_on HK0.out HBb.out)
          have Ea := Lib.hid ea
          have Eb := Lib.hid eb
          have Hkb := Lib.hid hkb
          have Hka := Lib.hid hka
          have Hsp := Lib.hid (And.intro esp edp)
          have h9b := HS9.out _ HBb.out
          have h1no : ¬ x9 = 1 := by omega
          have He := Lib.hid (show errQ b = 0 by unfold errQ; rw [if_neg HNo.out.1, if_neg HNo.out.2.1, if_neg HNo.out.2.2, if_neg Hfr.out, if_pos (by rw [Hx9.out.1]; exact hp)])
          have Hx := Lib.hid (show x = 0 by rw [← Hxe.out]; exact He.out)
          have Ht := Lib.hid (show t = ⟨x9, sr, ds, sp, dp⟩ by
            rw [← Hte.out]; unfold qT qTu; rw [if_pos He.out, Hx9.out.1, if_neg h1no, if_neg h1no, Hsd.out.1, Hsd.out.2, HH.out, Hsp.out.1, Hsp.out.2])
          clear ea eb hka hkb esp edp hspb hdpb
          have hpb : ((x9 == 6) = true ∧ x9 = 6) ∨ ((x9 == 6) = false ∧ (x9 == 17) = true ∧ x9 = 17) := by
            rcases hp with rfl | rfl
            · exact .inl ⟨rfl, rfl⟩
            · exact .inr ⟨rfl, rfl, rfl⟩
          clear hp h1no
          rcases hpb with ⟨p6, hq6⟩ | ⟨p6, p17, hq17⟩
          · obtain ⟨sq, esq⟩ : ∃ y, wordL b (H + 2) * 65536 + wordL b (H + 3) = y := ⟨_, rfl⟩
            have hC3 : ∀ W : World, Rd W A n b → Calls Try.prog 24 #[.slice A n c, .int .i64 ((N : Int) + 4), .int .i64 4] W (NumIs16 sq W) := fun W hW => num16_any A n c b ((N : Int) + 4) (N + 4) 4 sq W hn (by simp) (by decide) (by omega) hW (by rw [HN2.out, ← esq]; exact nmQ_four b (H + 2))
            have Hs := Lib.hid (show s = sq by rw [← Hse.out]; unfold qS qSeq; rw [if_pos He.out, Hx9.out.1, if_pos hq6, HH.out]; exact esq)
            clear hq6 esq
            go_wp2_with fail
            refine (hC1 _ HRc.out).mono ?_
            rintro e w1 ⟨rfl, rfl⟩
            go_upto_region 15 with (fail)
            rw [Ea.out]
            clear u0 u1 u2 u3 u4 u5 fz1 c9c
            obtain ⟨u0, u1, u2, u3, u4, u5⟩ := cells6 Hka.out
            have fz1 := fun i => blk_free Hka.out i
            go_wp2_with fail
            refine (hC2 _ (HSr.out _ HBa.out)).mono ?_
            rintro e w1 ⟨rfl, rfl⟩
            go_upto_region 16 with (fail)
            rw [Eb.out]
            clear u0 u1 u2 u3 u4 u5 fz1
            obtain ⟨u0, u1, u2, u3, u4, u5⟩ := cells6 Hkb.out
            have fz1 := fun i => blk_free Hkb.out i
            go_wp2_with fail
            refine (hC3 _ (HSr.out _ HBb.out)).mono ?_
            rintro e w1 ⟨rfl, rfl⟩
            obtain ⟨wd, ed⟩ : ∃ v, wb.setCell ⟨z1, 5, none⟩ (.int .u32 sq) = v := ⟨_, rfl⟩
            have hkd : wd.heap[z1]? = some (.cells #[.int .u8 x9, .int .u32 sr, .int .u32 ds, .int .u16 sp, .int .u16 dp, .int .u32 sq] 32 (0, 0)) := by rw [← ed]; have := setCell_block (i := 5) Hkb.out (.int .u32 sq); simpa using this
            have HBd := Lib.hid (show Below w0.heap.size w0 wd by rw [← ed]; exact HBb.out.setCell (by rw [Hz1.out]; exact Nat.le_refl _) _)
            have Ed := Lib.hid ed
            have Hkd := Lib.hid hkd
            clear ed hkd
            go_upto_region 18 with (fail)
            rw [Ed.out]
            clear u0 u1 u2 u3 u4 u5 fz1 h9b
            obtain ⟨u0, u1, u2, u3, u4, u5⟩ := cells6 Hkd.out
            have HKz := Lib.hid (show wd.heap[z0]? = some (.cells #[.int .u8 0, .int .u32 0, .int .u32 0, .int .u16 0, .int .u16 0, .int .u32 0] 32 (0, 0)) from blk_on HK0.out HBd.out)
            have HBz := Lib.hid (below_trans Hb0.out HBd.out)
            have fz0 := fun i => blk_free HKz.out i
            obtain ⟨v0, v1, v2, v3', v4, v5⟩ := cells6 HKz.out
            go_wp2_with fail
            exact bodyPost_ret (v := .tuple #[.agg #[.int .u8 x9, .int .u32 sr, .int .u32 ds, .int .u16 sp, .int .u16 dp, .int .u32 sq], .int .i64 0]) (results_row_tmp rfl _ _ z0 _ _ _ _ _ rfl rfl (set6_blk HKz.out _ _ _ _ _ _) Try.underlying32 rfl (by kernel_rfl)) rfl ⟨by rw [Ht.out, Hs.out, Hx.out], set6_below HBz.out (by rw [Hz.out]; exact Nat.le_refl _) _ _ _ _ _ _⟩
          · have Hs := Lib.hid (show s = 0 by rw [← Hse.out]; unfold qS qSeq; rw [if_pos He.out, Hx9.out.1, if_neg (by omega)])
            clear hq17
            go_wp2_with fail
            refine (hC1 _ HRc.out).mono ?_
            rintro e w1 ⟨rfl, rfl⟩
            go_upto_region 15 with (fail)
            rw [Ea.out]
            clear u0 u1 u2 u3 u4 u5 fz1 c9c
            obtain ⟨u0, u1, u2, u3, u4, u5⟩ := cells6 Hka.out
            have fz1 := fun i => blk_free Hka.out i
            go_wp2_with fail
            refine (hC2 _ (HSr.out _ HBa.out)).mono ?_
            rintro e w1 ⟨rfl, rfl⟩
            go_upto_region 16 with (fail)
            rw [Eb.out]
            clear u0 u1 u2 u3 u4 u5 fz1
            obtain ⟨u0, u1, u2, u3, u4, u5⟩ := cells6 Hkb.out
            have HKz := Lib.hid (show wb.heap[z0]? = some (.cells #[.int .u8 0, .int .u32 0, .int .u32 0, .int .u16 0, .int .u16 0, .int .u32 0] 32 (0, 0)) from blk_on HK0.out HBb.out)
            have HBz := Lib.hid (below_trans Hb0.out HBb.out)
            have fz0 := fun i => blk_free HKz.out i
            obtain ⟨v0, v1, v2, v3', v4, v5⟩ := cells6 HKz.out
            go_wp2_with fail
            exact bodyPost_ret (v := .tuple #[.agg #[.int .u8 x9, .int .u32 sr, .int .u32 ds, .int .u16 sp, .int .u16 dp, .int .u32 0], .int .i64 0]) (results_row_tmp rfl _ _ z0 _ _ _ _ _ rfl rfl (set6_blk HKz.out _ _ _ _ _ _) Try.underlying32 rfl (by kernel_rfl)) rfl ⟨by rw [Ht.out, Hs.out, Hx.out], set6_below HBz.out (by rw [Hz.out]; exact Nat.le_refl _) _ _ _ _ _ _⟩
        · have p6 : (x9 == 6) = false := beq_false_of_ne (fun h => hp (.inl h))
          have p17 : (x9 == 17) = false := beq_false_of_ne (fun h => hp (.inr h))
          by_cases h1 : x9 = 1
          · have p1 : (x9 == 1) = true := by simpa using h1
            obtain ⟨qn, rn, cn, ln⟩ := HRc.out.index (c := c) (j := N) (by omega)
            obtain ⟨qm, rm, cm, lm⟩ := HRc.out.index (c := c) (j := N + 1) (by omega)
            have rm : ∀ W : World, (Instr.indexAt 22 (.slice A n c) (.int .i64 ((N : Int) + 1))).run Try.prog W = .ok (.pointer (some qm)) W := fun W => by have := rm W; simpa using this
            obtain ⟨ty, ety⟩ : ∃ y, b.getD N 0 = y := ⟨_, rfl⟩
            obtain ⟨cd, ecd⟩ : ∃ y, b.getD (N + 1) 0 = y := ⟨_, rfl⟩
            rw [ety] at cn
            rw [ecd] at cm
            obtain ⟨rs, ers⟩ : ∃ y, wordL b (H + 2) * 65536 + wordL b (H + 3) = y := ⟨_, rfl⟩
            have hrs : 0 ≤ rs ∧ rs < 4294967296 := by have h1 := wordL_bd Hby.out (H + 2); have h2 := wordL_bd Hby.out (H + 3); unfold U16 at h1 h2; omega
            have hrs2 : rs / 65536 = wordL b (H + 2) := by have h1 := wordL_bd Hby.out (H + 2); have h2 := wordL_bd Hby.out (H + 3); unfold U16 at h1 h2; omega
            have hC3 : ∀ W : World, Rd W A n b → Calls Try.prog 24 #[.slice A n c, .int .i64 ((N : Int) + 4), .int .i64 4] W (NumIs16 rs W) := fun W hW => num16_any A n c b ((N : Int) + 4) (N + 4) 4 rs W hn (by simp) (by decide) (by omega) hW (by rw [HN2.out, ← ers]; exact nmQ_four b (H + 2))
            have HC3 := Lib.hid hC3
            have Hrs := Lib.hid (And.intro hrs hrs2)
            have Hec := Lib.hid (show b.getD (2 * qH b) 0 = ty ∧ b.getD (2 * qH b + 1) 0 = cd by rw [HH.out, ← HN2.out]; exact ⟨ety, ecd⟩)
            have HSn := Lib.hid (show ∀ w', Below wc.heap.size wc w' → w'.cell? qn = some (.int .u8 ty) ∧ w'.cell? qm = some (.int .u8 cd) from fun w' hb => ⟨(hb.cell ln).trans cn, (hb.cell lm).trans cm⟩)
            have Hp := Lib.hid (And.intro hp h1)
            obtain ⟨y, ey⟩ : ∃ y, echoM ty cd = y := ⟨_, rfl⟩
            have Ey := Lib.hid ey
            clear hC3 hrs hrs2 ety ecd ers ln lm cn cm hp h1 ey
            have hEcho : ∀ W : World, Calls Try.prog 25 #[.agg #[.int .u8 ty, .int .u8 cd, .int .u32 rs, .slice none 0 0]] W fun e w' => e = .returned (.tuple #[.int .u16 (if y = true then rs / 65536 else 0), .int .u16 (if y = true then rs % 65536 else 0), .bool y]) ∧ Below W.heap.size W w' := fun W => (recho8_any ty cd rs none 0 0 W Hrs.out.1).mono (fun e w' h => by
              obtain ⟨h1, h2⟩ := h
              rw [Ey.out] at h1
              cases y with
              | true => exact ⟨by simpa using h1, h2⟩
              | false => exact ⟨by simpa using h1, h2⟩)
            obtain ⟨id, eid⟩ : ∃ v, (if y = true then rs / 65536 else 0) = v := ⟨_, rfl⟩
            obtain ⟨sq, esq⟩ : ∃ v, (if y = true then rs % 65536 else 0) = v := ⟨_, rfl⟩
            rw [eid, esq] at hEcho
            have HEcho := Lib.hid hEcho
            have Hid := Lib.hid eid
            clear hEcho eid esq
            go_upto_region 20 with (fail)
            clear c9c
            refine wp_region_held_drew (S := fun w' => w'.cell? qn = some (.int .u8 ty) ∧ w'.cell? qm = some (.int .u8 cd)) (by kernel_rfl) (HSn.out _ (Below.refl _ _).drew) (fun hHeld => ?_)
            obtain ⟨wd, ewd⟩ : ∃ wd, wc.drew = wd := ⟨_, rfl⟩
            have HBd := Lib.hid (show Below wc.heap.size wc wd by rw [← ewd]; exact (Below.refl _ _).drew)
            have HRd := Lib.hid (HRc.out.below HBd.out)
            rw [ewd] at hHeld ⊢
            clear ewd
            refine tk 0 ?_ rfl ?_ ?_
            rotate_left
            · intro w' hSw; (go_simp <;> (with_reducible rfl))
            try simp only [Act.put, putL]
            refine tk 1 ?_ rfl ?_ ?_
            rotate_left
            · intro w' hSw; (go_simp <;> (with_reducible rfl))
            try simp only [Act.put, putL]
            refine tk 2 ?_ rfl ?_ ?_
            rotate_left
            · intro w' hSw; (go_simp <;> (with_reducible rfl))
            try simp only [Act.put, putL]
            refine tk 3 ?_ rfl ?_ ?_
            rotate_left
            · intro w' hSw; (go_simp <;> (with_reducible rfl))
            try simp only [Act.put, putL]
            refine tk 4 ?_ rfl ?_ ?_
            rotate_left
            · intro w' hSw; (go_simp <;> (with_reducible rfl))
            try simp only [Act.put, putL]
            refine tk 5 ?_ rfl ?_ ?_
            rotate_left
            · intro w' hSw; (go_simp <;> (with_reducible rfl))
            try simp only [Act.put, putL]
            refine tk 6 ?_ rfl ?_ ?_
            rotate_left
            · intro w' hSw; (go_simp <;> (with_reducible rfl))
            try simp only [Act.put, putL]
            refine tk 7 ?_ rfl ?_ ?_
            rotate_left
            · intro w' hSw; (go_simp <;> (with_reducible rfl))
            try simp only [Act.put, putL]
            refine tk 8 ?_ rfl ?_ ?_
            rotate_left
            · intro w' hSw; (go_simp <;> (with_reducible rfl))
            try simp only [Act.put, putL]
            refine tk 9 ?_ rfl ?_ ?_
            rotate_left
            · intro w' hSw; (go_simp <;> (with_reducible rfl))
            try simp only [Act.put, putL]
            refine tk 10 ?_ rfl ?_ ?_
            rotate_left
            · intro w' hSw; (go_simp <;> (with_reducible rfl))
            try simp only [Act.put, putL]
            refine tk 11 ?_ rfl ?_ ?_
            rotate_left
            · intro w' hSw; (go_simp <;> (with_reducible rfl))
            try simp only [Act.put, putL]
            refine tkC 12 rfl (fun K hK => ?_)
            go_simp
            (refine (HC3.out _ HRd.out).mono ?_; rintro e w4 ⟨rfl, rfl⟩)
            refine hK.out _ _ ?_ (fun hHeld => ?_)
            · exact HSn.out _ HBd.out
            clear hK K
            try simp only [Act.put, putL]
            refine tk 13 ?_ rfl ?_ ?_
            rotate_left
            · intro w' hSw; (go_simp <;> (with_reducible rfl))
            try simp only [Act.put, putL]
            refine tkC 14 rfl (fun K hK => ?_)
            go_simp
            (refine (HEcho.out _).mono ?_; rintro e w5 ⟨rfl, hb5⟩; have HB5 := Lib.hid hb5; clear hb5)
            refine hK.out _ _ ?_ (fun hHeld => ?_)
            · exact HSn.out _ (below_trans HBd.out HB5.out)
            clear hK K
            try simp only [Act.put, putL]
            refine tk 15 ?_ rfl ?_ ?_
            rotate_left
            · intro w' hSw; (go_simp <;> (with_reducible rfl))
            try simp only [Act.put, putL]
            refine tk 16 ?_ rfl ?_ ?_
            rotate_left
            · intro w' hSw; (go_simp <;> (with_reducible rfl))
            try simp only [Act.put, putL]
            refine tk 17 ?_ rfl ?_ ?_
            rotate_left
            · intro w' hSw; (go_simp <;> (with_reducible rfl))
            try simp only [Act.put, putL]
            refine tk 18 ?_ rfl ?_ ?_
            rotate_left
            · intro w' hSw; (go_simp <;> (with_reducible rfl))
            try simp only [Act.put, putL]
            refine tk 19 ?_ rfl ?_ ?_
            rotate_left
            · intro w' hSw; (go_simp <;> (with_reducible rfl))
            try simp only [Act.put, putL]
            refine tk 20 ?_ rfl ?_ ?_
            rotate_left
            · intro w' hSw; (go_simp <;> (with_reducible rfl))
            try simp only [Act.put, putL]
            refine tk 21 ?_ rfl ?_ ?_
            rotate_left
            · intro w' hSw; (go_simp <;> (with_reducible rfl))
            try simp only [Act.put, putL]
            refine wpAnyH_done (by kernel_rfl) ?_ _
            clear hHeld
            have HBf := Lib.hid (HB.out.trans (show Below w0.heap.size wc w5 from (below_trans HBd.out HB5.out).mono (HB.out.size)))
            have HQf := Lib.hid (blk_on (blk_on HQ.out HBd.out) HB5.out)
            cases y with
            | true =>
              have He := Lib.hid (show errQ b = 0 by unfold errQ; rw [if_neg HNo.out.1, if_neg HNo.out.2.1, if_neg HNo.out.2.2, if_neg Hfr.out, if_neg (by rw [Hx9.out.1]; exact Hp.out.1), if_pos ⟨by rw [Hx9.out.1]; exact Hp.out.2, by rw [Hec.out.1, Hec.out.2]; exact Ey.out⟩])
              have Hx := Lib.hid (show x = 0 by rw [← Hxe.out]; exact He.out)
              have Hs := Lib.hid (show s = 0 by rw [← Hse.out]; unfold qS qSeq; rw [if_pos He.out, Hx9.out.1, if_neg (by have := Hp.out.2; omega)])
              have Ht := Lib.hid (show t = ⟨x9, sr, ds, id, 0⟩ by
                rw [← Hte.out]; unfold qT qTu; rw [if_pos He.out, Hx9.out.1, if_pos Hp.out.2, if_pos Hp.out.2, Hsd.out.1, Hsd.out.2, HH.out, ← Hid.out, if_pos rfl, Hrs.out.2])
              obtain ⟨wa, ea⟩ : ∃ v, w5.setCell ⟨z1, 3, none⟩ (.int .u16 id) = v := ⟨_, rfl⟩
              have hka : wa.heap[z1]? = some (.cells #[.int .u8 x9, .int .u32 sr, .int .u32 ds, .int .u16 id, .int .u16 0, .int .u32 0] 32 (0, 0)) := by rw [← ea]; have := setCell_block (i := 3) HQf.out (.int .u16 id); simpa using this
              have HBa := Lib.hid (show Below w0.heap.size w0 wa by rw [← ea]; exact HBf.out.setCell (by rw [Hz1.out]; exact Nat.le_refl _) _)
              have Ea := Lib.hid ea
              have Hka := Lib.hid hka
              clear ea hka
              obtain ⟨u0, u1, u2, u3, u4, u5⟩ := cells6 HQf.out
              have fz1 := fun i => blk_free HQf.out i
              go_upto_region 23 with (fail)
              rw [Ea.out]
              clear u0 u1 u2 u3 u4 u5 fz1
              obtain ⟨u0, u1, u2, u3, u4, u5⟩ := cells6 Hka.out
              have HKz := Lib.hid (show wa.heap[z0]? = some (.cells #[.int .u8 0, .int .u32 0, .int .u32 0, .int .u16 0, .int .u16 0, .int .u32 0] 32 (0, 0)) from blk_on HK0.out HBa.out)
              have HBz := Lib.hid (below_trans Hb0.out HBa.out)
              have fz0 := fun i => blk_free HKz.out i
              obtain ⟨v0, v1, v2, v3', v4, v5⟩ := cells6 HKz.out
              go_wp2_with fail
              exact bodyPost_ret (v := .tuple #[.agg #[.int .u8 x9, .int .u32 sr, .int .u32 ds, .int .u16 id, .int .u16 0, .int .u32 0], .int .i64 0]) (results_row_tmp rfl _ _ z0 _ _ _ _ _ rfl rfl (set6_blk HKz.out _ _ _ _ _ _) Try.underlying32 rfl (by kernel_rfl)) rfl ⟨by rw [Ht.out, Hs.out, Hx.out], set6_below HBz.out (by rw [Hz.out]; exact Nat.le_refl _) _ _ _ _ _ _⟩
            | false =>
              have He := Lib.hid (show errQ b = 22 by unfold errQ; rw [if_neg HNo.out.1, if_neg HNo.out.2.1, if_neg HNo.out.2.2, if_neg Hfr.out, if_neg (by rw [Hx9.out.1]; exact Hp.out.1), if_neg (by rw [Hec.out.1, Hec.out.2, Ey.out]; exact fun h => by cases h.2)])
              have Ht := Lib.hid (show t = ⟨0, 0, 0, 0, 0⟩ by rw [← Hte.out]; unfold qT; rw [He.out]; rfl)
              have Hs := Lib.hid (show s = 0 by rw [← Hse.out]; unfold qS; rw [He.out]; rfl)
              have Hx := Lib.hid (show x = 22 by rw [← Hxe.out]; exact He.out)
              have HKf := Lib.hid (blk_on HK0.out HBf.out)
              have fz := fun i => blk_free HKf.out i
              obtain ⟨u0, u1, u2, u3, u4, u5⟩ := cells6 HKf.out
              have HBz := Lib.hid (below_trans Hb0.out HBf.out)
              go_wp2_with fail
              exact bodyPost_ret (v := .tuple #[.agg #[.int .u8 0, .int .u32 0, .int .u32 0, .int .u16 0, .int .u16 0, .int .u32 0], .int .i64 22]) (results_row_tmp rfl _ _ z0 _ _ _ _ _ rfl rfl (set6_blk HKf.out _ _ _ _ _ _) Try.underlying32 rfl (by kernel_rfl)) rfl ⟨by rw [Ht.out, Hs.out, Hx.out], set6_below HBz.out (by rw [Hz.out]; exact Nat.le_refl _) _ _ _ _ _ _⟩
          · have p1 : (x9 == 1) = false := beq_false_of_ne h1
            have He := Lib.hid (show errQ b = 22 by unfold errQ; rw [if_neg HNo.out.1, if_neg HNo.out.2.1, if_neg HNo.out.2.2, if_neg Hfr.out, if_neg (by rw [Hx9.out.1]; exact hp), if_neg (by rw [Hx9.out.1]; exact fun h => h1 h.1)])
            clear hp h1
            have Ht := Lib.hid (show t = ⟨0, 0, 0, 0, 0⟩ by rw [← Hte.out]; unfold qT; rw [He.out]; rfl)
            have Hs := Lib.hid (show s = 0 by rw [← Hse.out]; unfold qS; rw [He.out]; rfl)
            have Hx := Lib.hid (show x = 22 by rw [← Hxe.out]; exact He.out)
            have fz := fun i => blk_free HKc.out i
            obtain ⟨u0, u1, u2, u3, u4, u5⟩ := cells6 HKc.out
            have HBz := Lib.hid (below_trans Hb0.out HB.out)
            go_wp2_with fail
            exact bodyPost_ret (v := .tuple #[.agg #[.int .u8 0, .int .u32 0, .int .u32 0, .int .u16 0, .int .u16 0, .int .u32 0], .int .i64 22]) (results_row_tmp rfl _ _ z0 _ _ _ _ _ rfl rfl (set6_blk HKc.out _ _ _ _ _ _) Try.underlying32 rfl (by kernel_rfl)) rfl ⟨by rw [Ht.out, Hs.out, Hx.out], set6_below HBz.out (by rw [Hz.out]; exact Nat.le_refl _) _ _ _ _ _ _⟩
    · have hfb : (v3 % 8192 != 0) = true := by simpa using hfr
      have He := Lib.hid (show errQ b = 21 by unfold errQ; rw [if_neg HNo.out.1, if_neg HNo.out.2.1, if_neg HNo.out.2.2, if_pos (by rw [ev3]; exact hfr)])
      clear hfr ev3
      have Ht := Lib.hid (show t = ⟨0, 0, 0, 0, 0⟩ by rw [← Hte.out]; unfold qT; rw [He.out]; rfl)
      have Hs := Lib.hid (show s = 0 by rw [← Hse.out]; unfold qS; rw [He.out]; rfl)
      have Hx := Lib.hid (show x = 21 by rw [← Hxe.out]; exact He.out)
      have fz := fun i => blk_free HK0.out i
      obtain ⟨u0, u1, u2, u3, u4, u5⟩ := cells6 HK0.out
      go_wp2_with fail
      exact bodyPost_ret (v := .tuple #[.agg #[.int .u8 0, .int .u32 0, .int .u32 0, .int .u16 0, .int .u16 0, .int .u32 0], .int .i64 21]) (results_row_tmp rfl _ _ z0 _ _ _ _ _ rfl rfl (set6_blk HK0.out _ _ _ _ _ _) Try.underlying32 rfl (by kernel_rfl)) rfl ⟨by rw [Ht.out, Hs.out, Hx.out], set6_below Hb0.out (by rw [Hz.out]; exact Nat.le_refl _) _ _ _ _ _ _⟩
  · have h4b : (x0 / 16 != 4) = true := by simpa using h4
    have He := Lib.hid (show errQ b = 5 by unfold errQ; rw [if_neg hno1, if_pos (by left; rw [Hx0.out.1]; exact h4)])
    clear h4 hno1
    have Ht := Lib.hid (show t = ⟨0, 0, 0, 0, 0⟩ by rw [← Hte.out]; unfold qT; rw [He.out]; rfl)
    have Hs := Lib.hid (show s = 0 by rw [← Hse.out]; unfold qS; rw [He.out]; rfl)
    have Hx := Lib.hid (show x = 5 by rw [← Hxe.out]; exact He.out)
    have fz := fun i => blk_free HK0.out i
    obtain ⟨u0, u1, u2, u3, u4, u5⟩ := cells6 HK0.out
    go_wp2_with fail
    exact bodyPost_ret (v := .tuple #[.agg #[.int .u8 0, .int .u32 0, .int .u32 0, .int .u16 0, .int .u16 0, .int .u32 0], .int .i64 5]) (results_row_tmp rfl _ _ z0 _ _ _ _ _ rfl rfl (set6_blk HK0.out _ _ _ _ _ _) Try.underlying32 rfl (by kernel_rfl)) rfl ⟨by rw [Ht.out, Hs.out, Hx.out], set6_below Hb0.out (by rw [Hz.out]; exact Nat.le_refl _) _ _ _ _ _ _⟩
end Go.Proofs.Ytoegfgbalcholaa

/-
  Slices of numbers of one kind, from any place of their block on ('Sl'): read, written, cut at the front, appended to, cloned. No function of the program.
-/
namespace Go.Proofs.Ytoegfgbalcholaa
set_option maxRecDepth 10000
open Go.RowKit

/-- Block g holds from o on the numbers of l, room for c in all. -/
def Row (w : World) (T : TypeId) (k : IntKind) (g o : Nat) (l : List Int) (c : Nat) : Prop :=
  ∃ C, w.heap[g]? = some (.cells C T (0, 0)) ∧ o + c ≤ C.size ∧ l.length ≤ c ∧ c ≤ maxLen ∧ ∀ i, i < l.length → C[o + i]? = some (.int k (l.getD i 0))
/-- A slice that is none, or lies so in block g. -/
def Sl (w : World) (T : TypeId) (k : IntKind) (v : Value) (l : List Int) : Prop :=
  (v = .slice none 0 0 ∧ l = []) ∨ ∃ g o c, v = .slice (some ⟨g, o, none⟩) l.length c ∧ Row w T k g o l c

theorem Row.lt {w : World} {T : TypeId} {k : IntKind} {g o : Nat} {l : List Int} {c : Nat} (h : Row w T k g o l c) : g < w.heap.size := by
  obtain ⟨C, hg, _⟩ := h
  exact lt_of_block hg
theorem Row.cell {w : World} {T : TypeId} {k : IntKind} {g o : Nat} {l : List Int} {c : Nat} (h : Row w T k g o l c) {i : Nat} (hi : i < l.length) : w.cell? ⟨g, o + i, none⟩ = some (.int k (l.getD i 0)) := by
  obtain ⟨C, hg, _, _, _, hc⟩ := h
  rw [blk_cell hg]
  exact hc i hi
theorem Row.free {w : World} {T : TypeId} {k : IntKind} {g o : Nat} {l : List Int} {c : Nat} (h : Row w T k g o l c) (i : Nat) : w.frozen? ⟨g, i, none⟩ = false := by
  obtain ⟨C, hg, _⟩ := h
  exact blk_free hg i
theorem Row.there {w : World} {T : TypeId} {k : IntKind} {g o : Nat} {l : List Int} {c : Nat} (h : Row w T k g o l c) {i : Nat} (hi : i < c) : (w.cell? ⟨g, o + i, none⟩).isSome = true := by
  obtain ⟨C, hg, hC, _⟩ := h
  rw [blk_cell hg, Array.getElem?_eq_getElem (by omega)]
  rfl
theorem Row.of_block {w w' : World} {T : TypeId} {k : IntKind} {g o : Nat} {l : List Int} {c : Nat} (h : Row w T k g o l c) (hb : w'.heap[g]? = w.heap[g]?) : Row w' T k g o l c := by
  obtain ⟨C, hg, hr⟩ := h
  exact ⟨C, hb.trans hg, hr⟩
theorem Row.but {S : Nat → Prop} {w w' : World} {T : TypeId} {k : IntKind} {g o : Nat} {l : List Int} {c : Nat} (h : Row w T k g o l c) (hb : But S w w') (hn : ¬ S g) : Row w' T k g o l c :=
  h.of_block (hb.block g h.lt hn)
theorem heap_setCell_at {w : World} {g : Nat} {C : Array Value} {T : TypeId} {fr : Nat × Nat} (h : w.heap[g]? = some (.cells C T fr)) (j : Nat) (u : Value) : (w.setCell ⟨g, j, none⟩ u).heap[g]? = some (.cells (C.setIfInBounds j u) T fr) := by
  unfold World.setCell
  simp [Array.getElem?_modify, h]
theorem Row.set_ {w : World} {T : TypeId} {k : IntKind} {g o : Nat} {l : List Int} {c : Nat} (h : Row w T k g o l c) (j : Nat) (x : Int) : Row (w.setCell ⟨g, o + j, none⟩ (.int k x)) T k g o (l.set j x) c := by
  obtain ⟨C, hg, hC, hl, hm, hc⟩ := h
  refine ⟨_, heap_setCell_at hg _ _, by simpa using hC, by simpa using hl, hm, fun i hi => ?_⟩
  simp only [List.length_set] at hi
  have hci := hc i hi
  by_cases e : j = i
  · subst e
    simp [List.getD, hi, (show o + j < C.size by omega)]
  · rw [Array.getElem?_setIfInBounds_ne (by omega), hci]
    simp [List.getD, List.getElem?_set_ne e]
theorem Row.tail {w : World} {T : TypeId} {k : IntKind} {g o : Nat} {x : Int} {l : List Int} {c : Nat} (h : Row w T k g o (x :: l) c) : Row w T k g (o + 1) l (c - 1) := by
  obtain ⟨C, hg, hC, hl, hm, hc⟩ := h
  simp only [List.length_cons] at hl hc
  refine ⟨C, hg, by omega, by omega, by omega, fun i hi => ?_⟩
  have := hc (i + 1) (by omega)
  rw [show o + 1 + i = o + (i + 1) by omega, this]
  rfl
theorem Sl.nil (w : World) (T : TypeId) (k : IntKind) : Sl w T k (.slice none 0 0) [] := .inl ⟨rfl, rfl⟩
theorem Sl.form {w : World} {T : TypeId} {k : IntKind} {v : Value} {l : List Int} (h : Sl w T k v l) : ∃ A c, v = .slice A l.length c ∧ (0 < l.length → ∃ g o, A = some ⟨g, o, none⟩ ∧ Row w T k g o l c) := by
  rcases h with ⟨rfl, rfl⟩ | ⟨g, o, c, rfl, h⟩
  · exact ⟨_, _, rfl, fun h => by simp at h⟩
  · exact ⟨_, _, rfl, fun _ => ⟨g, o, rfl, h⟩⟩
theorem Sl.but {S : Nat → Prop} {w w' : World} {T : TypeId} {k : IntKind} {v : Value} {l : List Int} (h : Sl w T k v l) (hb : But S w w') (hn : ∀ g, v.ownBlock = some g → ¬ S g) : Sl w' T k v l := by
  rcases h with h | ⟨g, o, c, rfl, h⟩
  · exact .inl h
  · exact .inr ⟨g, o, c, rfl, h.but hb (hn g rfl)⟩
theorem Sl.lt {w : World} {T : TypeId} {k : IntKind} {v : Value} {l : List Int} (h : Sl w T k v l) {g : Nat} (hg : v.ownBlock = some g) : g < w.heap.size := by
  rcases h with ⟨rfl, _⟩ | ⟨g', o, c, rfl, h⟩
  · cases hg
  · injection hg with e
    subst e
    exact h.lt
/-- Its block has the elements' type. -/
theorem Sl.type {w : World} {T : TypeId} {k : IntKind} {v : Value} {l : List Int} (h : Sl w T k v l) {g : Nat} (hg : v.ownBlock = some g) : ∃ C, w.heap[g]? = some (.cells C T (0, 0)) := by
  rcases h with ⟨rfl, _⟩ | ⟨g', o, c, rfl, h⟩
  · cases hg
  · injection hg with e
    subst e
    obtain ⟨C, hC, _⟩ := h
    exact ⟨C, hC⟩
theorem Row.one {w : World} (T : TypeId) (k : IntKind) (x : Int) (g : Nat) (hg : w.heap.size = g) : Sl (w.alloc (.cells #[.int k x] T)) T k (.slice (some ⟨g, 0, none⟩) 1 1) [x] := by
  subst hg
  refine .inr ⟨_, 0, 1, rfl, _, heap_alloc_new w _, by simp, by simp, by simp [maxLen], fun i hi => ?_⟩
  simp at hi
  subst hi
  rfl
theorem Row.empty {w : World} (T : TypeId) (k : IntKind) (g : Nat) (hg : w.heap.size = g) : Sl (w.alloc (.cells #[] T)) T k (.slice (some ⟨g, 0, none⟩) 0 0) [] := by
  subst hg
  exact .inr ⟨_, 0, 0, rfl, _, heap_alloc_new w _, by simp, by simp, by simp [maxLen], fun i hi => by simp at hi⟩

theorem setCells_row {w : World} {T : TypeId} {k : IntKind} {g o c : Nat} {l : List Int} (h : Row w T k g o l c) : ∀ (l2 : List Int), l.length + l2.length ≤ c → Row (w.setCells g (o + l.length) (l2.map (Value.int k))) T k g o (l ++ l2) c ∧ (∀ b, b ≠ g → (w.setCells g (o + l.length) (l2.map (Value.int k))).heap[b]? = w.heap[b]?) ∧
    (w.setCells g (o + l.length) (l2.map (Value.int k))).heap.size = w.heap.size ∧ (w.setCells g (o + l.length) (l2.map (Value.int k))).os = w.os ∧ (w.setCells g (o + l.length) (l2.map (Value.int k))).tape = w.tape ∧ (w.setCells g (o + l.length) (l2.map (Value.int k))).output = w.output := by
  intro l2
  induction l2 generalizing w l with
  | nil => intro _; exact ⟨by simpa [World.setCells] using h, fun _ _ => rfl, rfl, rfl, rfl, rfl⟩
  | cons x l2 ih =>
    intro hc
    simp only [List.length_cons] at hc
    have h1 : Row (w.setCell ⟨g, o + l.length, none⟩ (.int k x)) T k g o (l ++ [x]) c := by
      obtain ⟨C, hg, hC, hl, hm, hcl⟩ := h
      refine ⟨_, heap_setCell_at hg _ _, by simpa using hC, by simp; omega, hm, fun i hi => ?_⟩
      simp only [List.length_append, List.length_cons, List.length_nil] at hi
      by_cases e : i = l.length
      · subst e
        simp [List.getD, (show o + l.length < C.size by omega)]
      · rw [Array.getElem?_setIfInBounds_ne (by omega), hcl i (by omega)]
        simp [List.getD, List.getElem?_append_left (show i < l.length by omega)]
    have := ih h1 (by simp; omega)
    simp only [List.length_append, List.length_cons, List.length_nil, Nat.zero_add, List.append_assoc, List.cons_append, List.nil_append] at this
    rw [show o + (l.length + 1) = o + l.length + 1 by omega] at this
    obtain ⟨a1, a2, a3, a4, a5, a6⟩ := this
    refine ⟨a1, fun b hb => (a2 b hb).trans (Below.heap_setCell _ _ _ _ (fun e => hb e)), a3.trans (by simp [World.setCell]), a4, a5, a6⟩

/-- Not from another place of its block on than its beginning. -/
def At0 (v : Value) : Prop := ∀ g o n c, v = .slice (some ⟨g, o, none⟩) n c → o = 0
/-- append of one slice of numbers to another one. -/
theorem sl_app {P : Program} (w : World) (t ty T : TypeId) (k : IntKind) (by_ : Nat) (ht : P.underlying t = some (.slice T)) (hi : (P.info? T).map (fun i => (i.zero, i.size, i.bytes)) = some (some (.int k 0), 1, by_)) (hby : by_ ≤ 8)
    (v v2 : Value) (l l2 : List Int) (h : Sl w T k v l) (h2 : Sl w T k v2 l2) (hs : l.length + l2.length ≤ 17592186044416) :
    ∃ v' w', (Builtin.append_ #[t, t] ty #[v, v2]).run P w = .ok v' w' ∧ Sl w' T k v' (l ++ l2) ∧ But (fun g => v.ownBlock = some g) w w' ∧ (v'.ownBlock = v.ownBlock ∨ v'.ownBlock = some w.heap.size) ∧ (l2 ≠ [] → ∃ g, v'.ownBlock = some g) ∧ (At0 v → At0 v') := by
  obtain ⟨i, hinf, hz, hsz, hbb⟩ := info_parts hi
  have src : Src P i.size t v2 l2.length (l2.map (Value.int k)) w := by
    rw [hsz]
    rcases h2 with ⟨rfl, rfl⟩ | ⟨g, o, c, rfl, hr⟩
    · exact Src.ofNil w ht 0
    · refine Src.ofSlice w ht _ _ _ _ (by simp) (fun j u hj => ?_) (ints_oneCell k l2)
      have hjl : j < l2.length := by
        have := (List.getElem?_eq_some_iff.1 hj).1
        simpa using this
      rw [Go.WideShapes.add_plain, hr.cell hjl]
      simp [List.getElem?_eq_getElem hjl] at hj
      simp [List.getD, List.getElem?_eq_getElem hjl, hj]
  have olds : (Builtin.firstCells i.size l.length v).run P w.drew = .ok (l.map (Value.int k)).toArray w.drew := by
    rcases h with ⟨rfl, rfl⟩ | ⟨g, o, c, rfl, hr⟩
    · exact run_firstCells_none _ _ _ _ _
    · refine run_firstCells_some _ _ _ _ _ _ _ (by simp [hsz]) (fun j u hj => ?_)
      have hjl : j < l.length := by
        have := (List.getElem?_eq_some_iff.1 hj).1
        simpa using this
      rw [Go.WideShapes.add_plain]
      have := hr.cell hjl
      simp only [World.cell?_drew] at this ⊢
      rw [this]
      simp [List.getElem?_eq_getElem hjl] at hj
      simp [List.getD, List.getElem?_eq_getElem hjl, hj]
  have grown : ∀ (A : Option Addr) (c : Nat), v = .slice A l.length c → c < l.length + l2.length →
      ∃ v' w', (Builtin.append_ #[t, t] ty #[v, v2]).run P w = .ok v' w' ∧ Sl w' T k v' (l ++ l2) ∧ But (fun g => v.ownBlock = some g) w w' ∧ (v'.ownBlock = v.ownBlock ∨ v'.ownBlock = some w.heap.size) ∧ (l2 ≠ [] → ∃ g, v'.ownBlock = some g) ∧ (At0 v → At0 v') := by
    intro A c e hc
    subst e
    have hmul : (l.length + l2.length) * i.bytes ≤ 140737488355328 := by
      rw [hbb]
      have := Nat.mul_le_mul hs hby
      omega
    have hr := run_append_grow_src (P := P) w t t ty T i (.int k 0) ht hinf hz A l.length c (l.map (Value.int k)) olds v2 l2.length (l2.map (Value.int k)) src hc (by omega) (growslice_fits hc hmul)
    have hge := grownCap_ge w (l.length + l2.length) c T
    have hcm : grownCap w (l.length + l2.length) c T ≤ maxLen := grownCap_le_maxLen w _ c T (by simp [maxLen]; omega)
    refine ⟨_, _, hr, .inr ⟨w.heap.size, 0, grownCap w (l.length + l2.length) c T, by simp, _, heap_alloc_new w.drew _, ?_, by simpa using hge, hcm, fun j hj => ?_⟩, ⟨rfl, rfl, rfl, by simp, fun b hb _ => Below.heap_alloc w.drew _ b hb⟩, .inr rfl, fun _ => ⟨_, rfl⟩, fun _ g o n c e => (by injection e with e; injection e with e; injection e with _ e; exact e.symm)⟩
    · simp [size_zeroCells, Value.cells]
      omega
    · rw [Nat.zero_add, Array.getElem?_append_left (by simpa using hj)]
      simp only [List.getElem?_toArray]
      rw [← List.map_append, List.getElem?_map, List.getElem?_eq_getElem hj]
      simp [List.getD, List.getElem?_eq_getElem hj]
  rcases id h with ⟨e, e2⟩ | ⟨g, o, c, e, hr⟩
  · by_cases h0 : l2 = []
    · subst h0; subst e2
      subst e
      refine ⟨.slice none 0 0, w, ?_, .inl ⟨rfl, rfl⟩, But.refl _ _, .inl rfl, fun h => absurd rfl h, fun h => h⟩
      have hk := src.cells
      rw [hsz] at hk
      simp only [List.length_nil, List.map_nil] at hk
      simp [Builtin.append_, run_underlying ht, sizeOf, typeInfo, hinf, hsz, src.len, hk, Result.andThen]
    · exact grown none 0 (by rw [e, e2]; rfl) (by have := List.length_pos_iff.2 h0; omega)
  · by_cases hroom : l.length + l2.length ≤ c
    · subst e
      have hrun := run_append_room_src (P := P) w t t ty T i ht hinf g o l.length c v2 l2.length (l2.map (Value.int k)) src hroom
        (fun j hj => by
          rw [hsz, Nat.mul_one, Nat.add_assoc]
          exact hr.there (by simp at hj; omega))
        (fun j _ => hr.free _)
      rw [hsz, Nat.mul_one] at hrun
      obtain ⟨a1, a2, a3, a4, a5, a6⟩ := setCells_row hr l2 hroom
      exact ⟨_, _, hrun, .inr ⟨g, o, c, by simp, a1⟩, ⟨a4, a5, a6, by omega, fun b _ hb => a2 b (fun e => hb (by rw [e]; rfl))⟩, .inl rfl, fun _ => ⟨g, rfl⟩, fun h g2 o2 n2 c2 e => h g2 o2 l.length c (by injection e with e _ _; rw [e])⟩
    · exact grown (some ⟨g, o, none⟩) c e (by omega)
/-- An append whose run is known, as an operation of a walk. -/
theorem wpList_appX {P : Program} {ops : Array Oper} {rest : List Oper} {o : Oper} {a : Act} {w : World} {Q : Exit → Act → World → Prop} (hgd : o.guard = none) (s x : Operand) (t ty : TypeId)
    (ho : o.op = .call { callee := .builtin .append, args := #[s, x], argTypes := #[t, t] }) (hty : o.type = ty) (v v2 v' : Value) (w' : World) (hs : a.eval s = v) (hx : a.eval x = v2)
    (hrun : (Builtin.append_ #[t, t] ty #[v, v2]).run P w = .ok v' w') (hk : wpList P ops Q rest (a.put o.dst v') w') : wpList P ops Q (o :: rest) a w := by
  refine wpList_plain hgd fun K hK => ?_
  subst hty
  unfold Oper.wp execOp
  simp only [ho, resolve, invoke, builtin, Sem.run_bind, Sem.run_pure, Result.andThen_ok, List.map_toArray, List.map_cons, List.map_nil, hs, hx, hrun]
  exact hK _ _ hk
end Go.Proofs.Ytoegfgbalcholaa

/-
  culvertref16's change: a word becomes another one, and the fields follow (stage 16, written ahead).
-/
namespace Go.Proofs.Ytoegfgbalcholaa
set_option maxRecDepth 10000
open Go.RowKit
set_option linter.unusedSimpArgs false
set_option linter.unusedVariables false

theorem RdI.of_sl {w : World} {A : Option Addr} {n c : Nat} {l : List Int} (h : Sl w 3 .i64 (.slice A n c) l) : RdI w A n l := by
  rcases h with ⟨e, rfl⟩ | ⟨g, o, c', e, hr⟩
  · injection e with e1 e2 e3
    subst e2
    exact ⟨rfl, fun h => absurd h (by decide)⟩
  · injection e with e1 e2 e3
    subst e1; subst e2
    exact ⟨rfl, fun _ => ⟨g, o, rfl, hr.lt, fun i hi => hr.cell hi⟩⟩
theorem rword_told (f a b x : Int) (w : World) (hf : U16 f) (ha : U16 a) (hb : U16 b) (hx : wordF f a b = x) :
    Calls Try.prog 60 #[.int .u16 f, .int .u16 a, .int .u16 b] w fun e w' => e = .returned (.int .u16 x) ∧ w = w' := by subst hx; exact rword_any f a b w hf ha hb
def foldQ (was x : Int) (fs : List Nat) (c : List Int) : List Int := fs.foldl (fun c f => fldQ c f was x) c
theorem foldQ_take (was x : Int) (fs : List Nat) (c : List Int) (j : Nat) (hj : j < fs.length) : foldQ was x (fs.take (j + 1)) c = fldQ (foldQ was x (fs.take j) c) (fs.getD j 0) was x := by
  unfold foldQ
  rw [List.take_add_one, List.foldl_append, List.getElem?_eq_getElem hj]
  simp [List.getD, hj]
theorem foldQ_byte {was x : Int} (hw : U16 was) (hx : U16 x) (fs : List Nat) {c : List Int} (h : Bytes c) : Bytes (foldQ was x fs c) := fold_byte hw hx fs h
/-- A word laid: two bytes. -/
theorem lay_two {w : World} {B g n c : Nat} {l : List Int} (h : OwnB w B (some ⟨g, 0, none⟩) n c l) (k : Nat) (x : Int) : OwnB ((w.setCell ⟨g, 2 * k, none⟩ (.int .u8 (x / 256))).setCell ⟨g, 2 * k + 1, none⟩ (.int .u8 (x % 256))) B (some ⟨g, 0, none⟩) n c (layL l k x) := (h.set_ (2 * k) (x / 256)).set_ (2 * k + 1) (x % 256)
set_option maxHeartbeats 2000000 in
theorem rchange16_any (A : Option Addr) (n c : Nat) (b : List Int) (k : Nat) (a x : Int) (A2 : Option Addr) (m c2 : Nat) (fs : List Nat) (L : List Int) (w : World) (hn : n ≤ 140737488351232) (h : Rd w A n b) (ha : a = 2 * (k : Int)) (hM : MayQ fs b k x)
    (hF : RdI w A2 m (fs.map (fun f : Nat => 2 * (f : Int)))) (hm : fs.length = m) (hm2 : m ≤ 1000) (hL : chQ fs b k x = L) :
    Calls Try.prog 29 #[.slice A n c, .int .i64 a, .int .u16 x, .slice A2 m c2] w (RowIs n L w) := by
  have hlen := h.len
  have hby := h.byte
  obtain ⟨was, ewas⟩ : ∃ y, wordL b k = y := ⟨_, rfl⟩
  have hwb : U16 was := by rw [← ewas]; exact wordL_bd hby k
  have hk := hM.in_
  have hxb := hM.u
  have Hr := Lib.hid h
  have Hby := Lib.hid hby
  have Hwas := Lib.hid ewas
  have Hwb := Lib.hid hwb
  have Hxb := Lib.hid hxb
  have HF := Lib.hid hF
  have Hm := Lib.hid hm
  have HM := Lib.hid hM
  have HL := Lib.hid hL
  have Hk := Lib.hid (show 2 * k + 1 < n by omega)
  have Hlen := Lib.hid hlen
  have hki : 2 * (k : Int) + 1 < (n : Int) := by omega
  have hni : (n : Int) ≤ 140737488351232 := by omega
  have hnn : n ≤ 140737488351232 := hn
  have hmi : (m : Int) ≤ 1000 := by omega
  obtain ⟨hx0, hx1⟩ := id hxb
  have e1 : IntKind.u16.wrap (x.tdiv 256) = x / 256 := by rw [Int.tdiv_eq_ediv_of_nonneg hx0]; exact IntWalk.u16_in _ (by omega)
  have e2 : x / 256 % 256 = x / 256 := by omega
  have e3 : IntKind.i64.wrap (2 * (k : Int) + 1) = 2 * (k : Int) + 1 := IntWalk.i64_in _ (by omega)
  subst ha
  clear h hby ewas hwb hF hm hM hL hxb hk
  go_enter Try.func29, Try.ntmps29
  go_wp2_with (refine wpList_app rfl (.tmp 13) (.tmp 14) rfl w.heap.size none A 0 0 n c [] b rfl rfl (OwnB.nil _ _) Hr.out (by omega) (Nat.le_refl _) ?_; intro A3 c3 w3 hown3 _ hbel3 _)
  have HO3 := Lib.hid (show OwnB w3 w.heap.size A3 n c3 b by simpa using hown3)
  have HB3 := Lib.hid hbel3
  clear hown3 hbel3
  try simp only [Nat.zero_add]
  have hwr : IntKind.u16.wrap was = was := IntWalk.u16_in _ Hwb.out
  refine (num16_any A n c b (2 * (k : Int)) (2 * k) 2 was _ (by omega) (by simp) (by decide) (by have := Hk.out; omega) (Hr.out.below HB3.out) (by rw [← Hwas.out]; exact nmQ_two b k)).mono ?_
  rintro e w4 ⟨rfl, rfl⟩
  obtain ⟨g, rfl, hgB, hgl⟩ := HO3.out.addr (by have := Hk.out; omega)
  have Hg := Lib.hid (And.intro hgB hgl)
  have g1 := HO3.out.cell (2 * k) (by have := Hk.out; omega)
  have g2 := HO3.out.cell (2 * k + 1) Hk.out
  have hf1 : w3.frozen? ⟨g, 2 * k, none⟩ = false := World.ownsRow.frozenAt HO3.out _
  have hf2 : w3.frozen? ⟨g, 2 * k + 1, none⟩ = false := World.ownsRow.frozenAt HO3.out _
  have hc3 : (n : Int) ≤ (c3 : Int) := by have := HO3.out.cap; omega
  obtain ⟨w5, e5⟩ : ∃ v, (w3.setCell ⟨g, 2 * k, none⟩ (.int .u8 (x / 256))).setCell ⟨g, 2 * k + 1, none⟩ (.int .u8 (x % 256)) = v := ⟨_, rfl⟩
  have HO5 := Lib.hid (show OwnB w5 w.heap.size (some ⟨g, 0, none⟩) n c3 (layL b k x) by rw [← e5]; exact lay_two HO3.out k x)
  have HB5 := Lib.hid (show Below w.heap.size w w5 by rw [← e5]; exact (HB3.out.setCell (p := ⟨g, 2 * k, none⟩) hgB _).setCell (p := ⟨g, 2 * k + 1, none⟩) hgB _)
  have E5 := Lib.hid e5
  clear hgB hgl e5
  go_upto_region 6 with (fail)
  rw [E5.out]
  clear g1 g2 hf1 hf2
  clear e1 e2 e3 hki
  go_wp2_with fail
  go_loopg [11] m (fun gk i wr => ∃ j l2, Hid (gk + j = m) ∧ j ≤ m ∧ i = .int .i64 (j : Int) ∧ Hid (foldQ was x (fs.take j) (layL b k x) = l2) ∧ Hid (OwnB wr w.heap.size (some ⟨g, 0, none⟩) n c3 l2) ∧ Hid (Below w.heap.size w wr))
  case atStart => exact ⟨0, _, rfl, Nat.zero_le _, rfl, rfl, HO5, HB5⟩
  case round =>
    obtain ⟨j, l2, hgk, hj, rfl, hl2, hO, hB⟩ := hrel
    have hwh : w.heap.size ≤ wr.heap.size := hB.out.size
    by_cases hjm : j < m
    · obtain ⟨f, ef⟩ : ∃ f, fs.getD j 0 = f := ⟨_, rfl⟩
      have hfm : f ∈ fs := by
        rw [← ef]
        simp only [List.getD]
        rw [List.getElem?_eq_getElem (by have := Hm.out; omega)]
        exact List.getElem_mem _
      have hf1 := (HM.out.fin f hfm).1
      rw [Hlen.out] at hf1
      obtain ⟨p, hidx, hpc, hpl⟩ := HF.out.index (c := c2) hjm
      have hv : (fs.map (fun f : Nat => 2 * (f : Int))).getD j 0 = 2 * (f : Int) := by
        rw [← ef]
        simp only [List.getD]
        rw [List.getElem?_map, List.getElem?_eq_getElem (by have := Hm.out; omega)]
        rfl
      rw [hv] at hpc
      have hpw : p.block < w.heap.size := hpl
      have hpc : wr.cell? p = some (.int .i64 (2 * (f : Int))) := (hB.out.cell hpw).trans hpc
      have hpg : p.block ≠ g := by have := Hg.out.1; omega
      have hby2 : Bytes l2 := by rw [← hl2.out]; exact foldQ_byte Hwb.out Hxb.out _ (layL_byte Hby.out k Hxb.out)
      obtain ⟨v, ev⟩ : ∃ y, wordL l2 f = y := ⟨_, rfl⟩
      have hvb : U16 v := by rw [← ev]; exact wordL_bd hby2 f
      obtain ⟨y, ey⟩ : ∃ y, wordF v was x = y := ⟨_, rfl⟩
      have hyb : U16 y := by rw [← ey]; exact wordF_bd _ _ _ hvb Hwb.out Hxb.out
      have hvr : IntKind.u16.wrap v = v := IntWalk.u16_in _ hvb
      have HRr := Lib.hid (hO.out.rd hby2)
      obtain ⟨w6, e6⟩ : ∃ u, (wr.setCell ⟨g, 2 * f, none⟩ (.int .u8 (y / 256))).setCell ⟨g, 2 * f + 1, none⟩ (.int .u8 (y % 256)) = u := ⟨_, rfl⟩
      have HO6 := Lib.hid (show OwnB w6 w.heap.size (some ⟨g, 0, none⟩) n c3 (layL l2 f y) by rw [← e6]; exact lay_two hO.out f y)
      have HB6 := Lib.hid (show Below w.heap.size w w6 by rw [← e6]; exact (hB.out.setCell (p := ⟨g, 2 * f, none⟩) Hg.out.1 _).setCell (p := ⟨g, 2 * f + 1, none⟩) Hg.out.1 _)
      have Hnx := Lib.hid (show foldQ was x (fs.take (j + 1)) (layL b k x) = layL l2 f y by rw [foldQ_take _ _ _ _ _ (by have := Hm.out; omega), hl2.out, ef]; unfold fldQ; rw [ev, ey])
      have E6 := Lib.hid e6
      have Ev := Lib.hid ev
      have Ey := Lib.hid ey
      have Hvb := Lib.hid hvb
      have Hf1 := Lib.hid hf1
      have Hjm := Lib.hid hjm
      have hfi : 2 * (f : Int) + 1 < (n : Int) := by omega
      have i0 : (0 : Int) ≤ (j : Int) := by omega
      have i1 : (j : Int) < (m : Int) := by omega
      have t3 : IntKind.i64.wrap (2 * (f : Int) + 1) = 2 * (f : Int) + 1 := IntWalk.i64_in _ (by omega)
      obtain ⟨hy0, hy1⟩ := id hyb
      have t1 : IntKind.u16.wrap (y.tdiv 256) = y / 256 := by rw [Int.tdiv_eq_ediv_of_nonneg hy0]; exact IntWalk.u16_in _ (by omega)
      have t2 : y / 256 % 256 = y / 256 := by omega
      have g1 := hO.out.cell (2 * f) (by omega)
      have g2 := hO.out.cell (2 * f + 1) hf1
      have z1 : wr.frozen? ⟨g, 2 * f, none⟩ = false := World.ownsRow.frozenAt hO.out _
      have z2 : wr.frozen? ⟨g, 2 * f + 1, none⟩ = false := World.ownsRow.frozenAt hO.out _
      have hpc2 : ∀ u : Value, (wr.setCell ⟨g, 2 * f, none⟩ u).cell? p = some (.int .i64 (2 * (f : Int))) := fun u => by
        rw [World.cell?_of_block (w := wr) (Below.heap_setCell _ _ _ _ (fun e => hpg e))]; exact hpc
      have hpc3 : ∀ u v : Value, ((wr.setCell ⟨g, 2 * f, none⟩ u).setCell ⟨g, 2 * f + 1, none⟩ v).cell? p = some (.int .i64 (2 * (f : Int))) := fun u v => by
        rw [World.cell?_of_block (w := wr.setCell ⟨g, 2 * f, none⟩ u) (Below.heap_setCell _ _ _ _ (fun e => hpg e))]; exact hpc2 u
      clear hf1 hv hpl hby2 ev hvb ey hyb e6 ef hfm hjm hpw
      go_wp2_with fail
      refine (num16_any (some ⟨g, 0, none⟩) n c3 l2 (2 * (f : Int)) (2 * f) 2 v _ (Nat.le_trans hn (by decide)) (by simp) (by decide) (by have := Hf1.out; omega) HRr.out (by rw [← Ev.out]; exact nmQ_two l2 f)).mono ?_
      rintro e w7 ⟨rfl, rfl⟩
      go_wp2_with fail
      refine (rword_told v was x y _ Hvb.out Hwb.out Hxb.out Ey.out).mono ?_
      rintro e w7 ⟨rfl, rfl⟩
      go_upto_region 8 with (fail)
      rw [E6.out]
      clear g1 g2 z1 z2 hpc hpc2 hpc3 hidx t1 t2 t3 hvr hpg
      go_wp2_with fail
      go_roundg (gk - 1)
      case measure => have := hgk.out; have := Hjm.out; omega
      case rel => exact ⟨j + 1, _, by have := hgk.out; have := Hjm.out; show gk - 1 + (j + 1) = _; omega, by have := Hjm.out; omega, by go_num, Hnx, HO6, HB6⟩
    · obtain rfl : m = j := by omega
      have Hend := Lib.hid (show l2 = L by
        rw [← hl2.out, ← HL.out, ← Hm.out, List.take_length, ← Hwas.out]; rfl)
      have Hcap := Lib.hid (And.intro hO.out.cap hO.out.capMax)
      go_wp2_with fail
      go_ret
      exact ⟨some ⟨g, 0, none⟩, c3, rfl, Hcap.out.1, Hcap.out.2, by rw [← Hend.out]; exact hO.out, hB.out⟩
end Go.Proofs.Ytoegfgbalcholaa
