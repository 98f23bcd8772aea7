/-
  Texts laid together: InSay, InRead1, InFace, InRead.
-/
import Derived.Test.YtoegfgbalcholaaGreatZT04
import Derived.Test.YtoegfgbalcholaaGreatZT24
import Derived.Test.YtoegfgbalcholaaGreatZT21
import Derived.Test.YtoegfgbalcholaaGreatZT34
import Derived.Deep.DeepCutAuto
import Derived.Test.YtoegfgbalcholaaGreatZT36
import Derived.Test.YtoegfgbalcholaaGreatZT06
import Derived.Test.YtoegfgbalcholaaGreatZT18
import Derived.Test.YtoegfgbalcholaaGreatZT20
import Derived.Test.YtoegfgbalcholaaGreatZT01
import Derived.Deep.RegionHeld3
import Derived.Laws.CopyOwn
import Derived.Laws.Tables

/-
  Package inner's say: what the beginning behind a header says.
-/
namespace Go.Proofs.YtoegfgbalcholaaGreat
set_option maxRecDepth 10000
open Go.RowKit
set_option linter.unusedSimpArgs false
set_option linter.unusedVariables false

/-- What is said: the tuple (without addresses), the number. -/
def sayTu (pr f s last : Int) : Tu := if pr = 6 ∨ pr = 17 then ⟨pr, 0, 0, f, s⟩ else ⟨pr, 0, 0, last / 65536, 0⟩
def saySeq (pr last : Int) : Int := if pr = 6 then last else 0
def sayIs (pr f : Int) : Bool := decide (pr = 6 ∨ pr = 17 ∨ (pr = 1 ∧ echoM (f / 256) (f % 256) = true))
def SayIs (pr f s last : Int) (w : World) (e : Ending) (w' : World) : Prop :=
  ∃ t q, e = .returned (.tuple #[.agg #[.int .u8 t.pr, .int .u32 t.sr, .int .u32 t.ds, .int .u16 t.sp, .int .u16 t.dp, .int .u32 q], .bool (sayIs pr f)]) ∧ (sayIs pr f = true → t = sayTu pr f s last ∧ q = saySeq pr last) ∧ Below w.heap.size w w'
set_option maxHeartbeats 1000000 in
theorem say16_any (pr f s last : Int) (w : World) (hp : 0 ≤ pr ∧ pr < 256) (hf : U16 f) (hs : U16 s) (hl : 0 ≤ last ∧ last < 4294967296) :
    Calls Tryz.prog 84 #[.agg #[.int .u16 f, .int .u16 s, .int .u32 last], .int .u8 pr] w (SayIs pr f s last w) := by
  obtain ⟨z0, hz⟩ : ∃ z, w.heap.size = z := ⟨_, rfl⟩
  obtain ⟨w0, ew⟩ : ∃ v, ((w.alloc (.cells #[.int .u16 f, .int .u16 s, .int .u32 last] 144)).alloc (.cells #[.int .u8 0, .int .u32 0, .int .u32 0, .int .u16 0, .int .u16 0, .int .u32 0] 54)).alloc (.cells #[.int .u8 pr, .int .u32 0, .int .u32 0, .int .u16 f, .int .u16 s] 37) = v := ⟨_, rfl⟩
  have hb0 : Below w.heap.size w w0 := by rw [← ew]; exact (((Below.refl _ _).alloc (Nat.le_refl _) _).alloc (by simp) _).alloc (by simp; omega) _
  have hk0 : w0.heap[z0]? = some (.cells #[.int .u16 f, .int .u16 s, .int .u32 last] 144 (0, 0)) := by rw [← ew, Below.heap_alloc _ _ _ (by simp [hz]; omega), Below.heap_alloc _ _ _ (by simp [hz]), ← hz]; exact heap_alloc_new w _
  have hk1 : w0.heap[z0 + 1]? = some (.cells #[.int .u8 0, .int .u32 0, .int .u32 0, .int .u16 0, .int .u16 0, .int .u32 0] 54 (0, 0)) := by
    rw [← ew, Below.heap_alloc _ _ _ (by simp [hz]), ← hz]; simpa using heap_alloc_new (w.alloc (.cells #[.int .u16 f, .int .u16 s, .int .u32 last] 144)) (.cells #[.int .u8 0, .int .u32 0, .int .u32 0, .int .u16 0, .int .u16 0, .int .u32 0] 54)
  have hk2 : w0.heap[z0 + 1 + 1]? = some (.cells #[.int .u8 pr, .int .u32 0, .int .u32 0, .int .u16 f, .int .u16 s] 37 (0, 0)) := by
    rw [← ew, ← hz]; simpa using heap_alloc_new ((w.alloc (.cells #[.int .u16 f, .int .u16 s, .int .u32 last] 144)).alloc (.cells #[.int .u8 0, .int .u32 0, .int .u32 0, .int .u16 0, .int .u16 0, .int .u32 0] 54)) (.cells #[.int .u8 pr, .int .u32 0, .int .u32 0, .int .u16 f, .int .u16 s] 37)
  have c0 : w0.cell? ⟨z0, 0, none⟩ = some (.int .u16 f) := blk_cell hk0 0
  have c1 : w0.cell? ⟨z0, 1, none⟩ = some (.int .u16 s) := blk_cell hk0 1
  have c2 : w0.cell? ⟨z0, 2, none⟩ = some (.int .u32 last) := blk_cell hk0 2
  have HK0 := Lib.hid hk0
  have HK1 := Lib.hid hk1
  have HK2 := Lib.hid hk2
  have Hb0 := Lib.hid hb0
  have Ew := Lib.hid ew
  have Hz := Lib.hid hz
  have Hl := Lib.hid hl
  have Hf := Lib.hid hf
  have Hp := Lib.hid hp
  have Hle := Lib.hid (show w.heap.size ≤ z0 + 1 by omega)
  clear hb0 ew hz hf hk0 hk1 hk2 hl hp
  go_enter Tryz.func84, Tryz.ntmps84
  go_upto_region 2 with (fail)
  rw [Ew.out]
  try rw [Hz.out]
  clear Ew
  by_cases h6 : pr = 6
  · have p6 : (pr == 6) = true := by simpa using h6
    have His := Lib.hid (show sayIs pr f = true by unfold sayIs; simp [h6])
    have Ht := Lib.hid (show sayTu pr f s last = ⟨pr, 0, 0, f, s⟩ ∧ saySeq pr last = last by unfold sayTu saySeq; rw [if_pos (.inl h6), if_pos h6]; exact ⟨rfl, rfl⟩)
    clear h6
    obtain ⟨t0, t1, t2, t3, t4⟩ := cells5 HK2.out
    have fz := fun i => blk_free HK1.out i
    obtain ⟨u0, u1, u2, u3, u4, u5⟩ := cells6 HK1.out
    go_wp2_with fail
    exact bodyPost_ret (v := .tuple #[.agg #[.int .u8 pr, .int .u32 0, .int .u32 0, .int .u16 f, .int .u16 s, .int .u32 last], .bool true]) (results_row_tmp rfl _ _ (z0 + 1) _ _ _ _ _ rfl rfl (set6_blk HK1.out _ _ _ _ _ _) Tryz.underlying54 rfl (by kernel_rfl)) rfl ⟨⟨pr, 0, 0, f, s⟩, last, by rw [His.out], fun _ => ⟨Ht.out.1.symm, Ht.out.2.symm⟩, set6_below Hb0.out Hle.out _ _ _ _ _ _⟩
  · have p6 : (pr == 6) = false := by simpa using h6
    by_cases h17 : pr = 17
    · have p17 : (pr == 17) = true := by simpa using h17
      have His := Lib.hid (show sayIs pr f = true by unfold sayIs; simp [h17])
      have Ht := Lib.hid (show sayTu pr f s last = ⟨pr, 0, 0, f, s⟩ ∧ saySeq pr last = 0 by unfold sayTu saySeq; rw [if_pos (.inr h17), if_neg h6]; exact ⟨rfl, rfl⟩)
      clear h6 h17
      obtain ⟨t0, t1, t2, t3, t4⟩ := cells5 HK2.out
      have fz := fun i => blk_free HK1.out i
      obtain ⟨u0, u1, u2, u3, u4, u5⟩ := cells6 HK1.out
      go_wp2_with fail
      exact bodyPost_ret (v := .tuple #[.agg #[.int .u8 pr, .int .u32 0, .int .u32 0, .int .u16 f, .int .u16 s, .int .u32 0], .bool true]) (results_row_tmp rfl _ _ (z0 + 1) _ _ _ _ _ rfl rfl (set6_blk HK1.out _ _ _ _ _ _) Tryz.underlying54 rfl (by kernel_rfl)) rfl ⟨⟨pr, 0, 0, f, s⟩, 0, by rw [His.out], fun _ => ⟨Ht.out.1.symm, Ht.out.2.symm⟩, set6_below Hb0.out Hle.out _ _ _ _ _ _⟩
    · have p17 : (pr == 17) = false := by simpa using h17
      by_cases h1 : pr = 1
      · have p1 : (pr == 1) = true := by simpa using h1
        obtain ⟨ty, ety⟩ : ∃ y, f / 256 = y := ⟨_, rfl⟩
        obtain ⟨cd, ecd⟩ : ∃ y, f % 256 = y := ⟨_, rfl⟩
        have hw1 : IntKind.u8.wrap (f / 256) = ty := by rw [← ety]; exact IntWalk.u8_in _ (by obtain ⟨_, _⟩ := Hf.out; omega)
        have hw2 : IntKind.u8.wrap f = cd := by rw [← ecd]; simp [IntKind.wrap, IntKind.bits, IntKind.signed]
        obtain ⟨is, eis⟩ : ∃ y, echoM ty cd = y := ⟨_, rfl⟩
        have His := Lib.hid (show sayIs pr f = is by unfold sayIs; rw [ety, ecd, eis]; simp [h1])
        have Ht := Lib.hid (show sayTu pr f s last = ⟨pr, 0, 0, last / 65536, 0⟩ ∧ saySeq pr last = 0 by unfold sayTu saySeq; rw [if_neg (by omega), if_neg h6]; exact ⟨rfl, rfl⟩)
        have He := Lib.hid (fun W => echo8_any ty cd last none 0 0 W Hl.out)
        have Eis := Lib.hid eis
        clear h6 h17 h1 ety ecd eis
        go_wp2_with fail
        refine (He.out _).mono ?_
        rintro e w4 ⟨h4, hb4⟩
        rw [Eis.out] at h4
        have hb4 := on_alloc hb4
        have HK1 := Lib.hid (blk_on HK1.out hb4)
        have Hb4 := Lib.hid (below_trans Hb0.out hb4)
        clear hb4
        have fz := fun i => blk_free HK1.out i
        obtain ⟨u0, u1, u2, u3, u4, u5⟩ := cells6 HK1.out
        cases is with
        | true =>
          rw [if_pos rfl] at h4
          subst h4
          go_wp2_with fail
          exact bodyPost_ret (v := .tuple #[.agg #[.int .u8 pr, .int .u32 0, .int .u32 0, .int .u16 (last / 65536), .int .u16 0, .int .u32 0], .bool true]) (results_row_tmp rfl _ _ (z0 + 1) _ _ _ _ _ rfl rfl (set6_blk HK1.out _ _ _ _ _ _) Tryz.underlying54 rfl (by kernel_rfl)) rfl ⟨⟨pr, 0, 0, last / 65536, 0⟩, 0, by rw [His.out], fun _ => ⟨Ht.out.1.symm, Ht.out.2.symm⟩, set6_below Hb4.out Hle.out _ _ _ _ _ _⟩
        | false =>
          rw [if_neg (by decide)] at h4
          subst h4
          go_wp2_with fail
          exact bodyPost_ret (v := .tuple #[.agg #[.int .u8 pr, .int .u32 0, .int .u32 0, .int .u16 0, .int .u16 0, .int .u32 0], .bool false]) (results_row_tmp rfl _ _ (z0 + 1) _ _ _ _ _ rfl rfl (set6_blk HK1.out _ _ _ _ _ _) Tryz.underlying54 rfl (by kernel_rfl)) rfl ⟨⟨pr, 0, 0, 0, 0⟩, 0, by rw [His.out], fun h => (by rw [His.out] at h; cases h), set6_below Hb4.out Hle.out _ _ _ _ _ _⟩
      · have p1 : (pr == 1) = false := by simpa using h1
        have His := Lib.hid (show sayIs pr f = false by unfold sayIs; simp [h1, h6, h17])
        clear h6 h17 h1
        have fz := fun i => blk_free HK1.out i
        obtain ⟨u0, u1, u2, u3, u4, u5⟩ := cells6 HK1.out
        go_wp2_with fail
        exact bodyPost_ret (v := .tuple #[.agg #[.int .u8 0, .int .u32 0, .int .u32 0, .int .u16 0, .int .u16 0, .int .u32 0], .bool false]) (results_row_tmp rfl _ _ (z0 + 1) _ _ _ _ _ rfl rfl (set6_blk HK1.out _ _ _ _ _ _) Tryz.underlying54 rfl (by kernel_rfl)) rfl ⟨⟨0, 0, 0, 0, 0⟩, 0, by rw [His.out], fun h => (by rw [His.out] at h; cases h), set6_below Hb0.out Hle.out _ _ _ _ _ _⟩
end Go.Proofs.YtoegfgbalcholaaGreat

/-
  The contract of the closure within package inner's read: what is wrong is told in the document's own order; else what the quote says.
-/
namespace Go.Proofs.YtoegfgbalcholaaGreat
set_option maxRecDepth 10000
open Go.RowKit
set_option linter.unusedSimpArgs false
set_option linter.unusedVariables false

def qVC (b : List Int) : Array Value := #[.int .u8 (qT b).pr, .int .u32 (qT b).sr, .int .u32 (qT b).ds, .int .u16 (qT b).sp, .int .u16 (qT b).dp, .int .u32 (qS b)]
def qA (b : List Int) : Int := if errQ b = 0 then 2 * (qH b : Int) else 0
def zQC : Array Value := #[.int .u8 0, .int .u32 0, .int .u32 0, .int .u16 0, .int .u16 0, .int .u32 0]
/-- What read's closure leaves. -/
def QuoR (zq za : Nat) (b : List Int) (w1 : World) (x : Int) (w' : World) : Prop := x = errQ b ∧ w'.heap[zq]? = some (.cells (qVC b) 54 (0, 0)) ∧ w'.heap[za]? = some (.cells #[.int .i64 (qA b)] 3 (0, 0))
theorem qVC_bad {b : List Int} (h : errQ b ≠ 0) : qVC b = zQC ∧ qA b = 0 := by
  unfold qVC qA qT qS
  rw [if_neg h, if_neg h, if_neg h]
  exact ⟨rfl, rfl⟩
/-- What is behind a header, and what the quote says then. -/
theorem quo_say {b pre r : List Int} {c0 c1 c2 c3 c4 c5 c6 c7 : Int} (hb : b = pre ++ c0 :: c1 :: c2 :: c3 :: c4 :: c5 :: c6 :: c7 :: r) (hp : pre.length = 2 * qH b) (hby : Bytes b)
    (h10 : b.getD 0 0 / 16 = 4 ∧ 10 ≤ qH b) (hw : wordL b 3 % 8192 = 0) :
    (sayIs (b.getD 9 0) (c0 * 256 + c1) = false → errQ b = 22) ∧
    (sayIs (b.getD 9 0) (c0 * 256 + c1) = true → errQ b = 0 ∧ qVC b = #[.int .u8 (sayTu (b.getD 9 0) (c0 * 256 + c1) (c2 * 256 + c3) (((c4 * 256 + c5) * 256 + c6) * 256 + c7)).pr, .int .u32 (wordL b 6 * 65536 + wordL b 7), .int .u32 (wordL b 8 * 65536 + wordL b 9), .int .u16 (sayTu (b.getD 9 0) (c0 * 256 + c1) (c2 * 256 + c3) (((c4 * 256 + c5) * 256 + c6) * 256 + c7)).sp, .int .u16 (sayTu (b.getD 9 0) (c0 * 256 + c1) (c2 * 256 + c3) (((c4 * 256 + c5) * 256 + c6) * 256 + c7)).dp, .int .u32 (saySeq (b.getD 9 0) (((c4 * 256 + c5) * 256 + c6) * 256 + c7))] ∧ qA b = 2 * (qH b : Int)) := by
  obtain ⟨H, eH⟩ : ∃ H, qH b = H := ⟨_, rfl⟩
  obtain ⟨pr, epr⟩ : ∃ p, b.getD 9 0 = p := ⟨_, rfl⟩
  rw [eH] at hp h10
  have hg : ∀ j, b.getD (2 * H + j) 0 = (c0 :: c1 :: c2 :: c3 :: c4 :: c5 :: c6 :: c7 :: r).getD j 0 := fun j => by
    rw [hb]; simp only [List.getD]; rw [List.getElem?_append_right (by omega), show 2 * H + j - pre.length = j by omega]
  have hlen : 2 * H + 8 ≤ b.length := by rw [hb, List.length_append]; simp; omega
  have g0 := hg 0
  have g1 := hg 1
  have g2 := hg 2
  have g3 := hg 3
  have g4 := hg 4
  have g5 := hg 5
  have g6 := hg 6
  have g7 := hg 7
  simp only [List.getD, List.getElem?_cons_zero, List.getElem?_cons_succ, Option.getD_some] at g0 g1 g2 g3 g4 g5 g6 g7
  have w0 : wordL b H = c0 * 256 + c1 := by unfold wordL; simp only [List.getD]; rw [show 2 * H = 2 * H + 0 from rfl, g0, g1]
  have w1 : wordL b (H + 1) = c2 * 256 + c3 := by unfold wordL; simp only [List.getD]; rw [show 2 * (H + 1) = 2 * H + 2 by omega, g2, show 2 * H + 2 + 1 = 2 * H + 3 by omega, g3]
  have w2 : wordL b (H + 2) = c4 * 256 + c5 := by unfold wordL; simp only [List.getD]; rw [show 2 * (H + 2) = 2 * H + 4 by omega, g4, show 2 * H + 4 + 1 = 2 * H + 5 by omega, g5]
  have w3 : wordL b (H + 3) = c6 * 256 + c7 := by unfold wordL; simp only [List.getD]; rw [show 2 * (H + 3) = 2 * H + 6 by omega, g6, show 2 * H + 6 + 1 = 2 * H + 7 by omega, g7]
  have hcb : ∀ c ∈ c0 :: c1 :: c2 :: c3 :: c4 :: c5 :: c6 :: c7 :: r, 0 ≤ c ∧ c < 256 := fun c hc => hby c (by rw [hb]; exact List.mem_append_right _ hc)
  have k0 := hcb c0 (by simp)
  have k1 := hcb c1 (by simp)
  have k6 := hcb c6 (by simp)
  have k7 := hcb c7 (by simp)
  have e1 : (c0 * 256 + c1) / 256 = c0 := by omega
  have e2 : (c0 * 256 + c1) % 256 = c1 := by omega
  have hd0 : b.getD (2 * H) 0 = c0 := by simp only [List.getD]; rw [show 2 * H = 2 * H + 0 from rfl, g0]
  have hd1 : b.getD (2 * H + 1) 0 = c1 := by simp only [List.getD]; rw [g1]
  have hx : errQ b = if pr = 6 ∨ pr = 17 then 0 else if pr = 1 ∧ echoM c0 c1 = true then 0 else 22 := by
    unfold errQ
    rw [eH, epr, if_neg (by omega), if_neg (by omega), if_neg (by omega), if_neg (by omega), hd0, hd1]
  rw [epr, eH]
  unfold sayIs
  rw [e1, e2]
  constructor
  · intro h
    have h := of_decide_eq_false h
    rw [hx, if_neg (fun hc => h (by rcases hc with hc | hc; exact .inl hc; exact .inr (.inl hc))), if_neg (fun hc => h (.inr (.inr hc)))]
  · intro h
    have h := of_decide_eq_true h
    have h0 : errQ b = 0 := by
      rw [hx]
      rcases h with h | h | h
      · rw [if_pos (.inl h)]
      · rw [if_pos (.inr h)]
      · by_cases hc : pr = 6 ∨ pr = 17
        · rw [if_pos hc]
        · rw [if_neg hc, if_pos h]
    refine ⟨h0, ?_, by unfold qA; rw [if_pos h0, eH]⟩
    unfold qVC qT qS
    rw [if_pos h0, if_pos h0]
    unfold qTu qSeq sayTu saySeq
    simp only
    rw [epr, eH, w0, w1, w2, w3]
    have hp6 : pr = 6 ∨ pr = 17 ∨ pr = 1 := by rcases h with h | h | h; exact .inl h; exact .inr (.inl h); exact .inr (.inr h.1)
    have e3 : (((c4 * 256 + c5) * 256 + c6) * 256 + c7) / 65536 = c4 * 256 + c5 := by omega
    have e4 : (c4 * 256 + c5) * 65536 + (c6 * 256 + c7) = ((c4 * 256 + c5) * 256 + c6) * 256 + c7 := by omega
    rcases hp6 with rfl | rfl | rfl
    · simp [e4]
    · simp
    · simp [e3]
theorem left_is (B g n : Nat) (l : List Int) (at_ : Int) (w : World) (hl : l.length = n) (h : Rdr w B g l at_) :
    Calls Tryz.prog 83 #[.pointer (some ⟨g, 0, none⟩)] w fun e w' => e = .returned (.int .i64 (n : Int)) ∧ w = w' := by
  subst hl; exact left_ok B g l at_ w h
set_option maxHeartbeats 4000000 in
theorem quo1_any (B g zq za n : Nat) (b : List Int) (w : World) (hB : zq < B ∧ za < B ∧ zq ≠ za) (hlen : b.length = n) (hn : n ≤ 140737488355328) (hby : Bytes b)
    (hq : w.heap[zq]? = some (.cells zQC 54 (0, 0))) (ha : w.heap[za]? = some (.cells #[.int .i64 0] 3 (0, 0))) (h : Rdr w B g b 0) :
    Calls Tryz.prog 82 #[.pointer (some ⟨g, 0, none⟩), .pointer (some ⟨zq, 0, none⟩), .pointer (some ⟨za, 0, none⟩)] w
      (Did (fun k => k = zq ∨ k = za) g (QuoR zq za b w) w) := by
  have hg : B ≤ g := h.choose_spec.choose_spec.choose_spec.2.2.2.1.1
  have hgw : g < w.heap.size := lt_of_block h.choose_spec.choose_spec.choose_spec.2.2.2.2.2.1
  have Hend := Lib.hid (show ∀ x w', x ≠ 0 → errQ b = x → Gave w' g x → But (fun k => k = g) w w' → Did (fun k => k = zq ∨ k = za) g (QuoR zq za b w) w (.panicked (gaveUp g)) w' from fun x w' h0 hx ⟨A', n', c', a', hg1⟩ hb => by
    obtain ⟨e1, e2⟩ := qVC_bad (b := b) (by rw [hx]; exact h0)
    refine ⟨x, A', n', c', a', .inr rfl, hg1, hb.mono (fun _ _ hk => .inr hk), hx.symm, ?_, ?_⟩
    · rw [e1]; exact hb.blk hq (by omega)
    · rw [e2]; exact hb.blk ha (by omega))
  have Hlen := Lib.hid hlen
  have Hby := Lib.hid hby
  have Hq := Lib.hid hq
  have Ha := Lib.hid ha
  have Hr := Lib.hid h
  have HB := Lib.hid (And.intro hB (And.intro hg hgw))
  have Hb := Lib.hid (But.refl (fun k => k = g) w)
  have Hn := Lib.hid hn
  clear hB hlen hby hq ha h hg hgw
  have hni : (n : Int) ≤ 140737488355328 := by omega
  go_enter Tryz.func82, Tryz.ntmps82
  go_wp2_with fail
  refine (left_is B g n b _ _ Hlen.out Hr.out).mono ?_
  rintro e w0 ⟨rfl, rfl⟩
  by_cases h1 : n < 20
  · have d1 : (n : Int) < 20 := by omega
    have d2 : decide ((n : Int) < 20) = true := by simp; omega
    have He := Lib.hid (show errQ b = 4 by unfold errQ; rw [if_pos (by have := Hlen.out; omega)])
    clear h1
    go_wp2_with fail
    refine (fail_any B g 4 _ _ _ (by decide) Hr.out).mono ?_
    rintro e w' ⟨rfl, hg1, hb⟩
    exact ⟨rfl, Hend.out 4 w' (by decide) He.out hg1 (Hb.out.trans hb)⟩
  have d1 : ¬ (n : Int) < 20 := by omega
  have d2 : decide ((n : Int) < 20) = false := by simp; omega
  have H20 := Lib.hid (show 20 ≤ b.length by have := Hlen.out; omega)
  clear h1
  obtain ⟨b0, b1, b2, b3, b4, b5, b6, b7, b8, b9, b10, b11, b12, b13, b14, b15, b16, b17, b18, b19, l, eb⟩ := twenty b H20.out
  obtain ⟨H, eH⟩ : ∃ H, qH b = H := ⟨_, rfl⟩
  have hv : ∀ x ∈ b, 0 ≤ x ∧ x < 256 := Hby.out
  have v0 := hv b0 (by rw [eb]; simp)
  have v6 := hv b6 (by rw [eb]; simp)
  have v7 := hv b7 (by rw [eb]; simp)
  have v9 := hv b9 (by rw [eb]; simp)
  have e0 : b.getD 0 0 = b0 := by rw [eb]; rfl
  have eH2 : b0 % 16 * 4 = 2 * (H : Int) := by rw [← eH]; unfold qH; rw [e0]; omega
  have Hg := Lib.hid (show b.getD 0 0 = b0 ∧ b.getD 9 0 = b9 ∧ wordL b 3 = b6 * 256 + b7 by rw [eb]; exact ⟨rfl, rfl, rfl⟩)
  have Hsd := Lib.hid (show wordL b 6 * 65536 + wordL b 7 = ((b12 * 256 + b13) * 256 + b14) * 256 + b15 ∧ wordL b 8 * 65536 + wordL b 9 = ((b16 * 256 + b17) * 256 + b18) * 256 + b19 by
    rw [eb]; unfold wordL; simp only [List.getD, List.getElem?_cons_zero, List.getElem?_cons_succ, Option.getD_some]; constructor <;> omega)
  have Hv := Lib.hid (And.intro v0 (And.intro v6 (And.intro v7 v9)))
  have HHb := Lib.hid (show H ≤ 30 by omega)
  have Hll := Lib.hid (show l.length + 20 = n by have := Hlen.out; rw [eb] at this; simp at this; omega)
  have Hr := Lib.hid (show Rdr w B g (b0 :: b1 :: b2 :: b3 :: b4 :: b5 :: b6 :: b7 :: b8 :: b9 :: b10 :: b11 :: b12 :: b13 :: b14 :: b15 :: b16 :: b17 :: b18 :: b19 :: l) 0 by rw [← eb]; exact Hr.out)
  have Heb := Lib.hid eb
  have EH := Lib.hid eH
  have EH2 := Lib.hid eH2
  clear hv e0 v6 v7 v9 eb eH eH2 H20
  go_wp2_with fail
  refine (u8_told B g b0 (b1 :: b2 :: b3 :: b4 :: b5 :: b6 :: b7 :: b8 :: b9 :: b10 :: b11 :: b12 :: b13 :: b14 :: b15 :: b16 :: b17 :: b18 :: b19 :: l) _ _ Hr.out).mono ?_
  rintro e w1 ⟨rfl, hR, hb⟩
  have Hr := Lib.hid hR
  have Hb := Lib.hid (Hb.out.trans hb)
  clear hR hb
  go_wp2_with fail
  refine (header16_any b0 (2 * (H : Int)) _ Hv.out.1 EH2.out).mono ?_
  rintro e w1' ⟨rfl, rfl⟩
  by_cases h4 : b0 / 16 = 4
  case neg =>
    have p4 : (b0 / 16 != 4) = true := by simpa using h4
    have He := Lib.hid (show errQ b = 5 by unfold errQ; rw [if_neg (by have := Hlen.out; omega), if_pos (.inl (by rw [Hg.out.1]; exact h4))])
    clear h4
    go_wp2_with fail
    refine (fail_any B g 5 _ _ _ (by decide) Hr.out).mono ?_
    rintro e w' ⟨rfl, hg1, hb⟩
    exact ⟨rfl, Hend.out 5 w' (by decide) He.out hg1 (Hb.out.trans hb)⟩
  have p4 : (b0 / 16 != 4) = false := by simpa using h4
  have H4 := Lib.hid h4
  clear h4
  by_cases h10 : 10 ≤ H
  case neg =>
    have d3 : 2 * (H : Int) < 20 := by omega
    have d4 : decide (2 * (H : Int) < 20) = true := by simp; omega
    have He := Lib.hid (show errQ b = 5 by unfold errQ; rw [if_neg (by have := Hlen.out; omega), if_pos (.inr (by rw [EH.out]; omega))])
    clear h10
    go_wp2_with fail
    refine (fail_any B g 5 _ _ _ (by decide) Hr.out).mono ?_
    rintro e w' ⟨rfl, hg1, hb⟩
    exact ⟨rfl, Hend.out 5 w' (by decide) He.out hg1 (Hb.out.trans hb)⟩
  have d3 : ¬ 2 * (H : Int) < 20 := by omega
  have d4 : decide (2 * (H : Int) < 20) = false := by simp; omega
  have H10 := Lib.hid h10
  obtain ⟨k, hk⟩ : ∃ k : Nat, 2 * H = 20 + k := ⟨2 * H - 20, by omega⟩
  have hsub : IntKind.i64.wrap (2 * (H : Int) - 20) = (k : Int) := by rw [show 2 * (H : Int) - 20 = (k : Int) by omega]; exact IntWalk.i64_in _ (by have := HHb.out; omega)
  have Hk := Lib.hid hk
  clear h10 hk
  go_wp2_with fail
  refine (bytes_is B g 5 _ [b1, b2, b3, b4, b5] (b6 :: b7 :: b8 :: b9 :: b10 :: b11 :: b12 :: b13 :: b14 :: b15 :: b16 :: b17 :: b18 :: b19 :: l) _ _ rfl rfl (by have := Hll.out; have := Hn.out; simp; omega) Hr.out).mono ?_
  rintro e w2 ⟨A2, c2, rfl, -, -, -, hR, hb⟩
  have Hr := Lib.hid hR
  have Hb := Lib.hid (Hb.out.trans hb)
  clear hR hb
  obtain ⟨P, eP⟩ : ∃ P, (b6 * 256 + b7) % 8192 = P := ⟨_, rfl⟩
  have hand : bits .and .u16 (b6 * 256 + b7) 8191 = P := by rw [← eP]; exact and16_mask 13 (by omega) (b6 * 256 + b7) (by have := Hv.out; omega)
  have HP := Lib.hid eP
  clear eP
  go_wp2_with fail
  refine (u16_told B g b6 b7 (b8 :: b9 :: b10 :: b11 :: b12 :: b13 :: b14 :: b15 :: b16 :: b17 :: b18 :: b19 :: l) _ _ Hr.out).mono ?_
  rintro e w1 ⟨rfl, hR, hb⟩
  have Hr := Lib.hid hR
  have Hb := Lib.hid (Hb.out.trans hb)
  clear hR hb
  go_wp2_with fail
  refine (u8_told B g b8 (b9 :: b10 :: b11 :: b12 :: b13 :: b14 :: b15 :: b16 :: b17 :: b18 :: b19 :: l) _ _ Hr.out).mono ?_
  rintro e w1 ⟨rfl, hR, hb⟩
  have Hr := Lib.hid hR
  have Hb := Lib.hid (Hb.out.trans hb)
  clear hR hb
  go_wp2_with fail
  refine (u8_told B g b9 (b10 :: b11 :: b12 :: b13 :: b14 :: b15 :: b16 :: b17 :: b18 :: b19 :: l) _ _ Hr.out).mono ?_
  rintro e w1 ⟨rfl, hR, hb⟩
  have Hr := Lib.hid hR
  have Hb := Lib.hid (Hb.out.trans hb)
  clear hR hb
  go_wp2_with fail
  refine (u16_told B g b10 b11 (b12 :: b13 :: b14 :: b15 :: b16 :: b17 :: b18 :: b19 :: l) _ _ Hr.out).mono ?_
  rintro e w1 ⟨rfl, hR, hb⟩
  have Hr := Lib.hid hR
  have Hb := Lib.hid (Hb.out.trans hb)
  clear hR hb
  go_wp2_with fail
  refine (u32_told B g b12 b13 b14 b15 (b16 :: b17 :: b18 :: b19 :: l) _ _ Hr.out).mono ?_
  rintro e w1 ⟨rfl, hR, hb⟩
  have Hr := Lib.hid hR
  have Hb := Lib.hid (Hb.out.trans hb)
  clear hR hb
  go_wp2_with fail
  refine (u32_told B g b16 b17 b18 b19 l _ _ Hr.out).mono ?_
  rintro e w1 ⟨rfl, hR, hb⟩
  have Hr := Lib.hid hR
  have Hb := Lib.hid (Hb.out.trans hb)
  clear hR hb
  obtain ⟨SR, eSR⟩ : ∃ x, ((b12 * 256 + b13) * 256 + b14) * 256 + b15 = x := ⟨_, rfl⟩
  obtain ⟨DS, eDS⟩ : ∃ x, ((b16 * 256 + b17) * 256 + b18) * 256 + b19 = x := ⟨_, rfl⟩
  rw [eSR, eDS] at Hsd
  try rw [eSR]
  try rw [eDS]
  clear eSR eDS
  go_wp2_with fail
  by_cases h8 : l.length < k
  · have He := Lib.hid (show errQ b = 4 by unfold errQ; rw [if_neg (by have := Hlen.out; have := Hll.out; omega), if_neg (by rw [Hg.out.1, EH.out]; have := H4.out; have := H10.out; omega), if_pos (by rw [EH.out]; have := Hlen.out; have := Hll.out; have := Hk.out; omega)])
    refine (bytes_short B g (k : Int) l _ _ (by omega) Hr.out).mono ?_
    rintro e w' ⟨rfl, hg1, hb⟩
    exact ⟨rfl, Hend.out 4 w' (by decide) He.out hg1 (Hb.out.trans hb)⟩
  obtain ⟨m1, m2, el, hm1⟩ : ∃ m1 m2, l = m1 ++ m2 ∧ m1.length = k := ⟨l.take k, l.drop k, (List.take_append_drop _ _).symm, by rw [List.length_take]; omega⟩
  have Hm2 := Lib.hid (show m2.length + k = l.length by rw [el, List.length_append]; omega)
  have Hel := Lib.hid el
  have Hm1 := Lib.hid hm1
  clear h8
  refine (bytes_is B g k l m1 m2 _ _ hm1 el (by have := Hll.out; have := Hn.out; omega) Hr.out).mono ?_
  rintro e w9 ⟨A9, c9, rfl, -, -, -, hR, hb⟩
  have Hr := Lib.hid hR
  have Hb := Lib.hid (Hb.out.trans hb)
  clear hR hb el hm1
  have He4 := Lib.hid (show m2.length < 8 → errQ b = 4 from fun h => by unfold errQ; rw [if_neg (by have := Hlen.out; have := Hll.out; omega), if_neg (by rw [Hg.out.1, EH.out]; have := H4.out; have := H10.out; omega), if_pos (by rw [EH.out]; have := Hlen.out; have := Hll.out; have := Hk.out; have := Hm2.out; omega)])
  go_wp2_with fail
  rcases m2 with _ | ⟨x0, m2⟩
  · have He := Lib.hid (He4.out (by simp))
    refine (u16_short B g [] _ _ (by simp) Hr.out).mono ?_
    rintro e w' ⟨rfl, hg1, hb⟩
    exact ⟨rfl, Hend.out 4 w' (by decide) He.out hg1 (Hb.out.trans hb)⟩
  rcases m2 with _ | ⟨x1, m2⟩
  · have He := Lib.hid (He4.out (by simp))
    refine (u16_short B g [x0] _ _ (by simp) Hr.out).mono ?_
    rintro e w' ⟨rfl, hg1, hb⟩
    exact ⟨rfl, Hend.out 4 w' (by decide) He.out hg1 (Hb.out.trans hb)⟩
  refine (u16_told B g x0 x1 m2 _ _ Hr.out).mono ?_
  rintro e w1 ⟨rfl, hR, hb⟩
  have Hr := Lib.hid hR
  have Hb := Lib.hid (Hb.out.trans hb)
  clear hR hb
  go_wp2_with fail
  rcases m2 with _ | ⟨x2, m2⟩
  · have He := Lib.hid (He4.out (by simp))
    refine (u16_short B g [] _ _ (by simp) Hr.out).mono ?_
    rintro e w' ⟨rfl, hg1, hb⟩
    exact ⟨rfl, Hend.out 4 w' (by decide) He.out hg1 (Hb.out.trans hb)⟩
  rcases m2 with _ | ⟨x3, m2⟩
  · have He := Lib.hid (He4.out (by simp))
    refine (u16_short B g [x2] _ _ (by simp) Hr.out).mono ?_
    rintro e w' ⟨rfl, hg1, hb⟩
    exact ⟨rfl, Hend.out 4 w' (by decide) He.out hg1 (Hb.out.trans hb)⟩
  refine (u16_told B g x2 x3 m2 _ _ Hr.out).mono ?_
  rintro e w1 ⟨rfl, hR, hb⟩
  have Hr := Lib.hid hR
  have Hb := Lib.hid (Hb.out.trans hb)
  clear hR hb
  go_wp2_with fail
  by_cases h8 : m2.length < 4
  · have He := Lib.hid (He4.out (by simp; omega))
    refine (u32_short B g m2 _ _ h8 Hr.out).mono ?_
    rintro e w' ⟨rfl, hg1, hb⟩
    exact ⟨rfl, Hend.out 4 w' (by decide) He.out hg1 (Hb.out.trans hb)⟩
  obtain ⟨x4, x5, x6, x7, r, rfl⟩ : ∃ x4 x5 x6 x7 r, m2 = x4 :: x5 :: x6 :: x7 :: r := by
    rcases m2 with _ | ⟨x4, _ | ⟨x5, _ | ⟨x6, _ | ⟨x7, r⟩⟩⟩⟩
    · simp at h8
    · simp at h8
    · simp at h8
    · simp at h8
    · exact ⟨_, _, _, _, _, rfl⟩
  clear h8 He4
  refine (u32_told B g x4 x5 x6 x7 r _ _ Hr.out).mono ?_
  rintro e w9 ⟨rfl, hR, hb⟩
  have Hr := Lib.hid hR
  have Hb := Lib.hid (Hb.out.trans hb)
  clear hR hb
  have hxv : ∀ x ∈ x0 :: x1 :: x2 :: x3 :: x4 :: x5 :: x6 :: x7 :: r, 0 ≤ x ∧ x < 256 := fun x hx => Hby.out x (by rw [Heb.out, Hel.out]; simp only [List.mem_cons, List.mem_append] at hx ⊢; simp only [hx, or_true])
  have y0 := hxv x0 (by simp)
  have y1 := hxv x1 (by simp)
  have y2 := hxv x2 (by simp)
  have y3 := hxv x3 (by simp)
  have y4 := hxv x4 (by simp)
  have y5 := hxv x5 (by simp)
  have y6 := hxv x6 (by simp)
  have y7 := hxv x7 (by simp)
  have Hsay := Lib.hid (fun hw => quo_say (b := b) (pre := [b0, b1, b2, b3, b4, b5, b6, b7, b8, b9, b10, b11, b12, b13, b14, b15, b16, b17, b18, b19] ++ m1) (r := r) (c0 := x0) (c1 := x1) (c2 := x2) (c3 := x3) (c4 := x4) (c5 := x5) (c6 := x6) (c7 := x7)
    (by rw [Heb.out, Hel.out]; simp) (by rw [EH.out, List.length_append, Hm1.out]; have := Hk.out; simp; omega) Hby.out (by rw [Hg.out.1, EH.out]; exact ⟨H4.out, H10.out⟩) hw)
  rw [Hg.out.2.1, Hg.out.2.2, Hsd.out.1, Hsd.out.2, EH.out] at Hsay
  obtain ⟨FF, eF⟩ : ∃ x, x0 * 256 + x1 = x := ⟨_, rfl⟩
  obtain ⟨SS, eS⟩ : ∃ x, x2 * 256 + x3 = x := ⟨_, rfl⟩
  obtain ⟨LA, eL⟩ : ∃ x, ((x4 * 256 + x5) * 256 + x6) * 256 + x7 = x := ⟨_, rfl⟩
  have HFb := Lib.hid (show U16 FF ∧ U16 SS ∧ 0 ≤ LA ∧ LA < 4294967296 by rw [← eF, ← eS, ← eL]; exact ⟨⟨by omega, by omega⟩, ⟨by omega, by omega⟩, by omega, by omega⟩)
  rw [eF, eS, eL] at Hsay
  try rw [eF]
  try rw [eS]
  try rw [eL]
  clear eF eS eL hxv y0 y1 y2 y3 y4 y5 y6 y7
  obtain ⟨z5, ez5⟩ : ∃ y, w9.heap.size = y := ⟨_, rfl⟩
  obtain ⟨wA, ewA⟩ : ∃ v, w9.alloc (.cells #[.int .u16 FF, .int .u16 SS, .int .u32 LA] 144) = v := ⟨_, rfl⟩
  have hba : Below w9.heap.size w9 wA := by rw [← ewA]; exact (Below.refl _ _).alloc (Nat.le_refl _) _
  have hk5 : wA.heap[z5]? = some (.cells #[.int .u16 FF, .int .u16 SS, .int .u32 LA] 144 (0, 0)) := by rw [← ewA, ← ez5]; exact heap_alloc_new w9 _
  have s0 : wA.cell? ⟨z5, 0, none⟩ = some (.int .u16 FF) := blk_cell hk5 0
  have s1 : wA.cell? ⟨z5, 1, none⟩ = some (.int .u16 SS) := blk_cell hk5 1
  have s2 : wA.cell? ⟨z5, 2, none⟩ = some (.int .u32 LA) := blk_cell hk5 2
  have Hr := Lib.hid (Hr.out.below hba)
  have Hb := Lib.hid (Hb.out.trans (But.of hba))
  have EwA := Lib.hid ewA
  have Ez5 := Lib.hid ez5
  clear ewA ez5 hba hk5
  go_upto_region 12 with (fail)
  rw [EwA.out]
  try rw [Ez5.out]
  clear EwA Ez5
  by_cases hp0 : P = 0
  case neg =>
    have p0 : (P != 0) = true := by simpa using hp0
    have He := Lib.hid (show errQ b = 21 by unfold errQ; rw [if_neg (by have := Hlen.out; have := Hll.out; omega), if_neg (by rw [Hg.out.1, EH.out]; have := H4.out; have := H10.out; omega), if_neg (by rw [EH.out]; have := Hlen.out; have := Hll.out; have := Hk.out; have := Hm2.out; simp at this; omega), if_pos (by rw [Hg.out.2.2, HP.out]; exact hp0)])
    clear hp0
    go_wp2_with fail
    refine (fail_any B g 21 _ _ _ (by decide) Hr.out).mono ?_
    rintro e w' ⟨rfl, hg1, hb⟩
    exact ⟨rfl, Hend.out 21 w' (by decide) He.out hg1 (Hb.out.trans hb)⟩
  have p0 : (P != 0) = false := by simpa using hp0
  have Hsay := Lib.hid (Hsay.out (by rw [HP.out]; exact hp0))
  clear hp0
  go_wp2_with fail
  refine (say16_any b9 FF SS LA _ Hv.out.2.2.2 HFb.out.1 HFb.out.2.1 HFb.out.2.2).mono ?_
  rintro e wB ⟨t, q, rfl, htq, hb⟩
  have Htq := Lib.hid htq
  have Hr := Lib.hid (Hr.out.below hb)
  have Hb := Lib.hid (Hb.out.trans (But.of hb))
  clear htq hb s0 s1 s2
  obtain ⟨z6, ez6⟩ : ∃ y, wB.heap.size = y := ⟨_, rfl⟩
  obtain ⟨wC, ewC⟩ : ∃ v, wB.alloc (.cells #[.int .u8 t.pr, .int .u32 t.sr, .int .u32 t.ds, .int .u16 t.sp, .int .u16 t.dp, .int .u32 q] 54) = v := ⟨_, rfl⟩
  have hba : Below wB.heap.size wB wC := by rw [← ewC]; exact (Below.refl _ _).alloc (Nat.le_refl _) _
  have HK6 := Lib.hid (show wC.heap[z6]? = some (.cells #[.int .u8 t.pr, .int .u32 t.sr, .int .u32 t.ds, .int .u16 t.sp, .int .u16 t.dp, .int .u32 q] 54 (0, 0)) by rw [← ewC, ← ez6]; exact heap_alloc_new wB _)
  have HZ6 := Lib.hid (show w.heap.size ≤ z6 by rw [← ez6]; exact Hb.out.size)
  have Hr := Lib.hid (Hr.out.below hba)
  have Hb := Lib.hid (Hb.out.trans (But.of hba))
  have EwC := Lib.hid ewC
  have Ez6 := Lib.hid ez6
  clear ewC ez6 hba
  obtain ⟨is, eis⟩ : ∃ y, sayIs b9 FF = y := ⟨_, rfl⟩
  rw [eis] at Hsay Htq
  try rw [eis]
  clear eis
  go_upto_region 15 with (fail)
  rw [EwC.out]
  try rw [Ez6.out]
  clear EwC Ez6
  cases is with
  | false =>
    have He := Lib.hid (Hsay.out.1 rfl)
    go_wp2_with fail
    refine (fail_any B g 22 _ _ _ (by decide) Hr.out).mono ?_
    rintro e w' ⟨rfl, hg1, hb⟩
    exact ⟨rfl, Hend.out 22 w' (by decide) He.out hg1 (Hb.out.trans hb)⟩
  | true =>
    obtain ⟨et, eq⟩ := Htq.out rfl
    have Hs := Lib.hid (Hsay.out.2 rfl)
    rw [← et, ← eq] at Hs
    clear et eq Htq Hsay
    obtain ⟨u0, u1, u2, u3, u4, u5⟩ := cells6 HK6.out
    have fz := fun i => blk_free HK6.out i
    go_upto_region 18 with (fail)
    obtain ⟨wD, ewD⟩ : ∃ v, (wC.setCell ⟨z6, 1, none⟩ (.int .u32 SR)).setCell ⟨z6, 2, none⟩ (.int .u32 DS) = v := ⟨_, rfl⟩
    have HKD := Lib.hid (show wD.heap[z6]? = some (.cells #[.int .u8 t.pr, .int .u32 SR, .int .u32 DS, .int .u16 t.sp, .int .u16 t.dp, .int .u32 q] 54 (0, 0)) by
      rw [← ewD]
      have k1 := setCell_block (i := 1) HK6.out (.int .u32 SR)
      have k2 := setCell_block (i := 2) k1 (.int .u32 DS)
      simpa using k2)
    have HbD := Lib.hid (show But (fun k => k = g) w wD by rw [← ewD]; exact (Hb.out.setNew (p := ⟨z6, 1, none⟩) HZ6.out _).setNew (p := ⟨z6, 2, none⟩) HZ6.out _)
    have HrD := Lib.hid (show ∃ A n c a, wD.heap[g]? = some (rdrBlock g A n c a 0) by
      obtain ⟨A7, n7, c7, _, _, _, _, _, hg7, _⟩ := Hr.out
      exact ⟨A7, n7, c7, _, by rw [← ewD, Below.heap_setCell _ _ _ _ (by have := HB.out.2.2; have := HZ6.out; show g ≠ z6; omega), Below.heap_setCell _ _ _ _ (by have := HB.out.2.2; have := HZ6.out; show g ≠ z6; omega)]; exact hg7⟩)
    have HqD := Lib.hid (HbD.out.blk Hq.out (by have := HB.out; omega))
    have HaD := Lib.hid (HbD.out.blk Ha.out (by have := HB.out; omega))
    rw [ewD]
    clear ewD u0 u1 u2 u3 u4 u5 fz
    obtain ⟨u0, u1, u2, u3, u4, u5⟩ := cells6 HKD.out
    have fz := fun i => blk_free HqD.out i
    obtain ⟨y0, y1, y2, y3, y4, y5⟩ := cells6 (show wD.heap[zq]? = some (.cells #[.int .u8 0, .int .u32 0, .int .u32 0, .int .u16 0, .int .u16 0, .int .u32 0] 54 (0, 0)) from HqD.out)
    have fa := fun i => blk_free HaD.out i
    have a0 : wD.cell? ⟨za, 0, none⟩ = some (.int .i64 0) := blk_cell HaD.out 0
    have hqa : ¬ zq = za := HB.out.1.2.2
    have haq : ¬ za = zq := fun e => hqa e.symm
    have Hdone := Lib.hid (show ∀ W, W = ((((((wD.setCell ⟨zq, 0, none⟩ (.int .u8 t.pr)).setCell ⟨zq, 1, none⟩ (.int .u32 SR)).setCell ⟨zq, 2, none⟩ (.int .u32 DS)).setCell ⟨zq, 3, none⟩ (.int .u16 t.sp)).setCell ⟨zq, 4, none⟩ (.int .u16 t.dp)).setCell ⟨zq, 5, none⟩ (.int .u32 q)).setCell ⟨za, 0, none⟩ (.int .i64 (2 * (H : Int))) →
        Did (fun k => k = zq ∨ k = za) g (QuoR zq za b w) w (.returned (.tuple #[])) W from fun W e => by
      subst e
      obtain ⟨A7, n7, c7, a7, hg7⟩ := HrD.out
      have h1 := HB.out
      have hs6 := set6_blk (show wD.heap[zq]? = some (.cells #[.int .u8 0, .int .u32 0, .int .u32 0, .int .u16 0, .int .u16 0, .int .u32 0] 54 (0, 0)) from HqD.out) (.int .u8 t.pr) (.int .u32 SR) (.int .u32 DS) (.int .u16 t.sp) (.int .u16 t.dp) (.int .u32 q)
      have hbb : But (fun k => (k = zq ∨ k = za) ∨ k = g) w (((((((wD.setCell ⟨zq, 0, none⟩ (.int .u8 t.pr)).setCell ⟨zq, 1, none⟩ (.int .u32 SR)).setCell ⟨zq, 2, none⟩ (.int .u32 DS)).setCell ⟨zq, 3, none⟩ (.int .u16 t.sp)).setCell ⟨zq, 4, none⟩ (.int .u16 t.dp)).setCell ⟨zq, 5, none⟩ (.int .u32 q)).setCell ⟨za, 0, none⟩ (.int .i64 (2 * (H : Int)))) :=
        (((((((HbD.out.mono (S' := fun k => (k = zq ∨ k = za) ∨ k = g) (fun _ _ h => .inr h)).setCell (p := ⟨zq, 0, none⟩) (.inl (.inl rfl)) _).setCell (p := ⟨zq, 1, none⟩) (.inl (.inl rfl)) _).setCell (p := ⟨zq, 2, none⟩) (.inl (.inl rfl)) _).setCell (p := ⟨zq, 3, none⟩) (.inl (.inl rfl)) _).setCell (p := ⟨zq, 4, none⟩) (.inl (.inl rfl)) _).setCell (p := ⟨zq, 5, none⟩) (.inl (.inl rfl)) _).setCell (p := ⟨za, 0, none⟩) (.inl (.inr rfl)) _
      refine ⟨0, A7, n7, c7, a7, .inl ⟨rfl, rfl⟩, ?_, hbb, Hs.out.1.symm, ?_, ?_⟩
      · rw [Below.heap_setCell _ _ _ _ (by show g ≠ za; omega), Below.heap_setCell _ _ _ _ (by show g ≠ zq; omega), Below.heap_setCell _ _ _ _ (by show g ≠ zq; omega), Below.heap_setCell _ _ _ _ (by show g ≠ zq; omega), Below.heap_setCell _ _ _ _ (by show g ≠ zq; omega), Below.heap_setCell _ _ _ _ (by show g ≠ zq; omega), Below.heap_setCell _ _ _ _ (by show g ≠ zq; omega)]
        exact hg7
      · rw [Below.heap_setCell _ _ _ _ (by show zq ≠ za; omega), hs6, Hs.out.2.1]
      · rw [Hs.out.2.2, setCell_block (i := 0) (b := za) (cells := #[.int .i64 0]) (by
          rw [Below.heap_setCell _ _ _ _ (by show za ≠ zq; omega), Below.heap_setCell _ _ _ _ (by show za ≠ zq; omega), Below.heap_setCell _ _ _ _ (by show za ≠ zq; omega), Below.heap_setCell _ _ _ _ (by show za ≠ zq; omega), Below.heap_setCell _ _ _ _ (by show za ≠ zq; omega), Below.heap_setCell _ _ _ _ (by show za ≠ zq; omega)]
          exact HaD.out)]
        rfl)
    clear HK6 Hb Hr
    go_wp2_with fail
    go_end0
    exact Hdone.out _ rfl
end Go.Proofs.YtoegfgbalcholaaGreat

/-
  What Read, Rewrite and Of of package inner must do, as the laws ask it (stage 16, written ahead).
-/
namespace Go.Proofs.YtoegfgbalcholaaGreat
set_option maxRecDepth 10000
open Go.RowKit
set_option linter.unusedSimpArgs false
set_option linter.unusedVariables false

def ReadF16 : Prop := ∀ (A : Option Addr) (n c : Nat) (b : List Int) (t : Tu) (s x : Int) (w : World), n ≤ c ∧ c ≤ maxLen → n ≤ 140737488351232 → Rd w A n b → qT b = t → qS b = s → errQ b = x →
  Calls Tryz.prog 15 #[.slice A n c] w (QuoteIs t s x w)
def RwF16 : Prop := ∀ (A : Option Addr) (n c : Nat) (b : List Int) (t : Tu) (sh : Int) (w : World) (L : List Int) (m : Nat) (x : Int), n ≤ c ∧ c ≤ maxLen → n ≤ 140737488351232 → Rd w A n b → TuNum t → 0 ≤ sh ∧ sh < 4294967296 → rwR b t sh = L → L.length = m → errR b t = x →
  Calls Tryz.prog 13 #[.slice A n c, .agg #[.int .u8 t.pr, .int .u32 t.sr, .int .u32 t.ds, .int .u16 t.sp, .int .u16 t.dp], .int .u32 sh] w (OwnQ L m x w)
def OfF16 : Prop := ∀ (A : Option Addr) (n c : Nat) (b : List Int) (many : Int) (L : List Int) (K : Nat) (w : World), n ≤ c ∧ c ≤ maxLen → n ≤ 140737488351232 → Rd w A n b → -9223372036854775808 ≤ many ∧ many ≤ 9223372036854775807 → ofL b many = L → L.length = K →
  Calls Tryz.prog 14 #[.slice A n c, .int .i64 many] w (RowIs K L w)
end Go.Proofs.YtoegfgbalcholaaGreat

/-
  The contracts of package inner's read and Read.
-/
namespace Go.Proofs.YtoegfgbalcholaaGreat
set_option maxRecDepth 10000
open Go.RowKit
set_option linter.unusedSimpArgs false
set_option linter.unusedVariables false

theorem results_row_tmp2 {P : Program} {fn : Func} {p q r : Tmp} {ty : TypeId} (h : fn.results = #[.cell p ty, .tmp q, .tmp r]) (tmps : Array Value) (w : World) (g : Nat) (t : TypeId) (cs : Array Value) (fr : Nat × Nat) (d : TypeDesc) (v u : Value)
    (hp : tmps.getD p undef = .pointer (some ⟨g, 0, none⟩)) (hv : tmps.getD q undef = v) (hu' : tmps.getD r undef = u) (hg : w.heap[g]? = some (.cells cs t fr))
    (hu : P.underlying ty = some d) (hd : (match d with | .struct _ | .array _ _ => true | _ => false) = true) (hi : (P.info? ty).map (·.size) = some cs.size) :
    (results fn tmps).run P w = .ok (.tuple #[.agg cs, v, u]) w := by
  have hp' : tmps[p]?.getD undef = .pointer (some ⟨g, 0, none⟩) := by simpa using hp
  have hv' : tmps[q]?.getD undef = v := by simpa using hv
  have hu'' : tmps[r]?.getD undef = u := by simpa using hu'
  simp [results, h, hp', hv', hu'', asAddr, run_loadVar_row w g t ty cs fr d hg hu hd hi]
theorem row_butI (w : World) (g : Nat) (cs : Array Value) : But (fun k => k = g) w (w.setRow g cs) := ⟨rfl, rfl, rfl, by simp, fun k _ hn => setRow_other _ _ _ _ hn⟩
/-- What read tells: the quote, how many bytes its header has, an error. -/
def Read3 (b : List Int) (N x : Int) (w : World) (e : Ending) (w' : World) : Prop := e = .returned (.tuple #[.agg (qVC b), .int .i64 N, .int .i64 x]) ∧ Below w.heap.size w w'
set_option maxHeartbeats 1000000 in
theorem read16_any (A : Option Addr) (n c : Nat) (b : List Int) (N x : Int) (w : World) (hn : n ≤ 140737488351232) (hA : Rd w A n b) (hN : qA b = N) (hx : errQ b = x) :
    Calls Tryz.prog 37 #[.slice A n c] w (Read3 b N x w) := by
  have hmf : ∀ (fn : Fn) (first cap : Array Value) (w : World), (Instr.makeFunc fn first cap).run Tryz.prog w = .ok (.func fn first cap) w := fun _ _ _ _ => rfl
  obtain ⟨z, hz⟩ : ∃ z, w.heap.size = z := ⟨_, rfl⟩
  obtain ⟨w0, ew⟩ : ∃ v, ((w.alloc (.cells #[.int .u8 0, .int .u32 0, .int .u32 0, .int .u16 0, .int .u16 0, .int .u32 0] 54)).alloc (.cells #[.int .u8 0, .int .u32 0, .int .u32 0, .int .u16 0, .int .u16 0, .int .u32 0] 54)).alloc (.cells #[.int .i64 0] 3) = v := ⟨_, rfl⟩
  have hsz : w0.heap.size = z + 3 := by rw [← ew, ← hz]; simp
  have hb0 : Below w.heap.size w w0 := by rw [← ew]; exact (((Below.refl _ _).alloc (Nat.le_refl _) _).alloc (by simp) _).alloc (by simp; omega) _
  have hk0 : w0.heap[z]? = some (.cells zQC 54 (0, 0)) := by rw [← ew, Below.heap_alloc _ _ _ (by simp [hz]; omega), Below.heap_alloc _ _ _ (by simp [hz]), ← hz]; exact heap_alloc_new w _
  have hk1 : w0.heap[z + 1]? = some (.cells zQC 54 (0, 0)) := by
    rw [← ew, Below.heap_alloc _ _ _ (by simp [hz]), ← hz]; simpa [zQC] using heap_alloc_new (w.alloc (.cells #[.int .u8 0, .int .u32 0, .int .u32 0, .int .u16 0, .int .u16 0, .int .u32 0] 54)) (.cells #[.int .u8 0, .int .u32 0, .int .u32 0, .int .u16 0, .int .u16 0, .int .u32 0] 54)
  have hk2 : w0.heap[z + 1 + 1]? = some (.cells #[.int .i64 0] 3 (0, 0)) := by
    rw [← ew, ← hz]; simpa using heap_alloc_new ((w.alloc (.cells #[.int .u8 0, .int .u32 0, .int .u32 0, .int .u16 0, .int .u16 0, .int .u32 0] 54)).alloc (.cells #[.int .u8 0, .int .u32 0, .int .u32 0, .int .u16 0, .int .u16 0, .int .u32 0] 54)) (.cells #[.int .i64 0] 3)
  have hr0 := hA.below hb0
  have hlen := hA.len
  have hby := hA.byte
  have hdo := fun w1 g (hb : Below w0.heap.size w0 w1) (_ : w0.heap.size ≤ g) (_ : g < w1.heap.size) (hR : Rdr w1 w0.heap.size g b 0) =>
    quo1_any w0.heap.size g (z + 1) (z + 1 + 1) n b w1 ⟨by omega, by omega, by omega⟩ hlen (by omega) hby (blk_on hk1 hb) (blk_on hk2 hb) hR
  have hread := read_any (fun k => k = z + 1 ∨ k = z + 1 + 1) _ n c #[.pointer (some ⟨z + 1, 0, none⟩), .pointer (some ⟨z + 1 + 1, 0, none⟩)] _ (fun _ => rfl) A b (QuoR (z + 1) (z + 1 + 1) b) w0 (fun k hk => by omega) (by omega) hr0 (enter_of Tryz.func82 (by kernel_rfl) rfl) hdo
  have HRead := Lib.hid hread
  have HK0 := Lib.hid hk0
  have Hsz := Lib.hid hsz
  have Hz := Lib.hid hz
  have Hb0 := Lib.hid hb0
  have Ew := Lib.hid ew
  have HN := Lib.hid hN
  have Hx := Lib.hid hx
  clear hread hk0 hk1 hk2 hsz hz hb0 ew hr0 hdo hN hx hlen hby hA
  go_enter Tryz.func37, Tryz.ntmps37
  go_upto_region 3 with (fail)
  rw [Ew.out]
  try rw [Hz.out]
  clear Ew
  go_wp2_with fail
  refine HRead.out.mono ?_
  rintro e w5 ⟨x', w1, w4, rfl, hb1, ⟨hxe, hRq, hRa⟩, hb4, hb5⟩
  have hsz := Hsz.out
  have Hkq := Lib.hid (hb4.blk hRq (by omega))
  have Hka := Lib.hid (hb4.blk hRa (by omega))
  have Hk5 := Lib.hid (hb5.blk HK0.out (by omega))
  have HB := Lib.hid (Hb0.out.trans (hb5.below (B := w.heap.size) (fun k hk => by have := Hz.out; omega) Hb0.out.size))
  rw [HN.out] at Hka
  rw [Hx.out] at hxe
  subst hxe
  clear hRq hRa hb4 hb5 hb1 HRead HK0 hsz
  go_upto_region 4 with (fail)
  have HSS := Lib.hid (show ∀ W, But (fun k => k = z) w5 W → W.heap[z + 1]? = some (.cells (qVC b) 54 (0, 0)) ∧ W.cell? ⟨z + 1 + 1, 0, none⟩ = some (.int .i64 N) from fun W hW => ⟨hW.blk Hkq.out (by omega), blk_cell (hW.blk Hka.out (by omega)) 0⟩)
  refine wp_region_held_drew (S := fun W => W.heap[z + 1]? = some (.cells (qVC b) 54 (0, 0)) ∧ W.cell? ⟨z + 1 + 1, 0, none⟩ = some (.int .i64 N)) (by kernel_rfl) (HSS.out _ (But.refl _ _).drew) (fun hHeld => ?_)
  obtain ⟨wd, ewd⟩ : ∃ wd, w5.drew = wd := ⟨_, rfl⟩
  have HBd := Lib.hid (show But (fun k => k = z) w5 wd by rw [← ewd]; exact (But.refl _ _).drew)
  have HBB := Lib.hid (show Below w.heap.size w wd by rw [← ewd]; exact HB.out.drew)
  have Hkd := Lib.hid (show wd.heap[z]? = some (.cells zQC 54 (0, 0)) by rw [← ewd]; exact Hk5.out)
  rw [ewd] at hHeld ⊢
  clear ewd
  refine tk 0 (.agg (qVC b)) rfl (fun w' hSw => exec_row 54 (.tmp 5) rfl (z + 1) _ _ _ _ (hSw.1) rfl Tryz.underlying54 rfl (by kernel_rfl)) ?_
  try simp only [Act.put, putL]
  refine tk 1 ?_ rfl ?_ ?_
  rotate_left
  · intro w' hSw; (go_simp <;> (with_reducible rfl))
  try simp only [Act.put, putL]
  refine tk 2 ?_ rfl ?_ ?_
  rotate_left
  · intro w' hSw; (go_simp <;> (with_reducible rfl))
  try simp only [Act.put, putL]
  refine wpAnyH_ready (rs := [3]) (by kernel_rfl) (by simp) ?_
  refine AllReadyH.cons (o := { dst := none, op := Go.Op.store 54 (Go.Operand.tmp 2) (Go.Operand.tmp 11), type := 0, pos := "inner.go:132", after := #[{ on := 0, ground := Go.Ground.data }, { on := 0, ground := Go.Ground.phase }, { on := 1, ground := Go.Ground.textOnly Go.Departure.lateStores }, { on := 2, ground := Go.Ground.textOnly Go.Departure.lateStores }], guard := none }) rfl (fun K hK => ?_) AllReadyH.nil
  refine step_row rfl 54 (.tmp 2) (.tmp 11) rfl z (qVC b) rfl rfl 54 _ Hkd.out (by kernel_rfl) rfl (by simp [Value.oneCell', qVC]) ?_
  have HBr := Lib.hid (below_setRow HBB.out (show w.heap.size ≤ z by rw [Hz.out]; exact Nat.le_refl _) (qVC b))
  have HBt := Lib.hid (show But (fun k => k = z) w5 (wd.setRow z (qVC b)) from HBd.out.trans ((row_butI _ _ _)))
  have Hkr := Lib.hid (setRow_heap _ _ _ (qVC b) _ _ Hkd.out)
  refine hK.out _ _ ?_ (fun hHeld => ?_)
  · exact HSS.out _ HBt.out
  clear hK K
  try simp only [Act.put, putL]
  refine tk 4 ?_ rfl ?_ ?_
  rotate_left
  · intro w' hSw; (go_simp <;> (with_reducible rfl))
  try simp only [Act.put, putL]
  refine tk 5 ?_ rfl ?_ ?_
  rotate_left
  · intro w' hSw; (go_simp <;> (with_reducible rfl))
  try simp only [Act.put, putL]
  refine wpAnyH_done (by kernel_rfl) ?_ _
  go_wp2_with fail
  exact bodyPost_ret (v := .tuple #[.agg (qVC b), .int .i64 N, .int .i64 x']) (results_row_tmp2 rfl _ _ z _ _ _ _ _ _ rfl rfl rfl Hkr.out Tryz.underlying54 rfl (by kernel_rfl)) rfl ⟨rfl, HBr.out⟩
end Go.Proofs.YtoegfgbalcholaaGreat
