/-
  The document's own answers for messages (culvertref08): Parse, Exceeded.
-/
import Derived.Test.YtcdflpfgjodeaaaIcmpRefPut
import Derived.Test.YtcdflpfgjodeaaaHeldLast
namespace Go.Proofs.Ytcdflpfgjodeaaa
set_option maxRecDepth 10000
open Go.RowKit
set_option linter.unusedVariables false
set_option linter.unusedSimpArgs false

theorem Rd.restM {w : World} {A : Option Addr} {n c : Nat} {l : List Int} (h : Rd w A n l) (lo : Nat) (loi : Int) (h0 : 0 < n) (hlo : lo ≤ n) (hc : n ≤ c) (hcm : c ≤ maxLen) (el : loi = (lo : Int)) :
    ∃ A', (∀ W : World, (Instr.sliceAt 23 (.slice A n c) (some (.int .i64 loi)) none none).run Try.prog W = .ok (.slice A' (n - lo) (c - lo)) W) ∧ Rd w A' (n - lo) (l.drop lo) := by
  subst el
  obtain ⟨b, o, rfl, _, _⟩ := h.at_ h0
  unfold maxLen at hcm
  have i0 : (0 : Int) ≤ (lo : Int) := by omega
  have i1 : (lo : Int) ≤ (n : Int) := by omega
  have i2 : (n : Int) ≤ (c : Int) := by omega
  have i3 : lo ≤ c := by omega
  by_cases hl : lo = c
  · subst hl
    obtain rfl : n = lo := by omega
    refine ⟨some ⟨b, o, none⟩, fun W => by go_simp, ?_⟩
    rw [Nat.sub_self, List.drop_eq_nil_of_le (by rw [h.len]; omega)]
    exact Rd.nil _ _
  · have i4 : ¬ c = lo := fun e => hl e.symm
    refine ⟨some ⟨b, o + lo, none⟩, fun W => by go_simp, ?_⟩
    exact h.drop_ rfl (by omega)
/-- Parse, of bytes that are no message, and of those that are. -/
def MsgBad (x : Int) (w : World) (e : Ending) (w' : World) : Prop := e = .returned (.tuple #[.agg #[.int .u8 0, .int .u8 0, .int .u32 0, .slice none 0 0], .int .i64 x]) ∧ Below w.heap.size w w'
def MsgGood (s : Msg) (m : Nat) (w : World) (e : Ending) (w' : World) : Prop :=
  ∃ AD cD, e = .returned (.tuple #[.agg #[.int .u8 s.ty, .int .u8 s.cd, .int .u32 s.rs, .slice AD m cD], .int .i64 0]) ∧ m ≤ cD ∧ cD ≤ maxLen ∧ OwnB w' w.heap.size AD m cD s.d ∧ Below w.heap.size w w'

theorem rparse8_long (A : Option Addr) (n c : Nat) (w : World) (h1 : 1480 < n) :
    Calls Try.prog 10 #[.slice A n c] w (MsgBad 3 w) := by
  obtain ⟨z, hz⟩ : ∃ z, w.heap.size = z := ⟨_, rfl⟩
  have hrb : (w.alloc (.cells #[.int .u8 0, .int .u8 0, .int .u32 0, .slice none 0 0] 25)).heap[z]? = some (.cells #[.int .u8 0, .int .u8 0, .int .u32 0, .slice none 0 0] 25 (0, 0)) := by rw [← hz]; exact heap_alloc_new w _
  have hb0 : Below w.heap.size w (w.alloc (.cells #[.int .u8 0, .int .u8 0, .int .u32 0, .slice none 0 0] 25)) := (Below.refl _ _).alloc (Nat.le_refl _) _
  obtain ⟨w0, hw0⟩ : ∃ w0, w.alloc (.cells #[.int .u8 0, .int .u8 0, .int .u32 0, .slice none 0 0] 25) = w0 := ⟨_, rfl⟩
  have hs0 : w0.heap.size = z + 1 := by rw [← hw0, ← hz]; simp
  rw [hw0] at hrb hb0
  have Hz := Lib.hid hz
  have Hw := Lib.hid hw0
  have i1 : (1480 : Int) < (n : Int) := by omega
  clear h1 hw0 hs0
  go_enter Try.func10, Try.ntmps10
  go_upto_region 1 with (fail)
  rw [Hw.out]
  have HB := Lib.hid hb0
  have HS9 := Lib.hid (set4_blk hrb (.int .u8 0) (.int .u8 0) (.int .u32 0) (.slice none 0 0))
  obtain ⟨r0, r1, r2, r3⟩ := cells4 hrb
  have rf := blk_free hrb
  clear hrb hb0
  go_wp2_with fail
  obtain ⟨s0, s1, s2, s3⟩ := cells4 HS9.out
  refine bodyPost_ret (v := .tuple #[.agg #[.int .u8 0, .int .u8 0, .int .u32 0, .slice none 0 0], .int .i64 3]) (by simp [results, Try.results10, go_sem, s0, s1, s2, s3]) rfl ?_
  have hzz := Hz.out
  exact ⟨rfl, ((((HB.out.setCell (by simp <;> omega) _).setCell (by simp <;> omega) _).setCell (by simp <;> omega) _).setCell (by simp <;> omega) _)⟩
theorem rparse8_short (A : Option Addr) (n c : Nat) (w : World) (h1 : n < 8) :
    Calls Try.prog 10 #[.slice A n c] w (MsgBad 4 w) := by
  obtain ⟨z, hz⟩ : ∃ z, w.heap.size = z := ⟨_, rfl⟩
  have hrb : (w.alloc (.cells #[.int .u8 0, .int .u8 0, .int .u32 0, .slice none 0 0] 25)).heap[z]? = some (.cells #[.int .u8 0, .int .u8 0, .int .u32 0, .slice none 0 0] 25 (0, 0)) := by rw [← hz]; exact heap_alloc_new w _
  have hb0 : Below w.heap.size w (w.alloc (.cells #[.int .u8 0, .int .u8 0, .int .u32 0, .slice none 0 0] 25)) := (Below.refl _ _).alloc (Nat.le_refl _) _
  obtain ⟨w0, hw0⟩ : ∃ w0, w.alloc (.cells #[.int .u8 0, .int .u8 0, .int .u32 0, .slice none 0 0] 25) = w0 := ⟨_, rfl⟩
  have hs0 : w0.heap.size = z + 1 := by rw [← hw0, ← hz]; simp
  rw [hw0] at hrb hb0
  have Hz := Lib.hid hz
  have Hw := Lib.hid hw0
  have i0 : ¬ (1480 : Int) < (n : Int) := by omega
  have i1 : (n : Int) < 8 := by omega
  clear h1 hw0 hs0
  go_enter Try.func10, Try.ntmps10
  go_upto_region 1 with (fail)
  rw [Hw.out]
  have HB := Lib.hid hb0
  have HS9 := Lib.hid (set4_blk hrb (.int .u8 0) (.int .u8 0) (.int .u32 0) (.slice none 0 0))
  obtain ⟨r0, r1, r2, r3⟩ := cells4 hrb
  have rf := blk_free hrb
  clear hrb hb0
  go_wp2_with fail
  obtain ⟨s0, s1, s2, s3⟩ := cells4 HS9.out
  refine bodyPost_ret (v := .tuple #[.agg #[.int .u8 0, .int .u8 0, .int .u32 0, .slice none 0 0], .int .i64 4]) (by simp [results, Try.results10, go_sem, s0, s1, s2, s3]) rfl ?_
  have hzz := Hz.out
  exact ⟨rfl, ((((HB.out.setCell (by simp <;> omega) _).setCell (by simp <;> omega) _).setCell (by simp <;> omega) _).setCell (by simp <;> omega) _)⟩
theorem rparse8_sum (A : Option Addr) (n c : Nat) (b : List Int) (w : World) (hA : Rd w A n b) (h1 : n ≤ 1480) (h2 : 8 ≤ n) (h3 : sumL b ≠ 65535) :
    Calls Try.prog 10 #[.slice A n c] w (MsgBad 20 w) := by
  obtain ⟨z, hz⟩ : ∃ z, w.heap.size = z := ⟨_, rfl⟩
  have hrb : (w.alloc (.cells #[.int .u8 0, .int .u8 0, .int .u32 0, .slice none 0 0] 25)).heap[z]? = some (.cells #[.int .u8 0, .int .u8 0, .int .u32 0, .slice none 0 0] 25 (0, 0)) := by rw [← hz]; exact heap_alloc_new w _
  have hb0 : Below w.heap.size w (w.alloc (.cells #[.int .u8 0, .int .u8 0, .int .u32 0, .slice none 0 0] 25)) := (Below.refl _ _).alloc (Nat.le_refl _) _
  obtain ⟨w0, hw0⟩ : ∃ w0, w.alloc (.cells #[.int .u8 0, .int .u8 0, .int .u32 0, .slice none 0 0] 25) = w0 := ⟨_, rfl⟩
  have hs0 : w0.heap.size = z + 1 := by rw [← hw0, ← hz]; simp
  rw [hw0] at hrb hb0
  have Hz := Lib.hid hz
  have Hw := Lib.hid hw0
  have i0 : ¬ (1480 : Int) < (n : Int) := by omega
  have i1 : ¬ (n : Int) < 8 := by omega
  have Hs := Lib.hid (rsum_any A n c b w0 (by omega) (hA.below hb0))
  obtain ⟨y, ey⟩ : ∃ y, sumL b = y := ⟨_, rfl⟩
  rw [ey] at Hs h3
  have hyb : (y != 65535) = true := by simpa using h3
  clear h1 h2 h3 hw0 hs0 ey hA
  go_enter Try.func10, Try.ntmps10
  go_upto_region 1 with (fail)
  rw [Hw.out]
  go_wp2_with fail
  refine Hs.out.mono ?_
  rintro e w1 ⟨rfl, rfl⟩
  have HB := Lib.hid hb0
  have HS9 := Lib.hid (set4_blk hrb (.int .u8 0) (.int .u8 0) (.int .u32 0) (.slice none 0 0))
  obtain ⟨r0, r1, r2, r3⟩ := cells4 hrb
  have rf := blk_free hrb
  clear hrb hb0
  go_wp2_with fail
  obtain ⟨s0, s1, s2, s3⟩ := cells4 HS9.out
  refine bodyPost_ret (v := .tuple #[.agg #[.int .u8 0, .int .u8 0, .int .u32 0, .slice none 0 0], .int .i64 20]) (by simp [results, Try.results10, go_sem, s0, s1, s2, s3]) rfl ?_
  have hzz := Hz.out
  exact ⟨rfl, ((((HB.out.setCell (by simp <;> omega) _).setCell (by simp <;> omega) _).setCell (by simp <;> omega) _).setCell (by simp <;> omega) _)⟩
def accM (b : List Int) : Nat → Int
  | 0 => 0
  | k + 1 => 256 * accM b k + b.getD (4 + k) 0
theorem accM_four (b : List Int) : accM b 4 = m32 b 4 := by simp [accM, m32]; omega
theorem accM_bd {b : List Int} (hb : ∀ x ∈ b, 0 ≤ x ∧ x < 256) (h8 : 8 ≤ b.length) : ∀ k, k ≤ 3 → 0 ≤ accM b k ∧ accM b k < 16777216 ∧ (0 ≤ b.getD (4 + k) 0 ∧ b.getD (4 + k) 0 < 256) := by
  have g : ∀ j, j < 8 → 0 ≤ b.getD j 0 ∧ b.getD j 0 < 256 := fun j hj => hb _ (by simp only [List.getD, List.getElem?_eq_getElem (show j < b.length by omega), Option.getD_some]; exact List.getElem_mem _)
  intro k hk
  have h4 := g 4 (by omega)
  have h5 := g 5 (by omega)
  have h6 := g 6 (by omega)
  have h7 := g 7 (by omega)
  match k, hk with
  | 0, _ => simp [accM]; simpa using h4
  | 1, _ => simp [accM] at *; omega
  | 2, _ => simp [accM] at *; omega
  | 3, _ => simp [accM] at *; omega
structure Pars (w : World) (z : Nat) (b0 b1 v : Int) (wr : World) : Prop where
  old : Below w.heap.size w wr
  res : wr.heap[z]? = some (.cells #[.int .u8 0, .int .u8 0, .int .u32 0, .slice none 0 0] 25 (0, 0))
  mine : wr.heap[z + 1]? = some (.cells #[.int .u8 b0, .int .u8 b1, .int .u32 v, .slice none 0 0] 25 (0, 0))
  size : wr.heap.size = z + 2
theorem Pars.step {w : World} {z : Nat} {b0 b1 v : Int} {wr : World} (h : Pars w z b0 b1 v wr) (hz : w.heap.size = z) (y : Int) : Pars w z b0 b1 y (wr.setCell ⟨z + 1, 2, none⟩ (.int .u32 y)) :=
  ⟨h.old.setCell (by simp <;> omega) _, other_blk h.res (by omega) _, set_cell4 h.mine _, by simpa using h.size⟩
theorem Pars.drew {w : World} {z : Nat} {b0 b1 v : Int} {wr : World} (h : Pars w z b0 b1 v wr) : Pars w z b0 b1 v wr.drew := ⟨h.old.drew, h.res, h.mine, h.size⟩
theorem own_store {w : World} {B p i : Nat} {A : Option Addr} {n c : Nat} {l : List Int} (h : OwnB w B A n c l) (hp : p < B) (v : Value) : OwnB (w.setCell ⟨p, i, none⟩ v) B A n c l :=
  h.but ((But.refl (fun k => k = p) _).setCell (p := ⟨p, i, none⟩) rfl v) (fun k hk e => by omega)
theorem set_cell4d {w : World} {q : Nat} {u0 u1 u2 u3 : Value} {t : TypeId} (h : w.heap[q]? = some (.cells #[u0, u1, u2, u3] t (0, 0))) (v : Value) : (w.setCell ⟨q, 3, none⟩ v).heap[q]? = some (.cells #[u0, u1, u2, v] t (0, 0)) := by
  simp [World.setCell, Array.getElem?_modify, h]
theorem rparse8_good (A : Option Addr) (n c : Nat) (b : List Int) (m : Nat) (w : World) (hc : n ≤ c ∧ c ≤ maxLen) (hA : Rd w A n b) (h0 : errM b = 0) (hm : n - 8 = m) :
    Calls Try.prog 10 #[.slice A n c] w (MsgGood (msgOf b) m w) := by
  have Em := Lib.hid hm
  clear hm
  obtain ⟨h1, h2, h3⟩ := errM_zero h0
  rw [hA.len] at h1 h2
  obtain ⟨z, hz⟩ : ∃ z, w.heap.size = z := ⟨_, rfl⟩
  have hrb : (w.alloc (.cells #[.int .u8 0, .int .u8 0, .int .u32 0, .slice none 0 0] 25)).heap[z]? = some (.cells #[.int .u8 0, .int .u8 0, .int .u32 0, .slice none 0 0] 25 (0, 0)) := by rw [← hz]; exact heap_alloc_new w _
  have hb0 : Below w.heap.size w (w.alloc (.cells #[.int .u8 0, .int .u8 0, .int .u32 0, .slice none 0 0] 25)) := (Below.refl _ _).alloc (Nat.le_refl _) _
  obtain ⟨w0, hw0⟩ : ∃ w0, w.alloc (.cells #[.int .u8 0, .int .u8 0, .int .u32 0, .slice none 0 0] 25) = w0 := ⟨_, rfl⟩
  have hs0 : w0.heap.size = z + 1 := by rw [← hw0, ← hz]; simp
  rw [hw0] at hrb hb0
  have Hz := Lib.hid hz
  have Hw := Lib.hid hw0
  have i0 : ¬ (1480 : Int) < (n : Int) := by omega
  have i1 : ¬ (n : Int) < 8 := by omega
  have Hs := Lib.hid (rsum_any A n c b w0 (by omega) (hA.below hb0))
  rw [h3] at Hs
  have hac := accM_bd hA.byte (by rw [hA.len]; omega)
  have Hac := Lib.hid hac
  have hmo : msgOf b = ⟨b.getD 0 0, b.getD 1 0, accM b 4, b.drop 8⟩ := by rw [accM_four]; rfl
  obtain ⟨b0, e0⟩ : ∃ x, b.getD 0 0 = x := ⟨_, rfl⟩
  obtain ⟨b1, e1⟩ : ∃ x, b.getD 1 0 = x := ⟨_, rfl⟩
  rw [e0, e1] at hmo
  rw [hmo]
  obtain ⟨p0, x0, y0, z0⟩ := (hA.below hb0).index (c := c) (j := 0) (by omega)
  obtain ⟨p1, x1, y1, z1⟩ := (hA.below hb0).index (c := c) (j := 1) (by omega)
  rw [e0] at y0
  rw [e1] at y1
  have x0 : ∀ W : World, (Instr.indexAt 23 (.slice A n c) (.int .i64 0)).run Try.prog W = .ok (.pointer (some p0)) W := x0
  have x1 : ∀ W : World, (Instr.indexAt 23 (.slice A n c) (.int .i64 1)).run Try.prog W = .ok (.pointer (some p1)) W := x1
  have hk1 := heap_alloc_new w0 (.cells #[.int .u8 b0, .int .u8 b1, .int .u32 0, .slice none 0 0] 25)
  rw [hs0] at hk1
  have hP : Pars w z b0 b1 (accM b 0) (w0.alloc (.cells #[.int .u8 b0, .int .u8 b1, .int .u32 0, .slice none 0 0] 25)) :=
    ⟨hb0.alloc hb0.size _, by rw [Below.heap_alloc _ _ _ (by omega)]; exact hrb, hk1, by simp [hs0]⟩
  have HP := Lib.hid hP
  have HA := Lib.hid hA
  have Hn := Lib.hid (And.intro h1 h2)
  have Hc := Lib.hid hc
  have Hs0 := Lib.hid hs0
  clear hmo e0 e1 hac h0 h3 hrb hb0 hw0 hk1 hP hA hc hs0 h1 h2
  go_enter Try.func10, Try.ntmps10
  go_upto_region 1 with (fail)
  rw [Hw.out]
  go_wp2_with fail
  refine Hs.out.mono ?_
  rintro e w1 ⟨rfl, rfl⟩
  go_upto_region 7 with (fail)
  go_region
  go_upto_region 8 with (fail)
  try simp only [Hs0.out]
  clear x0 x1 y0 y1 z0 z1
  have HP := Lib.hid HP.out.drew
  obtain ⟨w2, ew2⟩ : ∃ w2, (w0.alloc (.cells #[.int .u8 b0, .int .u8 b1, .int .u32 0, .slice none 0 0] 25)).drew = w2 := ⟨_, rfl⟩
  rw [ew2] at HP ⊢
  clear ew2
  go_wp2_with fail
  go_loopg [5] 4 (fun gk i wr => ∃ j : Nat, Hid (gk + j = 4) ∧ j ≤ 4 ∧ i = .int .i64 (4 + (j : Int)) ∧ Hid (Pars w z b0 b1 (accM b j) wr))
  case atStart => exact ⟨0, rfl, by omega, rfl, HP⟩
  case round =>
    obtain ⟨j, hgk, hj, rfl, hp⟩ := hrel
    by_cases hj4 : j < 4
    · have hjb := Hac.out j (by omega)
      obtain ⟨p, hrun, hcell, -⟩ := (HA.out.below hp.out.old).index (c := c) (j := 4 + j) (by have := Hn.out; omega)
      obtain ⟨y, ey⟩ : ∃ y, b.getD (4 + j) 0 = y := ⟨_, rfl⟩
      obtain ⟨v, ev⟩ : ∃ v, accM b j = v := ⟨_, rfl⟩
      have hnx : 256 * v + y = accM b (j + 1) := by rw [← ey, ← ev]; rfl
      rw [ey] at hcell hjb
      rw [ev] at hjb hp
      have hrun : ∀ W : World, (Instr.indexAt 23 (.slice A n c) (.int .i64 (4 + (j : Int)))).run Try.prog W = .ok (.pointer (some p)) W := by
        intro W; have := hrun W; rw [show ((4 + j : Nat) : Int) = 4 + (j : Int) by omega] at this; exact this
      obtain ⟨q0, q1, q2, q3⟩ := cells4 hp.out.mine
      have qf := blk_free hp.out.mine
      have Hst := Lib.hid (hp.out.step Hz.out (256 * v + y))
      rw [hnx] at Hst
      have hwa : IntKind.u32.wrap (256 * v) = 256 * v := by (simp [IntKind.wrap, IntKind.bits, IntKind.signed] <;> omega)
      have hwb : IntKind.u32.wrap y = y := by (simp [IntKind.wrap, IntKind.bits, IntKind.signed] <;> omega)
      have hwc : IntKind.u32.wrap (256 * v + y) = accM b (j + 1) := by rw [← hnx]; (simp [IntKind.wrap, IntKind.bits, IntKind.signed] <;> omega)
      have hji : 4 + (j : Int) < 8 := by omega
      have HstD := Lib.hid Hst.out.drew
      clear hjb ey ev hp hnx
      go_wp2_with fail
      go_region
      go_wp2_with fail
      go_roundg (gk - 1)
      case measure => have := hgk.out; omega
      case rel => exact ⟨j + 1, by have := hgk.out; show gk - 1 + (j + 1) = _; omega, by omega, by go_num, HstD⟩
    · obtain rfl : j = 4 := by omega
      obtain ⟨A', hcut, hrt⟩ := (HA.out.below hp.out.old).restM (c := c) 8 8 (by have := Hn.out; omega) (by have := Hn.out; omega) Hc.out.1 Hc.out.2 rfl
      obtain ⟨V, eV⟩ : ∃ V, accM b 4 = V := ⟨_, rfl⟩
      have EV := Lib.hid eV
      rw [eV] at hp
      obtain ⟨q0, q1, q2, q3⟩ := cells4 hp.out.mine
      have HrT := Lib.hid hrt
      have hln : (b.drop 8).length = n - 8 := by rw [List.length_drop, HA.out.len]
      have em := Em.out
      rw [em] at hcut HrT
      have Hm := Lib.hid (show m ≤ 1472 by have := Hn.out; omega)
      clear hrt eV hln em
      obtain ⟨w6, ew6⟩ : ∃ w6, wr.drew = w6 := ⟨_, rfl⟩
      have hp6 := hp.out.drew
      rw [ew6] at hp6
      have HP6 := Lib.hid hp6
      have HrT := Lib.hid (show Rd w6 A' m (b.drop 8) by rw [← ew6]; exact HrT.out.below (Below.drew (Below.refl _ _)))
      have Ew6 := Lib.hid ew6
      obtain ⟨g0, g1, g2, g3⟩ := cells4 hp6.mine
      clear q0 q1 q2 q3 hp6 hp ew6
      go_wp2_with fail
      refine wp_region_heldL (S := fun w' => w'.cell? ⟨z + 1, 3, none⟩ = some (.slice none 0 0)) 6 (by kernel_rfl) (by rw [Ew6.out]; exact g3) (fun hHeld => ?_)
      rw [Ew6.out] at hHeld ⊢
      refine anyHL_take (i := 0) (oi := { dst := some 39, op := Go.Op.fieldAddr 25 (Go.Operand.tmp 4) 3, type := 0, pos := "ref.go:46", after := #[], guard := none }) (v := ?_) rfl (by kernel_rfl) (by kernel_rfl) (by kernel_rfl) (by kernel_rfl) (fun _ _ _ h => h) (Or.inl ⟨by rfl, ?_⟩) (by assumption) ?_
      rotate_left 1
      · intro w' hSw; (go_simp <;> (with_reducible rfl))
      (try simp only [Act.put, List.setIfInBounds_toArray, List.set_cons_zero, List.set_cons_succ])
      refine anyHL_take (i := 1) (oi := { dst := some 40, op := Go.Op.load 23 (Go.Operand.tmp 39), type := 23, pos := "ref.go:46", after := #[{ on := 0, ground := Go.Ground.data }], guard := none }) (v := ?_) rfl (by kernel_rfl) (by kernel_rfl) (by kernel_rfl) (by kernel_rfl) (fun _ _ _ h => h) (Or.inl ⟨by rfl, ?_⟩) (by assumption) ?_
      rotate_left 1
      · intro w' hSw; (go_simp <;> (with_reducible rfl))
      (try simp only [Act.put, List.setIfInBounds_toArray, List.set_cons_zero, List.set_cons_succ])
      refine anyHL_take (i := 2) (oi := { dst := some 41, op := Go.Op.move (Go.Operand.tmp 0), type := 23, pos := "ref.go:46", after := #[], guard := none }) (v := ?_) rfl (by kernel_rfl) (by kernel_rfl) (by kernel_rfl) (by kernel_rfl) (fun _ _ _ h => h) (Or.inl ⟨by rfl, ?_⟩) (by assumption) ?_
      rotate_left 1
      · intro w' hSw; (go_simp <;> (with_reducible rfl))
      (try simp only [Act.put, List.setIfInBounds_toArray, List.set_cons_zero, List.set_cons_succ])
      refine anyHL_take (i := 3) (oi := { dst := some 42, op := Go.Op.slice 23 (Go.Operand.tmp 41) (some (Go.Operand.const (Go.Value.int Go.IntKind.i64 8))) none none, type := 23, pos := "ref.go:46", after := #[{ on := 2, ground := Go.Ground.data }], guard := none }) (v := ?_) rfl (by kernel_rfl) (by kernel_rfl) (by kernel_rfl) (by kernel_rfl) (fun _ _ _ h => h) (Or.inl ⟨by rfl, ?_⟩) (by assumption) ?_
      rotate_left 1
      · intro w' hSw; (go_simp <;> (with_reducible rfl))
      (try simp only [Act.put, List.setIfInBounds_toArray, List.set_cons_zero, List.set_cons_succ])
      refine anyHL_one (i := 4) (o := { dst := some 43, op := Go.Op.call { callee := Go.Callee.builtin Go.Builtin.append, args := #[Go.Operand.tmp 40, Go.Operand.tmp 42], argTypes := #[23, 23] }, type := 23, pos := "ref.go:46", after := #[{ on := 1, ground := Go.Ground.data }, { on := 3, ground := Go.Ground.data }], guard := none }) (by kernel_rfl) rfl (by kernel_rfl) (fun K hK => ?_)
      (refine step_app (by rfl) (.tmp 40) (.tmp 42) (by rfl) w6.heap.size none A' 0 0 m (c - 8) [] (b.drop 8) m (b.drop 8) (by omega) rfl (by rfl) (by rfl) (OwnB.nil _ _) HrT.out (by have := Hm.out; omega) (Nat.le_refl _) ?_; intro A7 c7 w7 ho7 hg7 hb7)
      refine hK.out _ _ ?_ (fun hHeld => ?_)
      · exact (cells4 (blk_on HP6.out.mine hb7)).2.2.2
      clear hK K
      (try simp only [Act.put, List.setIfInBounds_toArray, List.set_cons_zero, List.set_cons_succ])
      refine anyHL_take (i := 5) (oi := { dst := some 44, op := Go.Op.fieldAddr 25 (Go.Operand.tmp 4) 3, type := 0, pos := "ref.go:46", after := #[{ on := 0, ground := Go.Ground.phase }, { on := 1, ground := Go.Ground.phase }, { on := 2, ground := Go.Ground.phase }, { on := 3, ground := Go.Ground.phase }, { on := 4, ground := Go.Ground.phase }], guard := none }) (v := ?_) rfl (by kernel_rfl) (by kernel_rfl) (by kernel_rfl) (by kernel_rfl) (fun _ _ _ h => h) (Or.inl ⟨by rfl, ?_⟩) (by assumption) ?_
      rotate_left 1
      · intro w' hSw; (go_simp <;> (with_reducible rfl))
      (try simp only [Act.put, List.setIfInBounds_toArray, List.set_cons_zero, List.set_cons_succ])
      have hc7 := (cells4 (blk_on HP6.out.mine hb7)).2.2.2
      have hf7 := blk_free (blk_on HP6.out.mine hb7) 3
      refine anyHL_last (o := { dst := none, op := Go.Op.store 23 (Go.Operand.tmp 44) (Go.Operand.tmp 43), type := 0, pos := "ref.go:46", after := #[{ on := 5, ground := Go.Ground.data }, { on := 4, ground := Go.Ground.data }, { on := 4, ground := Go.Ground.chain }, { on := 0, ground := Go.Ground.phase }, { on := 1, ground := Go.Ground.phase }, { on := 2, ground := Go.Ground.phase }, { on := 3, ground := Go.Ground.phase }, { on := 4, ground := Go.Ground.phase }], guard := none }) (by kernel_rfl) rfl (by kernel_rfl) (fun K hK => ?_)
      go_simp
      skip
      refine hK.out _ _ ?_
      clear hK K
      (try simp only [Act.put, List.setIfInBounds_toArray, List.set_cons_zero, List.set_cons_succ])
      clear hc7 hf7 g0 g1 g2 g3 hcut
      have hz := Hz.out
      have hs6 := HP6.out.size
      have hM := set_cell4d (blk_on HP6.out.mine hb7) (.slice A7 m c7)
      have hR := other_blk (i := 3) (blk_on HP6.out.res hb7) (show z + 1 ≠ z by omega) (.slice A7 m c7)
      have Ho := Lib.hid (own_store (i := 3) ho7 (show z + 1 < w6.heap.size by omega) (.slice A7 m c7))
      have Hb := Lib.hid ((below_trans HP6.out.old hb7).setCell (p := ⟨z + 1, 3, none⟩) (by simp <;> omega) (.slice A7 m c7))
      have Hcc := Lib.hid (And.intro ho7.cap ho7.capMax)
      obtain ⟨w8, ew8⟩ : ∃ w8, w7.setCell ⟨z + 1, 3, none⟩ (.slice A7 m c7) = w8 := ⟨_, rfl⟩
      rw [ew8] at hM hR Ho Hb ⊢
      obtain ⟨g0, g1, g2, g3⟩ := cells4 hM
      obtain ⟨r0, r1, r2, r3⟩ := cells4 hR
      have rf := blk_free hR
      have HS9 := Lib.hid (set4_blk hR (.int .u8 b0) (.int .u8 b1) (.int .u32 V) (.slice A7 m c7))
      have hne : ¬ z = z + 1 := by omega
      have hne2 : ¬ z + 1 = z := by omega
      have HB := Lib.hid (show z < w6.heap.size by omega)
      have Hzw := Lib.hid (show w.heap.size ≤ w6.heap.size by omega)
      clear hM hR ew8 ho7 hg7 hb7 hz hs6
      go_wp2_with fail
      obtain ⟨s0, s1, s2, s3⟩ := cells4 HS9.out
      refine bodyPost_ret (v := .tuple #[.agg #[.int .u8 b0, .int .u8 b1, .int .u32 V, .slice A7 m c7], .int .i64 0]) (by simp [results, Try.results10, go_sem, s0, s1, s2, s3]) rfl ?_
      have hzz := Hz.out
      exact ⟨A7, c7, by rw [← EV.out], Hcc.out.1, Hcc.out.2, (own_store (own_store (own_store (own_store Ho.out HB.out _) HB.out _) HB.out _) HB.out _).mono Hzw.out, ((((Hb.out.setCell (by simp <;> omega) _).setCell (by simp <;> omega) _).setCell (by simp <;> omega) _).setCell (by simp <;> omega) _)⟩
theorem rparse8_any (A : Option Addr) (n c : Nat) (b : List Int) (x : Int) (w : World) (hc : n ≤ c ∧ c ≤ maxLen) (hA : Rd w A n b) (hx : errM b = x) :
    Calls Try.prog 10 #[.slice A n c] w (fun e w' => if x = 0 then MsgGood (msgOf b) (n - 8) w e w' else MsgBad x w e w') := by
  have hl := hA.len
  by_cases h0 : x = 0
  · subst h0
    exact (rparse8_good A n c b (n - 8) w hc hA hx rfl).mono fun e w' h => by rw [if_pos rfl]; exact h
  · have key : Calls Try.prog 10 #[.slice A n c] w (MsgBad x w) := by
      unfold errM at hx
      rw [hl] at hx
      by_cases h1 : 1480 < n
      · rw [if_pos h1] at hx; subst hx; exact rparse8_long A n c w h1
      by_cases h2 : n < 8
      · rw [if_neg h1, if_pos h2] at hx; subst hx; exact rparse8_short A n c w h2
      by_cases h3 : sumL b = 65535
      · rw [if_neg h1, if_neg h2, if_pos h3] at hx; exact absurd hx.symm h0
      · rw [if_neg h1, if_neg h2, if_neg h3] at hx; subst hx; exact rparse8_sum A n c b w hA (by omega) (by omega) h3
    exact key.mono fun e w' h => by rw [if_neg h0]; exact h

/-- Something may go no further: the message of the first 68 bytes. -/
def OverIs (l : List Int) (k : Nat) (w : World) (e : Ending) (w' : World) : Prop :=
  ∃ AD cD, e = .returned (.agg #[.int .u8 11, .int .u8 0, .int .u32 0, .slice AD k cD]) ∧ k ≤ cD ∧ cD ≤ maxLen ∧ OwnB w' w.heap.size AD k cD (l.take k) ∧ Below w.heap.size w w'
structure Overs (w : World) (z : Nat) (l : List Int) (j : Nat) (Aj : Option Addr) (cj : Nat) (wr : World) : Prop where
  old : Below w.heap.size w wr
  res : wr.heap[z]? = some (.cells #[.int .u8 0, .int .u8 0, .int .u32 0, .slice none 0 0] 25 (0, 0))
  mine : wr.heap[z + 1]? = some (.cells #[.int .u8 11, .int .u8 0, .int .u32 0, .slice Aj j cj] 25 (0, 0))
  row : OwnB wr (z + 2) Aj j cj (l.take j)
  size : z + 2 ≤ wr.heap.size
theorem Overs.drew {w : World} {z : Nat} {l : List Int} {j : Nat} {Aj : Option Addr} {cj : Nat} {wr : World} (h : Overs w z l j Aj cj wr) : Overs w z l j Aj cj wr.drew := ⟨h.old.drew, h.res, h.mine, h.row.on (Below.drew (Below.refl _ _)), h.size⟩
theorem Overs.step {w : World} {z : Nat} {l : List Int} {j : Nat} {Aj : Option Addr} {cj : Nat} {wr : World} (h : Overs w z l j Aj cj wr) (hz : w.heap.size = z) {w1 : World} {A1 : Option Addr} {c1 : Nat} (ho : OwnB w1 (z + 2) A1 (j + 1) c1 (l.take (j + 1))) (hb : Below (z + 2) wr w1) :
    Overs w z l (j + 1) A1 c1 (w1.setCell ⟨z + 1, 3, none⟩ (.slice A1 (j + 1) c1)) := by
  have hm : w1.heap[z + 1]? = some (.cells #[.int .u8 11, .int .u8 0, .int .u32 0, .slice Aj j cj] 25 (0, 0)) := (hb.block _ (by omega)).trans h.mine
  have hr : w1.heap[z]? = some (.cells #[.int .u8 0, .int .u8 0, .int .u32 0, .slice none 0 0] 25 (0, 0)) := (hb.block _ (by omega)).trans h.res
  refine ⟨(h.old.trans (hb.mono (by omega))).setCell (p := ⟨z + 1, 3, none⟩) (by simp <;> omega) _, other_blk hr (by omega) _, set_cell4d hm _, own_store ho (by omega) _, ?_⟩
  have := hb.size
  have := h.size
  simp <;> omega

theorem take_snocM (l : List Int) (j : Nat) (h : j < l.length) : l.take j ++ [l.getD j 0] = l.take (j + 1) := by
  rw [List.take_add_one]
  congr 1
  simp [List.getD, List.getElem?_eq_getElem h]
theorem rover8_any (A : Option Addr) (n c : Nat) (l : List Int) (k : Nat) (w : World) (hA : Rd w A n l) (hn : n ≤ 9223372036854775807) (hk : min n 68 = k) :
    Calls Try.prog 20 #[.slice A n c] w (OverIs l k w) := by
  obtain ⟨z, hz⟩ : ∃ z, w.heap.size = z := ⟨_, rfl⟩
  have hrb : (w.alloc (.cells #[.int .u8 0, .int .u8 0, .int .u32 0, .slice none 0 0] 25)).heap[z]? = some (.cells #[.int .u8 0, .int .u8 0, .int .u32 0, .slice none 0 0] 25 (0, 0)) := by rw [← hz]; exact heap_alloc_new w _
  have hb0 : Below w.heap.size w (w.alloc (.cells #[.int .u8 0, .int .u8 0, .int .u32 0, .slice none 0 0] 25)) := (Below.refl _ _).alloc (Nat.le_refl _) _
  obtain ⟨w0, hw0⟩ : ∃ w0, w.alloc (.cells #[.int .u8 0, .int .u8 0, .int .u32 0, .slice none 0 0] 25) = w0 := ⟨_, rfl⟩
  have hs0 : w0.heap.size = z + 1 := by rw [← hw0, ← hz]; simp
  rw [hw0] at hrb hb0
  have Hz := Lib.hid hz
  have Hw := Lib.hid hw0
  have hk1 := heap_alloc_new w0 (.cells #[.int .u8 11, .int .u8 0, .int .u32 0, .slice none 0 0] 25)
  rw [hs0] at hk1
  have hO : Overs w z l 0 none 0 (w0.alloc (.cells #[.int .u8 11, .int .u8 0, .int .u32 0, .slice none 0 0] 25)) :=
    ⟨hb0.alloc hb0.size _, by rw [Below.heap_alloc _ _ _ (by omega)]; exact hrb, hk1, OwnB.nil _ _, by simp [hs0]⟩
  have HO := Lib.hid hO
  have HA := Lib.hid hA
  have hk2 : k ≤ n ∧ k ≤ 68 ∧ (k = n ∨ k = 68) := by omega
  have Hk := Lib.hid hk2
  have Hs0 := Lib.hid hs0
  clear hk2 hk hrb hb0 hw0 hk1 hO hA hs0
  go_enter Try.func20, Try.ntmps20
  go_upto_region 1 with (fail)
  rw [Hw.out]
  go_upto_region 2 with (fail)
  try simp only [Hs0.out]
  obtain ⟨w2, ew2⟩ : ∃ w2, w0.alloc (.cells #[.int .u8 11, .int .u8 0, .int .u32 0, .slice none 0 0] 25) = w2 := ⟨_, rfl⟩
  rw [ew2] at HO ⊢
  clear ew2
  go_wp2_with fail
  go_loopg [4] k (fun gk i wr => ∃ (j : Nat) (Aj : Option Addr) (cj : Nat), Hid (gk + j = k) ∧ j ≤ k ∧ i = .int .i64 (j : Int) ∧ Hid (Overs w z l j Aj cj wr))
  case atStart => exact ⟨0, none, 0, rfl, by omega, rfl, HO⟩
  case round =>
    obtain ⟨j, Aj, cj, hgk, hj, rfl, ho⟩ := hrel
    by_cases hjk : j < k
    · have hjn : j < n := by have := Hk.out; omega
      have hji : (j : Int) < (n : Int) := by omega
      have hj68 : (j : Int) < 68 := by have := Hk.out; omega
      obtain ⟨w6, ew6⟩ : ∃ w6, wr.drew = w6 := ⟨_, rfl⟩
      have ho6 := ho.out.drew
      rw [ew6] at ho6
      have HO6 := Lib.hid ho6
      obtain ⟨p, hrun, hcell, hpb⟩ := HA.out.index (c := c) hjn
      have hsn := take_snocM l j (by rw [HA.out.len]; exact hjn)
      have hyb : 0 ≤ l.getD j 0 ∧ l.getD j 0 < 256 := HA.out.byte _ (by simp only [List.getD, List.getElem?_eq_getElem (show j < l.length by rw [HA.out.len]; exact hjn), Option.getD_some]; exact List.getElem_mem _)
      obtain ⟨y, ey⟩ : ∃ y, l.getD j 0 = y := ⟨_, rfl⟩
      rw [ey] at hcell hsn hyb
      have Hsn := Lib.hid hsn
      have Hyb := Lib.hid hyb
      have Ew6 := Lib.hid ew6
      have HS := Lib.hid (show ∀ w', Below (z + 2) w6 w' → w'.cell? ⟨z + 1, 3, none⟩ = some (.slice Aj j cj) ∧ w'.cell? p = some (.int .u8 y) from fun w' hb =>
        ⟨(cells4 ((hb.block _ (by omega)).trans HO6.out.mine)).2.2.2, ((HO6.out.old.trans (hb.mono (by have := Hz.out; omega))).cell hpb).trans hcell⟩)
      obtain ⟨q0, q1, q2, q3⟩ := cells4 ho.out.mine
      have HbA := Lib.hid ((Below.refl (z + 2) w6).alloc HO6.out.size (.cells #[.int .u8 y] 5))
      have Hcon := Lib.hid (Rd.const_ w6 w6.heap.size rfl [y] 5 (0, 0) (fun x hx => by simp at hx; rw [hx]; exact Hyb.out))
      have HoA := Lib.hid (HO6.out.row.alloc (.cells #[.int .u8 y] 5))
      have hj1 : j + 1 ≤ 140737488355328 := by have := Hk.out; omega
      have Hsz := Lib.hid (show z + 2 ≤ (w6.alloc (.cells #[.int .u8 y] 5)).heap.size from Nat.le_trans HO6.out.size HbA.out.size)
      clear ho6 ho hcell hpb hsn hyb ey ew6
      go_wp2_with fail
      refine wp_region_heldL (S := fun w' => w'.cell? ⟨z + 1, 3, none⟩ = some (.slice Aj j cj) ∧ w'.cell? p = some (.int .u8 y)) 9 (by kernel_rfl) (by rw [Ew6.out]; exact HS.out _ (Below.refl _ _)) (fun hHeld => ?_)
      rw [Ew6.out] at hHeld ⊢
      refine anyHL_take (i := 0) (oi := { dst := some 16, op := Go.Op.fieldAddr 25 (Go.Operand.tmp 3) 3, type := 0, pos := "ref.go:94", after := #[], guard := none }) (v := ?_) rfl (by kernel_rfl) (by kernel_rfl) (by kernel_rfl) (by kernel_rfl) (fun _ _ _ h => h) (Or.inl ⟨by rfl, ?_⟩) (by assumption) ?_
      rotate_left 1
      · intro w' hSw; (go_simp <;> (with_reducible rfl))
      (try simp only [Act.put, List.setIfInBounds_toArray, List.set_cons_zero, List.set_cons_succ])
      refine anyHL_take (i := 1) (oi := { dst := some 17, op := Go.Op.load 23 (Go.Operand.tmp 16), type := 23, pos := "ref.go:94", after := #[{ on := 0, ground := Go.Ground.data }], guard := none }) (v := ?_) rfl (by kernel_rfl) (by kernel_rfl) (by kernel_rfl) (by kernel_rfl) (fun _ _ _ h => h) (Or.inl ⟨by rfl, ?_⟩) (by assumption) ?_
      rotate_left 1
      · intro w' hSw; (go_simp <;> (with_reducible rfl))
      (try simp only [Act.put, List.setIfInBounds_toArray, List.set_cons_zero, List.set_cons_succ])
      refine anyHL_take (i := 2) (oi := { dst := some 18, op := Go.Op.move (Go.Operand.tmp 0), type := 23, pos := "ref.go:94", after := #[], guard := none }) (v := ?_) rfl (by kernel_rfl) (by kernel_rfl) (by kernel_rfl) (by kernel_rfl) (fun _ _ _ h => h) (Or.inl ⟨by rfl, ?_⟩) (by assumption) ?_
      rotate_left 1
      · intro w' hSw; (go_simp <;> (with_reducible rfl))
      (try simp only [Act.put, List.setIfInBounds_toArray, List.set_cons_zero, List.set_cons_succ])
      refine anyHL_take (i := 3) (oi := { dst := some 19, op := Go.Op.move (Go.Operand.tmp 4), type := 3, pos := "ref.go:94", after := #[], guard := none }) (v := ?_) rfl (by kernel_rfl) (by kernel_rfl) (by kernel_rfl) (by kernel_rfl) (fun _ _ _ h => h) (Or.inl ⟨by rfl, ?_⟩) (by assumption) ?_
      rotate_left 1
      · intro w' hSw; (go_simp <;> (with_reducible rfl))
      (try simp only [Act.put, List.setIfInBounds_toArray, List.set_cons_zero, List.set_cons_succ])
      refine anyHL_take (i := 4) (oi := { dst := some 20, op := Go.Op.indexAddr 23 (Go.Operand.tmp 18) (Go.Operand.tmp 19), type := 0, pos := "ref.go:94", after := #[{ on := 2, ground := Go.Ground.data }, { on := 3, ground := Go.Ground.data }], guard := none }) (v := ?_) rfl (by kernel_rfl) (by kernel_rfl) (by kernel_rfl) (by kernel_rfl) (fun _ _ _ h => h) (Or.inl ⟨by rfl, ?_⟩) (by assumption) ?_
      rotate_left 1
      · intro w' hSw; (go_simp <;> (with_reducible rfl))
      (try simp only [Act.put, List.setIfInBounds_toArray, List.set_cons_zero, List.set_cons_succ])
      refine anyHL_take (i := 5) (oi := { dst := some 21, op := Go.Op.load 5 (Go.Operand.tmp 20), type := 5, pos := "ref.go:94", after := #[{ on := 4, ground := Go.Ground.data }], guard := none }) (v := ?_) rfl (by kernel_rfl) (by kernel_rfl) (by kernel_rfl) (by kernel_rfl) (fun _ _ _ h => h) (Or.inl ⟨by rfl, ?_⟩) (by assumption) ?_
      rotate_left 1
      · intro w' hSw; (go_simp <;> (with_reducible rfl))
      (try simp only [Act.put, List.setIfInBounds_toArray, List.set_cons_zero, List.set_cons_succ])
      refine anyHL_one (i := 6) (o := { dst := some 22, op := Go.Op.buildSlice 23 1 #[(0, Go.Operand.tmp 21)], type := 23, pos := "ref.go:94", after := #[{ on := 5, ground := Go.Ground.data }], guard := none }) (by kernel_rfl) rfl (by kernel_rfl) (fun K hK => ?_)
      go_simp
      skip
      refine hK.out _ _ ?_ (fun hHeld => ?_)
      · exact HS.out _ HbA.out
      clear hK K
      (try simp only [Act.put, List.setIfInBounds_toArray, List.set_cons_zero, List.set_cons_succ])
      refine anyHL_one (i := 7) (o := { dst := some 23, op := Go.Op.call { callee := Go.Callee.builtin Go.Builtin.append, args := #[Go.Operand.tmp 17, Go.Operand.tmp 22], argTypes := #[23, 23] }, type := 23, pos := "ref.go:94", after := #[{ on := 1, ground := Go.Ground.data }, { on := 6, ground := Go.Ground.data }], guard := none }) (by kernel_rfl) rfl (by kernel_rfl) (fun K hK => ?_)
      (refine step_app (by rfl) (.tmp 17) (.tmp 22) (by rfl) (z + 2) Aj (some ⟨w6.heap.size, 0, none⟩) j cj 1 1 (l.take j) [y] (j + 1) (l.take (j + 1)) rfl Hsn.out (by rfl) (by rfl) HoA.out Hcon.out hj1 Hsz.out ?_; intro A7 c7 w7 ho7 hg7 hb7; have HB7 := Lib.hid (HbA.out.trans hb7))
      refine hK.out _ _ ?_ (fun hHeld => ?_)
      · exact HS.out _ HB7.out
      clear hK K
      (try simp only [Act.put, List.setIfInBounds_toArray, List.set_cons_zero, List.set_cons_succ])
      refine anyHL_take (i := 8) (oi := { dst := some 24, op := Go.Op.fieldAddr 25 (Go.Operand.tmp 3) 3, type := 0, pos := "ref.go:94", after := #[{ on := 0, ground := Go.Ground.phase }, { on := 1, ground := Go.Ground.phase }, { on := 2, ground := Go.Ground.phase }, { on := 3, ground := Go.Ground.phase }, { on := 4, ground := Go.Ground.phase }, { on := 5, ground := Go.Ground.phase }, { on := 6, ground := Go.Ground.phase }, { on := 7, ground := Go.Ground.phase }], guard := none }) (v := ?_) rfl (by kernel_rfl) (by kernel_rfl) (by kernel_rfl) (by kernel_rfl) (fun _ _ _ h => h) (Or.inl ⟨by rfl, ?_⟩) (by assumption) ?_
      rotate_left 1
      · intro w' hSw; (go_simp <;> (with_reducible rfl))
      (try simp only [Act.put, List.setIfInBounds_toArray, List.set_cons_zero, List.set_cons_succ])
      have hc7 := (HS.out _ HB7.out).1
      have hf7 := blk_free ((HB7.out.block _ (by omega)).trans HO6.out.mine) 3
      refine anyHL_last (o := { dst := none, op := Go.Op.store 23 (Go.Operand.tmp 24) (Go.Operand.tmp 23), type := 0, pos := "ref.go:94", after := #[{ on := 8, ground := Go.Ground.data }, { on := 7, ground := Go.Ground.data }, { on := 7, ground := Go.Ground.chain }, { on := 0, ground := Go.Ground.phase }, { on := 1, ground := Go.Ground.phase }, { on := 2, ground := Go.Ground.phase }, { on := 3, ground := Go.Ground.phase }, { on := 4, ground := Go.Ground.phase }, { on := 5, ground := Go.Ground.phase }, { on := 6, ground := Go.Ground.phase }, { on := 7, ground := Go.Ground.phase }], guard := none }) (by kernel_rfl) rfl (by kernel_rfl) (fun K hK => ?_)
      go_simp
      skip
      refine hK.out _ _ ?_
      clear hK K
      (try simp only [Act.put, List.setIfInBounds_toArray, List.set_cons_zero, List.set_cons_succ])
      have HO7 := Lib.hid (HO6.out.step Hz.out ho7 HB7.out)
      clear hc7 hf7 ho7 hg7 hb7
      go_wp2_with fail
      go_roundg (gk - 1)
      case measure => have := hgk.out; omega
      case rel => exact ⟨j + 1, A7, c7, by have := hgk.out; show gk - 1 + (j + 1) = _; omega, by omega, by go_num, HO7⟩
    · obtain rfl : j = k := by omega
      obtain ⟨q0, q1, q2, q3⟩ := cells4 ho.out.mine
      obtain ⟨r0, r1, r2, r3⟩ := cells4 ho.out.res
      have rf := blk_free ho.out.res
      have HS9 := Lib.hid (set4_blk ho.out.res (.int .u8 11) (.int .u8 0) (.int .u32 0) (.slice Aj j cj))
      have hne : ¬ z = z + 1 := by omega
      have hne2 : ¬ z + 1 = z := by omega
      have Hb := Lib.hid ho.out.old
      have Hrow := Lib.hid ho.out.row
      by_cases hjn : (j : Int) < (n : Int)
      · have h68 : ¬ (j : Int) < 68 := by have := Hk.out; omega
        clear ho hgk
        go_wp2_with fail
        obtain ⟨s0, s1, s2, s3⟩ := cells4 HS9.out
        refine bodyPost_ret (v := .agg #[.int .u8 11, .int .u8 0, .int .u32 0, .slice Aj j cj]) (by simp [results, Try.results20, go_sem, s0, s1, s2, s3]) rfl ?_
        have hzz := Hz.out
        exact ⟨Aj, cj, rfl, Hrow.out.cap, Hrow.out.capMax, (own_store (own_store (own_store (own_store Hrow.out (by omega) _) (by omega) _) (by omega) _) (by omega) _).mono (by omega), ((((Hb.out.setCell (by simp <;> omega) _).setCell (by simp <;> omega) _).setCell (by simp <;> omega) _).setCell (by simp <;> omega) _)⟩
      · clear ho hgk
        go_wp2_with fail
        obtain ⟨s0, s1, s2, s3⟩ := cells4 HS9.out
        refine bodyPost_ret (v := .agg #[.int .u8 11, .int .u8 0, .int .u32 0, .slice Aj j cj]) (by simp [results, Try.results20, go_sem, s0, s1, s2, s3]) rfl ?_
        have hzz := Hz.out
        exact ⟨Aj, cj, rfl, Hrow.out.cap, Hrow.out.capMax, (own_store (own_store (own_store (own_store Hrow.out (by omega) _) (by omega) _) (by omega) _) (by omega) _).mono (by omega), ((((Hb.out.setCell (by simp <;> omega) _).setCell (by simp <;> omega) _).setCell (by simp <;> omega) _).setCell (by simp <;> omega) _)⟩
end Go.Proofs.Ytcdflpfgjodeaaa
