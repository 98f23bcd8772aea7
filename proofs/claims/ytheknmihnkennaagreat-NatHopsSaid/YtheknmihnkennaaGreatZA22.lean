/-
  Texts laid together: IcmpParse, IcmpBoth, Payload.
-/
import Derived.Test.YtheknmihnkennaaGreatZA21
import Derived.Test.YtheknmihnkennaaGreatZA11
import Derived.Test.YtheknmihnkennaaGreatZA03
import Derived.Deep.CutRange
import Derived.Test.YtheknmihnkennaaGreatZA19
import Derived.Test.YtheknmihnkennaaGreatZA20

/-
  The contract of package icmp's Parse, and of the closure in it: what is wrong is told in the document's own order; else the message, its data in a row of the call's own.
-/
namespace Go.Proofs.YtheknmihnkennaaGreat
set_option maxRecDepth 10000
open Go.RowKit
set_option linter.unusedSimpArgs false
set_option linter.unusedVariables false

def zeroMC : Array Value := #[.int .u8 0, .int .u8 0, .int .u32 0, .slice none 0 0]
/-- What Parse's closure leaves. -/
def MsgR (q : Nat) (b : List Int) (w1 : World) (x : Int) (w' : World) : Prop :=
  x = errM b ∧ ((x ≠ 0 ∧ w'.heap[q]? = some (.cells zeroMC 33 (0, 0))) ∨
    (x = 0 ∧ ∃ AD cD, w'.heap[q]? = some (.cells #[.int .u8 (msgOf b).ty, .int .u8 (msgOf b).cd, .int .u32 (msgOf b).rs, .slice AD (b.length - 8) cD] 33 (0, 0)) ∧ OwnB w' w1.heap.size AD (b.length - 8) cD (b.drop 8)))
theorem set4_but (w : World) (q : Nat) (v0 v1 v2 v3 : Value) : But (fun k => k = q) w ((((w.setCell ⟨q, 0, none⟩ v0).setCell ⟨q, 1, none⟩ v1).setCell ⟨q, 2, none⟩ v2).setCell ⟨q, 3, none⟩ v3) :=
  ((((But.refl (fun k => k = q) w).setCell (p := ⟨q, 0, none⟩) rfl _).setCell (p := ⟨q, 1, none⟩) rfl _).setCell (p := ⟨q, 2, none⟩) rfl _).setCell (p := ⟨q, 3, none⟩) rfl _

theorem parse81_short (B g p3 q n : Nat) (l : List Int) (w : World) (hB : q < B) (hl : n < 8) (hlen : l.length = n)
    (hq : w.heap[q]? = some (.cells zeroMC 33 (0, 0))) (h : Rdr w B g l 0) :
    Calls Tryz.prog 82 #[.pointer (some ⟨g, 0, none⟩), .pointer (some ⟨p3, 0, none⟩), .pointer (some ⟨q, 0, none⟩)] w
      (Did (fun k => k = q) g (MsgR q l w) w) := by
  have hg : B ≤ g := h.choose_spec.choose_spec.choose_spec.2.2.2.1.1
  have Hend := Lib.hid (show ∀ w', Gave w' g 4 → But (fun k => k = g) w w' → Did (fun k => k = q) g (MsgR q l w) w (.panicked (gaveUp g)) w' from fun w' ⟨A', n', c', a', hg1⟩ hb =>
    ⟨4, A', n', c', a', .inr rfl, hg1, hb.mono (fun _ _ hk => .inr hk), by unfold errM; rw [if_neg (by omega), if_pos (by omega)], .inl ⟨by decide, hb.blk hq (by omega)⟩⟩)
  have Hr := Lib.hid h
  have Hl := Lib.hid hl
  have Hlen := Lib.hid hlen
  have Hb := Lib.hid (But.refl (fun k => k = g) w)
  clear h hq hlen hl
  go_enter Tryz.func82, Tryz.ntmps82
  go_wp2_with fail
  rcases l with _ | ⟨b0, l⟩
  · refine (u8_short B g ([]) _ _ (by simp) Hr.out).mono ?_
    rintro e w' ⟨rfl, hg1, hb⟩
    exact ⟨rfl, Hend.out w' hg1 (Hb.out.trans hb)⟩
  refine (u8_told B g b0 l _ _ Hr.out).mono ?_
  rintro e w1 ⟨rfl, hR, hb⟩
  have Hr := Lib.hid hR
  have Hb := Lib.hid (Hb.out.trans hb)
  clear hR hb
  go_wp2_with fail
  rcases l with _ | ⟨b1, l⟩
  · refine (u8_short B g ([]) _ _ (by simp) Hr.out).mono ?_
    rintro e w' ⟨rfl, hg1, hb⟩
    exact ⟨rfl, Hend.out w' hg1 (Hb.out.trans hb)⟩
  refine (u8_told B g b1 l _ _ Hr.out).mono ?_
  rintro e w1 ⟨rfl, hR, hb⟩
  have Hr := Lib.hid hR
  have Hb := Lib.hid (Hb.out.trans hb)
  clear hR hb
  go_wp2_with fail
  rcases l with _ | ⟨b2, l⟩
  · refine (u16_short B g ([]) _ _ (by simp) Hr.out).mono ?_
    rintro e w' ⟨rfl, hg1, hb⟩
    exact ⟨rfl, Hend.out w' hg1 (Hb.out.trans hb)⟩
  rcases l with _ | ⟨b3, l⟩
  · refine (u16_short B g ([b2]) _ _ (by simp) Hr.out).mono ?_
    rintro e w' ⟨rfl, hg1, hb⟩
    exact ⟨rfl, Hend.out w' hg1 (Hb.out.trans hb)⟩
  refine (u16_told B g b2 b3 l _ _ Hr.out).mono ?_
  rintro e w1 ⟨rfl, hR, hb⟩
  have Hr := Lib.hid hR
  have Hb := Lib.hid (Hb.out.trans hb)
  clear hR hb
  go_wp2_with fail
  have h8 := Hlen.out
  have hl8 := Hl.out
  refine (u32_short B g l _ _ (by simp at h8; omega) Hr.out).mono ?_
  rintro e w' ⟨rfl, hg1, hb⟩
  exact ⟨rfl, Hend.out w' hg1 (Hb.out.trans hb)⟩

set_option maxHeartbeats 1000000 in
theorem parse81_ok (B g p3 q n c : Nat) (A : Option Addr) (b0 b1 b2 b3 b4 b5 b6 b7 : Int) (l : List Int) (w : World) (hB : p3 < B ∧ q < B ∧ p3 ≠ q) (hl : n ≤ 1480) (b : List Int) (eb : b = b0 :: b1 :: b2 :: b3 :: b4 :: b5 :: b6 :: b7 :: l) (hlen : b.length = n) (hc : n ≤ c ∧ c ≤ maxLen) (hAB : ∀ x o, A = some ⟨x, o, none⟩ → x < B) (hA : Rd w A n b)
    (hp3 : Box w p3 22 (.slice A n c)) (hq : w.heap[q]? = some (.cells zeroMC 33 (0, 0))) (h : Rdr w B g b 0) :
    Calls Tryz.prog 82 #[.pointer (some ⟨g, 0, none⟩), .pointer (some ⟨p3, 0, none⟩), .pointer (some ⟨q, 0, none⟩)] w
      (Did (fun k => k = q) g (MsgR q b w) w) := by
  have hg : B ≤ g := h.choose_spec.choose_spec.choose_spec.2.2.2.1.1
  have hgw : g < w.heap.size := lt_of_block h.choose_spec.choose_spec.choose_spec.2.2.2.2.2.1
  have hn8 : 8 ≤ n := by rw [← hlen, eb]; simp
  have hbyte := hA.byte
  have Hend := Lib.hid (show ∀ x w', x ≠ 0 → errM b = x → Gave w' g x → But (fun k => k = g) w w' → Did (fun k => k = q) g (MsgR q b w) w (.panicked (gaveUp g)) w' from fun x w' h0 hx ⟨A', n', c', a', hg1⟩ hb =>
    ⟨x, A', n', c', a', .inr rfl, hg1, hb.mono (fun _ _ hk => .inr hk), hx.symm, .inl ⟨h0, hb.blk hq (by omega)⟩⟩)
  have Hof := Lib.hid (show msgOf b = ⟨b0, b1, ((b4 * 256 + b5) * 256 + b6) * 256 + b7, l⟩ by rw [eb]; rfl)
  have Hr := Lib.hid (show Rdr w B g (b0 :: b1 :: b2 :: b3 :: b4 :: b5 :: b6 :: b7 :: l) 0 by rw [← eb]; exact h)
  have Hp3 := Lib.hid hp3
  have Hq := Lib.hid hq
  have HA := Lib.hid hA
  have Hlen := Lib.hid hlen
  have Hll := Lib.hid (show l.length = n - 8 by rw [← hlen, eb]; simp)
  have Heb := Lib.hid (show b.drop 8 = l by rw [eb]; rfl)
  have Hb := Lib.hid (But.refl (fun k => k = g) w)
  clear h hp3 hq hA hlen hbyte eb
  go_enter Tryz.func82, Tryz.ntmps82
  go_wp2_with fail
  refine (u8_told B g b0 (b1 :: b2 :: b3 :: b4 :: b5 :: b6 :: b7 :: l) _ _ Hr.out).mono ?_
  rintro e w1 ⟨rfl, hR, hb⟩
  have Hr := Lib.hid hR
  have Hb := Lib.hid (Hb.out.trans hb)
  clear hR hb
  go_wp2_with fail
  refine (u8_told B g b1 (b2 :: b3 :: b4 :: b5 :: b6 :: b7 :: l) _ _ Hr.out).mono ?_
  rintro e w1 ⟨rfl, hR, hb⟩
  have Hr := Lib.hid hR
  have Hb := Lib.hid (Hb.out.trans hb)
  clear hR hb
  go_wp2_with fail
  refine (u16_told B g b2 b3 (b4 :: b5 :: b6 :: b7 :: l) _ _ Hr.out).mono ?_
  rintro e w1 ⟨rfl, hR, hb⟩
  have Hr := Lib.hid hR
  have Hb := Lib.hid (Hb.out.trans hb)
  clear hR hb
  go_wp2_with fail
  refine (u32_told B g b4 b5 b6 b7 l _ _ Hr.out).mono ?_
  rintro e w1 ⟨rfl, hR, hb⟩
  have Hr := Lib.hid hR
  have Hb := Lib.hid (Hb.out.trans hb)
  clear hR hb
  have hc3 := (Hp3.out.but Hb.out (by omega)).cell
  have hAw := HA.out.but Hb.out (fun x o e _ => by have := hAB x o e; omega)
  obtain ⟨V, eV⟩ : ∃ V, ((b4 * 256 + b5) * 256 + b6) * 256 + b7 = V := ⟨_, rfl⟩
  rw [eV] at Hof
  try rw [eV]
  clear eV
  obtain ⟨y, ey⟩ : ∃ y, sumL b = y := ⟨_, rfl⟩
  have Hrt := Lib.hid (right_told (some ⟨w1.heap.size, 0, none⟩) 1 1 [b] _ (y == 65535) (by omega) (RdL.one w1 _ rfl 22 (0, 0) A n c b hAw hc.1 hc.2) (by simp [ey]))
  have Ey := Lib.hid ey
  clear ey hAw
  go_wp2_with fail
  refine Hrt.out.mono ?_
  rintro e w2 ⟨rfl, hb2⟩
  have hb2 := on_alloc hb2
  have Hr := Lib.hid (Hr.out.below hb2)
  have Hb := Lib.hid (Hb.out.trans (But.of hb2))
  clear hb2 hc3 Hrt
  by_cases h7 : y = 65535
  case neg =>
    have h7b : (y == 65535) = false := by simpa using h7
    have He := Lib.hid (show errM b = 20 by unfold errM; rw [if_neg (by have := Hlen.out; omega), if_neg (by have := Hlen.out; omega), if_neg (by rw [Ey.out]; exact h7)])
    clear h7
    go_wp2_with fail
    refine (fail_any B g 20 _ _ _ (by decide) Hr.out).mono ?_
    rintro e w3 ⟨rfl, hg2, hb3⟩
    exact ⟨rfl, Hend.out 20 _ (by decide) He.out hg2 (Hb.out.trans hb3)⟩
  have h7b : (y == 65535) = true := by simpa using h7
  have Herr := Lib.hid (show errM b = 0 by unfold errM; rw [if_neg (by have := Hlen.out; omega), if_neg (by have := Hlen.out; omega), if_pos (by rw [Ey.out]; exact h7)])
  clear h7
  go_wp2_with fail
  refine (rest_is B g (n - 8) l _ _ Hll.out (by omega) Hr.out).mono ?_
  rintro e w3 ⟨A8, c8, rfl, k8, m8, ho8, hr8, hb8⟩
  have hqb := (Hb.out.trans hb8).blk Hq.out (by omega)
  have hB3 := Hb.out.trans hb8
  unfold zeroMC at hqb
  obtain ⟨q0, q1, q2, q3⟩ := cells4 hqb
  have qf := blk_free hqb
  have hb9 := set4_but w3 q (.int .u8 b0) (.int .u8 b1) (.int .u32 V) (.slice A8 (n - 8) c8)
  have hs9 := set4_blk hqb (.int .u8 b0) (.int .u8 b1) (.int .u32 V) (.slice A8 (n - 8) c8)
  have hfin : Did (fun k => k = q) g (MsgR q b w) w (.returned (.tuple #[])) ((((w3.setCell ⟨q, 0, none⟩ (.int .u8 b0)).setCell ⟨q, 1, none⟩ (.int .u8 b1)).setCell ⟨q, 2, none⟩ (.int .u32 V)).setCell ⟨q, 3, none⟩ (.slice A8 (n - 8) c8)) := by
    have hr9 := hr8.but hb9 (fun k e => by rw [e]; omega)
    obtain ⟨A7, n7, c7, _, _, _, _, _, hg7, _⟩ := hr9
    refine ⟨0, A7, n7, c7, _, .inl ⟨rfl, rfl⟩, hg7, (hB3.mono (fun _ _ h => .inr h)).trans (hb9.mono (fun _ _ h => .inl h)), Herr.out.symm, .inr ⟨rfl, A8, c8, ?_, ?_⟩⟩
    · rw [Hof.out, Hlen.out]
      exact hs9
    · rw [Hlen.out, Heb.out]
      exact (ho8.mono Hb.out.size).but hb9 (fun k hk e => by omega)
  have HF := Lib.hid hfin
  clear hqb hB3 hb9 hs9 hfin ho8 hr8 hb8
  go_wp2_with fail
  go_end0
  exact HF.out
theorem parse81_any (B g p3 q n c : Nat) (A : Option Addr) (w : World) (hB : p3 < B ∧ q < B ∧ p3 ≠ q) (hl : n ≤ 1480) (b : List Int) (hc : n ≤ c ∧ c ≤ maxLen) (hAB : 0 < n → ∀ x o, A = some ⟨x, o, none⟩ → x < B) (hA : Rd w A n b)
    (hp3 : Box w p3 22 (.slice A n c)) (hq : w.heap[q]? = some (.cells zeroMC 33 (0, 0))) (h : Rdr w B g b 0) :
    Calls Tryz.prog 82 #[.pointer (some ⟨g, 0, none⟩), .pointer (some ⟨p3, 0, none⟩), .pointer (some ⟨q, 0, none⟩)] w
      (Did (fun k => k = q) g (MsgR q b w) w) := by
  have hlen := hA.len
  by_cases h2 : n < 8
  · exact parse81_short B g p3 q n b w hB.2.1 h2 hlen hq h
  · obtain ⟨b0, b1, b2, b3, b4, b5, b6, b7, l, eb⟩ := eightM b (by omega)
    exact parse81_ok B g p3 q n c A b0 b1 b2 b3 b4 b5 b6 b7 l w hB hl b eb hlen hc (hAB (by omega)) hA hp3 hq h

theorem parse8_long (A : Option Addr) (n c : Nat) (w : World) (h1 : 1480 < n) :
    Calls Tryz.prog 45 #[.slice A n c] w (MsgBad 3 w) := by
  have hal : Below w.heap.size w w := Below.refl _ _
  have i1 : 1480 < (n : Int) := by omega
  clear h1
  obtain ⟨z, hz⟩ : ∃ z, w.heap.size = z := ⟨_, rfl⟩
  go_enter Tryz.func45, Tryz.ntmps45
  go_upto_region 2 with (fail)
  obtain ⟨w0, hw0⟩ : ∃ w0, w0 = (w.alloc (.cells #[.slice A n c] 22)).alloc (.cells #[.int .u8 0, .int .u8 0, .int .u32 0, .slice none 0 0] 33) := ⟨_, rfl⟩
  rw [← hw0]
  have hb0 : Below w.heap.size w w0 := by rw [hw0]; exact (hal.alloc (Nat.le_refl _) _).alloc (by simp) _
  have hrb : w0.heap[z + 1]? = some (.cells #[.int .u8 0, .int .u8 0, .int .u32 0, .slice none 0 0] 33 (0, 0)) := by
    rw [hw0, ← hz]
    have := heap_alloc_new (w.alloc (.cells #[.slice A n c] 22)) (.cells #[.int .u8 0, .int .u8 0, .int .u32 0, .slice none 0 0] 33)
    simpa using this
  have HB := Lib.hid hb0
  have HS9 := Lib.hid (set4_blk hrb)
  obtain ⟨r0, r1, r2, r3⟩ := cells4 hrb
  have rf := blk_free hrb
  have Hz := Lib.hid hz
  clear hrb hw0 hb0 hal hz
  go_wp2_with fail
  have hz := Hz.out
  obtain ⟨s0, s1, s2, s3⟩ := cells4 (HS9.out (.int .u8 0) (.int .u8 0) (.int .u32 0) (.slice none 0 0))
  refine bodyPost_ret (v := .tuple #[.agg #[.int .u8 0, .int .u8 0, .int .u32 0, .slice none 0 0], .int .i64 3]) (by simp [results, Tryz.results45, go_sem, s0, s1, s2, s3]) rfl ⟨rfl, ?_⟩
  exact ((((HB.out.setCell (by simp <;> omega) _).setCell (by simp <;> omega) _).setCell (by simp <;> omega) _).setCell (by simp <;> omega) _)

theorem parse8_bad (A : Option Addr) (n c : Nat) (b : List Int) (x : Int) (w : World) (hc : n ≤ c ∧ c ≤ maxLen) (hn : n ≤ 1480) (hA : Rd w A n b) (hx : errM b = x) (h0 : x ≠ 0) :
    Calls Tryz.prog 45 #[.slice A n c] w (MsgBad x w) := by
  have hmf : ∀ (fn : Fn) (first cap : Array Value) (w : World), (Instr.makeFunc fn first cap).run Tryz.prog w = .ok (.func fn first cap) w := fun _ _ _ _ => rfl
  have hal : Below w.heap.size w w := Below.refl _ _
  have HA := Lib.hid hA
  have Hx := Lib.hid hx
  have hni : ¬ (1480 : Int) < (n : Int) := by omega
  clear hA hx
  obtain ⟨z, hz⟩ : ∃ z, w.heap.size = z := ⟨_, rfl⟩
  go_enter Tryz.func45, Tryz.ntmps45
  go_wp2_with fail
  obtain ⟨w0, hw0⟩ : ∃ w0, w0 = ((w.alloc (.cells #[.slice A n c] 22)).alloc (.cells #[.int .u8 0, .int .u8 0, .int .u32 0, .slice none 0 0] 33)).alloc (.cells #[.int .u8 0, .int .u8 0, .int .u32 0, .slice none 0 0] 33) := ⟨_, rfl⟩
  rw [← hw0]
  have hsz : w0.heap.size = z + 3 := by rw [hw0, ← hz]; simp
  have hb0 : Below w.heap.size w w0 := by rw [hw0]; exact ((hal.alloc (Nat.le_refl _) _).alloc (by simp) _).alloc (by simp <;> omega) _
  have h3 : Box w0 z 22 (.slice A n c) := by rw [hw0, ← hz]; exact ((Box.new w _ _).alloc _).alloc _
  have h4 : w0.heap[z + 1]? = some (.cells zeroMC 33 (0, 0)) := by
    rw [hw0, ← hz]
    have := heap_alloc_new (w.alloc (.cells #[.slice A n c] 22)) (.cells #[.int .u8 0, .int .u8 0, .int .u32 0, .slice none 0 0] 33)
    rw [Below.heap_alloc _ _ _ (by simp)]
    simpa [zeroMC] using this
  have h5 : w0.heap[z + 2]? = some (.cells zeroMC 33 (0, 0)) := by
    rw [hw0, ← hz]
    have := heap_alloc_new ((w.alloc (.cells #[.slice A n c] 22)).alloc (.cells #[.int .u8 0, .int .u8 0, .int .u32 0, .slice none 0 0] 33)) (.cells #[.int .u8 0, .int .u8 0, .int .u32 0, .slice none 0 0] 33)
    simpa [zeroMC] using this
  have hr0 := HA.out.below hb0
  clear hw0
  have hdo := fun w1 g (hb : Below w0.heap.size w0 w1) (_ : w0.heap.size ≤ g) (_ : g < w1.heap.size) (hR : Rdr w1 w0.heap.size g b 0) =>
    parse81_any w0.heap.size g z (z + 2) n c A w1 (by omega) hn b hc (fun h x o e => by
      obtain ⟨x', o', e', hlt, _⟩ := hr0.at_ h
      rw [e] at e'; injection e' with e'; injection e' with e'; subst e'; exact hlt) (hr0.below hb) (h3.below hb (by omega)) ((hb.block _ (by omega)).trans h5) hR
  have hread := read_any (fun k => k = z + 2) _ n c #[.pointer (some ⟨z, 0, none⟩), .pointer (some ⟨z + 2, 0, none⟩)] _ (fun _ => rfl) A b (MsgR (z + 2) b) w0 (fun k hk => by omega) (by omega) hr0 (enter_of Tryz.func82 (by kernel_rfl) rfl) hdo
  have Hb0 := Lib.hid hb0
  have Hc3 := h3.cell
  have H4 := Lib.hid h4
  have Hsz := Lib.hid hsz
  have Hz := Lib.hid hz
  clear hb0 h3 h4 h5 hr0 hdo hal hsz hz
  refine hread.mono ?_
  clear hread
  rintro e w5 ⟨x', w1, w4, rfl, hb1, ⟨hxe, hR⟩, hb4, hb5⟩
  rw [Hx.out] at hxe
  subst hxe
  rcases hR with ⟨_, hq⟩ | ⟨h, _⟩
  rotate_left 1
  · exact absurd h h0
  have hsz := Hsz.out
  have hz := Hz.out
  have hqb := hb4.blk hq (by omega)
  have hrb := hb5.blk H4.out (by omega)
  unfold zeroMC at hqb hrb
  have hB := Hb0.out.trans (hb5.below (B := w.heap.size) (fun k hk => by omega) Hb0.out.size)
  have HB := Lib.hid hB
  obtain ⟨q0, q1, q2, q3⟩ := cells4 hqb
  obtain ⟨r0, r1, r2, r3⟩ := cells4 hrb
  have rf := blk_free hrb
  have HS9 := Lib.hid (set4_blk hrb)
  clear hqb hrb hq hb1 hb4 hb5 hsz hB
  clear hz
  go_wp2_with fail
  have hz := Hz.out
  obtain ⟨s0, s1, s2, s3⟩ := cells4 (HS9.out (.int .u8 0) (.int .u8 0) (.int .u32 0) (.slice none 0 0))
  refine bodyPost_ret (v := .tuple #[.agg #[.int .u8 0, .int .u8 0, .int .u32 0, .slice none 0 0], .int .i64 x']) (by simp [results, Tryz.results45, go_sem, s0, s1, s2, s3]) rfl ⟨rfl, ?_⟩
  exact ((((HB.out.setCell (by simp <;> omega) _).setCell (by simp <;> omega) _).setCell (by simp <;> omega) _).setCell (by simp <;> omega) _)
theorem parse8_good (A : Option Addr) (n c m : Nat) (b : List Int) (ty cd rs : Int) (d : List Int) (w : World) (hc : n ≤ c ∧ c ≤ maxLen) (hn : n ≤ 1480) (hA : Rd w A n b) (hx : errM b = 0) (hS : msgOf b = ⟨ty, cd, rs, d⟩) (hm : d.length = m) :
    Calls Tryz.prog 45 #[.slice A n c] w (MsgGood ⟨ty, cd, rs, d⟩ m w) := by
  have Hlm := Lib.hid (show b.length - 8 = m by rw [← hm, show d = (msgOf b).d by rw [hS]]; simp [msgOf])
  have Hd := Lib.hid (show b.drop 8 = d by rw [show d = (msgOf b).d by rw [hS]]; rfl)
  have HS := Lib.hid hS
  clear hS hm
  have hmf : ∀ (fn : Fn) (first cap : Array Value) (w : World), (Instr.makeFunc fn first cap).run Tryz.prog w = .ok (.func fn first cap) w := fun _ _ _ _ => rfl
  have hal : Below w.heap.size w w := Below.refl _ _
  have HA := Lib.hid hA
  have Hx := Lib.hid hx
  have hni : ¬ (1480 : Int) < (n : Int) := by omega
  clear hA hx
  obtain ⟨z, hz⟩ : ∃ z, w.heap.size = z := ⟨_, rfl⟩
  go_enter Tryz.func45, Tryz.ntmps45
  go_wp2_with fail
  obtain ⟨w0, hw0⟩ : ∃ w0, w0 = ((w.alloc (.cells #[.slice A n c] 22)).alloc (.cells #[.int .u8 0, .int .u8 0, .int .u32 0, .slice none 0 0] 33)).alloc (.cells #[.int .u8 0, .int .u8 0, .int .u32 0, .slice none 0 0] 33) := ⟨_, rfl⟩
  rw [← hw0]
  have hsz : w0.heap.size = z + 3 := by rw [hw0, ← hz]; simp
  have hb0 : Below w.heap.size w w0 := by rw [hw0]; exact ((hal.alloc (Nat.le_refl _) _).alloc (by simp) _).alloc (by simp <;> omega) _
  have h3 : Box w0 z 22 (.slice A n c) := by rw [hw0, ← hz]; exact ((Box.new w _ _).alloc _).alloc _
  have h4 : w0.heap[z + 1]? = some (.cells zeroMC 33 (0, 0)) := by
    rw [hw0, ← hz]
    have := heap_alloc_new (w.alloc (.cells #[.slice A n c] 22)) (.cells #[.int .u8 0, .int .u8 0, .int .u32 0, .slice none 0 0] 33)
    rw [Below.heap_alloc _ _ _ (by simp)]
    simpa [zeroMC] using this
  have h5 : w0.heap[z + 2]? = some (.cells zeroMC 33 (0, 0)) := by
    rw [hw0, ← hz]
    have := heap_alloc_new ((w.alloc (.cells #[.slice A n c] 22)).alloc (.cells #[.int .u8 0, .int .u8 0, .int .u32 0, .slice none 0 0] 33)) (.cells #[.int .u8 0, .int .u8 0, .int .u32 0, .slice none 0 0] 33)
    simpa [zeroMC] using this
  have hr0 := HA.out.below hb0
  clear hw0
  have hdo := fun w1 g (hb : Below w0.heap.size w0 w1) (_ : w0.heap.size ≤ g) (_ : g < w1.heap.size) (hR : Rdr w1 w0.heap.size g b 0) =>
    parse81_any w0.heap.size g z (z + 2) n c A w1 (by omega) hn b hc (fun h x o e => by
      obtain ⟨x', o', e', hlt, _⟩ := hr0.at_ h
      rw [e] at e'; injection e' with e'; injection e' with e'; subst e'; exact hlt) (hr0.below hb) (h3.below hb (by omega)) ((hb.block _ (by omega)).trans h5) hR
  have hread := read_any (fun k => k = z + 2) _ n c #[.pointer (some ⟨z, 0, none⟩), .pointer (some ⟨z + 2, 0, none⟩)] _ (fun _ => rfl) A b (MsgR (z + 2) b) w0 (fun k hk => by omega) (by omega) hr0 (enter_of Tryz.func82 (by kernel_rfl) rfl) hdo
  have Hb0 := Lib.hid hb0
  have Hc3 := h3.cell
  have H4 := Lib.hid h4
  have Hsz := Lib.hid hsz
  have Hz := Lib.hid hz
  clear hb0 h3 h4 h5 hr0 hdo hal hsz hz
  refine hread.mono ?_
  clear hread
  rintro e w5 ⟨x', w1, w4, rfl, hb1, ⟨hxe, hR⟩, hb4, hb5⟩
  rw [Hx.out] at hxe
  subst hxe
  rcases hR with ⟨h, _⟩ | ⟨_, AD, cD, hq, hd⟩
  · exact absurd rfl h
  have hsz := Hsz.out
  have hz := Hz.out
  have hqb := hb4.blk hq (by omega)
  have hrb := hb5.blk H4.out (by omega)
  have hd5 := hd.but hb4 (fun k hk e => by omega)
  rw [HS.out, Hlm.out] at hqb
  rw [Hlm.out, Hd.out] at hd5
  simp only at hqb
  unfold zeroMC at hrb
  have hB := Hb0.out.trans (hb5.below (B := w.heap.size) (fun k hk => by omega) Hb0.out.size)
  have HB := Lib.hid hB
  obtain ⟨q0, q1, q2, q3⟩ := cells4 hqb
  obtain ⟨r0, r1, r2, r3⟩ := cells4 hrb
  have rf := blk_free hrb
  have HS9 := Lib.hid (set4_blk hrb)
  have Hset := Lib.hid (set4_but w5 (z + 1))
  have HD := Lib.hid hd5
  have hw1 : z + 3 ≤ w1.heap.size := by have := hb1.size; omega
  clear hqb hrb hq hb1 hb4 hb5 hsz hB hd hd5 hz
  go_wp2_with fail
  have hz := Hz.out
  obtain ⟨s0, s1, s2, s3⟩ := cells4 (HS9.out (.int .u8 ty) (.int .u8 cd) (.int .u32 rs) (.slice AD m cD))
  have Hset := Hset.out (.int .u8 ty) (.int .u8 cd) (.int .u32 rs) (.slice AD m cD)
  refine bodyPost_ret (v := .tuple #[.agg #[.int .u8 ty, .int .u8 cd, .int .u32 rs, .slice AD m cD], .int .i64 0]) (by simp [results, Tryz.results45, go_sem, s0, s1, s2, s3]) rfl ⟨AD, cD, rfl, HD.out.cap, HD.out.capMax, ?_, ?_⟩
  · exact (HD.out.but Hset (fun k hk e => by omega)).mono (by omega)
  · exact ((((HB.out.setCell (by simp <;> omega) _).setCell (by simp <;> omega) _).setCell (by simp <;> omega) _).setCell (by simp <;> omega) _)

/-- Parse, by whether something is wrong. -/
theorem parse8_err (A : Option Addr) (n c : Nat) (b : List Int) (x : Int) (w : World) (hc : n ≤ c ∧ c ≤ maxLen) (hA : Rd w A n b) (hx : errM b = x) (h0 : x ≠ 0) :
    Calls Tryz.prog 45 #[.slice A n c] w (MsgBad x w) := by
  by_cases h1 : 1480 < n
  · have := parse8_long A n c w h1
    rw [show x = 3 by rw [← hx]; unfold errM; rw [if_pos (by rw [hA.len]; exact h1)]]
    exact this
  · exact parse8_bad A n c b x w hc (by omega) hA hx h0
theorem parse8_told (A : Option Addr) (n c m : Nat) (b : List Int) (ty cd rs : Int) (d : List Int) (w : World) (hc : n ≤ c ∧ c ≤ maxLen) (hA : Rd w A n b) (hx : errM b = 0) (hS : msgOf b = ⟨ty, cd, rs, d⟩) (hm : d.length = m) :
    Calls Tryz.prog 45 #[.slice A n c] w (MsgGood ⟨ty, cd, rs, d⟩ m w) :=
  parse8_good A n c m b ty cd rs d w hc (by have := errM_zero hx; have := hA.len; omega) hA hx hS hm
end Go.Proofs.YtheknmihnkennaaGreat

/-
  Package icmp's Parse and the document's own, by one word: the message, or noughts, its data in a row of the call's own.
-/
namespace Go.Proofs.YtheknmihnkennaaGreat
set_option maxRecDepth 10000
open Go.RowKit

theorem toldM_by {s : Msg} (h : MsgNum s) (hd : ∀ x ∈ s.d, 0 ≤ x ∧ x < 256) : ∀ x ∈ toldM s, 0 ≤ x ∧ x < 256 := by
  unfold toldM
  split
  · simp
  · exact msgB_by h hd
end Go.Proofs.YtheknmihnkennaaGreat

/-
  A payload's bytes, by each protocol: what package tcp, udp, icmp and the document's own answers (culvertref06, 07, 08) tell, by one word.
-/
namespace Go.Proofs.YtheknmihnkennaaGreat
set_option maxRecDepth 10000
open Go.RowKit

/-- A row that reads as L, and a number. -/
def PutGot (L : List Int) (m : Nat) (x : Int) (w : World) (e : Ending) (w' : World) : Prop := ∃ A c, e = .returned (.tuple #[.slice A m c, .int .i64 x]) ∧ (m ≤ c ∧ c ≤ maxLen) ∧ Rd w' A m L ∧ Below w.heap.size w w'
theorem PutGot.none_ {x : Int} {w : World} {e : Ending} {w' : World} (he : e = .returned (.tuple #[.slice none 0 0, .int .i64 x])) (hb : Below w.heap.size w w') : PutGot [] 0 x w e w' := ⟨none, 0, he, ⟨Nat.le_refl _, by simp [maxLen]⟩, Rd.nil _ _, hb⟩
theorem PutM.got {L : List Int} {m : Nat} {x : Int} {w : World} {e : Ending} {w' : World} (h : PutM L m x w e w') (hL : ∀ y ∈ L, 0 ≤ y ∧ y < 256) : PutGot L m x w e w' := by
  obtain ⟨A, c, he, h1, h2, ho, hb⟩ := h
  exact ⟨A, c, he, ⟨h1, h2⟩, ho.rd hL, hb⟩
theorem put6_got (src dst : Int) (s : Seg) (AO : Option Addr) (nO cO : Nat) (oss : List OptV) (AD : Option Addr) (nD cD : Nat) (w : World) (L : List Int) (m : Nat) (x : Int) (hn : nO ≤ 140737488355328) (hd : nD ≤ 140737488355328) (h : SegRd w s AO nO cO oss AD nD cD) (hx : errS s = x) (hL : toldB src dst s = L) (hm : L.length = m) :
    Calls Tryz.prog 61 #[.int .u32 src, .int .u32 dst, .agg #[.int .u16 s.sp, .int .u16 s.dp, .int .u32 s.sq, .int .u32 s.ak, .int .u8 s.fl, .int .u16 s.wn, .int .u16 s.ug, .slice AO nO cO, .slice AD nD cD]] w (PutGot L m x w) := by
  refine (put6_any src dst s AO nO cO oss AD nD cD w hn hd h).mono fun e w' hh => ?_
  unfold toldB at hL
  by_cases h0 : errS s = 0
  · rw [if_pos h0] at hh hL
    obtain ⟨A, c, rfl, k, k2, ho, hb⟩ := hh
    subst hx; subst hL; subst hm
    rw [h0, segB_len]
    exact ⟨A, c, rfl, ⟨k, k2⟩, ho.rd (segB_bytes h.num h0 h.os.byte h.d.byte), hb⟩
  · rw [if_neg h0] at hh hL
    obtain ⟨rfl, hb⟩ := hh
    subst hx; subst hL; subst hm
    exact PutGot.none_ rfl hb
def errUP (s : Dg) : Int := if 1472 < s.d.length then 3 else 0
def toldU (src dst : Int) (s : Dg) : List Int := if 1472 < s.d.length then [] else dgB src dst s
theorem put7_got (src dst : Int) (s : Dg) (A : Option Addr) (n c : Nat) (w : World) (L : List Int) (m : Nat) (x : Int) (hnum : DgNum s) (hc : n ≤ c ∧ c ≤ maxLen) (h : Rd w A n s.d) (hx : errUP s = x) (hL : toldU src dst s = L) (hm : L.length = m) :
    Calls Tryz.prog 63 #[.int .u32 src, .int .u32 dst, .agg #[.int .u16 s.sp, .int .u16 s.dp, .slice A n c]] w (PutGot L m x w) := by
  have hl := h.len
  unfold errUP at hx
  unfold toldU at hL
  rw [hl] at hx hL
  by_cases h0 : 1472 < n
  · rw [if_pos h0] at hx hL
    subst hx; subst hL; subst hm
    exact (uput_bad src dst s.sp s.dp A n c w h0).mono fun e w' ⟨he, hb⟩ => PutGot.none_ he hb
  · rw [if_neg h0] at hx hL
    subst hx; subst hL
    have hbb := dgB_bytes src dst hnum (by omega) h.byte
    have hm8 : 8 + n = m := by rw [← hm, dgB_len, hl]
    refine (uput_ok src dst s A n c w hnum hc h (by omega)).mono fun e w' hh => ?_
    obtain ⟨A1, c1, he, k, k2, ho, hb⟩ := hh
    rw [hm8] at he ho k
    exact ⟨A1, c1, he, ⟨k, k2⟩, ho.rd hbb, hb⟩
theorem put8_got (s : Msg) (A : Option Addr) (n c : Nat) (w : World) (L : List Int) (m : Nat) (x : Int) (hnum : MsgNum s) (hc : n ≤ c ∧ c ≤ maxLen) (hr : Rd w A n s.d) (hx : errP s = x) (hL : toldM s = L) (hm : L.length = m) :
    Calls Tryz.prog 65 #[.agg #[.int .u8 s.ty, .int .u8 s.cd, .int .u32 s.rs, .slice A n c]] w (PutGot L m x w) :=
  (put8_any s A n c w L m x hnum hc hr hx hL hm).mono fun e w' h => h.got (by rw [← hL]; exact toldM_by hnum hr.byte)
end Go.Proofs.YtheknmihnkennaaGreat
