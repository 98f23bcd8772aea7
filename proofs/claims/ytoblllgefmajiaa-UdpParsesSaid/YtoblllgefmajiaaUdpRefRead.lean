/-
  The document's own reading of datagrams (culvertref07's Parse).
-/
import Derived.Test.YtoblllgefmajiaaUdpRef
import Derived.Test.YtoblllgefmajiaaUdpParse
namespace Go.Proofs.Ytoblllgefmajiaa
set_option maxRecDepth 10000
open Go.RowKit

theorem ruparse_long (src dst : Int) (A : Option Addr) (n c : Nat) (w : World) (h1 : 1480 < n) :
    Calls Try.prog 40 #[.int .u32 src, .int .u32 dst, .slice A n c] w (DgBad 3 w) := by
  obtain ⟨z, hz⟩ : ∃ z, w.heap.size = z := ⟨_, rfl⟩
  have hrb : (w.alloc (.cells #[.int .u16 0, .int .u16 0, .slice none 0 0] 57)).heap[z]? = some (.cells #[.int .u16 0, .int .u16 0, .slice none 0 0] 57 (0, 0)) := by rw [← hz]; exact heap_alloc_new w _
  have hb0 : Below w.heap.size w (w.alloc (.cells #[.int .u16 0, .int .u16 0, .slice none 0 0] 57)) := (Below.refl _ _).alloc (Nat.le_refl _) _
  obtain ⟨w0, hw0⟩ : ∃ w0, w.alloc (.cells #[.int .u16 0, .int .u16 0, .slice none 0 0] 57) = w0 := ⟨_, rfl⟩
  have hs0 : w0.heap.size = z + 1 := by rw [← hw0, ← hz]; simp
  rw [hw0] at hrb hb0
  have i1 : (1480 : Int) < (n : Int) := by omega
  have Hz := Lib.hid hz
  have Hw := Lib.hid hw0
  clear h1 hw0 hs0
  go_enter Try.func40, Try.ntmps40
  go_upto_region 2 with (fail)
  rw [Hw.out]
  have HB := Lib.hid (hb0)
  have HS9 := Lib.hid (set3_cells (hrb))
  obtain ⟨r0, r1, r2⟩ := cells3 (hrb)
  have rf := blk_free (hrb)
  go_wp2_with fail
  obtain ⟨s0, s1, s2⟩ := HS9.out (.int .u16 0) (.int .u16 0) (.slice none 0 0)
  refine bodyPost_ret (v := .tuple #[.agg #[.int .u16 0, .int .u16 0, .slice none 0 0], .int .i64 3]) (by simp [results, Try.results40, go_sem, s0, s1, s2]) rfl ?_
  skip
  refine ⟨rfl, ?_⟩
  exact (((HB.out.setCell (by have := Hz.out; simp <;> omega) _).setCell (by have := Hz.out; simp <;> omega) _).setCell (by have := Hz.out; simp <;> omega) _)
theorem ruparse_short (src dst : Int) (A : Option Addr) (n c : Nat) (w : World) (h1 : n < 8) :
    Calls Try.prog 40 #[.int .u32 src, .int .u32 dst, .slice A n c] w (DgBad 4 w) := by
  obtain ⟨z, hz⟩ : ∃ z, w.heap.size = z := ⟨_, rfl⟩
  have hrb : (w.alloc (.cells #[.int .u16 0, .int .u16 0, .slice none 0 0] 57)).heap[z]? = some (.cells #[.int .u16 0, .int .u16 0, .slice none 0 0] 57 (0, 0)) := by rw [← hz]; exact heap_alloc_new w _
  have hb0 : Below w.heap.size w (w.alloc (.cells #[.int .u16 0, .int .u16 0, .slice none 0 0] 57)) := (Below.refl _ _).alloc (Nat.le_refl _) _
  obtain ⟨w0, hw0⟩ : ∃ w0, w.alloc (.cells #[.int .u16 0, .int .u16 0, .slice none 0 0] 57) = w0 := ⟨_, rfl⟩
  have hs0 : w0.heap.size = z + 1 := by rw [← hw0, ← hz]; simp
  rw [hw0] at hrb hb0
  have i0 : ¬ (1480 : Int) < (n : Int) := by omega
  have i1 : (n : Int) < 8 := by omega
  have Hz := Lib.hid hz
  have Hw := Lib.hid hw0
  clear h1 hw0 hs0
  go_enter Try.func40, Try.ntmps40
  go_upto_region 4 with (fail)
  rw [Hw.out]
  have HB := Lib.hid (hb0)
  have HS9 := Lib.hid (set3_cells (hrb))
  obtain ⟨r0, r1, r2⟩ := cells3 (hrb)
  have rf := blk_free (hrb)
  go_wp2_with fail
  obtain ⟨s0, s1, s2⟩ := HS9.out (.int .u16 0) (.int .u16 0) (.slice none 0 0)
  refine bodyPost_ret (v := .tuple #[.agg #[.int .u16 0, .int .u16 0, .slice none 0 0], .int .i64 4]) (by simp [results, Try.results40, go_sem, s0, s1, s2]) rfl ?_
  skip
  refine ⟨rfl, ?_⟩
  exact (((HB.out.setCell (by have := Hz.out; simp <;> omega) _).setCell (by have := Hz.out; simp <;> omega) _).setCell (by have := Hz.out; simp <;> omega) _)

theorem hx_of {src dst : Int} {b : List Int} {m : Nat} {y : Int} (ey : sumL (pseudoL src dst 17 ((m + 2 + 2 + 2 + 2 : Nat) : Int) ++ b) = y) (hl : b.length = m + 2 + 2 + 2 + 2) : sumL (pseudoL src dst 17 b.length ++ b) = y := by rw [hl]; exact ey
set_option maxHeartbeats 4000000 in
theorem ruparse_main (src dst : Int) (A : Option Addr) (n c : Nat) (b0 b1 b2 b3 b4 b5 b6 b7 : Int) (l : List Int) (b : List Int) (eb : b = b0 :: b1 :: b2 :: b3 :: b4 :: b5 :: b6 :: b7 :: l) (x : Int) (w : World) (hc : n ≤ c ∧ c ≤ maxLen) (hn : n ≤ 1480) (hA : Rd w A n b) (hx : errU src dst b = x) :
    Calls Try.prog 40 #[.int .u32 src, .int .u32 dst, .slice A n c] w (fun e w' => if x = 0 then DgGood (dgOf b) (n - 8) w e w' else DgBad x w e w') := by
  have hlen := hA.len
  obtain ⟨m, em⟩ : ∃ m, n = m + 2 + 2 + 2 + 2 := ⟨n - 8, by rw [eb] at hlen; simp at hlen; omega⟩
  subst em
  have hbyte := hA.byte
  have Hof := Lib.hid (show dgOf b = ⟨b0 * 256 + b1, b2 * 256 + b3, l⟩ by rw [eb]; rfl)
  have H4 := Lib.hid (show n16 b 4 = b4 * 256 + b5 by rw [eb]; rfl)
  have H6 := Lib.hid (show n16 b 6 = b6 * 256 + b7 by rw [eb]; rfl)
  have Hbd := Lib.hid (show (0 ≤ b0 ∧ b0 < 256) ∧ (0 ≤ b1 ∧ b1 < 256) ∧ (0 ≤ b2 ∧ b2 < 256) ∧ (0 ≤ b3 ∧ b3 < 256) ∧ (0 ≤ b4 ∧ b4 < 256) ∧ (0 ≤ b5 ∧ b5 < 256) ∧ (0 ≤ b6 ∧ b6 < 256) ∧ (0 ≤ b7 ∧ b7 < 256) from
    ⟨hbyte _ (by rw [eb]; simp), hbyte _ (by rw [eb]; simp), hbyte _ (by rw [eb]; simp), hbyte _ (by rw [eb]; simp), hbyte _ (by rw [eb]; simp), hbyte _ (by rw [eb]; simp), hbyte _ (by rw [eb]; simp), hbyte _ (by rw [eb]; simp)⟩)
  have Hll := Lib.hid (show l.length = m by rw [eb] at hlen; simp at hlen; omega)
  have Hd8 := Lib.hid (show b.drop 8 = l by rw [eb]; rfl)
  have Hlen := Lib.hid hlen
  have Hx := Lib.hid hx
  have Heb := Lib.hid eb
  have hni : ¬ (1480 : Int) < (m : Int) + 2 + 2 + 2 + 2 := by omega
  have hni2 : (m : Int) + 2 + 2 + 2 + 2 ≤ 1480 := by omega
  have hni8 : ¬ (m : Int) + 2 + 2 + 2 + 2 < 8 := by omega
  obtain ⟨z, hz⟩ : ∃ z, w.heap.size = z := ⟨_, rfl⟩
  have hrb : (w.alloc (.cells #[.int .u16 0, .int .u16 0, .slice none 0 0] 57)).heap[z]? = some (.cells #[.int .u16 0, .int .u16 0, .slice none 0 0] 57 (0, 0)) := by rw [← hz]; exact heap_alloc_new w _
  have hb0 : Below w.heap.size w (w.alloc (.cells #[.int .u16 0, .int .u16 0, .slice none 0 0] 57)) := (Below.refl _ _).alloc (Nat.le_refl _) _
  obtain ⟨w0, hw0⟩ : ∃ w0, w.alloc (.cells #[.int .u16 0, .int .u16 0, .slice none 0 0] 57) = w0 := ⟨_, rfl⟩
  have hs0 : w0.heap.size = z + 1 := by rw [← hw0, ← hz]; simp
  rw [hw0] at hrb hb0
  obtain ⟨r0, r1, r2⟩ := cells3 hrb
  have rf := blk_free hrb
  have Hw := Lib.hid hw0
  have Hz := Lib.hid hz
  have HA0 := Lib.hid (hA.below hb0)
  clear hbyte hx eb hlen hA hw0
  go_enter Try.func40, Try.ntmps40
  go_wp2_with fail
  rw [Hw.out]
  have hba := (Below.refl w0.heap.size w0).alloc (Nat.le_refl _) (.cells (rdr3 A (m + 2 + 2 + 2 + 2) c 0) 116)
  have hp0 := heap_alloc_new w0 (.cells (rdr3 A (m + 2 + 2 + 2 + 2) c 0) 116)
  rw [hs0] at hp0
  have hA1 := HA0.out.below hba
  rw [Heb.out] at hA1
  have hc1 : m + 2 + 2 + 2 + 2 ≤ c ∧ c ≤ maxLen := hc
  have hcm : c ≤ maxLen := hc.2
  refine (num2_any (z + 1) A (m + 2 + 2 + 2) c 0 b0 b1 (b2 :: b3 :: b4 :: b5 :: b6 :: b7 :: l) _ (by omega) hc1 hA1 hp0).mono ?_
  rintro e w1 ⟨rfl, A1, hp1, hr1, hb1⟩
  have Hb1 := Lib.hid hb1
  have Hba := Lib.hid hba
  have HS1 := Lib.hid (show z + 2 ≤ w1.heap.size by have := hb1.size; simp at this; omega)
  have Hp1 := Lib.hid hp1
  have Hr1 := Lib.hid hr1
  clear hba hp0 hA1 hp1 hr1 hb1
  obtain ⟨hy0, hy1⟩ := (show 0 ≤ b0 * 256 + b1 ∧ b0 * 256 + b1 < 65536 by have := Hbd.out; omega)
  have hu1 : IntKind.u16.wrap (b0 * 256 + b1) = b0 * 256 + b1 := wraps_u16 _ hy0 hy1
  go_wp2_with fail
  obtain ⟨q, eq⟩ : ∃ q, w1.heap.size = q := ⟨_, rfl⟩
  have hq1 : (w1.alloc (.cells #[.int .u16 (b0 * 256 + b1), .int .u16 0, .slice none 0 0] 57)).heap[q]? = some (.cells #[.int .u16 (b0 * 256 + b1), .int .u16 0, .slice none 0 0] 57 (0, 0)) := by rw [← eq]; exact heap_alloc_new w1 _
  have hba1 := (Below.refl w1.heap.size w1).alloc (Nat.le_refl _) (.cells #[.int .u16 (b0 * 256 + b1), .int .u16 0, .slice none 0 0] 57)
  have hqz : z + 2 ≤ q := by have := HS1.out; omega
  refine (num2_any (z + 1) A1 (m + 2 + 2) (c - 2) 2 b2 b3 (b4 :: b5 :: b6 :: b7 :: l) _ (by omega) (by omega) (Hr1.out.below hba1) (blk_on Hp1.out hba1)).mono ?_
  rintro e w2 ⟨rfl, A2, hp2, hr2, hb2⟩
  have hq2 := hb2.blk hq1 (by omega)
  have HQ2 := Lib.hid hq2
  have Hp2 := Lib.hid hp2
  have Hr2 := Lib.hid hr2
  have Hb2 := Lib.hid hb2
  have Hba1 := Lib.hid hba1
  obtain ⟨y0, y1, y2⟩ := cells3 hq2
  have yf := blk_free hq2
  clear hq1 hba1 hq2 hp2 hr2 hb2 hu1
  obtain ⟨hy2, hy3⟩ := (show 0 ≤ b2 * 256 + b3 ∧ b2 * 256 + b3 < 65536 by have := Hbd.out; omega)
  have hu2 : IntKind.u16.wrap (b2 * 256 + b3) = b2 * 256 + b3 := wraps_u16 _ hy2 hy3
  have hqp : ¬ z + 1 = q := by omega
  have hpq : ¬ q = z + 1 := by omega
  try simp only [eq]
  go_wp2_with fail
  have hs2 : But (fun k => k = q) w2 (w2.setCell ⟨q, 1, none⟩ (.int .u16 (b2 * 256 + b3))) := (But.refl (fun k => k = q) w2).setCell (p := ⟨q, 1, none⟩) rfl _
  have hq3 : (w2.setCell ⟨q, 1, none⟩ (.int .u16 (b2 * 256 + b3))).heap[q]? = some (.cells #[.int .u16 (b0 * 256 + b1), .int .u16 (b2 * 256 + b3), .slice none 0 0] 57 (0, 0)) := by simpa using setCell_block3 (i := 1) HQ2.out (.int .u16 (b2 * 256 + b3))
  have hr3 := Hr2.out.but hs2 (fun g o e h0 => Hr2.out.apart e h0 HQ2.out (by intro j z; match j with | 0 => simp | 1 => simp | 2 => simp | j + 3 => simp))
  refine (num2_any (z + 1) A2 (m + 2) (c - 2 - 2) 4 b4 b5 (b6 :: b7 :: l) _ (by omega) (by omega) hr3 (hs2.blk Hp2.out (by omega))).mono ?_
  rintro e w3 ⟨rfl, A3, hp3, hr3', hb3⟩
  have Hq3 := Lib.hid (hb3.blk hq3 (by omega))
  have Hp3 := Lib.hid hp3
  have Hr3 := Lib.hid hr3'
  have Hb3 := Lib.hid ((hs2.mono (fun _ _ h => .inl h) : But (fun k => k = q ∨ k = z + 1) _ _).trans (hb3.mono (fun _ _ h => .inr h)))
  clear hs2 hq3 hr3 hp3 hr3' hb3 y0 y1 y2 yf hu2
  go_wp2_with fail
  refine (num2_any (z + 1) A3 m (c - 2 - 2 - 2) 6 b6 b7 l _ (by omega) (by omega) Hr3.out Hp3.out).mono ?_
  rintro e w4 ⟨rfl, A4, hp4, hr4, hb4⟩
  have Hq4 := Lib.hid (hb4.blk Hq3.out (by omega))
  have hbA : But (fun k => k = z + 1 ∨ k = q) w0 w4 := by
    have k1 := But.trans2 (S := fun k => k = z + 1 ∨ k = q) (But.of Hba.out) Hb1.out (fun _ _ h => .inl h)
    have k2 := But.trans2 (S := fun k => k = z + 1 ∨ k = q) (But.trans2 (S := fun k => k = z + 1 ∨ k = q) k1 (But.of Hba1.out) (fun _ _ h => h)) Hb2.out (fun _ _ h => .inl h)
    have k3 := But.trans2 (S := fun k => k = z + 1 ∨ k = q) k2 Hb3.out (fun _ _ h => h.symm)
    exact But.trans2 (S := fun k => k = z + 1 ∨ k = q) k3 hb4 (fun _ _ h => .inl h)
  have Hz4 := Lib.hid (hbA.blk hrb (by omega))
  have Hbz := Lib.hid (hb0.trans (hbA.below (B := w.heap.size) (fun k hk => by omega) hb0.size))
  have HA4 := Lib.hid (show Rd w4 A (m + 2 + 2 + 2 + 2) b from HA0.out.but hbA (fun g o e h0 hh => by
    obtain ⟨g', o', e', hlt, _⟩ := HA0.out.at_ h0
    rw [e] at e'; injection e' with e'; injection e' with e' _; omega))
  clear hbA hp4 hr4 hb4 Hb1 Hb2 Hb3 Hba Hba1 HS1 Hp1 Hp2 Hp3 Hr1 Hr2 Hr3 HQ2 Hq3 hb0 hrb r0 r1 r2 rf HA0 hqp hpq eq
  obtain ⟨N, eN⟩ : ∃ N, b4 * 256 + b5 = N := ⟨_, rfl⟩
  obtain ⟨F, eF⟩ : ∃ F, b6 * 256 + b7 = F := ⟨_, rfl⟩
  have hNb : 0 ≤ N ∧ N < 65536 := by have := Hbd.out; omega
  have hFb : 0 ≤ F ∧ F < 65536 := by have := Hbd.out; omega
  rw [eN] at H4
  rw [eF] at H6
  rw [eN, eF]
  obtain ⟨hN0, hN1⟩ := hNb
  have hwN : wrap64 N = N := IntWalk.wrap64_in _ (by omega)
  clear eN eF
  by_cases h5 : N = (m : Int) + 2 + 2 + 2 + 2
  case neg =>
    obtain rfl : x = 5 := by rw [← Hx.out]; unfold errU; rw [if_neg (by rw [Hlen.out]; omega), if_neg (by rw [Hlen.out]; omega), if_pos (by rw [H4.out, Hlen.out]; omega)]
    have h5d : (N != (m : Int) + 2 + 2 + 2 + 2) = true := by simpa using h5
    clear h5 hFb
    have HB := Lib.hid (Hbz.out)
    have HS9 := Lib.hid (set3_cells (Hz4.out))
    obtain ⟨r0, r1, r2⟩ := cells3 (Hz4.out)
    have rf := blk_free (Hz4.out)
    go_wp2_with fail
    obtain ⟨s0, s1, s2⟩ := HS9.out (.int .u16 0) (.int .u16 0) (.slice none 0 0)
    refine bodyPost_ret (v := .tuple #[.agg #[.int .u16 0, .int .u16 0, .slice none 0 0], .int .i64 5]) (by simp [results, Try.results40, go_sem, s0, s1, s2]) rfl ?_
    show DgBad 5 _ _ _
    refine ⟨rfl, ?_⟩
    exact (((HB.out.setCell (by have := Hz.out; simp <;> omega) _).setCell (by have := Hz.out; simp <;> omega) _).setCell (by have := Hz.out; simp <;> omega) _)
  have h5d : (N != (m : Int) + 2 + 2 + 2 + 2) = false := by simpa using h5
  have E5 := Lib.hid h5
  have hxx : x = if F ≠ 0 ∧ sumL (pseudoL src dst 17 b.length ++ b) ≠ 65535 then 20 else 0 := by
    rw [← Hx.out]; unfold errU
    rw [if_neg (by rw [Hlen.out]; omega), if_neg (by rw [Hlen.out]; omega), if_neg (by rw [H4.out, Hlen.out]; omega), H6.out]
  have Hxx := Lib.hid hxx
  obtain ⟨A8, hcut, hr8, _⟩ := HA4.out.rest3 (c := c) 8 8 (by omega) (by omega) hc1.1 hc1.2 rfl
  rw [show m + 2 + 2 + 2 + 2 - 8 = m by omega] at hcut hr8
  rw [Hd8.out] at hr8
  have hcut8 : ∀ W : World, (Instr.sliceAt 25 (.slice A (m + 2 + 2 + 2 + 2) c) (some (.int .i64 8)) none none).run Try.prog W = .ok (.slice A8 m (c - 8)) W := hcut
  have Hr8 := Lib.hid hr8
  clear h5 hxx hcut hr8
  have Hqs := Lib.hid (show q < w4.heap.size from lt_of_block Hq4.out)
  by_cases h0 : F = 0
  · subst h0
    obtain rfl : x = 0 := by rw [Hxx.out, if_neg (by simp)]
    go_wp2_with fail
    refine (own3_any A8 m (c - 8) l _ (by omega) (Hr8.out)).mono ?_
    rintro e w7 ⟨A7, c7, rfl, k7, m7, ho7, hb7⟩
    have hzq : ¬ z = q := by omega
    have hqz2 : ¬ q = z := by omega
    have hq7 := blk_on Hq4.out hb7
    have hz7 := blk_on Hz4.out hb7
    obtain ⟨q0, q1, q2⟩ := cells3 hq7
    have qf := blk_free hq7
    obtain ⟨r0, r1, r2⟩ := cells3 hz7
    have rf := blk_free hz7
    have hq8 : (w7.setCell ⟨q, 2, none⟩ (.slice A7 m c7)).heap[q]? = some (.cells #[.int .u16 (b0 * 256 + b1), .int .u16 (b2 * 256 + b3), .slice A7 m c7] 57 (0, 0)) := by simpa using setCell_block3 (i := 2) hq7 (.slice A7 m c7)
    have hz8 : (w7.setCell ⟨q, 2, none⟩ (.slice A7 m c7)).heap[z]? = some (.cells #[.int .u16 0, .int .u16 0, .slice none 0 0] 57 (0, 0)) := (Below.heap_setCell _ _ _ _ hzq).trans hz7
    have hb8 : Below w.heap.size w (w7.setCell ⟨q, 2, none⟩ (.slice A7 m c7)) := (below_trans Hbz.out hb7).setCell (by show w.heap.size ≤ q; have := Hz.out; omega) _
    have ho9 : OwnB (w7.setCell ⟨q, 2, none⟩ (.slice A7 m c7)) (z + 1) A7 m c7 l := (ho7.but ((But.refl (fun k => k = q) w7).setCell (p := ⟨q, 2, none⟩) rfl _) (fun k hk e => by have := Hqs.out; omega)).mono (by have := Hqs.out; omega)
    have HS9 := Lib.hid (set3_cells hz8)
    have Hset := Lib.hid (set3_but (w7.setCell ⟨q, 2, none⟩ (.slice A7 m c7)) z)
    have HB8 := Lib.hid hb8
    have HO9 := Lib.hid ho9
    obtain ⟨v0, v1, v2⟩ := cells3 hq8
    have vf := blk_free hq8
    obtain ⟨u0, u1, u2⟩ := cells3 hz8
    have uf := blk_free hz8
    clear hq7 hz7 hq8 hz8 hb8 ho9 ho7 hb7
    go_wp2_with fail
    obtain ⟨s0, s1, s2⟩ := HS9.out (.int .u16 (b0 * 256 + b1)) (.int .u16 (b2 * 256 + b3)) (.slice A7 m c7)
    refine bodyPost_ret (v := .tuple #[.agg #[.int .u16 (b0 * 256 + b1), .int .u16 (b2 * 256 + b3), .slice A7 m c7], .int .i64 0]) (by simp [results, Try.results40, go_sem, s0, s1, s2]) rfl ?_
    rw [Hof.out]
    refine (show DgGood ⟨b0 * 256 + b1, b2 * 256 + b3, l⟩ m w _ _ from ⟨A7, c7, rfl, k7, m7, ?_, ?_⟩)
    · exact OwnB.mono (B := z + 1) (((HO9.out).but (Hset.out _ _ _) (fun k hk e => by omega))) (by have := Hz.out; omega)
    · exact ((HB8.out.setCell (by have := Hz.out; simp <;> omega) _).setCell (by have := Hz.out; simp <;> omega) _).setCell (by have := Hz.out; simp <;> omega) _
  · have h0d : (F != 0) = true := by simpa using h0
    go_wp2_with fail
    refine (rpseudo7_any src dst 17 A (m + 2 + 2 + 2 + 2) c b _ (by omega) HA4.out hn).mono ?_
    rintro e w5 ⟨A5, c5, rfl, -, -, ho5, hb5⟩
    have Hr5 := Lib.hid (ho5.rd (app_bytes (pseudo_byte _ _ _ _ (by omega)) HA4.out.byte))
    have Hr8 := Lib.hid (Hr8.out.below hb5)
    have Hq4 := Lib.hid (blk_on Hq4.out hb5)
    have Hz4 := Lib.hid (blk_on Hz4.out hb5)
    have Hbz := Lib.hid (below_trans Hbz.out hb5)
    have Hqs := Lib.hid (Nat.lt_of_lt_of_le Hqs.out hb5.size)
    clear ho5 hb5
    go_wp2_with fail
    refine (rsum_any A5 (12 + (m + 2 + 2 + 2 + 2)) c5 (pseudoL src dst 17 ((m + 2 + 2 + 2 + 2 : Nat) : Int) ++ b) _ (by omega) Hr5.out).mono ?_
    rintro e w6 ⟨rfl, rfl⟩
    obtain ⟨y, ey⟩ : ∃ y, sumL (pseudoL src dst 17 ((m + 2 + 2 + 2 + 2 : Nat) : Int) ++ b) = y := ⟨_, rfl⟩
    have hy := hx_of ey Hlen.out
    rw [ey]
    by_cases h7 : y = 65535
    · obtain rfl : x = 0 := by rw [Hxx.out, if_neg (fun hh => hh.2 (by rw [hy]; exact h7))]
      have h7b : (y != 65535) = false := by simpa using h7
      clear h7 ey hy h0
      go_wp2_with fail
      refine (own3_any A8 m (c - 8) l _ (by omega) (Hr8.out)).mono ?_
      rintro e w7 ⟨A7, c7, rfl, k7, m7, ho7, hb7⟩
      have hzq : ¬ z = q := by omega
      have hqz2 : ¬ q = z := by omega
      have hq7 := blk_on Hq4.out hb7
      have hz7 := blk_on Hz4.out hb7
      obtain ⟨q0, q1, q2⟩ := cells3 hq7
      have qf := blk_free hq7
      obtain ⟨r0, r1, r2⟩ := cells3 hz7
      have rf := blk_free hz7
      have hq8 : (w7.setCell ⟨q, 2, none⟩ (.slice A7 m c7)).heap[q]? = some (.cells #[.int .u16 (b0 * 256 + b1), .int .u16 (b2 * 256 + b3), .slice A7 m c7] 57 (0, 0)) := by simpa using setCell_block3 (i := 2) hq7 (.slice A7 m c7)
      have hz8 : (w7.setCell ⟨q, 2, none⟩ (.slice A7 m c7)).heap[z]? = some (.cells #[.int .u16 0, .int .u16 0, .slice none 0 0] 57 (0, 0)) := (Below.heap_setCell _ _ _ _ hzq).trans hz7
      have hb8 : Below w.heap.size w (w7.setCell ⟨q, 2, none⟩ (.slice A7 m c7)) := (below_trans Hbz.out hb7).setCell (by show w.heap.size ≤ q; have := Hz.out; omega) _
      have ho9 : OwnB (w7.setCell ⟨q, 2, none⟩ (.slice A7 m c7)) (z + 1) A7 m c7 l := (ho7.but ((But.refl (fun k => k = q) w7).setCell (p := ⟨q, 2, none⟩) rfl _) (fun k hk e => by have := Hqs.out; omega)).mono (by have := Hqs.out; omega)
      have HS9 := Lib.hid (set3_cells hz8)
      have Hset := Lib.hid (set3_but (w7.setCell ⟨q, 2, none⟩ (.slice A7 m c7)) z)
      have HB8 := Lib.hid hb8
      have HO9 := Lib.hid ho9
      obtain ⟨v0, v1, v2⟩ := cells3 hq8
      have vf := blk_free hq8
      obtain ⟨u0, u1, u2⟩ := cells3 hz8
      have uf := blk_free hz8
      clear hq7 hz7 hq8 hz8 hb8 ho9 ho7 hb7
      go_wp2_with fail
      obtain ⟨s0, s1, s2⟩ := HS9.out (.int .u16 (b0 * 256 + b1)) (.int .u16 (b2 * 256 + b3)) (.slice A7 m c7)
      refine bodyPost_ret (v := .tuple #[.agg #[.int .u16 (b0 * 256 + b1), .int .u16 (b2 * 256 + b3), .slice A7 m c7], .int .i64 0]) (by simp [results, Try.results40, go_sem, s0, s1, s2]) rfl ?_
      rw [Hof.out]
      refine (show DgGood ⟨b0 * 256 + b1, b2 * 256 + b3, l⟩ m w _ _ from ⟨A7, c7, rfl, k7, m7, ?_, ?_⟩)
      · exact OwnB.mono (B := z + 1) (((HO9.out).but (Hset.out _ _ _) (fun k hk e => by omega))) (by have := Hz.out; omega)
      · exact ((HB8.out.setCell (by have := Hz.out; simp <;> omega) _).setCell (by have := Hz.out; simp <;> omega) _).setCell (by have := Hz.out; simp <;> omega) _
    · obtain rfl : x = 20 := by rw [Hxx.out, if_pos ⟨h0, by rw [hy]; exact h7⟩]
      have h7b : (y != 65535) = true := by simpa using h7
      clear h7 ey hy h0
      have HB := Lib.hid (Hbz.out)
      have HS9 := Lib.hid (set3_cells (Hz4.out))
      obtain ⟨r0, r1, r2⟩ := cells3 (Hz4.out)
      have rf := blk_free (Hz4.out)
      go_wp2_with fail
      obtain ⟨s0, s1, s2⟩ := HS9.out (.int .u16 0) (.int .u16 0) (.slice none 0 0)
      refine bodyPost_ret (v := .tuple #[.agg #[.int .u16 0, .int .u16 0, .slice none 0 0], .int .i64 20]) (by simp [results, Try.results40, go_sem, s0, s1, s2]) rfl ?_
      show DgBad 20 _ _ _
      refine ⟨rfl, ?_⟩
      exact (((HB.out.setCell (by have := Hz.out; simp <;> omega) _).setCell (by have := Hz.out; simp <;> omega) _).setCell (by have := Hz.out; simp <;> omega) _)
theorem ruparse_any (src dst : Int) (A : Option Addr) (n c : Nat) (b : List Int) (x : Int) (w : World) (hc : n ≤ c ∧ c ≤ maxLen) (hA : Rd w A n b) (hx : errU src dst b = x) :
    Calls Try.prog 40 #[.int .u32 src, .int .u32 dst, .slice A n c] w (fun e w' => if x = 0 then DgGood (dgOf b) (n - 8) w e w' else DgBad x w e w') := by
  have hlen := hA.len
  by_cases h1 : 1480 < n
  · obtain rfl : x = 3 := by rw [← hx]; unfold errU; rw [if_pos (by omega)]
    exact (ruparse_long src dst A n c w h1).mono fun e w' h => by rw [if_neg (by decide)]; exact h
  by_cases h2 : n < 8
  · obtain rfl : x = 4 := by rw [← hx]; unfold errU; rw [if_neg (by omega), if_pos (by omega)]
    exact (ruparse_short src dst A n c w h2).mono fun e w' h => by rw [if_neg (by decide)]; exact h
  obtain ⟨b0, b1, b2, b3, b4, b5, b6, b7, l, eb⟩ := eight b (by omega)
  exact ruparse_main src dst A n c b0 b1 b2 b3 b4 b5 b6 b7 l b eb x w hc (by omega) hA hx
end Go.Proofs.Ytoblllgefmajiaa
