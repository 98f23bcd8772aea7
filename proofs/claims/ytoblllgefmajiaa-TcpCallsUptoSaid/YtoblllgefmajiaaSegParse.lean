/-
  The contract of culvertref06's Parse.
-/
import Derived.Test.YtoblllgefmajiaaSegPut
import Derived.Test.YtoblllgefmajiaaPart
import Derived.Test.YtoblllgefmajiaaHeldLast
namespace Go.Proofs.Ytoblllgefmajiaa
set_option maxRecDepth 10000
open Go.RowKit

/-- The rest of a row of bytes, s[lo:], as one run equation. -/
theorem Rd.rest {w : World} {A : Option Addr} {n c : Nat} {l : List Int} (h : Rd w A n l) (lo : Nat) (loi : Int) (h0 : 0 < n) (hlo : lo ≤ n) (hc : n ≤ c) (hcm : c ≤ maxLen) (el : loi = (lo : Int)) :
    ∃ A', (∀ W : World, (Instr.sliceAt 25 (.slice A n c) (some (.int .i64 loi)) none none).run Try.prog W = .ok (.slice A' (n - lo) (c - lo)) W) ∧ Rd w A' (n - lo) (l.drop lo) := by
  subst el
  obtain ⟨b, o, rfl, _, _⟩ := h.at_ h0
  unfold maxLen at hcm
  have i0 : (0 : Int) ≤ (lo : Int) := by omega
  have i1 : (lo : Int) ≤ (n : Int) := by omega
  have i2 : (n : Int) ≤ (c : Int) := by omega
  have i3 : lo ≤ c := by omega
  by_cases hl : lo = c
  · subst hl
    obtain rfl : n = lo := by omega
    refine ⟨some ⟨b, o, none⟩, fun W => by go_simp, ?_⟩
    rw [Nat.sub_self, List.drop_eq_nil_of_le (by rw [h.len]; omega)]
    exact Rd.nil _ _
  · have i4 : ¬ c = lo := fun e => hl e.symm
    refine ⟨some ⟨b, o + lo, none⟩, fun W => by go_simp, ?_⟩
    exact h.drop_ rfl (by omega)

def zeroSeg : Seg := ⟨0, 0, 0, 0, 0, 0, 0, [], []⟩
def segOf (b : List Int) (n : Nat) : Seg :=
  ⟨numL ((b.drop 0).take 2), numL ((b.drop 2).take 2), numL ((b.drop 4).take 4), numL ((b.drop 8).take 4), b.getD 13 0, numL ((b.drop 14).take 2), numL ((b.drop 18).take 2), (parseO ((b.take n).drop 20)).1, b.drop n⟩
/-- How many bytes it says stand ahead of the Data. -/
def offB (b : List Int) : Nat := (b.getD 12 0 / 16 * 4).toNat
/-- What is wrong with a segment's bytes. -/
def errSeg (src dst : Int) (b : List Int) : Int :=
  if 1480 < b.length then 3 else if b.length < 20 then 4 else if offB b < 20 then 5 else if b.length < offB b then 4
  else if sumL (pseudoL src dst 6 b.length ++ b) ≠ 65535 then 20 else if (parseO ((b.take (offB b)).drop 20)).2 ≠ 0 then 5 else 0
/-- What Parse tells of bytes that are no segment. -/
def SegBad (x : Int) (w : World) (e : Ending) (w' : World) : Prop := e = .returned (.tuple #[.agg #[.int .u16 0, .int .u16 0, .int .u32 0, .int .u32 0, .int .u8 0, .int .u16 0, .int .u16 0, .slice none 0 0, .slice none 0 0], .int .i64 x]) ∧ Below w.heap.size w w'

theorem cell_set {w : World} {g : Nat} {C : Array Value} {t : TypeId} (h : w.heap[g]? = some (.cells C t (0, 0))) (i : Nat) (hi : i < C.size) (u : Value) : (w.setCell ⟨g, i, none⟩ u).cell? ⟨g, i, none⟩ = some u := by
  have h1 : (w.setCell ⟨g, i, none⟩ u).heap[g]? = some (.cells (C.setIfInBounds i u) t (0, 0)) := by simp [World.setCell, Array.getElem?_modify, h]
  rw [blk_cell h1]
  simp [hi]

theorem blk_set_ {w : World} {g : Nat} {C : Array Value} {t : TypeId} (h : w.heap[g]? = some (.cells C t (0, 0))) (i : Nat) (u : Value) : (w.setCell ⟨g, i, none⟩ u).heap[g]? = some (.cells (C.setIfInBounds i u) t (0, 0)) := by simp [World.setCell, Array.getElem?_modify, h]
theorem set9_cells {w : World} {g : Nat} {u0 u1 u2 u3 u4 u5 u6 u7 u8 : Value} {t : TypeId} (h : w.heap[g]? = some (.cells #[u0, u1, u2, u3, u4, u5, u6, u7, u8] t (0, 0))) (v0 v1 v2 v3 v4 v5 v6 v7 v8 : Value) :
    (w.setCell ⟨g, 0, none⟩ v0).cell? ⟨g, 0, none⟩ = some v0 ∧
    (((w.setCell ⟨g, 0, none⟩ v0)).setCell ⟨g, 1, none⟩ v1).cell? ⟨g, 1, none⟩ = some v1 ∧
    (((((w.setCell ⟨g, 0, none⟩ v0)).setCell ⟨g, 1, none⟩ v1)).setCell ⟨g, 2, none⟩ v2).cell? ⟨g, 2, none⟩ = some v2 ∧
    (((((((w.setCell ⟨g, 0, none⟩ v0)).setCell ⟨g, 1, none⟩ v1)).setCell ⟨g, 2, none⟩ v2)).setCell ⟨g, 3, none⟩ v3).cell? ⟨g, 3, none⟩ = some v3 ∧
    (((((((((w.setCell ⟨g, 0, none⟩ v0)).setCell ⟨g, 1, none⟩ v1)).setCell ⟨g, 2, none⟩ v2)).setCell ⟨g, 3, none⟩ v3)).setCell ⟨g, 4, none⟩ v4).cell? ⟨g, 4, none⟩ = some v4 ∧
    (((((((((((w.setCell ⟨g, 0, none⟩ v0)).setCell ⟨g, 1, none⟩ v1)).setCell ⟨g, 2, none⟩ v2)).setCell ⟨g, 3, none⟩ v3)).setCell ⟨g, 4, none⟩ v4)).setCell ⟨g, 5, none⟩ v5).cell? ⟨g, 5, none⟩ = some v5 ∧
    (((((((((((((w.setCell ⟨g, 0, none⟩ v0)).setCell ⟨g, 1, none⟩ v1)).setCell ⟨g, 2, none⟩ v2)).setCell ⟨g, 3, none⟩ v3)).setCell ⟨g, 4, none⟩ v4)).setCell ⟨g, 5, none⟩ v5)).setCell ⟨g, 6, none⟩ v6).cell? ⟨g, 6, none⟩ = some v6 ∧
    (((((((((((((((w.setCell ⟨g, 0, none⟩ v0)).setCell ⟨g, 1, none⟩ v1)).setCell ⟨g, 2, none⟩ v2)).setCell ⟨g, 3, none⟩ v3)).setCell ⟨g, 4, none⟩ v4)).setCell ⟨g, 5, none⟩ v5)).setCell ⟨g, 6, none⟩ v6)).setCell ⟨g, 7, none⟩ v7).cell? ⟨g, 7, none⟩ = some v7 ∧
    (((((((((((((((((w.setCell ⟨g, 0, none⟩ v0)).setCell ⟨g, 1, none⟩ v1)).setCell ⟨g, 2, none⟩ v2)).setCell ⟨g, 3, none⟩ v3)).setCell ⟨g, 4, none⟩ v4)).setCell ⟨g, 5, none⟩ v5)).setCell ⟨g, 6, none⟩ v6)).setCell ⟨g, 7, none⟩ v7)).setCell ⟨g, 8, none⟩ v8).cell? ⟨g, 8, none⟩ = some v8 := by
  have h1 := blk_set_ h 0 v0
  have h2 := blk_set_ h1 1 v1
  have h3 := blk_set_ h2 2 v2
  have h4 := blk_set_ h3 3 v3
  have h5 := blk_set_ h4 4 v4
  have h6 := blk_set_ h5 5 v5
  have h7 := blk_set_ h6 6 v6
  have h8 := blk_set_ h7 7 v7
  exact ⟨cell_set h 0 (by simp) v0, cell_set h1 1 (by simp) v1, cell_set h2 2 (by simp) v2, cell_set h3 3 (by simp) v3, cell_set h4 4 (by simp) v4, cell_set h5 5 (by simp) v5, cell_set h6 6 (by simp) v6, cell_set h7 7 (by simp) v7, cell_set h8 8 (by simp) v8⟩

theorem rparse6_bad (src dst : Int) (A : Option Addr) (n c : Nat) (b : List Int) (w : World) (hc : n ≤ c ∧ c ≤ maxLen) (hr : Rd w A n b) (hx : errSeg src dst b ≠ 0) :
    Calls Try.prog 18 #[.int .u32 src, .int .u32 dst, .slice A n c] w (SegBad (errSeg src dst b) w) := by
  have hl := hr.len
  have hb0 : Below w.heap.size w ((w.alloc (.cells #[.int .u16 0, .int .u16 0, .int .u32 0, .int .u32 0, .int .u8 0, .int .u16 0, .int .u16 0, .slice none 0 0, .slice none 0 0] 27)).alloc (.cells #[.int .u16 0, .int .u16 0, .int .u32 0, .int .u32 0, .int .u8 0, .int .u16 0, .int .u16 0, .slice none 0 0, .slice none 0 0] 27)) := ((Below.refl _ _).alloc (Nat.le_refl _) _).alloc (by simp) _
  have Hb0 := Lib.hid hb0
  have Hr := Lib.hid (hr.below hb0)
  have Hl := Lib.hid hl
  by_cases h1 : 1480 < n
  · have Hx := Lib.hid (show errSeg src dst b = 3 by unfold errSeg; rw [if_pos (by omega)])
    have i1 : 1480 < (n : Int) := by omega
    rw [Hx.out]
    clear hr hl hb0 hx h1
    go_enter Try.func18, Try.ntmps18
    go_wp2_with fail
    refine bodyPost_ret (v := .tuple #[.agg #[.int .u16 0, .int .u16 0, .int .u32 0, .int .u32 0, .int .u8 0, .int .u16 0, .int .u16 0, .slice none 0 0, .slice none 0 0], .int .i64 3]) (by simp [results, Try.results18, go_sem]) rfl ⟨rfl, ?_⟩
    exact Hb0.out
  have i1 : (n : Int) ≤ 1480 := by omega
  by_cases h2 : n < 20
  · have Hx := Lib.hid (show errSeg src dst b = 4 by unfold errSeg; rw [if_neg (by omega), if_pos (by omega)])
    have i2 : (n : Int) < 20 := by omega
    rw [Hx.out]
    clear hr hl hb0 hx h1 h2
    go_enter Try.func18, Try.ntmps18
    go_wp2_with fail
    refine bodyPost_ret (v := .tuple #[.agg #[.int .u16 0, .int .u16 0, .int .u32 0, .int .u32 0, .int .u8 0, .int .u16 0, .int .u16 0, .slice none 0 0, .slice none 0 0], .int .i64 4]) (by simp [results, Try.results18, go_sem]) rfl ⟨rfl, ?_⟩
    exact Hb0.out
  have i2 : 20 ≤ (n : Int) := by omega
  obtain ⟨p, hix, hc12, hpb, hx0, hx1⟩ := byte_at (c := c) Hr.out 12 12 (by omega) rfl
  obtain ⟨x, ex⟩ : ∃ x, b.getD 12 0 = x := ⟨_, rfl⟩
  have hoff : offB b = (x / 16 * 4).toNat := by unfold offB; rw [ex]
  rw [ex] at hc12 hx0 hx1
  have Hoff := Lib.hid hoff
  clear ex
  have h3 : ¬ 1480 < b.length := by omega
  have h4 : ¬ b.length < 20 := by omega
  by_cases i3 : x / 16 * 4 < 20
  · have Hx := Lib.hid (show errSeg src dst b = 5 by unfold errSeg; rw [if_neg h3, if_neg h4, if_pos (by omega)])
    rw [Hx.out]
    clear hr hl hb0 hx h1 h2 h3 h4 hoff
    go_enter Try.func18, Try.ntmps18
    go_wp2_with fail
    refine bodyPost_ret (v := .tuple #[.agg #[.int .u16 0, .int .u16 0, .int .u32 0, .int .u32 0, .int .u8 0, .int .u16 0, .int .u16 0, .slice none 0 0, .slice none 0 0], .int .i64 5]) (by simp [results, Try.results18, go_sem]) rfl ⟨rfl, ?_⟩
    exact Hb0.out
  by_cases i4 : (n : Int) < x / 16 * 4
  · have Hx := Lib.hid (show errSeg src dst b = 4 by unfold errSeg; rw [if_neg h3, if_neg h4, if_neg (by omega), if_pos (by omega)])
    rw [Hx.out]
    clear hr hl hb0 hx h1 h2 h3 h4 hoff
    go_enter Try.func18, Try.ntmps18
    go_wp2_with fail
    refine bodyPost_ret (v := .tuple #[.agg #[.int .u16 0, .int .u16 0, .int .u32 0, .int .u32 0, .int .u8 0, .int .u16 0, .int .u16 0, .slice none 0 0, .slice none 0 0], .int .i64 4]) (by simp [results, Try.results18, go_sem]) rfl ⟨rfl, ?_⟩
    exact Hb0.out
  have h5 : ¬ offB b < 20 := by omega
  have h6 : ¬ b.length < offB b := by omega
  have Hx0 := Lib.hid hx
  clear hr hl hb0 h1 h2 hoff
  go_enter Try.func18, Try.ntmps18
  go_wp2_with fail
  refine (whole_any src dst A n c b _ (by omega) Hr.out).mono ?_
  rintro e w1 ⟨A1, c1, rfl, _, _, hown, hb1⟩
  have hby : ∀ x ∈ pseudoL src dst 6 n ++ b, 0 ≤ x ∧ x < 256 := fun x hx => by
    rcases List.mem_append.1 hx with h1 | h1
    · exact pseudo_byte _ _ _ _ (by omega) x h1
    · exact Hr.out.byte x h1
  have Hs := Lib.hid (rsum_any A1 (12 + n) c1 _ w1 (by omega) (hown.rd hby))
  have Hb1 := Lib.hid (Hb0.out.trans (hb1.mono Hb0.out.size))
  have Hr1 := Lib.hid (Hr.out.below hb1)
  have hblk0 := blk_on (g := w.heap.size) (by rw [Below.heap_alloc _ _ _ (by simp)]; exact heap_alloc_new w _) hb1
  have hblk1 := blk_on (g := w.heap.size + 1) (by simpa using heap_alloc_new (w.alloc (.cells #[.int .u16 0, .int .u16 0, .int .u32 0, .int .u32 0, .int .u8 0, .int .u16 0, .int .u16 0, .slice none 0 0, .slice none 0 0] 27)) (.cells #[.int .u16 0, .int .u16 0, .int .u32 0, .int .u32 0, .int .u8 0, .int .u16 0, .int .u16 0, .slice none 0 0, .slice none 0 0] 27)) hb1
  have Hk0 := Lib.hid hblk0
  have Hk1 := Lib.hid hblk1
  clear hblk0 hblk1
  go_wp2_with fail
  refine Hs.out.mono ?_
  rintro e w2 ⟨rfl, rfl⟩
  obtain ⟨y, ey⟩ : ∃ y, sumL (pseudoL src dst 6 n ++ b) = y := ⟨_, rfl⟩
  have hsy : sumL (pseudoL src dst 6 b.length ++ b) = y := by rw [Hl.out, ey]
  rw [ey]
  have Hsy := Lib.hid hsy
  clear ey hown hb1
  by_cases i5 : y = 65535
  · subst i5
    have hne : ((65535 : Int) == 65535) = true := rfl
    have Hx := Lib.hid (show errSeg src dst b = 5 by
      have h8 : (parseO ((b.take (offB b)).drop 20)).2 ≠ 0 := by
        intro h8
        refine Hx0.out ?_
        unfold errSeg
        rw [if_neg h3, if_neg h4, if_neg h5, if_neg h6, if_neg (by rw [Hsy.out]; simp), if_neg (by simp [h8])]
      unfold errSeg
      rw [if_neg h3, if_neg h4, if_neg h5, if_neg h6, if_neg (by rw [Hsy.out]; simp), if_pos h8])
    rw [Hx.out]
    have Hz := Lib.hid (show (parseO ((b.take (offB b)).drop 20)).2 ≠ 0 by
        intro h8
        refine Hx0.out ?_
        unfold errSeg
        rw [if_neg h3, if_neg h4, if_neg h5, if_neg h6, if_neg (by rw [Hsy.out]; simp), if_neg (by simp [h8])])
    obtain ⟨A2, hcut, hr2⟩ := Hr1.out.part (c := c) 20 (offB b) 20 (x / 16 * 4) (by omega) (by omega) (by have := Hl.out; omega) hc.1 hc.2 rfl (by have := Hoff.out; omega)
    have Hr2 := Lib.hid hr2
    have Hp2 := Lib.hid (rparse_any A2 (offB b - 20) (c - 20) ((b.take (offB b)).drop 20) w1 (by have := Hl.out; have := hc.1; have := hc.2; omega) Hr2.out)
    clear hx hsy hr2 h3 h4 h5 h6
    go_wp2_with fail
    refine Hp2.out.mono ?_
    rintro e w3 ⟨A3, m3, c3, os, rfl, hown3, hrd3, hb3⟩
    have Hb3 := Lib.hid (Hb1.out.trans (hb3.mono Hb1.out.size))
    have Hk0 := Lib.hid (blk_on Hk0.out hb3)
    have Hk1 := Lib.hid (blk_on Hk1.out hb3)
    obtain ⟨z, ez⟩ : ∃ z, (parseO ((b.take (offB b)).drop 20)).2 = z := ⟨_, rfl⟩
    have hz := Hz.out
    rw [ez] at hz
    rw [ez]
    clear ez hown3 hrd3 hb3
    have hzb : (z == 0) = false := by simpa using hz
    have hzn : (z != 0) = true := by simpa using hz
    have hz0 := Hk0.out
    have hz1 := Hk1.out
    obtain ⟨p0, p1, p2, p3, p4, p5, p6, p7, p8⟩ := seg_cells hz0
    obtain ⟨q0, q1, q2, q3, q4, q5, q6, q7, q8⟩ := seg_cells hz1
    have pf := blk_free hz0
    go_wp2_with fail
    obtain ⟨s0, s1, s2, s3, s4, s5, s6, s7, s8⟩ := set9_cells hz0 (.int .u16 0) (.int .u16 0) (.int .u32 0) (.int .u32 0) (.int .u8 0) (.int .u16 0) (.int .u16 0) (.slice none 0 0) (.slice none 0 0)
    refine bodyPost_ret (v := .tuple #[.agg #[.int .u16 0, .int .u16 0, .int .u32 0, .int .u32 0, .int .u8 0, .int .u16 0, .int .u16 0, .slice none 0 0, .slice none 0 0], .int .i64 5]) (by simp [results, Try.results18, go_sem, s0, s1, s2, s3, s4, s5, s6, s7, s8]) rfl ⟨by rw [Hx.out], ?_⟩
    exact (((((((((Hb3.out.setCell (by simp) _).setCell (by simp) _).setCell (by simp) _).setCell (by simp) _).setCell (by simp) _).setCell (by simp) _).setCell (by simp) _).setCell (by simp) _).setCell (by simp) _)
  · have hne : (y == 65535) = false := by simpa using i5
    have Hx := Lib.hid (show errSeg src dst b = 20 by
      unfold errSeg
      rw [if_neg h3, if_neg h4, if_neg h5, if_neg h6, if_pos (by rw [Hsy.out]; exact i5)])
    rw [Hx.out]
    have hyn : (y != 65535) = true := by simpa using i5
    have hz0 := Hk0.out
    have hz1 := Hk1.out
    obtain ⟨p0, p1, p2, p3, p4, p5, p6, p7, p8⟩ := seg_cells hz0
    obtain ⟨q0, q1, q2, q3, q4, q5, q6, q7, q8⟩ := seg_cells hz1
    have pf := blk_free hz0
    clear hx hsy h3 h4 h5 h6
    go_wp2_with fail
    obtain ⟨s0, s1, s2, s3, s4, s5, s6, s7, s8⟩ := set9_cells hz0 (.int .u16 0) (.int .u16 0) (.int .u32 0) (.int .u32 0) (.int .u8 0) (.int .u16 0) (.int .u16 0) (.slice none 0 0) (.slice none 0 0)
    refine bodyPost_ret (v := .tuple #[.agg #[.int .u16 0, .int .u16 0, .int .u32 0, .int .u32 0, .int .u8 0, .int .u16 0, .int .u16 0, .slice none 0 0, .slice none 0 0], .int .i64 20]) (by simp [results, Try.results18, go_sem, s0, s1, s2, s3, s4, s5, s6, s7, s8]) rfl ⟨by rw [Hx.out], ?_⟩
    exact (((((((((Hb1.out.setCell (by simp) _).setCell (by simp) _).setCell (by simp) _).setCell (by simp) _).setCell (by simp) _).setCell (by simp) _).setCell (by simp) _).setCell (by simp) _).setCell (by simp) _)
end Go.Proofs.Ytoblllgefmajiaa
