/-
  Texts laid together: IpRefPut, PkRef, InPay, PkSums.
-/
import Derived.Test.YtoegfgbalcholaaGreatZT26
import Derived.Test.YtoegfgbalcholaaGreatZT15
import Derived.Test.YtoegfgbalcholaaGreatZT11
import Derived.RegionTactic
import Derived.BigRegion
import Derived.Deep.DeepCutAuto
import Derived.Deep.CutRange
import Derived.Deep.RegionHeld3
import Derived.Test.YtoegfgbalcholaaGreatZT20
import Derived.Test.YtoegfgbalcholaaGreatZT25
import Derived.Test.YtoegfgbalcholaaGreatZT08
import Derived.Test.YtoegfgbalcholaaGreatZT18

/-
  The document's own answers for heads (culvertref04): Put.
-/
namespace Go.Proofs.YtoegfgbalcholaaGreat
set_option maxRecDepth 10000
open Go.RowKit
set_option linter.unusedSimpArgs false
set_option linter.unusedVariables false

theorem cells8 {w : World} {g : Nat} {u0 u1 u2 u3 u4 u5 u6 u7 : Value} {t : TypeId} (h : w.heap[g]? = some (.cells #[u0, u1, u2, u3, u4, u5, u6, u7] t (0, 0))) : w.cell? ⟨g, 0, none⟩ = some u0 ∧ w.cell? ⟨g, 1, none⟩ = some u1 ∧ w.cell? ⟨g, 2, none⟩ = some u2 ∧ w.cell? ⟨g, 3, none⟩ = some u3 ∧ w.cell? ⟨g, 4, none⟩ = some u4 ∧ w.cell? ⟨g, 5, none⟩ = some u5 ∧ w.cell? ⟨g, 6, none⟩ = some u6 ∧ w.cell? ⟨g, 7, none⟩ = some u7 := by
  refine ⟨?_, ?_, ?_, ?_, ?_, ?_, ?_, ?_⟩ <;> (rw [blk_cell h]; rfl)
/-- A row being laid beside a block that stays. -/
structure Lay4 (w : World) (z g : Nat) (hc : Array Value) (L : List Int) (w' : World) : Prop where
  own : OwnB w' g (some ⟨g, 0, none⟩) 20 20 L
  blk : w'.heap[z]? = some (.cells hc 26 (0, 0))
  low : Below g w w'
theorem Lay4.set_ {w : World} {z g : Nat} {hc : Array Value} {L : List Int} {w' : World} (h : Lay4 w z g hc L w') (hz : z ≠ g) (i : Nat) (x : Int) : Lay4 w z g hc (L.set i x) (w'.setCell ⟨g, i, none⟩ (.int .u8 x)) :=
  ⟨h.own.set_ i x, (Below.heap_setCell _ _ _ _ (by simpa using hz)).trans h.blk, h.low.setCell (p := ⟨g, i, none⟩) (Nat.le_refl _) _⟩
theorem Lay4.drew {w : World} {z g : Nat} {hc : Array Value} {L : List Int} {w' : World} (h : Lay4 w z g hc L w') : Lay4 w z g hc L w'.drew := ⟨h.own, h.blk, h.low.drew⟩
end Go.Proofs.YtoegfgbalcholaaGreat

/-
  The document's own answers for packets (culvertref09): Same, May, Put, Own.
-/
namespace Go.Proofs.YtoegfgbalcholaaGreat
set_option maxRecDepth 10000
open Go.RowKit
set_option linter.unusedSimpArgs false
set_option linter.unusedVariables false

theorem set9_24 {w : World} {q : Nat} {v0 v1 v2 v3 v4 v5 v6 v7 v8 v9 v10 v11 v12 v13 v14 v15 v16 v17 v18 v19 v20 v21 v22 v23 : Value} {t : TypeId} (h : w.heap[q]? = some (.cells #[v0, v1, v2, v3, v4, v5, v6, v7, v8, v9, v10, v11, v12, v13, v14, v15, v16, v17, v18, v19, v20, v21, v22, v23] t (0, 0))) (u0 u1 u2 u3 u4 u5 u6 u7 u8 : Value) : (((((((((w.setCell ⟨q, 8, none⟩ u0).setCell ⟨q, 9, none⟩ u1).setCell ⟨q, 10, none⟩ u2).setCell ⟨q, 11, none⟩ u3).setCell ⟨q, 12, none⟩ u4).setCell ⟨q, 13, none⟩ u5).setCell ⟨q, 14, none⟩ u6).setCell ⟨q, 15, none⟩ u7).setCell ⟨q, 16, none⟩ u8).heap[q]? = some (.cells #[v0, v1, v2, v3, v4, v5, v6, v7, u0, u1, u2, u3, u4, u5, u6, u7, u8, v17, v18, v19, v20, v21, v22, v23] t (0, 0)) := by
  have h0 := setCell_block (i := 8) h u0
  simp only [Array.set!, List.setIfInBounds_toArray, List.set_cons_succ, List.set_cons_zero] at h0
  have h1 := setCell_block (i := 9) h0 u1
  simp only [Array.set!, List.setIfInBounds_toArray, List.set_cons_succ, List.set_cons_zero] at h1
  have h2 := setCell_block (i := 10) h1 u2
  simp only [Array.set!, List.setIfInBounds_toArray, List.set_cons_succ, List.set_cons_zero] at h2
  have h3 := setCell_block (i := 11) h2 u3
  simp only [Array.set!, List.setIfInBounds_toArray, List.set_cons_succ, List.set_cons_zero] at h3
  have h4 := setCell_block (i := 12) h3 u4
  simp only [Array.set!, List.setIfInBounds_toArray, List.set_cons_succ, List.set_cons_zero] at h4
  have h5 := setCell_block (i := 13) h4 u5
  simp only [Array.set!, List.setIfInBounds_toArray, List.set_cons_succ, List.set_cons_zero] at h5
  have h6 := setCell_block (i := 14) h5 u6
  simp only [Array.set!, List.setIfInBounds_toArray, List.set_cons_succ, List.set_cons_zero] at h6
  have h7 := setCell_block (i := 15) h6 u7
  simp only [Array.set!, List.setIfInBounds_toArray, List.set_cons_succ, List.set_cons_zero] at h7
  have h8 := setCell_block (i := 16) h7 u8
  simp only [Array.set!, List.setIfInBounds_toArray, List.set_cons_succ, List.set_cons_zero] at h8
  exact h8
theorem set9_24b {W w : World} {B q : Nat} (h : Below B W w) (hq : B ≤ q) (u0 u1 u2 u3 u4 u5 u6 u7 u8 : Value) : Below B W (((((((((w.setCell ⟨q, 8, none⟩ u0).setCell ⟨q, 9, none⟩ u1).setCell ⟨q, 10, none⟩ u2).setCell ⟨q, 11, none⟩ u3).setCell ⟨q, 12, none⟩ u4).setCell ⟨q, 13, none⟩ u5).setCell ⟨q, 14, none⟩ u6).setCell ⟨q, 15, none⟩ u7).setCell ⟨q, 16, none⟩ u8) :=
  ((((((((h.setCell (p := ⟨q, 8, none⟩) hq _).setCell (p := ⟨q, 9, none⟩) hq _).setCell (p := ⟨q, 10, none⟩) hq _).setCell (p := ⟨q, 11, none⟩) hq _).setCell (p := ⟨q, 12, none⟩) hq _).setCell (p := ⟨q, 13, none⟩) hq _).setCell (p := ⟨q, 14, none⟩) hq _).setCell (p := ⟨q, 15, none⟩) hq _).setCell (p := ⟨q, 16, none⟩) hq _
theorem set3_24 {w : World} {q : Nat} {v0 v1 v2 v3 v4 v5 v6 v7 v8 v9 v10 v11 v12 v13 v14 v15 v16 v17 v18 v19 v20 v21 v22 v23 : Value} {t : TypeId} (h : w.heap[q]? = some (.cells #[v0, v1, v2, v3, v4, v5, v6, v7, v8, v9, v10, v11, v12, v13, v14, v15, v16, v17, v18, v19, v20, v21, v22, v23] t (0, 0))) (u0 u1 u2 : Value) : (((w.setCell ⟨q, 17, none⟩ u0).setCell ⟨q, 18, none⟩ u1).setCell ⟨q, 19, none⟩ u2).heap[q]? = some (.cells #[v0, v1, v2, v3, v4, v5, v6, v7, v8, v9, v10, v11, v12, v13, v14, v15, v16, u0, u1, u2, v20, v21, v22, v23] t (0, 0)) := by
  have h0 := setCell_block (i := 17) h u0
  simp only [Array.set!, List.setIfInBounds_toArray, List.set_cons_succ, List.set_cons_zero] at h0
  have h1 := setCell_block (i := 18) h0 u1
  simp only [Array.set!, List.setIfInBounds_toArray, List.set_cons_succ, List.set_cons_zero] at h1
  have h2 := setCell_block (i := 19) h1 u2
  simp only [Array.set!, List.setIfInBounds_toArray, List.set_cons_succ, List.set_cons_zero] at h2
  exact h2
theorem set3_24b {W w : World} {B q : Nat} (h : Below B W w) (hq : B ≤ q) (u0 u1 u2 : Value) : Below B W (((w.setCell ⟨q, 17, none⟩ u0).setCell ⟨q, 18, none⟩ u1).setCell ⟨q, 19, none⟩ u2) :=
  ((h.setCell (p := ⟨q, 17, none⟩) hq _).setCell (p := ⟨q, 18, none⟩) hq _).setCell (p := ⟨q, 19, none⟩) hq _
theorem set4_24 {w : World} {q : Nat} {v0 v1 v2 v3 v4 v5 v6 v7 v8 v9 v10 v11 v12 v13 v14 v15 v16 v17 v18 v19 v20 v21 v22 v23 : Value} {t : TypeId} (h : w.heap[q]? = some (.cells #[v0, v1, v2, v3, v4, v5, v6, v7, v8, v9, v10, v11, v12, v13, v14, v15, v16, v17, v18, v19, v20, v21, v22, v23] t (0, 0))) (u0 u1 u2 u3 : Value) : ((((w.setCell ⟨q, 20, none⟩ u0).setCell ⟨q, 21, none⟩ u1).setCell ⟨q, 22, none⟩ u2).setCell ⟨q, 23, none⟩ u3).heap[q]? = some (.cells #[v0, v1, v2, v3, v4, v5, v6, v7, v8, v9, v10, v11, v12, v13, v14, v15, v16, v17, v18, v19, u0, u1, u2, u3] t (0, 0)) := by
  have h0 := setCell_block (i := 20) h u0
  simp only [Array.set!, List.setIfInBounds_toArray, List.set_cons_succ, List.set_cons_zero] at h0
  have h1 := setCell_block (i := 21) h0 u1
  simp only [Array.set!, List.setIfInBounds_toArray, List.set_cons_succ, List.set_cons_zero] at h1
  have h2 := setCell_block (i := 22) h1 u2
  simp only [Array.set!, List.setIfInBounds_toArray, List.set_cons_succ, List.set_cons_zero] at h2
  have h3 := setCell_block (i := 23) h2 u3
  simp only [Array.set!, List.setIfInBounds_toArray, List.set_cons_succ, List.set_cons_zero] at h3
  exact h3
theorem set4_24b {W w : World} {B q : Nat} (h : Below B W w) (hq : B ≤ q) (u0 u1 u2 u3 : Value) : Below B W ((((w.setCell ⟨q, 20, none⟩ u0).setCell ⟨q, 21, none⟩ u1).setCell ⟨q, 22, none⟩ u2).setCell ⟨q, 23, none⟩ u3) :=
  (((h.setCell (p := ⟨q, 20, none⟩) hq _).setCell (p := ⟨q, 21, none⟩) hq _).setCell (p := ⟨q, 22, none⟩) hq _).setCell (p := ⟨q, 23, none⟩) hq _

theorem zeroDg_num : DgNum zeroDg := ⟨by decide, by decide⟩
theorem zeroM_num : MsgNum zeroM := ⟨by decide, by decide, by decide⟩
end Go.Proofs.YtoegfgbalcholaaGreat

/-
  culvertlaw16's payload (stage 16, written ahead).
-/
namespace Go.Proofs.YtoegfgbalcholaaGreat
set_option maxRecDepth 10000
open Go.RowKit
set_option linter.unusedSimpArgs false
set_option linter.unusedVariables false

def knowP (p : Pk) : Prop := p.h.pr = 6 ∨ p.h.pr = 17 ∨ p.h.pr = 1
def okP (p : Pk) : Int := if p.h.pr = 6 then errS p.s else if p.h.pr = 17 then errUP p.u else if p.h.pr = 1 then errP p.m else 22
def payP (p : Pk) : List Int := if p.h.pr = 6 then toldB p.h.sr p.h.ds p.s else if p.h.pr = 17 then toldU p.h.sr p.h.ds p.u else if p.h.pr = 1 then toldM p.m else []
end Go.Proofs.YtoegfgbalcholaaGreat

/-
  A packet's bytes that Put tells: lengths, and sums worked out anew. No function of the program.
-/
namespace Go.Proofs.YtoegfgbalcholaaGreat
set_option maxRecDepth 10000
open Go.RowKit

theorem ws_b16h (x : Int) : ws false (b16 x) = x := by simp [b16, ws]; omega
theorem head_sum (h : Hd) (P : List Int) (hn : HdNum h) (ho : ∀ x ∈ h.o, 0 ≤ x ∧ x < 256) (h40 : h.o.length ≤ 40) (hl : 20 + h.o.length + P.length ≤ 1500) : sumL ((hdB h P).take (20 + h.o.length)) = 65535 := by
  obtain ⟨a, ea⟩ : ∃ a, aheadL h.to h.id h.df h.tt h.pr h.o.length (20 + h.o.length + P.length) = a := ⟨_, rfl⟩
  obtain ⟨b, eb⟩ : ∃ b, behindL h.sr h.ds h.o = b := ⟨_, rfl⟩
  have ha : a.length = 10 := by rw [← ea]; rfl
  have hbl : b.length = 8 + h.o.length := by rw [← eb]; exact behindL_len _ _ _
  have h1 := ws_nn a (by rw [← ea]; exact aheadL_bytes hn.to hn.id hn.tt hn.pr h40 (by omega)) false
  have h2 := ws_nn b (by rw [← eb]; exact behindL_bytes hn.sr hn.ds ho) false
  have he : (hdB h P).take (20 + h.o.length) = a ++ (b16 (65535 - sumL (a ++ b)) ++ b) := by
    unfold hdB packetL fieldL
    rw [ea, eb, List.take_append_of_le_length (by simp [ha, hbl, b16]; omega), List.take_of_length_le (by simp [ha, hbl, b16]; omega), List.append_assoc]
  rw [he]
  unfold sumL
  rw [ws_even _ _ (by omega), ws_even _ _ (by simp [b16]), ws_b16h, ws_even _ _ (by omega)]
  generalize ws false a = x at *
  generalize ws false b = y at *
  unfold fold16
  split <;> split <;> omega
/-- What is so of a packet that Put lays. -/
theorem errPk_zero {q : Pk} (h : errPk q = 0) : mayP q = true ∧ errLoad q = 0 ∧ 20 + q.h.o.length + (loadB q).length ≤ 1500 ∧ pkB q = hdB q.h (loadB q) := by
  have hb : pkB q = hdB q.h (loadB q) := by unfold pkB; rw [if_pos h]
  unfold errPk at h
  by_cases h1 : mayP q = true
  · rw [if_pos h1] at h
    by_cases h2 : errLoad q = 0
    · rw [if_pos h2] at h
      by_cases h3 : 1500 < 20 + q.h.o.length + (loadB q).length
      · rw [if_pos h3] at h; exact absurd h (by decide)
      · exact ⟨h1, h2, by omega, hb⟩
    · rw [if_neg h2] at h; exact absurd h h2
  · rw [if_neg h1] at h; exact absurd h (by decide)
theorem may_zero {q : Pk} (h : mayP q = true) : (q.h.pr = 6 ∨ q.h.pr = 17 ∨ q.h.pr = 1) ∧ q.h.o.length ≤ 40 ∧ q.h.o.length % 4 = 0 := by
  unfold mayP mayB at h
  simp only [Bool.and_eq_true, Bool.or_eq_true, decide_eq_true_eq] at h
  exact ⟨h.1, h.2.1.1.2, h.2.1.2⟩
theorem reads_bytes {w : World} : ∀ {os : List OptV} {ls : List (Int × List Int)}, Reads w os ls → ∀ l ∈ ls, (0 ≤ l.1 ∧ l.1 < 256) ∧ ∀ x ∈ l.2, 0 ≤ x ∧ x < 256
  | [], [], _, l, hl => by cases hl
  | o :: os, l :: ls, h, u, hu => by
    rcases List.mem_cons.1 hu with rfl | hu
    · exact ⟨by rw [← h.1.1]; exact h.1.2.1, h.1.2.2.2.2.byte⟩
    · exact reads_bytes h.2 u hu
end Go.Proofs.YtoegfgbalcholaaGreat
