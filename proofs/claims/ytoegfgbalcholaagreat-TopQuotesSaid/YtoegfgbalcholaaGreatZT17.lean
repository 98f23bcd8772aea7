/-
  The contract of package ipv4's Parse: what is wrong is told as the document's own order has it; else the head and the payload, in rows of the call's own.
-/
import Derived.Test.YtoegfgbalcholaaGreatZT01
import Derived.Test.YtoegfgbalcholaaGreatZT16
import Derived.Test.YtoegfgbalcholaaGreatZT07
import Derived.Deep.RegionHeld3
namespace Go.Proofs.YtoegfgbalcholaaGreat
set_option maxRecDepth 10000
open Go.RowKit

def headCells (tos id_ : Int) (df : Bool) (ttl proto src dst : Int) (A : Option Addr) (n c : Nat) : Array Value := #[.int .u8 tos, .int .u16 id_, .bool df, .int .u8 ttl, .int .u8 proto, .int .u32 src, .int .u32 dst, .slice A n c]
/-- What Parse's closure leaves. -/
def IpParseR (q s : Nat) (b : List Int) (w1 : World) (x : Int) (w' : World) : Prop :=
  x = errIp b ∧ ((x ≠ 0 ∧ w'.heap[q]? = some (.cells (headCells 0 0 false 0 0 0 0 none 0 0) 26 (0, 0)) ∧ Box w' s 24 (.slice none 0 0)) ∨
    (x = 0 ∧ ∃ Ao no co Ap np cp, w'.heap[q]? = some (.cells (headCells (b.getD 1 0) (b.getD 4 0 * 256 + b.getD 5 0) (decide (flagsL b = 16384)) (b.getD 8 0) (b.getD 9 0)
      (((b.getD 12 0 * 256 + b.getD 13 0) * 256 + b.getD 14 0) * 256 + b.getD 15 0) (((b.getD 16 0 * 256 + b.getD 17 0) * 256 + b.getD 18 0) * 256 + b.getD 19 0) Ao no co) 26 (0, 0)) ∧
      Box w' s 24 (.slice Ap np cp) ∧ OwnB w' w1.heap.size Ao no co ((b.drop 20).take ((hdrL b).toNat - 20)) ∧ OwnB w' w1.heap.size Ap np cp (b.drop (hdrL b).toNat)))

theorem set8_blk {w : World} {q : Nat} {u0 u1 u2 u3 u4 u5 u6 u7 : Value} {t : TypeId} (h : w.heap[q]? = some (.cells #[u0, u1, u2, u3, u4, u5, u6, u7] t (0, 0))) (v0 v1 v2 v3 v4 v5 v6 v7 : Value) :
    ((((((((w.setCell ⟨q, 0, none⟩ v0).setCell ⟨q, 1, none⟩ v1).setCell ⟨q, 2, none⟩ v2).setCell ⟨q, 3, none⟩ v3).setCell ⟨q, 4, none⟩ v4).setCell ⟨q, 5, none⟩ v5).setCell ⟨q, 6, none⟩ v6).setCell ⟨q, 7, none⟩ v7).heap[q]? = some (.cells #[v0, v1, v2, v3, v4, v5, v6, v7] t (0, 0)) := by
  have h1 := setCell_block (i := 0) h v0
  have h2 := setCell_block (i := 1) h1 v1
  have h3 := setCell_block (i := 2) h2 v2
  have h4 := setCell_block (i := 3) h3 v3
  have h5 := setCell_block (i := 4) h4 v4
  have h6 := setCell_block (i := 5) h5 v5
  have h7 := setCell_block (i := 6) h6 v6
  have h8 := setCell_block (i := 7) h7 v7
  simpa using h8
theorem set8_but (w : World) (q : Nat) (v0 v1 v2 v3 v4 v5 v6 v7 : Value) : But (fun k => k = q) w ((((((((w.setCell ⟨q, 0, none⟩ v0).setCell ⟨q, 1, none⟩ v1).setCell ⟨q, 2, none⟩ v2).setCell ⟨q, 3, none⟩ v3).setCell ⟨q, 4, none⟩ v4).setCell ⟨q, 5, none⟩ v5).setCell ⟨q, 6, none⟩ v6).setCell ⟨q, 7, none⟩ v7) := (((((((((But.refl (fun k => k = q) w).setCell (p := ⟨q, 0, none⟩) rfl v0).setCell (p := ⟨q, 1, none⟩) rfl v1).setCell (p := ⟨q, 2, none⟩) rfl v2).setCell (p := ⟨q, 3, none⟩) rfl v3).setCell (p := ⟨q, 4, none⟩) rfl v4).setCell (p := ⟨q, 5, none⟩) rfl v5).setCell (p := ⟨q, 6, none⟩) rfl v6).setCell (p := ⟨q, 7, none⟩) rfl v7)

theorem ne7 (x1 x2 x3 x4 x5 x6 x7 : Bool) : ∀ p ∈ [(x1, (5 : Int)), (x2, 4), (x3, 5), (x4, 20), (x5, 5), (x6, 21), (x7, 23)], p.2 ≠ 0 := by simp

theorem parse1_long (B g p q s n c : Nat) (A : Option Addr) (b : List Int) (w : World) (hB : p < B ∧ q < B ∧ s < B ∧ p ≠ q ∧ p ≠ s ∧ q ≠ s) (hl : 1500 < n) (hlen : b.length = n)
    (hp : Box w p 24 (.slice A n c)) (hq : w.heap[q]? = some (.cells (headCells 0 0 false 0 0 0 0 none 0 0) 26 (0, 0))) (hs : Box w s 24 (.slice none 0 0)) (h : Rdr w B g b 0) :
    Calls Tryz.prog 68 #[.pointer (some ⟨g, 0, none⟩), .pointer (some ⟨p, 0, none⟩), .pointer (some ⟨q, 0, none⟩), .pointer (some ⟨s, 0, none⟩)] w
      (Did (fun k => k = q ∨ k = s) g (IpParseR q s b w) w) := by
  have hpc := hp.cell
  have hli : 1500 < (n : Int) := by omega
  have hg : B ≤ g := h.choose_spec.choose_spec.choose_spec.2.2.2.1.1
  have Hr := Lib.hid h
  have Hq := Lib.hid hq
  have Hs := Lib.hid hs
  have Hlen := Lib.hid hlen
  clear h hp hq hs hlen
  go_enter Tryz.func68, Tryz.ntmps68
  go_wp2_with fail
  refine (ask_any B g _ 1 1 [(true, 3)] b 0 _ (by omega) (RdF.one _ _ (by rfl) _ _ _ _) (by decide) (Hr.out.below ((Below.refl _ _).alloc (Nat.le_refl _) _))).mono ?_
  rintro e w1 (⟨h0, _⟩ | ⟨_, rfl, ⟨A', n', c', a', hg1⟩, hb⟩)
  · cases h0
  have hbb := But.trans (But.of (S := fun k => k = g) ((Below.refl w.heap.size w).alloc (Nat.le_refl _) (.cells #[.bool true, .int .i64 3] 129))) hb
  exact ⟨rfl, ⟨3, A', n', c', a', .inr rfl, hg1, hbb.mono (fun _ _ hk => .inr hk), by unfold errIp; rw [if_pos (by have := Hlen.out; omega)], .inl ⟨by decide, hbb.blk Hq.out (by omega), Hs.out.but hbb (by omega)⟩⟩⟩

theorem parse1_short (B g p q s n c : Nat) (A : Option Addr) (l : List Int) (w : World) (hB : p < B ∧ q < B ∧ s < B ∧ p ≠ q ∧ p ≠ s ∧ q ≠ s) (hl : n < 20) (hlen : l.length = n)
    (hp : Box w p 24 (.slice A n c)) (hq : w.heap[q]? = some (.cells (headCells 0 0 false 0 0 0 0 none 0 0) 26 (0, 0))) (hs : Box w s 24 (.slice none 0 0)) (h : Rdr w B g l 0) :
    Calls Tryz.prog 68 #[.pointer (some ⟨g, 0, none⟩), .pointer (some ⟨p, 0, none⟩), .pointer (some ⟨q, 0, none⟩), .pointer (some ⟨s, 0, none⟩)] w
      (Did (fun k => k = q ∨ k = s) g (IpParseR q s l w) w) := by
  have hpc := hp.cell
  have hli : (n : Int) ≤ 1500 := by omega
  have hld : decide (1500 < (n : Int)) = false := by simp; omega
  have hg : B ≤ g := h.choose_spec.choose_spec.choose_spec.2.2.2.1.1
  have Hend := Lib.hid (show ∀ w', Gave w' g 4 → But (fun k => k = g) w w' → Did (fun k => k = q ∨ k = s) g (IpParseR q s l w) w (.panicked (gaveUp g)) w' from fun w' ⟨A', n', c', a', hg1⟩ hb =>
    ⟨4, A', n', c', a', .inr rfl, hg1, hb.mono (fun _ _ hk => .inr hk), by unfold errIp; rw [if_neg (by omega), if_pos (by omega)], .inl ⟨by decide, hb.blk hq (by omega), hs.but hb (by omega)⟩⟩)
  have Hr := Lib.hid h
  have Hlen := Lib.hid hlen
  have Hl := Lib.hid hl
  clear h hp hq hs hlen hl
  go_enter Tryz.func68, Tryz.ntmps68
  go_wp2_with fail
  have Hal := Lib.hid ((Below.refl w.heap.size w).alloc (Nat.le_refl _) (.cells #[.bool false, .int .i64 3] 129))
  refine (ask_any B g _ 1 1 [(false, 3)] l 0 _ (by omega) (RdF.one _ _ (by rfl) _ _ _ _) (by decide) (Hr.out.below Hal.out)).mono ?_
  rintro e w1 (⟨_, rfl, hb⟩ | ⟨h0, _⟩)
  rotate_left
  · exact absurd rfl h0
  have Hr := Lib.hid (Hr.out.below (below_trans Hal.out hb))
  have Hb := Lib.hid (But.of (S := fun k => k = g) (below_trans Hal.out hb))
  clear hb Hal
  go_wp2_with fail
  have Hl := Hl.out
  rcases l with _ | ⟨b0, l⟩
  · refine (u8_short B g [] _ _ (by simp) Hr.out).mono ?_
    rintro e w' ⟨rfl, hg1, hb⟩
    exact ⟨rfl, Hend.out w' hg1 (Hb.out.trans hb)⟩
  refine (u8_told B g b0 l _ _ Hr.out).mono ?_
  rintro e w1 ⟨rfl, hR, hb⟩
  have Hr := Lib.hid hR
  have Hb := Lib.hid (Hb.out.trans hb)
  clear hR hb
  go_wp2_with fail
  rcases l with _ | ⟨b1, l⟩
  · refine (u8_short B g [] _ _ (by simp) Hr.out).mono ?_
    rintro e w' ⟨rfl, hg1, hb⟩
    exact ⟨rfl, Hend.out w' hg1 (Hb.out.trans hb)⟩
  refine (u8_told B g b1 l _ _ Hr.out).mono ?_
  rintro e w1 ⟨rfl, hR, hb⟩
  have Hr := Lib.hid hR
  have Hb := Lib.hid (Hb.out.trans hb)
  clear hR hb
  go_wp2_with fail
  rcases l with _ | ⟨b2, l⟩
  · refine (u16_short B g [] _ _ (by simp) Hr.out).mono ?_
    rintro e w' ⟨rfl, hg1, hb⟩
    exact ⟨rfl, Hend.out w' hg1 (Hb.out.trans hb)⟩
  rcases l with _ | ⟨b3, l⟩
  · refine (u16_short B g [b2] _ _ (by simp) Hr.out).mono ?_
    rintro e w' ⟨rfl, hg1, hb⟩
    exact ⟨rfl, Hend.out w' hg1 (Hb.out.trans hb)⟩
  refine (u16_told B g b2 b3 l _ _ Hr.out).mono ?_
  rintro e w1 ⟨rfl, hR, hb⟩
  have Hr := Lib.hid hR
  have Hb := Lib.hid (Hb.out.trans hb)
  clear hR hb
  go_wp2_with fail
  rcases l with _ | ⟨b4, l⟩
  · refine (u16_short B g [] _ _ (by simp) Hr.out).mono ?_
    rintro e w' ⟨rfl, hg1, hb⟩
    exact ⟨rfl, Hend.out w' hg1 (Hb.out.trans hb)⟩
  rcases l with _ | ⟨b5, l⟩
  · refine (u16_short B g [b4] _ _ (by simp) Hr.out).mono ?_
    rintro e w' ⟨rfl, hg1, hb⟩
    exact ⟨rfl, Hend.out w' hg1 (Hb.out.trans hb)⟩
  refine (u16_told B g b4 b5 l _ _ Hr.out).mono ?_
  rintro e w1 ⟨rfl, hR, hb⟩
  have Hr := Lib.hid hR
  have Hb := Lib.hid (Hb.out.trans hb)
  clear hR hb
  go_wp2_with fail
  rcases l with _ | ⟨b6, l⟩
  · refine (u16_short B g [] _ _ (by simp) Hr.out).mono ?_
    rintro e w' ⟨rfl, hg1, hb⟩
    exact ⟨rfl, Hend.out w' hg1 (Hb.out.trans hb)⟩
  rcases l with _ | ⟨b7, l⟩
  · refine (u16_short B g [b6] _ _ (by simp) Hr.out).mono ?_
    rintro e w' ⟨rfl, hg1, hb⟩
    exact ⟨rfl, Hend.out w' hg1 (Hb.out.trans hb)⟩
  refine (u16_told B g b6 b7 l _ _ Hr.out).mono ?_
  rintro e w1 ⟨rfl, hR, hb⟩
  have Hr := Lib.hid hR
  have Hb := Lib.hid (Hb.out.trans hb)
  clear hR hb
  go_wp2_with fail
  rcases l with _ | ⟨b8, l⟩
  · refine (u8_short B g [] _ _ (by simp) Hr.out).mono ?_
    rintro e w' ⟨rfl, hg1, hb⟩
    exact ⟨rfl, Hend.out w' hg1 (Hb.out.trans hb)⟩
  refine (u8_told B g b8 l _ _ Hr.out).mono ?_
  rintro e w1 ⟨rfl, hR, hb⟩
  have Hr := Lib.hid hR
  have Hb := Lib.hid (Hb.out.trans hb)
  clear hR hb
  go_wp2_with fail
  rcases l with _ | ⟨b9, l⟩
  · refine (u8_short B g [] _ _ (by simp) Hr.out).mono ?_
    rintro e w' ⟨rfl, hg1, hb⟩
    exact ⟨rfl, Hend.out w' hg1 (Hb.out.trans hb)⟩
  refine (u8_told B g b9 l _ _ Hr.out).mono ?_
  rintro e w1 ⟨rfl, hR, hb⟩
  have Hr := Lib.hid hR
  have Hb := Lib.hid (Hb.out.trans hb)
  clear hR hb
  go_wp2_with fail
  rcases l with _ | ⟨b10, l⟩
  · refine (u16_short B g [] _ _ (by simp) Hr.out).mono ?_
    rintro e w' ⟨rfl, hg1, hb⟩
    exact ⟨rfl, Hend.out w' hg1 (Hb.out.trans hb)⟩
  rcases l with _ | ⟨b11, l⟩
  · refine (u16_short B g [b10] _ _ (by simp) Hr.out).mono ?_
    rintro e w' ⟨rfl, hg1, hb⟩
    exact ⟨rfl, Hend.out w' hg1 (Hb.out.trans hb)⟩
  refine (u16_told B g b10 b11 l _ _ Hr.out).mono ?_
  rintro e w1 ⟨rfl, hR, hb⟩
  have Hr := Lib.hid hR
  have Hb := Lib.hid (Hb.out.trans hb)
  clear hR hb
  go_wp2_with fail
  rcases l with _ | ⟨b12, l⟩
  · refine (u32_short B g [] _ _ (by simp) Hr.out).mono ?_
    rintro e w' ⟨rfl, hg1, hb⟩
    exact ⟨rfl, Hend.out w' hg1 (Hb.out.trans hb)⟩
  rcases l with _ | ⟨b13, l⟩
  · refine (u32_short B g [b12] _ _ (by simp) Hr.out).mono ?_
    rintro e w' ⟨rfl, hg1, hb⟩
    exact ⟨rfl, Hend.out w' hg1 (Hb.out.trans hb)⟩
  rcases l with _ | ⟨b14, l⟩
  · refine (u32_short B g [b12, b13] _ _ (by simp) Hr.out).mono ?_
    rintro e w' ⟨rfl, hg1, hb⟩
    exact ⟨rfl, Hend.out w' hg1 (Hb.out.trans hb)⟩
  rcases l with _ | ⟨b15, l⟩
  · refine (u32_short B g [b12, b13, b14] _ _ (by simp) Hr.out).mono ?_
    rintro e w' ⟨rfl, hg1, hb⟩
    exact ⟨rfl, Hend.out w' hg1 (Hb.out.trans hb)⟩
  refine (u32_told B g b12 b13 b14 b15 l _ _ Hr.out).mono ?_
  rintro e w1 ⟨rfl, hR, hb⟩
  have Hr := Lib.hid hR
  have Hb := Lib.hid (Hb.out.trans hb)
  clear hR hb
  go_wp2_with fail
  rcases l with _ | ⟨b16, l⟩
  · refine (u32_short B g [] _ _ (by simp) Hr.out).mono ?_
    rintro e w' ⟨rfl, hg1, hb⟩
    exact ⟨rfl, Hend.out w' hg1 (Hb.out.trans hb)⟩
  rcases l with _ | ⟨b17, l⟩
  · refine (u32_short B g [b16] _ _ (by simp) Hr.out).mono ?_
    rintro e w' ⟨rfl, hg1, hb⟩
    exact ⟨rfl, Hend.out w' hg1 (Hb.out.trans hb)⟩
  rcases l with _ | ⟨b18, l⟩
  · refine (u32_short B g [b16, b17] _ _ (by simp) Hr.out).mono ?_
    rintro e w' ⟨rfl, hg1, hb⟩
    exact ⟨rfl, Hend.out w' hg1 (Hb.out.trans hb)⟩
  rcases l with _ | ⟨b19, l⟩
  · refine (u32_short B g [b16, b17, b18] _ _ (by simp) Hr.out).mono ?_
    rintro e w' ⟨rfl, hg1, hb⟩
    exact ⟨rfl, Hend.out w' hg1 (Hb.out.trans hb)⟩
  refine (u32_told B g b16 b17 b18 b19 l _ _ Hr.out).mono ?_
  rintro e w1 ⟨rfl, hR, hb⟩
  have Hr := Lib.hid hR
  have Hb := Lib.hid (Hb.out.trans hb)
  clear hR hb
  have := Hlen.out
  simp at this
  omega

set_option maxHeartbeats 4000000 in
set_option maxRecDepth 100000 in
theorem parse1_ok (B g p q s n c : Nat) (A : Option Addr) (b0 b1 b2 b3 b4 b5 b6 b7 b8 b9 b10 b11 b12 b13 b14 b15 b16 b17 b18 b19 : Int) (l : List Int) (w : World) (hB : p < B ∧ q < B ∧ s < B ∧ p ≠ q ∧ p ≠ s ∧ q ≠ s) (hl : n ≤ 1500) (hlen : (b0 :: b1 :: b2 :: b3 :: b4 :: b5 :: b6 :: b7 :: b8 :: b9 :: b10 :: b11 :: b12 :: b13 :: b14 :: b15 :: b16 :: b17 :: b18 :: b19 :: l).length = n) (hc : n ≤ c ∧ c ≤ maxLen) (hAB : ∀ x o, A = some ⟨x, o, none⟩ → x < B) (hA : Rd w A n (b0 :: b1 :: b2 :: b3 :: b4 :: b5 :: b6 :: b7 :: b8 :: b9 :: b10 :: b11 :: b12 :: b13 :: b14 :: b15 :: b16 :: b17 :: b18 :: b19 :: l))
    (hp : Box w p 24 (.slice A n c)) (hq : w.heap[q]? = some (.cells (headCells 0 0 false 0 0 0 0 none 0 0) 26 (0, 0))) (hs : Box w s 24 (.slice none 0 0)) (h : Rdr w B g (b0 :: b1 :: b2 :: b3 :: b4 :: b5 :: b6 :: b7 :: b8 :: b9 :: b10 :: b11 :: b12 :: b13 :: b14 :: b15 :: b16 :: b17 :: b18 :: b19 :: l) 0) :
    Calls Tryz.prog 68 #[.pointer (some ⟨g, 0, none⟩), .pointer (some ⟨p, 0, none⟩), .pointer (some ⟨q, 0, none⟩), .pointer (some ⟨s, 0, none⟩)] w
      (Did (fun k => k = q ∨ k = s) g (IpParseR q s (b0 :: b1 :: b2 :: b3 :: b4 :: b5 :: b6 :: b7 :: b8 :: b9 :: b10 :: b11 :: b12 :: b13 :: b14 :: b15 :: b16 :: b17 :: b18 :: b19 :: l) w) w) := by
  obtain ⟨b, eb⟩ : ∃ b, b = b0 :: b1 :: b2 :: b3 :: b4 :: b5 :: b6 :: b7 :: b8 :: b9 :: b10 :: b11 :: b12 :: b13 :: b14 :: b15 :: b16 :: b17 :: b18 :: b19 :: l := ⟨_, rfl⟩
  rw [← eb] at hlen hA ⊢
  have hbyte := hA.byte
  have x0 := hbyte b0 (by rw [eb]; simp)
  have x1 := hbyte b1 (by rw [eb]; simp)
  have x2 := hbyte b2 (by rw [eb]; simp)
  have x3 := hbyte b3 (by rw [eb]; simp)
  have x6 := hbyte b6 (by rw [eb]; simp)
  have x7 := hbyte b7 (by rw [eb]; simp)
  have x8 := hbyte b8 (by rw [eb]; simp)
  have hpc := hp.cell
  have hli : (n : Int) ≤ 1500 := by omega
  have hld : decide (1500 < (n : Int)) = false := by simp; omega
  have hg : B ≤ g := h.choose_spec.choose_spec.choose_spec.2.2.2.1.1
  have hgw : g < w.heap.size := lt_of_block h.choose_spec.choose_spec.choose_spec.2.2.2.2.2.1
  have Hr := Lib.hid h
  have Hp := Lib.hid hp
  have Hq := Lib.hid hq
  have Hs := Lib.hid hs
  have HA := Lib.hid hA
  have Hlen := Lib.hid hlen
  have Heb := Lib.hid eb
  clear h hp hq hs hA hlen hbyte
  go_enter Tryz.func68, Tryz.ntmps68
  go_wp2_with fail
  have Hal := Lib.hid ((Below.refl w.heap.size w).alloc (Nat.le_refl _) (.cells #[.bool false, .int .i64 3] 129))
  refine (ask_any B g _ 1 1 [(false, 3)] _ 0 _ (by omega) (RdF.one _ _ (by rfl) _ _ _ _) (by decide) (Hr.out.below Hal.out)).mono ?_
  rintro e w1 (⟨_, rfl, hb⟩ | ⟨h0, _⟩)
  rotate_left
  · exact absurd rfl h0
  have Hr := Lib.hid (Hr.out.below (below_trans Hal.out hb))
  have Hb := Lib.hid (But.of (S := fun k => k = g) (below_trans Hal.out hb))
  clear hb Hal eb
  have hand := u8_and15 b0 x0.1 x0.2
  obtain ⟨H, eH⟩ : ∃ H : Nat, b0 % 16 * 4 = (H : Int) := ⟨(b0 % 16 * 4).toNat, by omega⟩
  have hH : H ≤ 60 := by omega
  go_wp2_with fail
  refine (u8_told B g b0 (b1 :: b2 :: b3 :: b4 :: b5 :: b6 :: b7 :: b8 :: b9 :: b10 :: b11 :: b12 :: b13 :: b14 :: b15 :: b16 :: b17 :: b18 :: b19 :: l) _ _ Hr.out).mono ?_
  rintro e w1 ⟨rfl, hR, hb⟩
  have Hr := Lib.hid hR
  have Hb := Lib.hid (Hb.out.trans hb)
  clear hR hb
  go_wp2_with fail
  refine (u8_told B g b1 (b2 :: b3 :: b4 :: b5 :: b6 :: b7 :: b8 :: b9 :: b10 :: b11 :: b12 :: b13 :: b14 :: b15 :: b16 :: b17 :: b18 :: b19 :: l) _ _ Hr.out).mono ?_
  rintro e w1 ⟨rfl, hR, hb⟩
  have Hr := Lib.hid hR
  have Hb := Lib.hid (Hb.out.trans hb)
  clear hR hb
  go_wp2_with fail
  refine (u16_told B g b2 b3 (b4 :: b5 :: b6 :: b7 :: b8 :: b9 :: b10 :: b11 :: b12 :: b13 :: b14 :: b15 :: b16 :: b17 :: b18 :: b19 :: l) _ _ Hr.out).mono ?_
  rintro e w1 ⟨rfl, hR, hb⟩
  have Hr := Lib.hid hR
  have Hb := Lib.hid (Hb.out.trans hb)
  clear hR hb
  go_wp2_with fail
  refine (u16_told B g b4 b5 (b6 :: b7 :: b8 :: b9 :: b10 :: b11 :: b12 :: b13 :: b14 :: b15 :: b16 :: b17 :: b18 :: b19 :: l) _ _ Hr.out).mono ?_
  rintro e w1 ⟨rfl, hR, hb⟩
  have Hr := Lib.hid hR
  have Hb := Lib.hid (Hb.out.trans hb)
  clear hR hb
  go_wp2_with fail
  refine (u16_told B g b6 b7 (b8 :: b9 :: b10 :: b11 :: b12 :: b13 :: b14 :: b15 :: b16 :: b17 :: b18 :: b19 :: l) _ _ Hr.out).mono ?_
  rintro e w1 ⟨rfl, hR, hb⟩
  have Hr := Lib.hid hR
  have Hb := Lib.hid (Hb.out.trans hb)
  clear hR hb
  go_wp2_with fail
  refine (u8_told B g b8 (b9 :: b10 :: b11 :: b12 :: b13 :: b14 :: b15 :: b16 :: b17 :: b18 :: b19 :: l) _ _ Hr.out).mono ?_
  rintro e w1 ⟨rfl, hR, hb⟩
  have Hr := Lib.hid hR
  have Hb := Lib.hid (Hb.out.trans hb)
  clear hR hb
  go_wp2_with fail
  refine (u8_told B g b9 (b10 :: b11 :: b12 :: b13 :: b14 :: b15 :: b16 :: b17 :: b18 :: b19 :: l) _ _ Hr.out).mono ?_
  rintro e w1 ⟨rfl, hR, hb⟩
  have Hr := Lib.hid hR
  have Hb := Lib.hid (Hb.out.trans hb)
  clear hR hb
  go_wp2_with fail
  refine (u16_told B g b10 b11 (b12 :: b13 :: b14 :: b15 :: b16 :: b17 :: b18 :: b19 :: l) _ _ Hr.out).mono ?_
  rintro e w1 ⟨rfl, hR, hb⟩
  have Hr := Lib.hid hR
  have Hb := Lib.hid (Hb.out.trans hb)
  clear hR hb
  go_wp2_with fail
  refine (u32_told B g b12 b13 b14 b15 (b16 :: b17 :: b18 :: b19 :: l) _ _ Hr.out).mono ?_
  rintro e w1 ⟨rfl, hR, hb⟩
  have Hr := Lib.hid hR
  have Hb := Lib.hid (Hb.out.trans hb)
  clear hR hb
  go_wp2_with fail
  refine (u32_told B g b16 b17 b18 b19 (l) _ _ Hr.out).mono ?_
  rintro e w1 ⟨rfl, hR, hb⟩
  have Hr := Lib.hid hR
  have Hb := Lib.hid (Hb.out.trans hb)
  clear hR hb
  go_wp2_with fail
  obtain ⟨ba, oa, rfl, -, -⟩ := HA.out.at_ (by have := Hlen.out; rw [Heb.out] at this; simp at this; omega)
  obtain ⟨L, eL⟩ : ∃ L, b2 * 256 + b3 = L := ⟨_, rfl⟩
  obtain ⟨F, eF⟩ : ∃ F, b6 * 256 + b7 = F := ⟨_, rfl⟩
  have hL : 0 ≤ L ∧ L < 65536 := by omega
  have hF : 0 ≤ F ∧ F < 65536 := by omega
  rw [eL, eF]
  have EL := Lib.hid eL
  have EF := Lib.hid eF
  have EH := Lib.hid eH
  have hf1 := and16_bit 15 (by omega) F hF
  have hf2 := and16_mask 14 (by omega) F hF
  have hf3 := and16_bit 14 (by omega) F hF
  simp at hf1 hf2 hf3
  have Hf3 := Lib.hid hf3
  have hpc1 := (Hp.out.but Hb.out (by omega)).cell
  have hpl : p < w1.heap.size := by have := Hb.out.size; omega
  have HA1 := Lib.hid (HA.out.but Hb.out (fun x o e _ => by have := hAB x o e; omega))
  have Hfe := Lib.hid (show ∀ X1 X2 X3 X4 X5 X6 X7 : Bool, X1 = (decide (b0 / 16 ≠ 4) || decide ((H : Int) < 20)) → X2 = (decide ((n : Int) < (H : Int)) || decide ((n : Int) < L)) → X3 = decide (L < (n : Int)) → X4 = (!(sumL (b.take H) == 65535)) →
      X5 = decide (32768 ≤ F) → X6 = decide (F % 16384 ≠ 0) → X7 = decide (b8 = 0) → askE [(X1, 5), (X2, 4), (X3, 5), (X4, 20), (X5, 5), (X6, 21), (X7, 23)] = errIp b from by
    rintro _ _ _ _ _ _ _ rfl rfl rfl rfl rfl rfl rfl
    have hn20 : 20 ≤ n := by rw [← Hlen.out, Heb.out]; simp
    unfold errIp
    rw [if_neg (by have := Hlen.out; omega), if_neg (by have := Hlen.out; omega)]
    have g0 : b.getD 0 0 = b0 := by rw [Heb.out]; rfl
    have g2 : b.getD 2 0 = b2 := by rw [Heb.out]; rfl
    have g3 : b.getD 3 0 = b3 := by rw [Heb.out]; rfl
    have g6 : b.getD 6 0 = b6 := by rw [Heb.out]; rfl
    have g7 : b.getD 7 0 = b7 := by rw [Heb.out]; rfl
    have g8 : b.getD 8 0 = b8 := by rw [Heb.out]; rfl
    unfold faultsIp hdrL longL flagsL
    rw [g0, g2, g3, g6, g7, g8, EH.out, EL.out, EF.out, Hlen.out, Int.toNat_natCast])
  have Hend := Lib.hid (show ∀ x w', x ≠ 0 → x = errIp b → Gave w' g x → But (fun k => k = g) w w' → Did (fun k => k = q ∨ k = s) g (IpParseR q s b w) w (.panicked (gaveUp g)) w' from fun x w' h0 hx ⟨A', n', c', a', hg1⟩ hb =>
    ⟨x, A', n', c', a', .inr rfl, hg1, hb.mono (fun _ _ hk => .inr hk), hx, .inl ⟨h0, hb.blk Hq.out (by omega), Hs.out.but hb (by omega)⟩⟩)
  clear eL eF eH hand x2 x3 x6 x7 hpc hf3
  obtain ⟨hL0, hL1⟩ := hL
  by_cases h1 : b0 / 16 = 4
  · have h1a : (b0 / 16 == 4) = true := by simpa using h1
    have h1b : (b0 / 16 != 4) = false := by simpa using h1
    have H1 := Lib.hid h1
    clear h1
    by_cases h2 : H ≤ n
    · have h2a : decide ((n : Int) < (H : Int)) = false := by simp; omega
      have h2b : decide (n < H) = false := by simp; omega
      have h2c : (H : Int) ≤ (n : Int) := by omega
      have hno2 : ¬ (n : Int) < (H : Int) := by omega
      have h2d : (0 : Int) ≤ (H : Int) := by omega
      have hno : ¬ n < H := by omega
      have h2e : (H : Int) ≤ (c : Int) := by omega
      have h2f : H ≤ c := by omega
      have hk1 : ∀ o, (w1.alloc o).drew.cell? ⟨p, 0, none⟩ = some (.slice (some ⟨ba, oa, none⟩) n c) := fun o => (Below.cell (Below.alloc (Below.refl w1.heap.size w1) (Nat.le_refl _) o) (p := ⟨p, 0, none⟩) (hpl)).trans hpc1
      have HRl := Lib.hid (RdL.below (RdL.one w1 w1.heap.size rfl 24 (0, 0) (some ⟨ba, oa, none⟩) H c (b.take H) (HA1.out.take (by omega)) (by omega) hc.2) (Below.refl _ _).drew)
      have hpl2 : p < (w1.alloc (.cells #[.slice (some ⟨ba, oa, none⟩) H c] 24)).drew.heap.size := by simp; omega
      have hk3 : ∀ (w2 : World) (o : Obj), p < w2.heap.size → w2.cell? ⟨p, 0, none⟩ = some (.slice (some ⟨ba, oa, none⟩) n c) → (w2.alloc o).cell? ⟨p, 0, none⟩ = some (.slice (some ⟨ba, oa, none⟩) n c) := fun w2 o h1 h2 => (Below.cell (Below.alloc (Below.refl w2.heap.size w2) (Nat.le_refl _) o) (p := ⟨p, 0, none⟩) h1).trans h2
      have Hk3 := Lib.hid hk3
      clear hk3
      have HB2 := Lib.hid (show Below w1.heap.size w1 (w1.alloc (.cells #[.slice (some ⟨ba, oa, none⟩) H c] 24)).drew from Below.drew (Below.alloc (Below.refl _ _) (Nat.le_refl _) _))
      have HRr := Lib.hid (fun (w2 : World) (hb : Below w1.heap.size w1 w2) (o : Obj) => Hr.out.below (below_trans hb (Below.alloc (Below.refl w2.heap.size w2) (Nat.le_refl _) o)))
      refine wp_region_held_drew (S := fun w' => w'.cell? ⟨p, 0, none⟩ = some (.slice (some ⟨ba, oa, none⟩) n c)) (by kernel_rfl) hpc1 (fun hHeld => ?_)
      refine tk 0 ?_ rfl ?_ ?_
      rotate_left
      · intro w' hSw; (go_simp <;> (with_reducible rfl))
      try simp only [Act.put, putL]
      refine tk 1 ?_ rfl ?_ ?_
      rotate_left
      · intro w' hSw; (go_simp <;> (with_reducible rfl))
      try simp only [Act.put, putL]
      refine tk 2 ?_ rfl ?_ ?_
      rotate_left
      · intro w' hSw; (go_simp <;> (with_reducible rfl))
      try simp only [Act.put, putL]
      refine tk 3 ?_ rfl ?_ ?_
      rotate_left
      · intro w' hSw; (go_simp <;> (with_reducible rfl))
      try simp only [Act.put, putL]
      refine tk 4 ?_ rfl ?_ ?_
      rotate_left
      · intro w' hSw; (go_simp <;> (with_reducible rfl))
      try simp only [Act.put, putL]
      refine tk 5 ?_ rfl ?_ ?_
      rotate_left
      · intro w' hSw; (go_simp <;> (with_reducible rfl))
      try simp only [Act.put, putL]
      refine tk 6 ?_ rfl ?_ ?_
      rotate_left
      · intro w' hSw; (go_simp <;> (with_reducible rfl))
      try simp only [Act.put, putL]
      refine tk 7 ?_ rfl ?_ ?_
      rotate_left
      · intro w' hSw; (go_simp <;> (with_reducible rfl))
      try simp only [Act.put, putL]
      refine tk 8 ?_ rfl ?_ ?_
      rotate_left
      · intro w' hSw; (go_simp <;> (with_reducible rfl))
      try simp only [Act.put, putL]
      refine tk 9 ?_ rfl ?_ ?_
      rotate_left
      · intro w' hSw; (go_simp <;> (with_reducible rfl))
      try simp only [Act.put, putL]
      refine tk 10 ?_ rfl ?_ ?_
      rotate_left
      · intro w' hSw; (go_simp <;> (with_reducible rfl))
      try simp only [Act.put, putL]
      refine tk 11 ?_ rfl ?_ ?_
      rotate_left
      · intro w' hSw; (go_simp <;> (with_reducible rfl))
      try simp only [Act.put, putL]
      refine tk 12 ?_ rfl ?_ ?_
      rotate_left
      · intro w' hSw; (go_simp <;> (with_reducible rfl))
      try simp only [Act.put, putL]
      refine tk 13 ?_ rfl ?_ ?_
      rotate_left
      · intro w' hSw; (go_simp <;> (with_reducible rfl))
      try simp only [Act.put, putL]
      refine tk 14 ?_ rfl ?_ ?_
      rotate_left
      · intro w' hSw; (go_simp <;> (with_reducible rfl))
      try simp only [Act.put, putL]
      refine tk 15 ?_ rfl ?_ ?_
      rotate_left
      · intro w' hSw; (go_simp <;> (with_reducible rfl))
      try simp only [Act.put, putL]
      refine tk 16 ?_ rfl ?_ ?_
      rotate_left
      · intro w' hSw; (go_simp <;> (with_reducible rfl))
      try simp only [Act.put, putL]
      refine tk 17 ?_ rfl ?_ ?_
      rotate_left
      · intro w' hSw; (go_simp <;> (with_reducible rfl))
      try simp only [Act.put, putL]
      refine tk 18 ?_ rfl ?_ ?_
      rotate_left
      · intro w' hSw; (go_simp <;> (with_reducible rfl))
      try simp only [Act.put, putL]
      refine tk 19 ?_ rfl ?_ ?_
      rotate_left
      · intro w' hSw; (go_simp <;> (with_reducible rfl))
      try simp only [Act.put, putL]
      refine tk 20 ?_ rfl ?_ ?_
      rotate_left
      · intro w' hSw; (go_simp <;> (with_reducible rfl))
      try simp only [Act.put, putL]
      refine tk 21 ?_ rfl ?_ ?_
      rotate_left
      · intro w' hSw; (go_simp <;> (with_reducible rfl))
      try simp only [Act.put, putL]
      refine tk 22 ?_ rfl ?_ ?_
      rotate_left
      · intro w' hSw; (go_simp <;> (with_reducible rfl))
      try simp only [Act.put, putL]
      refine tk 23 ?_ rfl ?_ ?_
      rotate_left
      · intro w' hSw; (go_simp <;> (with_reducible rfl))
      try simp only [Act.put, putL]
      refine tk 24 ?_ rfl ?_ ?_
      rotate_left
      · intro w' hSw; (go_simp <;> (with_reducible rfl))
      try simp only [Act.put, putL]
      refine tk 25 ?_ rfl ?_ ?_
      rotate_left
      · intro w' hSw; (go_simp <;> (with_reducible rfl))
      try simp only [Act.put, putL]
      refine tk 26 ?_ rfl ?_ ?_
      rotate_left
      · intro w' hSw; (go_simp <;> (with_reducible rfl))
      try simp only [Act.put, putL]
      refine tk 27 ?_ rfl ?_ ?_
      rotate_left
      · intro w' hSw; (go_simp <;> (with_reducible rfl))
      try simp only [Act.put, putL]
      refine tk 28 ?_ rfl ?_ ?_
      rotate_left
      · intro w' hSw; (go_simp <;> (with_reducible rfl))
      try simp only [Act.put, putL]
      refine tk 29 ?_ rfl ?_ ?_
      rotate_left
      · intro w' hSw; (go_simp <;> (with_reducible rfl))
      try simp only [Act.put, putL]
      refine tk 30 ?_ rfl ?_ ?_
      rotate_left
      · intro w' hSw; (go_simp <;> (with_reducible rfl))
      try simp only [Act.put, putL]
      refine tk 35 ?_ rfl ?_ ?_
      rotate_left
      · intro w' hSw; (go_simp <;> (with_reducible rfl))
      try simp only [Act.put, putL]
      refine tk 36 ?_ rfl ?_ ?_
      rotate_left
      · intro w' hSw; (go_simp <;> (with_reducible rfl))
      try simp only [Act.put, putL]
      refine tk 37 ?_ rfl ?_ ?_
      rotate_left
      · intro w' hSw; (go_simp <;> (with_reducible rfl))
      try simp only [Act.put, putL]
      refine tk 38 ?_ rfl ?_ ?_
      rotate_left
      · intro w' hSw; (go_simp <;> (with_reducible rfl))
      try simp only [Act.put, putL]
      refine tk 39 ?_ rfl ?_ ?_
      rotate_left
      · intro w' hSw; (go_simp <;> (with_reducible rfl))
      try simp only [Act.put, putL]
      refine tk 40 ?_ rfl ?_ ?_
      rotate_left
      · intro w' hSw; (go_simp <;> (with_reducible rfl))
      try simp only [Act.put, putL]
      refine tk 41 ?_ rfl ?_ ?_
      rotate_left
      · intro w' hSw; (go_simp <;> (with_reducible rfl))
      try simp only [Act.put, putL]
      refine tk 42 ?_ rfl ?_ ?_
      rotate_left
      · intro w' hSw; (go_simp <;> (with_reducible rfl))
      try simp only [Act.put, putL]
      refine tk 43 ?_ rfl ?_ ?_
      rotate_left
      · intro w' hSw; (go_simp <;> (with_reducible rfl))
      try simp only [Act.put, putL]
      refine tk 44 ?_ rfl ?_ ?_
      rotate_left
      · intro w' hSw; (go_simp <;> (with_reducible rfl))
      try simp only [Act.put, putL]
      refine tk 45 ?_ rfl ?_ ?_
      rotate_left
      · intro w' hSw; (go_simp <;> (with_reducible rfl))
      try simp only [Act.put, putL]
      refine tkC 31 rfl (fun K hK => ?_)
      go_simp
      skip
      refine hK.out _ _ ?_ (fun hHeld => ?_)
      · exact hk1 _
      clear hK K
      try simp only [Act.put, putL]
      refine tkC 32 rfl (fun K hK => ?_)
      go_simp
      (refine (right_any _ 1 1 [b.take H] _ (by omega) HRl.out).mono ?_; rintro e w2 ⟨rfl, hb⟩; have hk2 := (Below.cell hb (p := ⟨p, 0, none⟩) hpl2).trans (hk1 _); have hpl3 := Nat.lt_of_lt_of_le hpl2 hb.size)
      refine hK.out _ _ ?_ (fun hHeld => ?_)
      · exact hk2
      clear hK K
      try simp only [Act.put, putL]
      refine tk 33 ?_ rfl ?_ ?_
      rotate_left
      · intro w' hSw; (go_simp <;> (with_reducible rfl))
      try simp only [Act.put, putL]
      refine tk 34 ?_ rfl ?_ ?_
      rotate_left
      · intro w' hSw; (go_simp <;> (with_reducible rfl))
      try simp only [Act.put, putL]
      refine tkC 46 rfl (fun K hK => ?_)
      go_simp
      skip
      refine hK.out _ _ ?_ (fun hHeld => ?_)
      · exact Hk3.out _ _ hpl3 hk2
      clear hK K
      try simp only [Act.put, putL]
      refine wpAnyH_ready (rs := [47]) (by kernel_rfl) (by simp) ?_
      refine AllReadyH.cons (o := { dst := some 95, op := Go.Op.call { callee := Go.Callee.value (Go.Operand.func 69), args := #[Go.Operand.tmp 48, Go.Operand.tmp 94], argTypes := #[106, 130] }, type := 0, pos := "ipv4.go:52", after := #[{ on := 0, ground := Go.Ground.data }, { on := 46, ground := Go.Ground.data }, { on := 32, ground := Go.Ground.chain }], guard := none }) rfl (fun K hK => ?_) AllReadyH.nil
      go_simp
      refine (ask_any B g _ 7 7 _ l _ _ (by omega) (RdF.seven _ _ rfl _ _ _ _ _ _ _ _ _ _ _ _ _ _ _ _) (ne7 _ _ _ _ _ _ _) (HRr.out _ (below_trans HB2.out hb) _)).mono ?_
      rintro e w3 (⟨h0, rfl, hb3⟩ | ⟨h0, rfl, hg3, hb3⟩)
      rotate_left 1
      · refine ⟨rfl, Hend.out _ _ h0 ?_ hg3 (Hb.out.trans (But.trans (But.of (below_trans HB2.out (below_trans hb (Below.alloc (Below.refl w2.heap.size w2) (Nat.le_refl _) _)))) hb3))⟩
        refine Hfe.out _ _ _ _ _ _ _ ?_ ?_ ?_ ?_ ?_ ?_ ?_
        · (have h1' := H1.out; simp [h1']; try omega)
        · (rw [Bool.eq_iff_iff]; simp; try omega)
        · simp
        · rfl
        · (rw [Bool.eq_iff_iff]; simp; omega)
        · (rw [Bool.eq_iff_iff]; simp)
        · (rw [Bool.eq_iff_iff]; simp)
      have hbb := below_trans HB2.out (below_trans hb (below_trans (Below.alloc (Below.refl w2.heap.size w2) (Nat.le_refl _) _) hb3))
      refine hK.out _ _ ?_ (fun hHeld => ?_)
      · exact (Below.cell hbb (p := ⟨p, 0, none⟩) hpl).trans hpc1
      clear hK K
      (try simp only [Act.put, List.setIfInBounds_toArray, List.set_cons_zero, List.set_cons_succ])
      refine wpAnyH_done (by kernel_rfl) ?_ _
      have Herr := Lib.hid ((Hfe.out _ _ _ _ _ _ _ (by have h1' := H1.out; simp [h1']) (by rw [Bool.eq_iff_iff]; simp; omega) rfl rfl (by rw [Bool.eq_iff_iff]; simp; omega) (by rw [Bool.eq_iff_iff]; simp) (by rw [Bool.eq_iff_iff]; simp)).symm.trans h0)
      obtain ⟨e1, e2, e3, -, e5, e6, -⟩ := (ask7 _ _ _ _ _ _ _).1 h0
      simp at e1 e2 e3 e5 e6
      have Hbb := Lib.hid hbb
      have Hr := Lib.hid (Hr.out.below hbb)
      have Hb := Lib.hid (Hb.out.trans (But.of hbb))
      have hFF : bits BinOp.and IntKind.u16 F 16384 = F := by rw [Hf3.out]; omega
      have hFe : F = 0 ∨ F = 16384 := by omega
      have HFe := Lib.hid hFe
      have hLn : L = (n : Int) := by omega
      have HLn := Lib.hid hLn
      obtain ⟨m, em⟩ : ∃ m : Nat, H = 20 + m := ⟨H - 20, by omega⟩
      have hmi : (H : Int) - 20 = (m : Int) := by omega
      have Hem := Lib.hid em
      have hll : l.length = n - 20 := by rw [← Hlen.out, Heb.out]; simp
      have Hll := Lib.hid hll
      have hml : m ≤ l.length := by omega
      have hlb : l.length ≤ 1500 := by omega
      clear hFe hLn e1 e2 e3 e5 e6 em hbb hb3 hb h0 hk1 hk2 hpl3 hpl2 hHeld hno hno2 h2a h2b h2d h2e h2f h1a h1b hpl hf1 hf2 hpc1 hll
      go_wp2_with fail
      have hlt : (l.take m).length = m := by rw [List.length_take]; omega
      have Hlt := Lib.hid hlt
      clear hlt
      refine (bytes_is B g m l (l.take m) (l.drop m) _ _ Hlt.out (List.take_append_drop m l).symm (by omega) Hr.out).mono ?_
      rintro e w4 ⟨Ao, co, rfl, k4, m4, ho4, hr4, hb4⟩
      have Ho4 := Lib.hid (ho4.mono (B' := w.heap.size) (by have := Hb.out.size; omega))
      have Hr := Lib.hid hr4
      have Hb := Lib.hid (Hb.out.trans hb4)
      clear ho4 hr4 hb4
      have hqb := Hb.out.blk Hq.out (by omega)
      unfold headCells at hqb
      have q0 := blk_cell hqb 0
      have q1 := blk_cell hqb 1
      have q2 := blk_cell hqb 2
      have q3 := blk_cell hqb 3
      have q4 := blk_cell hqb 4
      have q5 := blk_cell hqb 5
      have q6 := blk_cell hqb 6
      have q7 := blk_cell hqb 7
      simp at q0 q1 q2 q3 q4 q5 q6 q7
      have qf := blk_free hqb
      go_wp2_with fail
      have hS8 := set8_blk hqb
      have hB8 := set8_but w4 q
      clear q0 q1 q2 q3 q4 q5 q6 q7 qf hqb
      have HS8 := Lib.hid hS8
      have HB8 := Lib.hid hB8
      clear hS8 hB8
      obtain ⟨r, er⟩ : ∃ r, (l.drop m).length = r := ⟨_, rfl⟩
      have hld2 : r ≤ 140737488355328 := by rw [← er, List.length_drop]; omega
      have Her := Lib.hid er
      clear er
      refine (rest_is B g r (l.drop m) _ _ Her.out hld2 (Hr.out.but (HB8.out _ _ _ _ _ _ _ _) (by omega))).mono ?_
      rintro e w6 ⟨Ap, cp, rfl, k6, m6, ho6, hr6, hb6⟩
      have hw4 : w.heap.size ≤ w4.heap.size := Hb.out.size
      have hb5 := HB8.out (.int .u8 b1) (.int .u16 (b4 * 256 + b5)) (.bool (F != 0)) (.int .u8 b8) (.int .u8 b9) (.int .u32 (((b12 * 256 + b13) * 256 + b14) * 256 + b15)) (.int .u32 (((b16 * 256 + b17) * 256 + b18) * 256 + b19)) (.slice Ao m co)
      have hq5 := HS8.out (.int .u8 b1) (.int .u16 (b4 * 256 + b5)) (.bool (F != 0)) (.int .u8 b8) (.int .u8 b9) (.int .u32 (((b12 * 256 + b13) * 256 + b14) * 256 + b15)) (.int .u32 (((b16 * 256 + b17) * 256 + b18) * 256 + b19)) (.slice Ao m co)
      have hsz5 := hb5.size
      have ho5 := Ho4.out.but hb5 (fun k hk e => by omega)
      have hs6 := ((Hs.out.but Hb.out (by omega)).but hb5 (by omega)).but hb6 (by omega)
      have hq6 := hb6.blk hq5 (by omega)
      have ho66 := ho5.but hb6 (fun k hk e => by omega)
      have ho6 := ho6.mono (B' := w.heap.size) (by omega)
      have hbs := But.trans ((Hb.out.mono (S' := fun k => (k = q ∨ k = s) ∨ k = g) (fun _ _ h => .inr h)).trans (hb5.mono (fun _ _ h => .inl (.inl h)))) (hb6.mono (fun _ _ h => .inr h))
      have sc := hs6.cell
      have sf := hs6.free
      have hbl := But.setCell (S := fun k => k = s) (But.refl _ w6) (p := ⟨s, 0, none⟩) rfl (.slice Ap r cp)
      have Hd : Hid (Did (fun k => k = q ∨ k = s) g (IpParseR q s b w) w (.returned (.tuple #[])) (w6.setCell ⟨s, 0, none⟩ (.slice Ap r cp))) := by
        have hr7 := hr6.but hbl (fun k e => by rw [e]; omega)
        obtain ⟨A7, n7, c7, _, _, _, _, _, hg7, _⟩ := hr7
        refine ⟨0, A7, n7, c7, _, .inl ⟨rfl, rfl⟩, hg7, hbs.trans (hbl.mono (fun _ _ h => .inl (.inr h))), Herr.out.symm, .inr ⟨rfl, Ao, m, co, Ap, r, cp, ?_, hs6.set_ _, ?_, ?_⟩⟩
        · have e1 : b.getD 1 0 = b1 := by rw [Heb.out]; rfl
          have e4 : b.getD 4 0 = b4 := by rw [Heb.out]; rfl
          have e5 : b.getD 5 0 = b5 := by rw [Heb.out]; rfl
          have e6 : flagsL b = F := by unfold flagsL; rw [Heb.out]; exact EF.out
          have e8 : b.getD 8 0 = b8 := by rw [Heb.out]; rfl
          have e9 : b.getD 9 0 = b9 := by rw [Heb.out]; rfl
          have ea : b.getD 12 0 = b12 := by rw [Heb.out]; rfl
          have eb : b.getD 13 0 = b13 := by rw [Heb.out]; rfl
          have ec : b.getD 14 0 = b14 := by rw [Heb.out]; rfl
          have ed : b.getD 15 0 = b15 := by rw [Heb.out]; rfl
          have ee : b.getD 16 0 = b16 := by rw [Heb.out]; rfl
          have ef : b.getD 17 0 = b17 := by rw [Heb.out]; rfl
          have eg : b.getD 18 0 = b18 := by rw [Heb.out]; rfl
          have eh : b.getD 19 0 = b19 := by rw [Heb.out]; rfl
          have edf : decide (F = 16384) = (F != 0) := by rcases HFe.out with e | e <;> subst e <;> rfl
          rw [e1, e4, e5, e6, e8, e9, ea, eb, ec, ed, ee, ef, eg, eh, edf]
          exact hbl.blk hq6 (by omega)
        · have e1 : (hdrL b).toNat - 20 = m := by
            have : hdrL b = (H : Int) := by unfold hdrL; rw [Heb.out]; exact EH.out
            rw [this]; have := Hem.out; omega
          have e2 : b.drop 20 = l := by rw [Heb.out]; rfl
          rw [e1, e2]
          exact ho66.but hbl (fun k hk e => by omega)
        · have e1 : (hdrL b).toNat = 20 + m := by
            have : hdrL b = (H : Int) := by unfold hdrL; rw [Heb.out]; exact EH.out
            rw [this]; have := Hem.out; omega
          have e2 : b.drop (20 + m) = l.drop m := by rw [← List.drop_drop, show b.drop 20 = l by rw [Heb.out]; rfl]
          rw [e1, e2]
          exact ho6.but hbl (fun k hk e => by omega)
      clear hb5 hq5 hsz5 ho5 hs6 hq6 ho66 ho6 hbs hbl hr6 hb6 HS8 HB8
      go_wp2_with fail
      go_end0
      exact Hd.out
    · have h2a : decide ((n : Int) < (H : Int)) = true := by simp; omega
      have h2b : decide (n < H) = true := by simp; omega
      have h2c : (n : Int) < (H : Int) := by omega
      have h2d : (0 : Int) ≤ (n : Int) := by omega
      have hno : n < H := by omega
      have h2e : (n : Int) ≤ (c : Int) := by omega
      have h2f : n ≤ c := by omega
      have hk1 : ∀ o, (w1.alloc o).drew.cell? ⟨p, 0, none⟩ = some (.slice (some ⟨ba, oa, none⟩) n c) := fun o => (Below.cell (Below.alloc (Below.refl w1.heap.size w1) (Nat.le_refl _) o) (p := ⟨p, 0, none⟩) (hpl)).trans hpc1
      have HRl := Lib.hid (RdL.below (RdL.one w1 w1.heap.size rfl 24 (0, 0) (some ⟨ba, oa, none⟩) n c (b.take n) (HA1.out.take (by omega)) (by omega) hc.2) (Below.refl _ _).drew)
      have hpl2 : p < (w1.alloc (.cells #[.slice (some ⟨ba, oa, none⟩) n c] 24)).drew.heap.size := by simp; omega
      have hk3 : ∀ (w2 : World) (o : Obj), p < w2.heap.size → w2.cell? ⟨p, 0, none⟩ = some (.slice (some ⟨ba, oa, none⟩) n c) → (w2.alloc o).cell? ⟨p, 0, none⟩ = some (.slice (some ⟨ba, oa, none⟩) n c) := fun w2 o h1 h2 => (Below.cell (Below.alloc (Below.refl w2.heap.size w2) (Nat.le_refl _) o) (p := ⟨p, 0, none⟩) h1).trans h2
      have Hk3 := Lib.hid hk3
      clear hk3
      have HB2 := Lib.hid (show Below w1.heap.size w1 (w1.alloc (.cells #[.slice (some ⟨ba, oa, none⟩) n c] 24)).drew from Below.drew (Below.alloc (Below.refl _ _) (Nat.le_refl _) _))
      have HRr := Lib.hid (fun (w2 : World) (hb : Below w1.heap.size w1 w2) (o : Obj) => Hr.out.below (below_trans hb (Below.alloc (Below.refl w2.heap.size w2) (Nat.le_refl _) o)))
      refine wp_region_held_drew (S := fun w' => w'.cell? ⟨p, 0, none⟩ = some (.slice (some ⟨ba, oa, none⟩) n c)) (by kernel_rfl) hpc1 (fun hHeld => ?_)
      refine tk 0 ?_ rfl ?_ ?_
      rotate_left
      · intro w' hSw; (go_simp <;> (with_reducible rfl))
      try simp only [Act.put, putL]
      refine tk 1 ?_ rfl ?_ ?_
      rotate_left
      · intro w' hSw; (go_simp <;> (with_reducible rfl))
      try simp only [Act.put, putL]
      refine tk 2 ?_ rfl ?_ ?_
      rotate_left
      · intro w' hSw; (go_simp <;> (with_reducible rfl))
      try simp only [Act.put, putL]
      refine tk 3 ?_ rfl ?_ ?_
      rotate_left
      · intro w' hSw; (go_simp <;> (with_reducible rfl))
      try simp only [Act.put, putL]
      refine tk 4 ?_ rfl ?_ ?_
      rotate_left
      · intro w' hSw; (go_simp <;> (with_reducible rfl))
      try simp only [Act.put, putL]
      refine tk 5 ?_ rfl ?_ ?_
      rotate_left
      · intro w' hSw; (go_simp <;> (with_reducible rfl))
      try simp only [Act.put, putL]
      refine tk 6 ?_ rfl ?_ ?_
      rotate_left
      · intro w' hSw; (go_simp <;> (with_reducible rfl))
      try simp only [Act.put, putL]
      refine tk 7 ?_ rfl ?_ ?_
      rotate_left
      · intro w' hSw; (go_simp <;> (with_reducible rfl))
      try simp only [Act.put, putL]
      refine tk 8 ?_ rfl ?_ ?_
      rotate_left
      · intro w' hSw; (go_simp <;> (with_reducible rfl))
      try simp only [Act.put, putL]
      refine tk 9 ?_ rfl ?_ ?_
      rotate_left
      · intro w' hSw; (go_simp <;> (with_reducible rfl))
      try simp only [Act.put, putL]
      refine tk 10 ?_ rfl ?_ ?_
      rotate_left
      · intro w' hSw; (go_simp <;> (with_reducible rfl))
      try simp only [Act.put, putL]
      refine tk 11 ?_ rfl ?_ ?_
      rotate_left
      · intro w' hSw; (go_simp <;> (with_reducible rfl))
      try simp only [Act.put, putL]
      refine tk 12 ?_ rfl ?_ ?_
      rotate_left
      · intro w' hSw; (go_simp <;> (with_reducible rfl))
      try simp only [Act.put, putL]
      refine tk 13 ?_ rfl ?_ ?_
      rotate_left
      · intro w' hSw; (go_simp <;> (with_reducible rfl))
      try simp only [Act.put, putL]
      refine tkN 14 rfl ?_
      try simp only [Act.put, putL]
      refine tkN 15 rfl ?_
      try simp only [Act.put, putL]
      refine tkN 16 rfl ?_
      try simp only [Act.put, putL]
      refine tkN 17 rfl ?_
      try simp only [Act.put, putL]
      refine tk 18 ?_ rfl ?_ ?_
      rotate_left
      · intro w' hSw; (go_simp <;> (with_reducible rfl))
      try simp only [Act.put, putL]
      refine tk 19 ?_ rfl ?_ ?_
      rotate_left
      · intro w' hSw; (go_simp <;> (with_reducible rfl))
      try simp only [Act.put, putL]
      refine tk 20 ?_ rfl ?_ ?_
      rotate_left
      · intro w' hSw; (go_simp <;> (with_reducible rfl))
      try simp only [Act.put, putL]
      refine tk 21 ?_ rfl ?_ ?_
      rotate_left
      · intro w' hSw; (go_simp <;> (with_reducible rfl))
      try simp only [Act.put, putL]
      refine tk 22 ?_ rfl ?_ ?_
      rotate_left
      · intro w' hSw; (go_simp <;> (with_reducible rfl))
      try simp only [Act.put, putL]
      refine tk 23 ?_ rfl ?_ ?_
      rotate_left
      · intro w' hSw; (go_simp <;> (with_reducible rfl))
      try simp only [Act.put, putL]
      refine tk 24 ?_ rfl ?_ ?_
      rotate_left
      · intro w' hSw; (go_simp <;> (with_reducible rfl))
      try simp only [Act.put, putL]
      refine tk 25 ?_ rfl ?_ ?_
      rotate_left
      · intro w' hSw; (go_simp <;> (with_reducible rfl))
      try simp only [Act.put, putL]
      refine tk 26 ?_ rfl ?_ ?_
      rotate_left
      · intro w' hSw; (go_simp <;> (with_reducible rfl))
      try simp only [Act.put, putL]
      refine tk 27 ?_ rfl ?_ ?_
      rotate_left
      · intro w' hSw; (go_simp <;> (with_reducible rfl))
      try simp only [Act.put, putL]
      refine tk 28 ?_ rfl ?_ ?_
      rotate_left
      · intro w' hSw; (go_simp <;> (with_reducible rfl))
      try simp only [Act.put, putL]
      refine tk 29 ?_ rfl ?_ ?_
      rotate_left
      · intro w' hSw; (go_simp <;> (with_reducible rfl))
      try simp only [Act.put, putL]
      refine tk 30 ?_ rfl ?_ ?_
      rotate_left
      · intro w' hSw; (go_simp <;> (with_reducible rfl))
      try simp only [Act.put, putL]
      refine tk 35 ?_ rfl ?_ ?_
      rotate_left
      · intro w' hSw; (go_simp <;> (with_reducible rfl))
      try simp only [Act.put, putL]
      refine tk 36 ?_ rfl ?_ ?_
      rotate_left
      · intro w' hSw; (go_simp <;> (with_reducible rfl))
      try simp only [Act.put, putL]
      refine tk 37 ?_ rfl ?_ ?_
      rotate_left
      · intro w' hSw; (go_simp <;> (with_reducible rfl))
      try simp only [Act.put, putL]
      refine tk 38 ?_ rfl ?_ ?_
      rotate_left
      · intro w' hSw; (go_simp <;> (with_reducible rfl))
      try simp only [Act.put, putL]
      refine tk 39 ?_ rfl ?_ ?_
      rotate_left
      · intro w' hSw; (go_simp <;> (with_reducible rfl))
      try simp only [Act.put, putL]
      refine tk 40 ?_ rfl ?_ ?_
      rotate_left
      · intro w' hSw; (go_simp <;> (with_reducible rfl))
      try simp only [Act.put, putL]
      refine tk 41 ?_ rfl ?_ ?_
      rotate_left
      · intro w' hSw; (go_simp <;> (with_reducible rfl))
      try simp only [Act.put, putL]
      refine tk 42 ?_ rfl ?_ ?_
      rotate_left
      · intro w' hSw; (go_simp <;> (with_reducible rfl))
      try simp only [Act.put, putL]
      refine tk 43 ?_ rfl ?_ ?_
      rotate_left
      · intro w' hSw; (go_simp <;> (with_reducible rfl))
      try simp only [Act.put, putL]
      refine tk 44 ?_ rfl ?_ ?_
      rotate_left
      · intro w' hSw; (go_simp <;> (with_reducible rfl))
      try simp only [Act.put, putL]
      refine tk 45 ?_ rfl ?_ ?_
      rotate_left
      · intro w' hSw; (go_simp <;> (with_reducible rfl))
      try simp only [Act.put, putL]
      refine tkC 31 rfl (fun K hK => ?_)
      go_simp
      skip
      refine hK.out _ _ ?_ (fun hHeld => ?_)
      · exact hk1 _
      clear hK K
      try simp only [Act.put, putL]
      refine tkC 32 rfl (fun K hK => ?_)
      go_simp
      (refine (right_any _ 1 1 [b.take n] _ (by omega) HRl.out).mono ?_; rintro e w2 ⟨rfl, hb⟩; have hk2 := (Below.cell hb (p := ⟨p, 0, none⟩) hpl2).trans (hk1 _); have hpl3 := Nat.lt_of_lt_of_le hpl2 hb.size)
      refine hK.out _ _ ?_ (fun hHeld => ?_)
      · exact hk2
      clear hK K
      try simp only [Act.put, putL]
      refine tk 33 ?_ rfl ?_ ?_
      rotate_left
      · intro w' hSw; (go_simp <;> (with_reducible rfl))
      try simp only [Act.put, putL]
      refine tk 34 ?_ rfl ?_ ?_
      rotate_left
      · intro w' hSw; (go_simp <;> (with_reducible rfl))
      try simp only [Act.put, putL]
      refine tkC 46 rfl (fun K hK => ?_)
      go_simp
      skip
      refine hK.out _ _ ?_ (fun hHeld => ?_)
      · exact Hk3.out _ _ hpl3 hk2
      clear hK K
      try simp only [Act.put, putL]
      refine wpAnyH_ready (rs := [47]) (by kernel_rfl) (by simp) ?_
      refine AllReadyH.cons (o := { dst := some 95, op := Go.Op.call { callee := Go.Callee.value (Go.Operand.func 69), args := #[Go.Operand.tmp 48, Go.Operand.tmp 94], argTypes := #[106, 130] }, type := 0, pos := "ipv4.go:52", after := #[{ on := 0, ground := Go.Ground.data }, { on := 46, ground := Go.Ground.data }, { on := 32, ground := Go.Ground.chain }], guard := none }) rfl (fun K hK => ?_) AllReadyH.nil
      go_simp
      refine (ask_any B g _ 7 7 _ l _ _ (by omega) (RdF.seven _ _ rfl _ _ _ _ _ _ _ _ _ _ _ _ _ _ _ _) (ne7 _ _ _ _ _ _ _) (HRr.out _ (below_trans HB2.out hb) _)).mono ?_
      rintro e w3 (⟨h0, rfl, hb3⟩ | ⟨h0, rfl, hg3, hb3⟩)
      rotate_left 1
      · refine ⟨rfl, Hend.out _ _ h0 ?_ hg3 (Hb.out.trans (But.trans (But.of (below_trans HB2.out (below_trans hb (Below.alloc (Below.refl w2.heap.size w2) (Nat.le_refl _) _)))) hb3))⟩
        refine Hfe.out _ _ _ _ _ _ _ ?_ ?_ ?_ ?_ ?_ ?_ ?_
        · (have h1' := H1.out; simp [h1']; try omega)
        · (rw [Bool.eq_iff_iff]; simp; try omega)
        · simp
        · (rw [List.take_of_length_le (by have := Hlen.out; omega), List.take_of_length_le (by have := Hlen.out; omega)])
        · (rw [Bool.eq_iff_iff]; simp; omega)
        · (rw [Bool.eq_iff_iff]; simp)
        · (rw [Bool.eq_iff_iff]; simp)
      exfalso
      clear hK K
      revert h0
      simp [askE]
      try (split <;> simp)
  · have h1a : (b0 / 16 == 4) = false := by simpa using h1
    have h1b : (b0 / 16 != 4) = true := by simpa using h1
    have H1 := Lib.hid h1
    clear h1
    by_cases h2 : H ≤ n
    · have h2a : decide ((n : Int) < (H : Int)) = false := by simp; omega
      have h2b : decide (n < H) = false := by simp; omega
      have h2c : (H : Int) ≤ (n : Int) := by omega
      have hno2 : ¬ (n : Int) < (H : Int) := by omega
      have h2d : (0 : Int) ≤ (H : Int) := by omega
      have hno : ¬ n < H := by omega
      have h2e : (H : Int) ≤ (c : Int) := by omega
      have h2f : H ≤ c := by omega
      have hk1 : ∀ o, (w1.alloc o).drew.cell? ⟨p, 0, none⟩ = some (.slice (some ⟨ba, oa, none⟩) n c) := fun o => (Below.cell (Below.alloc (Below.refl w1.heap.size w1) (Nat.le_refl _) o) (p := ⟨p, 0, none⟩) (hpl)).trans hpc1
      have HRl := Lib.hid (RdL.below (RdL.one w1 w1.heap.size rfl 24 (0, 0) (some ⟨ba, oa, none⟩) H c (b.take H) (HA1.out.take (by omega)) (by omega) hc.2) (Below.refl _ _).drew)
      have hpl2 : p < (w1.alloc (.cells #[.slice (some ⟨ba, oa, none⟩) H c] 24)).drew.heap.size := by simp; omega
      have hk3 : ∀ (w2 : World) (o : Obj), p < w2.heap.size → w2.cell? ⟨p, 0, none⟩ = some (.slice (some ⟨ba, oa, none⟩) n c) → (w2.alloc o).cell? ⟨p, 0, none⟩ = some (.slice (some ⟨ba, oa, none⟩) n c) := fun w2 o h1 h2 => (Below.cell (Below.alloc (Below.refl w2.heap.size w2) (Nat.le_refl _) o) (p := ⟨p, 0, none⟩) h1).trans h2
      have Hk3 := Lib.hid hk3
      clear hk3
      have HB2 := Lib.hid (show Below w1.heap.size w1 (w1.alloc (.cells #[.slice (some ⟨ba, oa, none⟩) H c] 24)).drew from Below.drew (Below.alloc (Below.refl _ _) (Nat.le_refl _) _))
      have HRr := Lib.hid (fun (w2 : World) (hb : Below w1.heap.size w1 w2) (o : Obj) => Hr.out.below (below_trans hb (Below.alloc (Below.refl w2.heap.size w2) (Nat.le_refl _) o)))
      refine wp_region_held_drew (S := fun w' => w'.cell? ⟨p, 0, none⟩ = some (.slice (some ⟨ba, oa, none⟩) n c)) (by kernel_rfl) hpc1 (fun hHeld => ?_)
      refine tk 0 ?_ rfl ?_ ?_
      rotate_left
      · intro w' hSw; (go_simp <;> (with_reducible rfl))
      try simp only [Act.put, putL]
      refine tk 1 ?_ rfl ?_ ?_
      rotate_left
      · intro w' hSw; (go_simp <;> (with_reducible rfl))
      try simp only [Act.put, putL]
      refine tk 2 ?_ rfl ?_ ?_
      rotate_left
      · intro w' hSw; (go_simp <;> (with_reducible rfl))
      try simp only [Act.put, putL]
      refine tk 3 ?_ rfl ?_ ?_
      rotate_left
      · intro w' hSw; (go_simp <;> (with_reducible rfl))
      try simp only [Act.put, putL]
      refine tk 4 ?_ rfl ?_ ?_
      rotate_left
      · intro w' hSw; (go_simp <;> (with_reducible rfl))
      try simp only [Act.put, putL]
      refine tkN 5 rfl ?_
      try simp only [Act.put, putL]
      refine tkN 6 rfl ?_
      try simp only [Act.put, putL]
      refine tk 7 ?_ rfl ?_ ?_
      rotate_left
      · intro w' hSw; (go_simp <;> (with_reducible rfl))
      try simp only [Act.put, putL]
      refine tk 8 ?_ rfl ?_ ?_
      rotate_left
      · intro w' hSw; (go_simp <;> (with_reducible rfl))
      try simp only [Act.put, putL]
      refine tk 9 ?_ rfl ?_ ?_
      rotate_left
      · intro w' hSw; (go_simp <;> (with_reducible rfl))
      try simp only [Act.put, putL]
      refine tk 10 ?_ rfl ?_ ?_
      rotate_left
      · intro w' hSw; (go_simp <;> (with_reducible rfl))
      try simp only [Act.put, putL]
      refine tk 11 ?_ rfl ?_ ?_
      rotate_left
      · intro w' hSw; (go_simp <;> (with_reducible rfl))
      try simp only [Act.put, putL]
      refine tk 12 ?_ rfl ?_ ?_
      rotate_left
      · intro w' hSw; (go_simp <;> (with_reducible rfl))
      try simp only [Act.put, putL]
      refine tk 13 ?_ rfl ?_ ?_
      rotate_left
      · intro w' hSw; (go_simp <;> (with_reducible rfl))
      try simp only [Act.put, putL]
      refine tk 14 ?_ rfl ?_ ?_
      rotate_left
      · intro w' hSw; (go_simp <;> (with_reducible rfl))
      try simp only [Act.put, putL]
      refine tk 15 ?_ rfl ?_ ?_
      rotate_left
      · intro w' hSw; (go_simp <;> (with_reducible rfl))
      try simp only [Act.put, putL]
      refine tk 16 ?_ rfl ?_ ?_
      rotate_left
      · intro w' hSw; (go_simp <;> (with_reducible rfl))
      try simp only [Act.put, putL]
      refine tk 17 ?_ rfl ?_ ?_
      rotate_left
      · intro w' hSw; (go_simp <;> (with_reducible rfl))
      try simp only [Act.put, putL]
      refine tk 18 ?_ rfl ?_ ?_
      rotate_left
      · intro w' hSw; (go_simp <;> (with_reducible rfl))
      try simp only [Act.put, putL]
      refine tk 19 ?_ rfl ?_ ?_
      rotate_left
      · intro w' hSw; (go_simp <;> (with_reducible rfl))
      try simp only [Act.put, putL]
      refine tk 20 ?_ rfl ?_ ?_
      rotate_left
      · intro w' hSw; (go_simp <;> (with_reducible rfl))
      try simp only [Act.put, putL]
      refine tk 21 ?_ rfl ?_ ?_
      rotate_left
      · intro w' hSw; (go_simp <;> (with_reducible rfl))
      try simp only [Act.put, putL]
      refine tk 22 ?_ rfl ?_ ?_
      rotate_left
      · intro w' hSw; (go_simp <;> (with_reducible rfl))
      try simp only [Act.put, putL]
      refine tk 23 ?_ rfl ?_ ?_
      rotate_left
      · intro w' hSw; (go_simp <;> (with_reducible rfl))
      try simp only [Act.put, putL]
      refine tk 24 ?_ rfl ?_ ?_
      rotate_left
      · intro w' hSw; (go_simp <;> (with_reducible rfl))
      try simp only [Act.put, putL]
      refine tk 25 ?_ rfl ?_ ?_
      rotate_left
      · intro w' hSw; (go_simp <;> (with_reducible rfl))
      try simp only [Act.put, putL]
      refine tk 26 ?_ rfl ?_ ?_
      rotate_left
      · intro w' hSw; (go_simp <;> (with_reducible rfl))
      try simp only [Act.put, putL]
      refine tk 27 ?_ rfl ?_ ?_
      rotate_left
      · intro w' hSw; (go_simp <;> (with_reducible rfl))
      try simp only [Act.put, putL]
      refine tk 28 ?_ rfl ?_ ?_
      rotate_left
      · intro w' hSw; (go_simp <;> (with_reducible rfl))
      try simp only [Act.put, putL]
      refine tk 29 ?_ rfl ?_ ?_
      rotate_left
      · intro w' hSw; (go_simp <;> (with_reducible rfl))
      try simp only [Act.put, putL]
      refine tk 30 ?_ rfl ?_ ?_
      rotate_left
      · intro w' hSw; (go_simp <;> (with_reducible rfl))
      try simp only [Act.put, putL]
      refine tk 35 ?_ rfl ?_ ?_
      rotate_left
      · intro w' hSw; (go_simp <;> (with_reducible rfl))
      try simp only [Act.put, putL]
      refine tk 36 ?_ rfl ?_ ?_
      rotate_left
      · intro w' hSw; (go_simp <;> (with_reducible rfl))
      try simp only [Act.put, putL]
      refine tk 37 ?_ rfl ?_ ?_
      rotate_left
      · intro w' hSw; (go_simp <;> (with_reducible rfl))
      try simp only [Act.put, putL]
      refine tk 38 ?_ rfl ?_ ?_
      rotate_left
      · intro w' hSw; (go_simp <;> (with_reducible rfl))
      try simp only [Act.put, putL]
      refine tk 39 ?_ rfl ?_ ?_
      rotate_left
      · intro w' hSw; (go_simp <;> (with_reducible rfl))
      try simp only [Act.put, putL]
      refine tk 40 ?_ rfl ?_ ?_
      rotate_left
      · intro w' hSw; (go_simp <;> (with_reducible rfl))
      try simp only [Act.put, putL]
      refine tk 41 ?_ rfl ?_ ?_
      rotate_left
      · intro w' hSw; (go_simp <;> (with_reducible rfl))
      try simp only [Act.put, putL]
      refine tk 42 ?_ rfl ?_ ?_
      rotate_left
      · intro w' hSw; (go_simp <;> (with_reducible rfl))
      try simp only [Act.put, putL]
      refine tk 43 ?_ rfl ?_ ?_
      rotate_left
      · intro w' hSw; (go_simp <;> (with_reducible rfl))
      try simp only [Act.put, putL]
      refine tk 44 ?_ rfl ?_ ?_
      rotate_left
      · intro w' hSw; (go_simp <;> (with_reducible rfl))
      try simp only [Act.put, putL]
      refine tk 45 ?_ rfl ?_ ?_
      rotate_left
      · intro w' hSw; (go_simp <;> (with_reducible rfl))
      try simp only [Act.put, putL]
      refine tkC 31 rfl (fun K hK => ?_)
      go_simp
      skip
      refine hK.out _ _ ?_ (fun hHeld => ?_)
      · exact hk1 _
      clear hK K
      try simp only [Act.put, putL]
      refine tkC 32 rfl (fun K hK => ?_)
      go_simp
      (refine (right_any _ 1 1 [b.take H] _ (by omega) HRl.out).mono ?_; rintro e w2 ⟨rfl, hb⟩; have hk2 := (Below.cell hb (p := ⟨p, 0, none⟩) hpl2).trans (hk1 _); have hpl3 := Nat.lt_of_lt_of_le hpl2 hb.size)
      refine hK.out _ _ ?_ (fun hHeld => ?_)
      · exact hk2
      clear hK K
      try simp only [Act.put, putL]
      refine tk 33 ?_ rfl ?_ ?_
      rotate_left
      · intro w' hSw; (go_simp <;> (with_reducible rfl))
      try simp only [Act.put, putL]
      refine tk 34 ?_ rfl ?_ ?_
      rotate_left
      · intro w' hSw; (go_simp <;> (with_reducible rfl))
      try simp only [Act.put, putL]
      refine tkC 46 rfl (fun K hK => ?_)
      go_simp
      skip
      refine hK.out _ _ ?_ (fun hHeld => ?_)
      · exact Hk3.out _ _ hpl3 hk2
      clear hK K
      try simp only [Act.put, putL]
      refine wpAnyH_ready (rs := [47]) (by kernel_rfl) (by simp) ?_
      refine AllReadyH.cons (o := { dst := some 95, op := Go.Op.call { callee := Go.Callee.value (Go.Operand.func 69), args := #[Go.Operand.tmp 48, Go.Operand.tmp 94], argTypes := #[106, 130] }, type := 0, pos := "ipv4.go:52", after := #[{ on := 0, ground := Go.Ground.data }, { on := 46, ground := Go.Ground.data }, { on := 32, ground := Go.Ground.chain }], guard := none }) rfl (fun K hK => ?_) AllReadyH.nil
      go_simp
      refine (ask_any B g _ 7 7 _ l _ _ (by omega) (RdF.seven _ _ rfl _ _ _ _ _ _ _ _ _ _ _ _ _ _ _ _) (ne7 _ _ _ _ _ _ _) (HRr.out _ (below_trans HB2.out hb) _)).mono ?_
      rintro e w3 (⟨h0, rfl, hb3⟩ | ⟨h0, rfl, hg3, hb3⟩)
      rotate_left 1
      · refine ⟨rfl, Hend.out _ _ h0 ?_ hg3 (Hb.out.trans (But.trans (But.of (below_trans HB2.out (below_trans hb (Below.alloc (Below.refl w2.heap.size w2) (Nat.le_refl _) _)))) hb3))⟩
        refine Hfe.out _ _ _ _ _ _ _ ?_ ?_ ?_ ?_ ?_ ?_ ?_
        · (have h1' := H1.out; simp [h1']; try omega)
        · (rw [Bool.eq_iff_iff]; simp; try omega)
        · simp
        · rfl
        · (rw [Bool.eq_iff_iff]; simp; omega)
        · (rw [Bool.eq_iff_iff]; simp)
        · (rw [Bool.eq_iff_iff]; simp)
      exfalso
      clear hK K
      revert h0
      simp [askE]
      try (split <;> simp)
    · have h2a : decide ((n : Int) < (H : Int)) = true := by simp; omega
      have h2b : decide (n < H) = true := by simp; omega
      have h2c : (n : Int) < (H : Int) := by omega
      have h2d : (0 : Int) ≤ (n : Int) := by omega
      have hno : n < H := by omega
      have h2e : (n : Int) ≤ (c : Int) := by omega
      have h2f : n ≤ c := by omega
      have hk1 : ∀ o, (w1.alloc o).drew.cell? ⟨p, 0, none⟩ = some (.slice (some ⟨ba, oa, none⟩) n c) := fun o => (Below.cell (Below.alloc (Below.refl w1.heap.size w1) (Nat.le_refl _) o) (p := ⟨p, 0, none⟩) (hpl)).trans hpc1
      have HRl := Lib.hid (RdL.below (RdL.one w1 w1.heap.size rfl 24 (0, 0) (some ⟨ba, oa, none⟩) n c (b.take n) (HA1.out.take (by omega)) (by omega) hc.2) (Below.refl _ _).drew)
      have hpl2 : p < (w1.alloc (.cells #[.slice (some ⟨ba, oa, none⟩) n c] 24)).drew.heap.size := by simp; omega
      have hk3 : ∀ (w2 : World) (o : Obj), p < w2.heap.size → w2.cell? ⟨p, 0, none⟩ = some (.slice (some ⟨ba, oa, none⟩) n c) → (w2.alloc o).cell? ⟨p, 0, none⟩ = some (.slice (some ⟨ba, oa, none⟩) n c) := fun w2 o h1 h2 => (Below.cell (Below.alloc (Below.refl w2.heap.size w2) (Nat.le_refl _) o) (p := ⟨p, 0, none⟩) h1).trans h2
      have Hk3 := Lib.hid hk3
      clear hk3
      have HB2 := Lib.hid (show Below w1.heap.size w1 (w1.alloc (.cells #[.slice (some ⟨ba, oa, none⟩) n c] 24)).drew from Below.drew (Below.alloc (Below.refl _ _) (Nat.le_refl _) _))
      have HRr := Lib.hid (fun (w2 : World) (hb : Below w1.heap.size w1 w2) (o : Obj) => Hr.out.below (below_trans hb (Below.alloc (Below.refl w2.heap.size w2) (Nat.le_refl _) o)))
      refine wp_region_held_drew (S := fun w' => w'.cell? ⟨p, 0, none⟩ = some (.slice (some ⟨ba, oa, none⟩) n c)) (by kernel_rfl) hpc1 (fun hHeld => ?_)
      refine tk 0 ?_ rfl ?_ ?_
      rotate_left
      · intro w' hSw; (go_simp <;> (with_reducible rfl))
      try simp only [Act.put, putL]
      refine tk 1 ?_ rfl ?_ ?_
      rotate_left
      · intro w' hSw; (go_simp <;> (with_reducible rfl))
      try simp only [Act.put, putL]
      refine tk 2 ?_ rfl ?_ ?_
      rotate_left
      · intro w' hSw; (go_simp <;> (with_reducible rfl))
      try simp only [Act.put, putL]
      refine tk 3 ?_ rfl ?_ ?_
      rotate_left
      · intro w' hSw; (go_simp <;> (with_reducible rfl))
      try simp only [Act.put, putL]
      refine tk 4 ?_ rfl ?_ ?_
      rotate_left
      · intro w' hSw; (go_simp <;> (with_reducible rfl))
      try simp only [Act.put, putL]
      refine tkN 5 rfl ?_
      try simp only [Act.put, putL]
      refine tkN 6 rfl ?_
      try simp only [Act.put, putL]
      refine tk 7 ?_ rfl ?_ ?_
      rotate_left
      · intro w' hSw; (go_simp <;> (with_reducible rfl))
      try simp only [Act.put, putL]
      refine tk 8 ?_ rfl ?_ ?_
      rotate_left
      · intro w' hSw; (go_simp <;> (with_reducible rfl))
      try simp only [Act.put, putL]
      refine tk 9 ?_ rfl ?_ ?_
      rotate_left
      · intro w' hSw; (go_simp <;> (with_reducible rfl))
      try simp only [Act.put, putL]
      refine tk 10 ?_ rfl ?_ ?_
      rotate_left
      · intro w' hSw; (go_simp <;> (with_reducible rfl))
      try simp only [Act.put, putL]
      refine tk 11 ?_ rfl ?_ ?_
      rotate_left
      · intro w' hSw; (go_simp <;> (with_reducible rfl))
      try simp only [Act.put, putL]
      refine tk 12 ?_ rfl ?_ ?_
      rotate_left
      · intro w' hSw; (go_simp <;> (with_reducible rfl))
      try simp only [Act.put, putL]
      refine tk 13 ?_ rfl ?_ ?_
      rotate_left
      · intro w' hSw; (go_simp <;> (with_reducible rfl))
      try simp only [Act.put, putL]
      refine tkN 14 rfl ?_
      try simp only [Act.put, putL]
      refine tkN 15 rfl ?_
      try simp only [Act.put, putL]
      refine tkN 16 rfl ?_
      try simp only [Act.put, putL]
      refine tkN 17 rfl ?_
      try simp only [Act.put, putL]
      refine tk 18 ?_ rfl ?_ ?_
      rotate_left
      · intro w' hSw; (go_simp <;> (with_reducible rfl))
      try simp only [Act.put, putL]
      refine tk 19 ?_ rfl ?_ ?_
      rotate_left
      · intro w' hSw; (go_simp <;> (with_reducible rfl))
      try simp only [Act.put, putL]
      refine tk 20 ?_ rfl ?_ ?_
      rotate_left
      · intro w' hSw; (go_simp <;> (with_reducible rfl))
      try simp only [Act.put, putL]
      refine tk 21 ?_ rfl ?_ ?_
      rotate_left
      · intro w' hSw; (go_simp <;> (with_reducible rfl))
      try simp only [Act.put, putL]
      refine tk 22 ?_ rfl ?_ ?_
      rotate_left
      · intro w' hSw; (go_simp <;> (with_reducible rfl))
      try simp only [Act.put, putL]
      refine tk 23 ?_ rfl ?_ ?_
      rotate_left
      · intro w' hSw; (go_simp <;> (with_reducible rfl))
      try simp only [Act.put, putL]
      refine tk 24 ?_ rfl ?_ ?_
      rotate_left
      · intro w' hSw; (go_simp <;> (with_reducible rfl))
      try simp only [Act.put, putL]
      refine tk 25 ?_ rfl ?_ ?_
      rotate_left
      · intro w' hSw; (go_simp <;> (with_reducible rfl))
      try simp only [Act.put, putL]
      refine tk 26 ?_ rfl ?_ ?_
      rotate_left
      · intro w' hSw; (go_simp <;> (with_reducible rfl))
      try simp only [Act.put, putL]
      refine tk 27 ?_ rfl ?_ ?_
      rotate_left
      · intro w' hSw; (go_simp <;> (with_reducible rfl))
      try simp only [Act.put, putL]
      refine tk 28 ?_ rfl ?_ ?_
      rotate_left
      · intro w' hSw; (go_simp <;> (with_reducible rfl))
      try simp only [Act.put, putL]
      refine tk 29 ?_ rfl ?_ ?_
      rotate_left
      · intro w' hSw; (go_simp <;> (with_reducible rfl))
      try simp only [Act.put, putL]
      refine tk 30 ?_ rfl ?_ ?_
      rotate_left
      · intro w' hSw; (go_simp <;> (with_reducible rfl))
      try simp only [Act.put, putL]
      refine tk 35 ?_ rfl ?_ ?_
      rotate_left
      · intro w' hSw; (go_simp <;> (with_reducible rfl))
      try simp only [Act.put, putL]
      refine tk 36 ?_ rfl ?_ ?_
      rotate_left
      · intro w' hSw; (go_simp <;> (with_reducible rfl))
      try simp only [Act.put, putL]
      refine tk 37 ?_ rfl ?_ ?_
      rotate_left
      · intro w' hSw; (go_simp <;> (with_reducible rfl))
      try simp only [Act.put, putL]
      refine tk 38 ?_ rfl ?_ ?_
      rotate_left
      · intro w' hSw; (go_simp <;> (with_reducible rfl))
      try simp only [Act.put, putL]
      refine tk 39 ?_ rfl ?_ ?_
      rotate_left
      · intro w' hSw; (go_simp <;> (with_reducible rfl))
      try simp only [Act.put, putL]
      refine tk 40 ?_ rfl ?_ ?_
      rotate_left
      · intro w' hSw; (go_simp <;> (with_reducible rfl))
      try simp only [Act.put, putL]
      refine tk 41 ?_ rfl ?_ ?_
      rotate_left
      · intro w' hSw; (go_simp <;> (with_reducible rfl))
      try simp only [Act.put, putL]
      refine tk 42 ?_ rfl ?_ ?_
      rotate_left
      · intro w' hSw; (go_simp <;> (with_reducible rfl))
      try simp only [Act.put, putL]
      refine tk 43 ?_ rfl ?_ ?_
      rotate_left
      · intro w' hSw; (go_simp <;> (with_reducible rfl))
      try simp only [Act.put, putL]
      refine tk 44 ?_ rfl ?_ ?_
      rotate_left
      · intro w' hSw; (go_simp <;> (with_reducible rfl))
      try simp only [Act.put, putL]
      refine tk 45 ?_ rfl ?_ ?_
      rotate_left
      · intro w' hSw; (go_simp <;> (with_reducible rfl))
      try simp only [Act.put, putL]
      refine tkC 31 rfl (fun K hK => ?_)
      go_simp
      skip
      refine hK.out _ _ ?_ (fun hHeld => ?_)
      · exact hk1 _
      clear hK K
      try simp only [Act.put, putL]
      refine tkC 32 rfl (fun K hK => ?_)
      go_simp
      (refine (right_any _ 1 1 [b.take n] _ (by omega) HRl.out).mono ?_; rintro e w2 ⟨rfl, hb⟩; have hk2 := (Below.cell hb (p := ⟨p, 0, none⟩) hpl2).trans (hk1 _); have hpl3 := Nat.lt_of_lt_of_le hpl2 hb.size)
      refine hK.out _ _ ?_ (fun hHeld => ?_)
      · exact hk2
      clear hK K
      try simp only [Act.put, putL]
      refine tk 33 ?_ rfl ?_ ?_
      rotate_left
      · intro w' hSw; (go_simp <;> (with_reducible rfl))
      try simp only [Act.put, putL]
      refine tk 34 ?_ rfl ?_ ?_
      rotate_left
      · intro w' hSw; (go_simp <;> (with_reducible rfl))
      try simp only [Act.put, putL]
      refine tkC 46 rfl (fun K hK => ?_)
      go_simp
      skip
      refine hK.out _ _ ?_ (fun hHeld => ?_)
      · exact Hk3.out _ _ hpl3 hk2
      clear hK K
      try simp only [Act.put, putL]
      refine wpAnyH_ready (rs := [47]) (by kernel_rfl) (by simp) ?_
      refine AllReadyH.cons (o := { dst := some 95, op := Go.Op.call { callee := Go.Callee.value (Go.Operand.func 69), args := #[Go.Operand.tmp 48, Go.Operand.tmp 94], argTypes := #[106, 130] }, type := 0, pos := "ipv4.go:52", after := #[{ on := 0, ground := Go.Ground.data }, { on := 46, ground := Go.Ground.data }, { on := 32, ground := Go.Ground.chain }], guard := none }) rfl (fun K hK => ?_) AllReadyH.nil
      go_simp
      refine (ask_any B g _ 7 7 _ l _ _ (by omega) (RdF.seven _ _ rfl _ _ _ _ _ _ _ _ _ _ _ _ _ _ _ _) (ne7 _ _ _ _ _ _ _) (HRr.out _ (below_trans HB2.out hb) _)).mono ?_
      rintro e w3 (⟨h0, rfl, hb3⟩ | ⟨h0, rfl, hg3, hb3⟩)
      rotate_left 1
      · refine ⟨rfl, Hend.out _ _ h0 ?_ hg3 (Hb.out.trans (But.trans (But.of (below_trans HB2.out (below_trans hb (Below.alloc (Below.refl w2.heap.size w2) (Nat.le_refl _) _)))) hb3))⟩
        refine Hfe.out _ _ _ _ _ _ _ ?_ ?_ ?_ ?_ ?_ ?_ ?_
        · (have h1' := H1.out; simp [h1']; try omega)
        · (rw [Bool.eq_iff_iff]; simp; try omega)
        · simp
        · (rw [List.take_of_length_le (by have := Hlen.out; omega), List.take_of_length_le (by have := Hlen.out; omega)])
        · (rw [Bool.eq_iff_iff]; simp; omega)
        · (rw [Bool.eq_iff_iff]; simp)
        · (rw [Bool.eq_iff_iff]; simp)
      exfalso
      clear hK K
      revert h0
      simp [askE]
      try (split <;> simp)

end Go.Proofs.YtoegfgbalcholaaGreat
