/-
  The contracts of culvertref03's reader (take, Num of four bytes) and of culvertref05's Sacks.
-/
import Derived.Test.YtoblllgefmajiaaRefLay
namespace Go.Proofs.Ytoblllgefmajiaa
set_option maxRecDepth 10000
open Go.RowKit

def readerBlk (A : Option Addr) (n c : Nat) (N : Int) : Obj := .cells #[.slice A n c, .int .i64 N, .int .i64 0] 116 (0, 0)
/-- A reader in block g: l is left. -/
def Rdr3 (w : World) (B g : Nat) (l : List Int) (N : Int) : Prop := ∃ A n c, n ≤ c ∧ c ≤ maxLen ∧ (0 ≤ N ∧ N + l.length ≤ 100000) ∧ w.heap[g]? = some (readerBlk A n c N) ∧ Rd w A n l ∧ (∀ b o, A = some ⟨b, o, none⟩ → 0 < n → b < B) ∧ B ≤ g
def TakeIs3 (B g k : Nat) (l : List Int) (N : Int) (w : World) (e : Ending) (w' : World) : Prop :=
  ∃ A c, e = .returned (.slice A k c) ∧ Rd w' A k (l.take k) ∧ Rdr3 w' B g (l.drop k) (N + k) ∧ But (fun x => x = g) w w'
theorem rtake_any (B g k : Nat) (l : List Int) (N : Int) (w : World) (hk : 0 < k) (hkl : k ≤ l.length) (h : Rdr3 w B g l N) :
    Calls Try.prog 101 #[.pointer (some ⟨g, 0, none⟩), .int .i64 (k : Int)] w (TakeIs3 B g k l N w) := by
  obtain ⟨A, n, c, hnc, hcm, ⟨hN0, hN1⟩, hblk, hr, hAB, hBg⟩ := h
  have hlen := hr.len
  obtain ⟨b, o, rfl, hbl, hcell⟩ := hr.at_ (by omega)
  have hbB := hAB b o rfl (by omega)
  have g0 := blk_cell hblk 0
  have g1 := blk_cell hblk 1
  have g2 := blk_cell hblk 2
  have gf := blk_free hblk
  simp at g0 g1 g2
  obtain ⟨d, hd⟩ : ∃ d, n = k + d := ⟨n - k, by omega⟩
  have hsub : n - k = d := by omega
  have Hfin := Lib.hid (fun (A' : Option Addr) (hA : A' = some ⟨b, o + k, none⟩ ∨ (A' = some ⟨b, o, none⟩ ∧ d = 0)) (c' : Nat) (hc' : d ≤ c' ∧ c' ≤ maxLen) => show TakeIs3 B g k l N w (.returned (.slice (some ⟨b, o, none⟩) k c)) ((w.setCell ⟨g, 0, none⟩ (.slice A' d c')).setCell ⟨g, 1, none⟩ (.int .i64 (N + k))) from by
    have hbut := ((But.refl (fun x => x = g) w).setCell (p := ⟨g, 0, none⟩) rfl (.slice A' d c')).setCell (p := ⟨g, 1, none⟩) rfl (.int .i64 (N + k))
    have hq : (w.setCell ⟨g, 0, none⟩ (.slice A' d c')).heap[g]? = _ := Go.Joins.block_setCell hblk _
    have hq2 := Go.Joins.block_setCell (i := 1) hq (.int .i64 (N + k))
    refine ⟨_, _, rfl, (hr.take (by omega)).but hbut (fun b' o' e _ he => by injection e with e; injection e with e _; omega), ⟨A', d, c', hc'.1, hc'.2, ⟨by omega, by rw [List.length_drop]; omega⟩, by rw [hq2]; simp [readerBlk], ?_, ?_, hBg⟩, hbut⟩
    · have hdr := (hr.drop_ (k := k) (m := d) rfl (by omega)).but hbut (fun b' o' e _ he => by injection e with e; injection e with e _; omega)
      rcases hA with rfl | ⟨rfl, rfl⟩
      · exact hdr
      · have hl0 : l.drop k = [] := List.eq_nil_of_length_eq_zero hdr.len
        rw [hl0]
        exact Rd.nil _ _
    · intro b' o' e h0
      rcases hA with rfl | ⟨rfl, hd0⟩
      · injection e with e; injection e with e _; omega
      · omega)
  have i0 : (k : Int) ≤ (n : Int) := by omega
  have i1 : (0 : Int) ≤ (k : Int) := by omega
  have i2 : (k : Int) ≤ (c : Int) := by omega
  have i3 : (n : Int) ≤ (c : Int) := by omega
  have i4 : ¬ (n : Int) < (k : Int) := by omega
  have hcc := Lib.hid (show d ≤ c - k ∧ c - k ≤ maxLen by omega)
  unfold maxLen at hcm
  have Hsub := Lib.hid hsub
  clear hr hcell hblk hAB hd
  by_cases hkc : k = c
  · have hnk : n = k := by omega
    subst hkc
    subst hnk
    obtain rfl : d = 0 := by omega
    clear hsub
    go_enter Try.func101, Try.ntmps101
    go_wp2_with fail
    go_ret
    have hq := Hfin.out (some ⟨b, o, none⟩) (.inr ⟨rfl, by simp⟩) 0 ⟨Nat.le_refl _, Nat.zero_le _⟩
    exact hq
  · have hkc2 : ¬ c = k := fun e => hkc e.symm
    go_enter Try.func101, Try.ntmps101
    go_wp2_with fail
    go_ret
    exact Hfin.out (some ⟨b, o + k, none⟩) (.inl rfl) (c - k) ⟨by omega, by unfold maxLen; omega⟩

def beN (l : List Int) : Int := l.foldl (fun a x => a * 256 + x) 0
theorem beN_snoc (l : List Int) (x : Int) : beN (l ++ [x]) = beN l * 256 + x := by simp [beN]
theorem beN_bd : ∀ (l : List Int), (∀ x ∈ l, 0 ≤ x ∧ x < 256) → l.length ≤ 3 → 0 ≤ beN l ∧ beN l < 16777216
  | [], _, _ => by simp [beN]
  | [a], h, _ => by have h0 := h a (by simp); have := h0.1; have := h0.2; simp [beN]; omega
  | [a, b], h, _ => by have h0 := h a (by simp); have h1 := h b (by simp); simp [beN]; omega
  | [a, b, c], h, _ => by have h0 := h a (by simp); have h1 := h b (by simp); have h2 := h c (by simp); simp [beN]; omega
  | _ :: _ :: _ :: _ :: _, _, h => by simp at h
def Num3 (B g : Nat) (x : Int) (l : List Int) (N : Int) (w : World) (e : Ending) (w' : World) : Prop := e = .returned (.int .u32 x) ∧ Rdr3 w' B g l N ∧ But (fun k => k = g) w w'
theorem rnum_any (B g : Nat) (l : List Int) (N : Int) (w : World) (hl : 4 ≤ l.length) (h : Rdr3 w B g l N) :
    Calls Try.prog 79 #[.pointer (some ⟨g, 0, none⟩), .int .i64 4] w (Num3 B g (beN (l.take 4)) (l.drop 4) (N + 4) w) := by
  have Ht := Lib.hid (rtake_any B g 4 l N w (by omega) hl h)
  have Hlen := Lib.hid (show (l.take 4).length = 4 by rw [List.length_take]; omega)
  clear h hl
  go_enter Try.func79, Try.ntmps79
  go_wp2_with fail
  refine Ht.out.mono ?_
  rintro e w1 ⟨A, c, rfl, hr, hR, hb⟩
  have HR := Lib.hid hR
  have Hb := Lib.hid hb
  obtain ⟨lt, el⟩ : ∃ lt, l.take 4 = lt := ⟨_, rfl⟩
  rw [el] at hr Hlen
  have El := Lib.hid el
  clear hR hb el
  go_wp2_with fail
  go_loopg [5, 7] 4 (fun gk a i wr => ∃ j : Nat, Hid (gk + j = 4) ∧ j ≤ 4 ∧ i = .int .i64 (j : Int) ∧ a = .int .u32 (beN (lt.take j)) ∧ wr = w1)
  case atStart => exact ⟨0, rfl, Nat.zero_le _, rfl, rfl, rfl⟩
  case round =>
    obtain ⟨j, hgk, hj, rfl, rfl, rfl⟩ := hrel
    by_cases hlt : j < 4
    · obtain ⟨q, hrunq, hcellq, hqb, hx0, hx1⟩ := byte_at (c := c) hr j (j : Int) hlt rfl
      have hn := beN_bd (lt.take j) (fun x hx => hr.byte x (List.mem_of_mem_take hx)) (by rw [List.length_take]; omega)
      have Hs := Lib.hid (take_snoc_ lt j 0 (by rw [Hlen.out]; exact hlt))
      obtain ⟨x, ex⟩ : ∃ x, lt.getD j 0 = x := ⟨_, rfl⟩
      obtain ⟨y, ey⟩ : ∃ y, beN (lt.take j) = y := ⟨_, rfl⟩
      rw [ex] at hcellq hx0 hx1
      rw [ey] at hn ⊢
      have Hy := Lib.hid (show beN (lt.take (j + 1)) = 256 * y + x by rw [Hs.out, beN_snoc, ex, ey]; omega)
      obtain ⟨hn0, hn1⟩ := hn
      clear ex ey
      go_wp2_with fail
      go_roundg (gk - 1)
      case measure => have := hgk.out; omega
      case rel => exact ⟨j + 1, by have := hgk.out; show gk - 1 + (j + 1) = _; omega, by omega, by go_num, by rw [Hy.out], rfl⟩
    · obtain rfl : j = 4 := by omega
      go_wp2_with fail
      go_ret
      have e : lt.take 4 = lt := List.take_of_length_le (by rw [Hlen.out]; omega)
      refine ⟨?_, HR.out, Hb.out⟩
      show Ending.returned (Value.int .u32 (beN (lt.take 4))) = _
      rw [e, El.out]

def pairsOf : Nat → List Int → List (Int × Int)
  | 0, _ => []
  | t + 1, d => pairsOf t d ++ [(beN ((d.drop (8 * t)).take 4), beN ((d.drop (8 * t + 4)).take 4))]
theorem pairsOf_len (t : Nat) (d : List Int) : (pairsOf t d).length = t := by induction t with
  | zero => rfl
  | succ t ih => simp [pairsOf, ih]
def sacksP (l : Int × List Int) : Bool := decide (l.1 = 5 ∧ l.2.length ≠ 0 ∧ l.2.length % 8 = 0 ∧ l.2.length ≤ 32)
def sacksL (ls : List (Int × List Int)) : List (Int × Int) := match ls.find? sacksP with | some l => pairsOf (l.2.length / 8) l.2 | none => []
theorem beN4_u32 (l : List Int) (h : ∀ x ∈ l, 0 ≤ x ∧ x < 256) (hl : l.length = 4) : 0 ≤ beN l ∧ beN l < 4294967296 := by
  match l, hl with
  | [a, b, c, d], _ =>
    have h0 := h a (by simp)
    have h1 := h b (by simp)
    have h2 := h c (by simp)
    have h3 := h d (by simp)
    simp [beN]
    omega
theorem ownK_ne {t : TypeId} {w : World} {B n c g : Nat} {A : Option Addr} {l : List (Int × Int)} {cs : Array Value} {t2 : TypeId} (h : OwnK t w B A n c l) (hg : w.heap[g]? = some (.cells cs t2 (0, 0))) (ht : t ≠ t2) : ∀ k, A = some ⟨k, 0, none⟩ → k ≠ g := by
  intro k e he
  subst he
  rcases h.2 with ⟨e1, _⟩ | ⟨g', cap, cur, e1, _, hb, _⟩
  · injection e1 with e1 _ _; rw [e] at e1; cases e1
  · injection e1 with e1 _ _
    rw [e] at e1
    injection e1 with e1
    injection e1 with e1 _
    subst e1
    rw [hg] at hb
    injection hb with hb
    injection hb with _ hb _
    exact ht hb.symm
theorem OwnK.butA {S : Nat → Prop} {t : TypeId} {w w' : World} {B : Nat} {A : Option Addr} {n c : Nat} {l : List (Int × Int)} (h : OwnK t w B A n c l) (hb : But S w w') (hS : ∀ k, A = some ⟨k, 0, none⟩ → ¬ S k) : OwnK t w' B A n c l := by
  refine ⟨h.1, ?_⟩
  rcases h.2 with h0 | ⟨g, cap, cur, e, hB, hc, hrest⟩
  · exact .inl h0
  · exact .inr ⟨g, cap, cur, e, hB, hb.blk hc (hS g (by injection e)), hrest⟩
theorem Rdr3.below {w w' : World} {B B' g : Nat} {l : List Int} {N : Int} (h : Rdr3 w B g l N) (hb : Below B' w w') (hg : g < B') : Rdr3 w' B g l N := by
  obtain ⟨A, n, c, h1, h2, h3, h4, h5, h6, h7⟩ := h
  refine ⟨A, n, c, h1, h2, h3, (hb.block g hg).trans h4, ?_, h6, h7⟩
  refine h5.but (S := fun k => B' ≤ k) ⟨hb.os, hb.tape, hb.output, hb.size, fun k _ hn => hb.block k (by omega)⟩ (fun b o e h0 => by have := h6 b o e h0; omega)

theorem Rdr3.but {S : Nat → Prop} {w w' : World} {B g : Nat} {l : List Int} {N : Int} (h : Rdr3 w B g l N) (hb : But S w w') (hS : ∀ k, S k → B ≤ k ∧ k ≠ g) : Rdr3 w' B g l N := by
  obtain ⟨A, n, c, h1, h2, h3, h4, h5, h6, h7⟩ := h
  refine ⟨A, n, c, h1, h2, h3, hb.blk h4 (fun e => (hS g e).2 rfl), h5.but hb (fun b o e h0 hs => ?_), h6, h7⟩
  have := h6 b o e h0
  have := (hS b hs).1
  omega
theorem OwnK.blk {t : TypeId} {w : World} {B n c : Nat} {A : Option Addr} {l : List (Int × Int)} (h : OwnK t w B A n c l) : ∀ k, Blk A k → B ≤ k ∧ A = some ⟨k, 0, none⟩ := by
  rintro k ⟨a, e, rfl⟩
  subst e
  rcases h.2 with ⟨e1, _⟩ | ⟨g', cap, cur, e1, hB, _⟩
  · injection e1 with e1 _ _; cases e1
  · injection e1 with e1 _ _
    injection e1 with e1
    subst e1
    exact ⟨hB, rfl⟩
end Go.Proofs.Ytoblllgefmajiaa
