/-
  The contracts of culvertref03's reader (take, Num of four bytes) and of culvertref05's Sacks.
-/
import Derived.Test.YtikfklbgncdbnaaRefLay
namespace Go.Proofs.Ytikfklbgncdbnaa
set_option maxRecDepth 10000
open Go.RowKit

def readerBlk (A : Option Addr) (n c : Nat) (N : Int) : Obj := .cells #[.slice A n c, .int .i64 N, .int .i64 0] 87 (0, 0)
/-- A reader in block g: l is left. -/
def Rdr3 (w : World) (B g : Nat) (l : List Int) (N : Int) : Prop := ∃ A n c, n ≤ c ∧ c ≤ maxLen ∧ (0 ≤ N ∧ N + l.length ≤ 100000) ∧ w.heap[g]? = some (readerBlk A n c N) ∧ Rd w A n l ∧ (∀ b o, A = some ⟨b, o, none⟩ → 0 < n → b < B) ∧ B ≤ g
def TakeIs3 (B g k : Nat) (l : List Int) (N : Int) (w : World) (e : Ending) (w' : World) : Prop :=
  ∃ A c, e = .returned (.slice A k c) ∧ Rd w' A k (l.take k) ∧ Rdr3 w' B g (l.drop k) (N + k) ∧ But (fun x => x = g) w w'
theorem rtake_any (B g k : Nat) (l : List Int) (N : Int) (w : World) (hk : 0 < k) (hkl : k ≤ l.length) (h : Rdr3 w B g l N) :
    Calls Try.prog 73 #[.pointer (some ⟨g, 0, none⟩), .int .i64 (k : Int)] w (TakeIs3 B g k l N w) := by
  obtain ⟨A, n, c, hnc, hcm, ⟨hN0, hN1⟩, hblk, hr, hAB, hBg⟩ := h
  have hlen := hr.len
  obtain ⟨b, o, rfl, hbl, hcell⟩ := hr.at_ (by omega)
  have hbB := hAB b o rfl (by omega)
  have g0 := blk_cell hblk 0
  have g1 := blk_cell hblk 1
  have g2 := blk_cell hblk 2
  have gf := blk_free hblk
  simp at g0 g1 g2
  obtain ⟨d, hd⟩ : ∃ d, n = k + d := ⟨n - k, by omega⟩
  have hsub : n - k = d := by omega
  have Hfin := Lib.hid (fun (A' : Option Addr) (hA : A' = some ⟨b, o + k, none⟩ ∨ (A' = some ⟨b, o, none⟩ ∧ d = 0)) (c' : Nat) (hc' : d ≤ c' ∧ c' ≤ maxLen) => show TakeIs3 B g k l N w (.returned (.slice (some ⟨b, o, none⟩) k c)) ((w.setCell ⟨g, 0, none⟩ (.slice A' d c')).setCell ⟨g, 1, none⟩ (.int .i64 (N + k))) from by
    have hbut := ((But.refl (fun x => x = g) w).setCell (p := ⟨g, 0, none⟩) rfl (.slice A' d c')).setCell (p := ⟨g, 1, none⟩) rfl (.int .i64 (N + k))
    have hq : (w.setCell ⟨g, 0, none⟩ (.slice A' d c')).heap[g]? = _ := Go.Joins.block_setCell hblk _
    have hq2 := Go.Joins.block_setCell (i := 1) hq (.int .i64 (N + k))
    refine ⟨_, _, rfl, (hr.take (by omega)).but hbut (fun b' o' e _ he => by injection e with e; injection e with e _; omega), ⟨A', d, c', hc'.1, hc'.2, ⟨by omega, by rw [List.length_drop]; omega⟩, by rw [hq2]; simp [readerBlk], ?_, ?_, hBg⟩, hbut⟩
    · have hdr := (hr.drop_ (k := k) (m := d) rfl (by omega)).but hbut (fun b' o' e _ he => by injection e with e; injection e with e _; omega)
      rcases hA with rfl | ⟨rfl, rfl⟩
      · exact hdr
      · have hl0 : l.drop k = [] := List.eq_nil_of_length_eq_zero hdr.len
        rw [hl0]
        exact Rd.nil _ _
    · intro b' o' e h0
      rcases hA with rfl | ⟨rfl, hd0⟩
      · injection e with e; injection e with e _; omega
      · omega)
  have i0 : (k : Int) ≤ (n : Int) := by omega
  have i1 : (0 : Int) ≤ (k : Int) := by omega
  have i2 : (k : Int) ≤ (c : Int) := by omega
  have i3 : (n : Int) ≤ (c : Int) := by omega
  have i4 : ¬ (n : Int) < (k : Int) := by omega
  have hcc := Lib.hid (show d ≤ c - k ∧ c - k ≤ maxLen by omega)
  unfold maxLen at hcm
  have Hsub := Lib.hid hsub
  clear hr hcell hblk hAB hd
  by_cases hkc : k = c
  · have hnk : n = k := by omega
    subst hkc
    subst hnk
    obtain rfl : d = 0 := by omega
    clear hsub
    go_enter Try.func73, Try.ntmps73
    go_wp2_with fail
    go_ret
    have hq := Hfin.out (some ⟨b, o, none⟩) (.inr ⟨rfl, by simp⟩) 0 ⟨Nat.le_refl _, Nat.zero_le _⟩
    exact hq
  · have hkc2 : ¬ c = k := fun e => hkc e.symm
    go_enter Try.func73, Try.ntmps73
    go_wp2_with fail
    go_ret
    exact Hfin.out (some ⟨b, o + k, none⟩) (.inl rfl) (c - k) ⟨by omega, by unfold maxLen; omega⟩

def beN (l : List Int) : Int := l.foldl (fun a x => a * 256 + x) 0
theorem beN_snoc (l : List Int) (x : Int) : beN (l ++ [x]) = beN l * 256 + x := by simp [beN]
theorem beN_bd : ∀ (l : List Int), (∀ x ∈ l, 0 ≤ x ∧ x < 256) → l.length ≤ 3 → 0 ≤ beN l ∧ beN l < 16777216
  | [], _, _ => by simp [beN]
  | [a], h, _ => by have h0 := h a (by simp); have := h0.1; have := h0.2; simp [beN]; omega
  | [a, b], h, _ => by have h0 := h a (by simp); have h1 := h b (by simp); simp [beN]; omega
  | [a, b, c], h, _ => by have h0 := h a (by simp); have h1 := h b (by simp); have h2 := h c (by simp); simp [beN]; omega
  | _ :: _ :: _ :: _ :: _, _, h => by simp at h
def Num3 (B g : Nat) (x : Int) (l : List Int) (N : Int) (w : World) (e : Ending) (w' : World) : Prop := e = .returned (.int .u32 x) ∧ Rdr3 w' B g l N ∧ But (fun k => k = g) w w'
theorem rnum_any (B g : Nat) (l : List Int) (N : Int) (w : World) (hl : 4 ≤ l.length) (h : Rdr3 w B g l N) :
    Calls Try.prog 56 #[.pointer (some ⟨g, 0, none⟩), .int .i64 4] w (Num3 B g (beN (l.take 4)) (l.drop 4) (N + 4) w) := by
  have Ht := Lib.hid (rtake_any B g 4 l N w (by omega) hl h)
  have Hlen := Lib.hid (show (l.take 4).length = 4 by rw [List.length_take]; omega)
  clear h hl
  go_enter Try.func56, Try.ntmps56
  go_wp2_with fail
  refine Ht.out.mono ?_
  rintro e w1 ⟨A, c, rfl, hr, hR, hb⟩
  have HR := Lib.hid hR
  have Hb := Lib.hid hb
  obtain ⟨lt, el⟩ : ∃ lt, l.take 4 = lt := ⟨_, rfl⟩
  rw [el] at hr Hlen
  have El := Lib.hid el
  clear hR hb el
  go_wp2_with fail
  go_loopg [5, 7] 4 (fun gk a i wr => ∃ j : Nat, Hid (gk + j = 4) ∧ j ≤ 4 ∧ i = .int .i64 (j : Int) ∧ a = .int .u32 (beN (lt.take j)) ∧ wr = w1)
  case atStart => exact ⟨0, rfl, Nat.zero_le _, rfl, rfl, rfl⟩
  case round =>
    obtain ⟨j, hgk, hj, rfl, rfl, rfl⟩ := hrel
    by_cases hlt : j < 4
    · obtain ⟨q, hrunq, hcellq, hqb, hx0, hx1⟩ := byte_at (c := c) hr j (j : Int) hlt rfl
      have hn := beN_bd (lt.take j) (fun x hx => hr.byte x (List.mem_of_mem_take hx)) (by rw [List.length_take]; omega)
      have Hs := Lib.hid (take_snoc_ lt j 0 (by rw [Hlen.out]; exact hlt))
      obtain ⟨x, ex⟩ : ∃ x, lt.getD j 0 = x := ⟨_, rfl⟩
      obtain ⟨y, ey⟩ : ∃ y, beN (lt.take j) = y := ⟨_, rfl⟩
      rw [ex] at hcellq hx0 hx1
      rw [ey] at hn ⊢
      have Hy := Lib.hid (show beN (lt.take (j + 1)) = 256 * y + x by rw [Hs.out, beN_snoc, ex, ey]; omega)
      obtain ⟨hn0, hn1⟩ := hn
      clear ex ey
      go_wp2_with fail
      go_roundg (gk - 1)
      case measure => have := hgk.out; omega
      case rel => exact ⟨j + 1, by have := hgk.out; show gk - 1 + (j + 1) = _; omega, by omega, by go_num, by rw [Hy.out], rfl⟩
    · obtain rfl : j = 4 := by omega
      go_wp2_with fail
      go_ret
      have e : lt.take 4 = lt := List.take_of_length_le (by rw [Hlen.out]; omega)
      refine ⟨?_, HR.out, Hb.out⟩
      show Ending.returned (Value.int .u32 (beN (lt.take 4))) = _
      rw [e, El.out]

def pairsOf : Nat → List Int → List (Int × Int)
  | 0, _ => []
  | t + 1, d => pairsOf t d ++ [(beN ((d.drop (8 * t)).take 4), beN ((d.drop (8 * t + 4)).take 4))]
theorem pairsOf_len (t : Nat) (d : List Int) : (pairsOf t d).length = t := by induction t with
  | zero => rfl
  | succ t ih => simp [pairsOf, ih]
def sacksP (l : Int × List Int) : Bool := decide (l.1 = 5 ∧ l.2.length ≠ 0 ∧ l.2.length % 8 = 0 ∧ l.2.length ≤ 32)
def sacksL (ls : List (Int × List Int)) : List (Int × Int) := match ls.find? sacksP with | some l => pairsOf (l.2.length / 8) l.2 | none => []
theorem beN4_u32 (l : List Int) (h : ∀ x ∈ l, 0 ≤ x ∧ x < 256) (hl : l.length = 4) : 0 ≤ beN l ∧ beN l < 4294967296 := by
  match l, hl with
  | [a, b, c, d], _ =>
    have h0 := h a (by simp)
    have h1 := h b (by simp)
    have h2 := h c (by simp)
    have h3 := h d (by simp)
    simp [beN]
    omega
theorem ownK_ne {t : TypeId} {w : World} {B n c g : Nat} {A : Option Addr} {l : List (Int × Int)} {cs : Array Value} {t2 : TypeId} (h : OwnK t w B A n c l) (hg : w.heap[g]? = some (.cells cs t2 (0, 0))) (ht : t ≠ t2) : ∀ k, A = some ⟨k, 0, none⟩ → k ≠ g := by
  intro k e he
  subst he
  rcases h.2 with ⟨e1, _⟩ | ⟨g', cap, cur, e1, _, hb, _⟩
  · injection e1 with e1 _ _; rw [e] at e1; cases e1
  · injection e1 with e1 _ _
    rw [e] at e1
    injection e1 with e1
    injection e1 with e1 _
    subst e1
    rw [hg] at hb
    injection hb with hb
    injection hb with _ hb _
    exact ht hb.symm
theorem OwnK.butA {S : Nat → Prop} {t : TypeId} {w w' : World} {B : Nat} {A : Option Addr} {n c : Nat} {l : List (Int × Int)} (h : OwnK t w B A n c l) (hb : But S w w') (hS : ∀ k, A = some ⟨k, 0, none⟩ → ¬ S k) : OwnK t w' B A n c l := by
  refine ⟨h.1, ?_⟩
  rcases h.2 with h0 | ⟨g, cap, cur, e, hB, hc, hrest⟩
  · exact .inl h0
  · exact .inr ⟨g, cap, cur, e, hB, hb.blk hc (hS g (by injection e)), hrest⟩
theorem Rdr3.below {w w' : World} {B B' g : Nat} {l : List Int} {N : Int} (h : Rdr3 w B g l N) (hb : Below B' w w') (hg : g < B') : Rdr3 w' B g l N := by
  obtain ⟨A, n, c, h1, h2, h3, h4, h5, h6, h7⟩ := h
  refine ⟨A, n, c, h1, h2, h3, (hb.block g hg).trans h4, ?_, h6, h7⟩
  refine h5.but (S := fun k => B' ≤ k) ⟨hb.os, hb.tape, hb.output, hb.size, fun k _ hn => hb.block k (by omega)⟩ (fun b o e h0 => by have := h6 b o e h0; omega)

theorem Rdr3.but {S : Nat → Prop} {w w' : World} {B g : Nat} {l : List Int} {N : Int} (h : Rdr3 w B g l N) (hb : But S w w') (hS : ∀ k, S k → B ≤ k ∧ k ≠ g) : Rdr3 w' B g l N := by
  obtain ⟨A, n, c, h1, h2, h3, h4, h5, h6, h7⟩ := h
  refine ⟨A, n, c, h1, h2, h3, hb.blk h4 (fun e => (hS g e).2 rfl), h5.but hb (fun b o e h0 hs => ?_), h6, h7⟩
  have := h6 b o e h0
  have := (hS b hs).1
  omega
theorem OwnK.blk {t : TypeId} {w : World} {B n c : Nat} {A : Option Addr} {l : List (Int × Int)} (h : OwnK t w B A n c l) : ∀ k, Blk A k → B ≤ k ∧ A = some ⟨k, 0, none⟩ := by
  rintro k ⟨a, e, rfl⟩
  subst e
  rcases h.2 with ⟨e1, _⟩ | ⟨g', cap, cur, e1, hB, _⟩
  · injection e1 with e1 _ _; cases e1
  · injection e1 with e1 _ _
    injection e1 with e1
    subst e1
    exact ⟨hB, rfl⟩
theorem rsacks_any (A : Option Addr) (n c m : Nat) (os : List OptV) (ls : List (Int × List Int)) (w : World) (hn : n ≤ 1000000) (hr : RdO w A n os) (hs : Reads w os ls) (hm : (sacksL ls).length = m) :
    Calls Try.prog 29 #[.slice A n c] w (BlksAre 56 m (sacksL ls) w) := by
  have Hl := Lib.hid (show ls.length = n by rw [← hs.len, hr.len])
  have Hr := Lib.hid hr
  have Hs := Lib.hid hs
  have Hm := Lib.hid hm
  clear hr hs hm
  go_enter Try.func29, Try.ntmps29
  go_wp2_with fail
  go_loopg [3, 4] n (fun gk s i wr => ∃ j : Nat, Hid (gk + j = n) ∧ j ≤ n ∧ s = .slice none 0 0 ∧ i = .int .i64 (j : Int) ∧ Hid ((ls.take j).find? sacksP = none) ∧ Below w.heap.size w wr)
  case atStart => exact ⟨0, rfl, Nat.zero_le _, rfl, rfl, Lib.hid (by simp), Below.refl _ _⟩
  case round =>
    obtain ⟨j, hgk, hj, rfl, rfl, hno, hb⟩ := hrel
    by_cases hjn : j < n
    · have hjn := hjn
      obtain ⟨b1, p1, hrun1, hb1, hk0, hd0⟩ := Hr.out.index (c := c) hjn
      have o1 := Hs.out.get j (by rw [Hr.out.len]; exact hjn)
      obtain ⟨v1, ev1⟩ : ∃ v, os.getD j .none = v := ⟨_, rfl⟩
      obtain ⟨l1, el1⟩ : ∃ v, ls.getD j (0, []) = v := ⟨_, rfl⟩
      rw [ev1] at hk0 hd0 o1
      rw [el1] at o1
      obtain ⟨kd1, A1, n1, c1⟩ := v1
      obtain ⟨t1, d1⟩ := l1
      obtain ⟨rfl, hkb, hnc, hcm, r1⟩ := o1
      simp only at hk0 hd0 hkb hnc hcm r1
      have hk1 := (hb.cell (p := ⟨b1, p1, none⟩) hb1).trans hk0
      have hd1 := (hb.cell (p := ⟨b1, p1 + 1, none⟩) hb1).trans hd0
      have El1 := Lib.hid el1
      have Hd1 := Lib.hid r1.len
      have Hr1 := Lib.hid r1
      clear ev1 el1 r1 hk0 hd0
      by_cases hp : kd1 = 5 ∧ n1 ≠ 0 ∧ n1 % 8 = 0 ∧ n1 ≤ 32
      · obtain ⟨rfl, hp0, hp8, hp32⟩ := hp
        have Hfind := Lib.hid (show sacksL ls = pairsOf (n1 / 8) d1 by
          unfold sacksL
          rw [find_at (by rw [Hl.out]; exact hjn) hno.out (by rw [El1.out]; unfold sacksP; rw [Hd1.out]; simp; omega), El1.out]
          simp only [Hd1.out])
        have i0 : ((n1 : Int) == 0) = false := by simp; omega
        have i8 : ((n1 : Int) % 8 == 0) = true := by simp; omega
        have i8' : ((n1 : Int) % 8 != 0) = false := by simp; omega
        have i32 : (n1 : Int) ≤ 32 := by omega
        have HR3 := Lib.hid (show Rdr3 (wr.alloc (readerBlk A1 n1 c1 0)) w.heap.size wr.heap.size d1 0 from
          ⟨A1, n1, c1, hnc, hcm, ⟨by omega, by rw [Hd1.out]; omega⟩, heap_alloc_new wr _, (Hr1.out.below hb).below (Below.alloc (Below.refl _ _) (Nat.le_refl _) _), fun b o e h0 => by
            obtain ⟨b', o', e', hlt, _⟩ := Hr1.out.at_ h0
            rw [e] at e'; injection e' with e'; injection e' with e' _; omega, hb.size⟩)
        have HB3 := Lib.hid (show Below w.heap.size w (wr.alloc (readerBlk A1 n1 c1 0)) from hb.alloc hb.size _)
        unfold readerBlk at HR3 HB3
        obtain ⟨T, eT⟩ : ∃ T, n1 / 8 = T := ⟨_, rfl⟩
        have hTi : (n1 : Int) / 8 = (T : Int) := by omega
        have hT4 : T ≤ 4 := by omega
        have ET := Lib.hid (show n1 = 8 * T by omega)
        rw [eT] at Hfind
        clear eT hp0 hp8
        go_wp2_with fail
        obtain ⟨g, eg⟩ : ∃ g, wr.heap.size = g := ⟨_, rfl⟩
        rw [eg] at HR3
        have Hgw := Lib.hid (show w.heap.size ≤ g by have := hb.size; omega)
        simp only [eg]
        clear eg
        go_loopg [3, 7] T (fun gk2 s k wr2 => ∃ (t : Nat) (A3 : Option Addr) (c3 : Nat), Hid (gk2 + t = T) ∧ t ≤ T ∧ k = .int .i64 (t : Int) ∧ s = .slice A3 t c3 ∧ Hid (OwnK 56 wr2 w.heap.size A3 t c3 (pairsOf t d1)) ∧ Hid (Rdr3 wr2 w.heap.size g (d1.drop (8 * t)) (8 * (t : Int))) ∧ Below w.heap.size w wr2)
        case atStart => exact ⟨0, none, 0, rfl, Nat.zero_le _, rfl, rfl, Lib.hid (OwnK.nil _ _ _), Lib.hid (by simpa using HR3.out), HB3.out⟩
        case round =>
          obtain ⟨t, A3, c3, hgt, ht, rfl, rfl, hown, hrd3, hb3⟩ := hrel
          by_cases htT : t < T
          · have Hn1 := Lib.hid (rnum_any w.heap.size g (d1.drop (8 * t)) (8 * (t : Int)) wr (by rw [List.length_drop, Hd1.out]; have := ET.out; omega) hrd3.out)
            have Hne := Lib.hid (show ∀ k, A3 = some ⟨k, 0, none⟩ → ¬ (k = g) from by
              obtain ⟨_, _, _, _, _, _, hblk, _⟩ := hrd3.out
              exact ownK_ne hown.out hblk (by decide))
            clear hrd3
            go_wp2_with fail
            refine Hn1.out.mono ?_
            rintro e w3 ⟨rfl, hR1, hb1⟩
            have Hn2 := Lib.hid (rnum_any w.heap.size g (d1.drop (8 * t + 4)) (8 * (t : Int) + 4) w3 (by rw [List.length_drop, Hd1.out]; have := ET.out; omega) (by simpa [List.drop_drop] using hR1))
            have Hown1 := Lib.hid (hown.out.butA hb1 Hne.out)
            have Hb1 := Lib.hid hb1
            clear hR1 hb1 hown Hn1
            go_wp2_with fail
            refine Hn2.out.mono ?_
            rintro e w4 ⟨rfl, hR2, hb2⟩
            have Hown2 := Lib.hid (Hown1.out.butA hb2 Hne.out)
            have HR2 := Lib.hid hR2
            have Hby : Hid (∀ x ∈ d1, 0 ≤ x ∧ x < 256) := Lib.hid fun x hx => Hr1.out.byte x hx
            have hlx : ((d1.drop (8 * t)).take 4).length = 4 := by rw [List.length_take, List.length_drop, Hd1.out]; have := ET.out; omega
            have hly : ((d1.drop (8 * t + 4)).take 4).length = 4 := by rw [List.length_take, List.length_drop, Hd1.out]; have := ET.out; omega
            have hx := beN4_u32 _ (fun x hx => Hby.out x (List.mem_of_mem_drop (List.mem_of_mem_take hx))) hlx
            have hy := beN4_u32 _ (fun x hx => Hby.out x (List.mem_of_mem_drop (List.mem_of_mem_take hx))) hly
            have Hp := Lib.hid (show pairsOf (t + 1) d1 = pairsOf t d1 ++ [(beN ((d1.drop (8 * t)).take 4), beN ((d1.drop (8 * t + 4)).take 4))] from rfl)
            obtain ⟨x, ex⟩ : ∃ x, beN ((d1.drop (8 * t)).take 4) = x := ⟨_, rfl⟩
            obtain ⟨y, ey⟩ : ∃ y, beN ((d1.drop (8 * t + 4)).take 4) = y := ⟨_, rfl⟩
            rw [ex, ey] at Hp
            rw [ex] at hx ⊢
            rw [ey] at hy ⊢
            have Hxy : Hid (U32P (x, y)) := Lib.hid ⟨hx, hy⟩
            have Hb4 := Lib.hid (Below.trans (Below.trans hb3 (Hb1.out.below (B := w.heap.size) (fun k hk => by have := Hgw.out; omega) hb3.size)) (hb2.below (B := w.heap.size) (fun k hk => by have := Hgw.out; omega) (Nat.le_trans hb3.size Hb1.out.size)))
            clear hR2 hb2 Hown1 Hn2 hb3 Hb1 hlx hly hx hy ex ey
            go_wp2_with (refine wpList_appK_r rfl (.tmp 58) (.tmp 62) rfl w.heap.size A3 (some ⟨w4.heap.size, 0, none⟩) t c3 1 1 (pairsOf t d1) [(x, y)] rfl rfl (Hown2.out.on (Below.alloc (Below.refl _ _) (Nat.le_refl _) _)) (RdK.one w4 w4.heap.size rfl _ _ x y Hxy.out) (by omega) (by omega) (Nat.le_trans Hb4.out.size (by simp)) ?_; intro A4 c4 w5 hown5 hgr5 hb5)
            have HR5 := Lib.hid ((HR2.out.but (S := fun _ => False) (But.of (Below.alloc (Below.refl _ _) (Nat.le_refl _) _)) (fun _ hs => hs.elim)).but (grown_but hgr5) (fun k hk => ⟨(Hown2.out.blk k hk).1, fun e => Hne.out k (Hown2.out.blk k hk).2 e⟩))
            have Hd8 := Lib.hid (show ((d1.drop (8 * t + 4)).drop 4) = d1.drop (8 * (t + 1)) by rw [List.drop_drop]; congr 1)
            rw [Hd8.out] at HR5
            clear HR2 hgr5
            go_roundg (gk - 1)
            case measure => have := hgt.out; omega
            case rel =>
              exact ⟨t + 1, A4, c4, by have := hgt.out; show gk - 1 + (t + 1) = _; omega, by omega, by go_num, rfl, Lib.hid (by rw [Hp.out]; exact hown5), Lib.hid (by rw [show (8 : Int) * ((t + 1 : Nat) : Int) = 8 * (t : Int) + 4 + 4 by omega]; exact HR5.out), (Hb4.out.alloc Hb4.out.size _).trans hb5⟩
          · obtain rfl : t = T := by omega
            have hmT : t = m := by rw [← Hm.out, Hfind.out, pairsOf_len]
            subst hmT
            go_wp2_with fail
            go_ret
            exact ⟨A3, c3, rfl, by rw [Hfind.out]; exact hown.out, hb3⟩
      · have Hno := Lib.hid (find_snoc (by rw [Hl.out]; exact hjn) hno.out (show sacksP (ls.getD j (0, [])) = false by rw [El1.out]; unfold sacksP; rw [Hd1.out]; simpa using hp))
        have hcase : kd1 ≠ 5 ∨ (kd1 = 5 ∧ n1 = 0) ∨ (kd1 = 5 ∧ n1 ≠ 0 ∧ n1 % 8 ≠ 0) ∨ (kd1 = 5 ∧ n1 ≠ 0 ∧ n1 % 8 = 0 ∧ 32 < n1) := by omega
        clear hp
        rcases hcase with h1 | ⟨h1, h2⟩ | ⟨h1, h2, h3⟩ | ⟨h1, h2, h3, h4⟩
        · have e1 : (kd1 == 5) = false := by simpa using h1
          have e2 : (kd1 != 5) = true := by simpa using h1
          clear h1
          go_wp2_with fail
          go_roundg (gk - 1)
          case measure => have := hgk.out; omega
          case rel => exact ⟨j + 1, by have := hgk.out; show gk - 1 + (j + 1) = _; omega, by omega, rfl, by go_num, Hno, hb⟩
        · subst h1 h2
          go_wp2_with fail
          go_roundg (gk - 1)
          case measure => have := hgk.out; omega
          case rel => exact ⟨j + 1, by have := hgk.out; show gk - 1 + (j + 1) = _; omega, by omega, rfl, by go_num, Hno, hb⟩
        · subst h1
          have e2 : ((n1 : Int) == 0) = false := by simp; omega
          have e3 : ((n1 : Int) % 8 == 0) = false := by simp; omega
          have e4 : ((n1 : Int) % 8 != 0) = true := by simp; omega
          clear h2 h3
          go_wp2_with fail
          go_roundg (gk - 1)
          case measure => have := hgk.out; omega
          case rel => exact ⟨j + 1, by have := hgk.out; show gk - 1 + (j + 1) = _; omega, by omega, rfl, by go_num, Hno, hb⟩
        · subst h1
          have e2 : ((n1 : Int) == 0) = false := by simp; omega
          have e3 : ((n1 : Int) % 8 == 0) = true := by simp; omega
          have e4 : ((n1 : Int) % 8 != 0) = false := by simp; omega
          have e5 : 32 < (n1 : Int) := by omega
          clear h2 h3
          go_wp2_with fail
          go_roundg (gk - 1)
          case measure => have := hgk.out; omega
          case rel => exact ⟨j + 1, by have := hgk.out; show gk - 1 + (j + 1) = _; omega, by omega, rfl, by go_num, Hno, hb⟩
    · obtain rfl : j = n := by omega
      have Hfin := Lib.hid (show sacksL ls = [] by
        have h := hno.out
        rw [List.take_of_length_le (by rw [Hl.out]; omega)] at h
        unfold sacksL
        rw [h])
      have hm0 : m = 0 := by rw [← Hm.out, Hfin.out]; rfl
      subst hm0
      go_wp2_with fail
      go_ret
      exact ⟨none, 0, rfl, by rw [Hfin.out]; exact OwnK.nil _ _ _, hb⟩
end Go.Proofs.Ytikfklbgncdbnaa
