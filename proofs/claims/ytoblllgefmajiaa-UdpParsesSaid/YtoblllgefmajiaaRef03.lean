/-
  The document's own numbers in bytes (culvertref03): Own, Lay, and a reader's take and Num, of two bytes that are there.
-/
import Derived.Test.YtoblllgefmajiaaOwnRow
import Derived.Test.YtoblllgefmajiaaBut
import Derived.Test.YtoblllgefmajiaaRdL
import Derived.Lib.Hide
import Derived.IntWalk
import Derived.Deep.LoopGhost
import Derived.LoopTactic
import Derived.Outline
namespace Go.Proofs.Ytoblllgefmajiaa
set_option maxRecDepth 10000
open Go.RowKit
set_option linter.unusedSimpArgs false

theorem Rd.rest3 {w : World} {A : Option Addr} {n c : Nat} {l : List Int} (h : Rd w A n l) (lo : Nat) (loi : Int) (h0 : 0 < n) (hlo : lo ≤ n) (hc : n ≤ c) (hcm : c ≤ maxLen) (el : loi = (lo : Int)) :
    ∃ A', (∀ W : World, (Instr.sliceAt 25 (.slice A n c) (some (.int .i64 loi)) none none).run Try.prog W = .ok (.slice A' (n - lo) (c - lo)) W) ∧ Rd w A' (n - lo) (l.drop lo) ∧ (∀ g o', A' = some ⟨g, o', none⟩ → ∃ o0, A = some ⟨g, o0, none⟩) := by
  subst el
  obtain ⟨b, o, rfl, _, _⟩ := h.at_ h0
  unfold maxLen at hcm
  have i0 : (0 : Int) ≤ (lo : Int) := by omega
  have i1 : (lo : Int) ≤ (n : Int) := by omega
  have i2 : (n : Int) ≤ (c : Int) := by omega
  have i3 : lo ≤ c := by omega
  by_cases hl : lo = c
  · subst hl
    obtain rfl : n = lo := by omega
    refine ⟨some ⟨b, o, none⟩, fun W => by go_simp, ?_, fun g o' e => ⟨o', e⟩⟩
    rw [Nat.sub_self, List.drop_eq_nil_of_le (by rw [h.len]; omega)]
    exact Rd.nil _ _
  · have i4 : ¬ c = lo := fun e => hl e.symm
    refine ⟨some ⟨b, o + lo, none⟩, fun W => by go_simp, ?_, fun g o' e => ⟨o, by injection e with e; injection e with e; rw [e]⟩⟩
    exact h.drop_ rfl (by omega)

theorem own3_any (A : Option Addr) (n c : Nat) (l : List Int) (w : World) (hn : n ≤ 140737488355328) (h : Rd w A n l) :
    Calls Try.prog 80 #[.slice A n c] w (RowIs n l w) := by
  have Hr := Lib.hid h
  clear h
  go_enter Try.func80, Try.ntmps80
  go_wp2_with (refine wpList_app rfl (.tmp 4) (.tmp 5) rfl w.heap.size none A 0 0 n c [] l rfl rfl (OwnB.nil _ _) Hr.out (by omega) (Nat.le_refl _) ?_; intro A3 c3 w3 hown3 hg3 hb3 hat3)
  have Ho := Lib.hid (show OwnB w3 w.heap.size A3 n c3 l by simpa using hown3)
  have Hb := Lib.hid hb3
  clear hown3 hg3 hb3 hat3
  try simp only [Nat.zero_add]
  go_wp2_with fail
  go_ret
  exact ⟨A3, c3, by simp, Ho.out.cap, Ho.out.capMax, Ho.out, Hb.out⟩

/-- A number's lowest bytes, the highest first. -/
def beU2 (x : Int) : List Int := [x / 256 % 256, x % 256]
def beU4 (x : Int) : List Int := [x / 16777216 % 256, x / 65536 % 256, x / 256 % 256, x % 256]
theorem lay2_any (A : Option Addr) (n c : Nat) (l : List Int) (x : Int) (w : World) (hn : n ≤ 100000) (h : Rd w A n l) :
    Calls Try.prog 99 #[.slice A n c, .int .u32 x, .int .i64 2] w (RowIs (n + 2) (l ++ beU2 x) w) := by
  have Ho := Lib.hid (own3_any A n c l w (by omega) h)
  clear h
  go_enter Try.func99, Try.ntmps99
  go_wp2_with fail
  refine Ho.out.mono ?_
  rintro e w1 ⟨A1, c1, rfl, k1, m1, ho1, hb1⟩
  have Ho1 := Lib.hid ho1
  have Hb1 := Lib.hid hb1
  clear ho1 hb1 k1 m1
  go_wp2_with fail
  go_loopg [7, 8] 2 (fun gk b i wr => ∃ (k : Nat) (A' : Option Addr) (c' : Nat), Hid (gk + k = 2) ∧ k ≤ 2 ∧ b = .slice A' (n + k) c' ∧ i = .int .i64 (2 - 1 - (k : Int)) ∧ Hid (OwnB wr w.heap.size A' (n + k) c' (l ++ (beU2 x).take k)) ∧ Hid (Below w.heap.size w wr))
  case atStart => exact ⟨0, A1, c1, rfl, by omega, rfl, by simp, by simpa using Ho1, Hb1⟩
  case round =>
    obtain ⟨k, A', c', hgk, hk, rfl, rfl, hown, hbel⟩ := hrel
    obtain rfl | rfl | rfl : k = 0 ∨ k = 1 ∨ k = 2 := by omega
    ·
      have Hrd := Lib.hid (Rd.one wr (x / 256 % 256) (by omega))
      have Hown := Lib.hid (hown.out.alloc (.cells #[.int .u8 (x / 256 % 256)] 5))
      have hbs := hbel.out.size
      have Hbel1 := Lib.hid (hbel.out.alloc hbs (.cells #[.int .u8 (x / 256 % 256)] 5))
      have hsa : w.heap.size ≤ (wr.alloc (.cells #[.int .u8 (x / 256 % 256)] 5)).heap.size := by simp; omega
      go_wp2_with (refine wpList_app rfl (.tmp 17) (.tmp 23) rfl w.heap.size A' (some ⟨wr.heap.size, 0, none⟩) (n + 0) c' 1 1 _ [x / 256 % 256] rfl rfl Hown.out Hrd.out (by omega) hsa ?_; intro A2 c2 w2 hown2 _ hbel2 _)
      have Hown2 := Lib.hid (show OwnB w2 w.heap.size A2 (n + (0 + 1)) c2 (l ++ (beU2 x).take (0 + 1)) by rw [List.append_assoc] at hown2; exact hown2)
      have Hbel2 := Lib.hid (Hbel1.out.trans hbel2)
      clear hown2 hbel2 hown hbel
      go_roundg (gk - 1)
      case measure => have := hgk.out; omega
      case rel => exact ⟨0 + 1, A2, c2, by have := hgk.out; show gk - 1 + (0 + 1) = _; omega, by omega, rfl, by simp, Hown2, Hbel2⟩
    ·
      have Hrd := Lib.hid (Rd.one wr (x % 256) (by omega))
      have Hown := Lib.hid (hown.out.alloc (.cells #[.int .u8 (x % 256)] 5))
      have hbs := hbel.out.size
      have Hbel1 := Lib.hid (hbel.out.alloc hbs (.cells #[.int .u8 (x % 256)] 5))
      have hsa : w.heap.size ≤ (wr.alloc (.cells #[.int .u8 (x % 256)] 5)).heap.size := by simp; omega
      go_wp2_with (refine wpList_app rfl (.tmp 17) (.tmp 23) rfl w.heap.size A' (some ⟨wr.heap.size, 0, none⟩) (n + 1) c' 1 1 _ [x % 256] rfl rfl Hown.out Hrd.out (by omega) hsa ?_; intro A2 c2 w2 hown2 _ hbel2 _)
      have Hown2 := Lib.hid (show OwnB w2 w.heap.size A2 (n + (1 + 1)) c2 (l ++ (beU2 x).take (1 + 1)) by rw [List.append_assoc] at hown2; exact hown2)
      have Hbel2 := Lib.hid (Hbel1.out.trans hbel2)
      clear hown2 hbel2 hown hbel
      go_roundg (gk - 1)
      case measure => have := hgk.out; omega
      case rel => exact ⟨1 + 1, A2, c2, by have := hgk.out; show gk - 1 + (1 + 1) = _; omega, by omega, rfl, by simp, Hown2, Hbel2⟩
    ·
      have Ho2 := Lib.hid (show OwnB wr w.heap.size A' (n + 2) c' (l ++ beU2 x) by simpa [beU2] using hown.out)
      clear hown
      go_wp2_with fail
      go_ret
      exact ⟨A', c', rfl, Ho2.out.cap, Ho2.out.capMax, Ho2.out, hbel.out⟩
theorem lay4_any (A : Option Addr) (n c : Nat) (l : List Int) (x : Int) (w : World) (hn : n ≤ 100000) (h : Rd w A n l) :
    Calls Try.prog 99 #[.slice A n c, .int .u32 x, .int .i64 4] w (RowIs (n + 4) (l ++ beU4 x) w) := by
  have Ho := Lib.hid (own3_any A n c l w (by omega) h)
  clear h
  go_enter Try.func99, Try.ntmps99
  go_wp2_with fail
  refine Ho.out.mono ?_
  rintro e w1 ⟨A1, c1, rfl, k1, m1, ho1, hb1⟩
  have Ho1 := Lib.hid ho1
  have Hb1 := Lib.hid hb1
  clear ho1 hb1 k1 m1
  go_wp2_with fail
  go_loopg [7, 8] 4 (fun gk b i wr => ∃ (k : Nat) (A' : Option Addr) (c' : Nat), Hid (gk + k = 4) ∧ k ≤ 4 ∧ b = .slice A' (n + k) c' ∧ i = .int .i64 (4 - 1 - (k : Int)) ∧ Hid (OwnB wr w.heap.size A' (n + k) c' (l ++ (beU4 x).take k)) ∧ Hid (Below w.heap.size w wr))
  case atStart => exact ⟨0, A1, c1, rfl, by omega, rfl, by simp, by simpa using Ho1, Hb1⟩
  case round =>
    obtain ⟨k, A', c', hgk, hk, rfl, rfl, hown, hbel⟩ := hrel
    obtain rfl | rfl | rfl | rfl | rfl : k = 0 ∨ k = 1 ∨ k = 2 ∨ k = 3 ∨ k = 4 := by omega
    ·
      have Hrd := Lib.hid (Rd.one wr (x / 16777216 % 256) (by omega))
      have Hown := Lib.hid (hown.out.alloc (.cells #[.int .u8 (x / 16777216 % 256)] 5))
      have hbs := hbel.out.size
      have Hbel1 := Lib.hid (hbel.out.alloc hbs (.cells #[.int .u8 (x / 16777216 % 256)] 5))
      have hsa : w.heap.size ≤ (wr.alloc (.cells #[.int .u8 (x / 16777216 % 256)] 5)).heap.size := by simp; omega
      go_wp2_with (refine wpList_app rfl (.tmp 17) (.tmp 23) rfl w.heap.size A' (some ⟨wr.heap.size, 0, none⟩) (n + 0) c' 1 1 _ [x / 16777216 % 256] rfl rfl Hown.out Hrd.out (by omega) hsa ?_; intro A2 c2 w2 hown2 _ hbel2 _)
      have Hown2 := Lib.hid (show OwnB w2 w.heap.size A2 (n + (0 + 1)) c2 (l ++ (beU4 x).take (0 + 1)) by rw [List.append_assoc] at hown2; exact hown2)
      have Hbel2 := Lib.hid (Hbel1.out.trans hbel2)
      clear hown2 hbel2 hown hbel
      go_roundg (gk - 1)
      case measure => have := hgk.out; omega
      case rel => exact ⟨0 + 1, A2, c2, by have := hgk.out; show gk - 1 + (0 + 1) = _; omega, by omega, rfl, by simp, Hown2, Hbel2⟩
    ·
      have Hrd := Lib.hid (Rd.one wr (x / 65536 % 256) (by omega))
      have Hown := Lib.hid (hown.out.alloc (.cells #[.int .u8 (x / 65536 % 256)] 5))
      have hbs := hbel.out.size
      have Hbel1 := Lib.hid (hbel.out.alloc hbs (.cells #[.int .u8 (x / 65536 % 256)] 5))
      have hsa : w.heap.size ≤ (wr.alloc (.cells #[.int .u8 (x / 65536 % 256)] 5)).heap.size := by simp; omega
      go_wp2_with (refine wpList_app rfl (.tmp 17) (.tmp 23) rfl w.heap.size A' (some ⟨wr.heap.size, 0, none⟩) (n + 1) c' 1 1 _ [x / 65536 % 256] rfl rfl Hown.out Hrd.out (by omega) hsa ?_; intro A2 c2 w2 hown2 _ hbel2 _)
      have Hown2 := Lib.hid (show OwnB w2 w.heap.size A2 (n + (1 + 1)) c2 (l ++ (beU4 x).take (1 + 1)) by rw [List.append_assoc] at hown2; exact hown2)
      have Hbel2 := Lib.hid (Hbel1.out.trans hbel2)
      clear hown2 hbel2 hown hbel
      go_roundg (gk - 1)
      case measure => have := hgk.out; omega
      case rel => exact ⟨1 + 1, A2, c2, by have := hgk.out; show gk - 1 + (1 + 1) = _; omega, by omega, rfl, by simp, Hown2, Hbel2⟩
    ·
      have Hrd := Lib.hid (Rd.one wr (x / 256 % 256) (by omega))
      have Hown := Lib.hid (hown.out.alloc (.cells #[.int .u8 (x / 256 % 256)] 5))
      have hbs := hbel.out.size
      have Hbel1 := Lib.hid (hbel.out.alloc hbs (.cells #[.int .u8 (x / 256 % 256)] 5))
      have hsa : w.heap.size ≤ (wr.alloc (.cells #[.int .u8 (x / 256 % 256)] 5)).heap.size := by simp; omega
      go_wp2_with (refine wpList_app rfl (.tmp 17) (.tmp 23) rfl w.heap.size A' (some ⟨wr.heap.size, 0, none⟩) (n + 2) c' 1 1 _ [x / 256 % 256] rfl rfl Hown.out Hrd.out (by omega) hsa ?_; intro A2 c2 w2 hown2 _ hbel2 _)
      have Hown2 := Lib.hid (show OwnB w2 w.heap.size A2 (n + (2 + 1)) c2 (l ++ (beU4 x).take (2 + 1)) by rw [List.append_assoc] at hown2; exact hown2)
      have Hbel2 := Lib.hid (Hbel1.out.trans hbel2)
      clear hown2 hbel2 hown hbel
      go_roundg (gk - 1)
      case measure => have := hgk.out; omega
      case rel => exact ⟨2 + 1, A2, c2, by have := hgk.out; show gk - 1 + (2 + 1) = _; omega, by omega, rfl, by simp, Hown2, Hbel2⟩
    ·
      have Hrd := Lib.hid (Rd.one wr (x % 256) (by omega))
      have Hown := Lib.hid (hown.out.alloc (.cells #[.int .u8 (x % 256)] 5))
      have hbs := hbel.out.size
      have Hbel1 := Lib.hid (hbel.out.alloc hbs (.cells #[.int .u8 (x % 256)] 5))
      have hsa : w.heap.size ≤ (wr.alloc (.cells #[.int .u8 (x % 256)] 5)).heap.size := by simp; omega
      go_wp2_with (refine wpList_app rfl (.tmp 17) (.tmp 23) rfl w.heap.size A' (some ⟨wr.heap.size, 0, none⟩) (n + 3) c' 1 1 _ [x % 256] rfl rfl Hown.out Hrd.out (by omega) hsa ?_; intro A2 c2 w2 hown2 _ hbel2 _)
      have Hown2 := Lib.hid (show OwnB w2 w.heap.size A2 (n + (3 + 1)) c2 (l ++ (beU4 x).take (3 + 1)) by rw [List.append_assoc] at hown2; exact hown2)
      have Hbel2 := Lib.hid (Hbel1.out.trans hbel2)
      clear hown2 hbel2 hown hbel
      go_roundg (gk - 1)
      case measure => have := hgk.out; omega
      case rel => exact ⟨3 + 1, A2, c2, by have := hgk.out; show gk - 1 + (3 + 1) = _; omega, by omega, rfl, by simp, Hown2, Hbel2⟩
    ·
      have Ho2 := Lib.hid (show OwnB wr w.heap.size A' (n + 4) c' (l ++ beU4 x) by simpa [beU4] using hown.out)
      clear hown
      go_wp2_with fail
      go_ret
      exact ⟨A', c', rfl, Ho2.out.cap, Ho2.out.capMax, Ho2.out, hbel.out⟩

def rdr3 (A : Option Addr) (n c : Nat) (N : Int) : Array Value := #[.slice A n c, .int .i64 N, .int .i64 0]
theorem cells3' {w : World} {g : Nat} {u0 u1 u2 : Value} {t : TypeId} (h : w.heap[g]? = some (.cells #[u0, u1, u2] t (0, 0))) : w.cell? ⟨g, 0, none⟩ = some u0 ∧ w.cell? ⟨g, 1, none⟩ = some u1 ∧ w.cell? ⟨g, 2, none⟩ = some u2 := ⟨by rw [blk_cell h]; rfl, by rw [blk_cell h]; rfl, by rw [blk_cell h]; rfl⟩
theorem setCell_block3 {w : World} {b i : Nat} {cells : Array Value} {ty : TypeId} {ro : Nat × Nat} (hb : w.heap[b]? = some (.cells cells ty ro)) (u : Value) :
    (w.setCell ⟨b, i, none⟩ u).heap[b]? = some (.cells (cells.set! i u) ty ro) := by
  rw [Joins.block_setCell hb u]; simp
theorem set3_two {w : World} {q : Nat} {u0 u1 u2 : Value} {t : TypeId} (h : w.heap[q]? = some (.cells #[u0, u1, u2] t (0, 0))) (v0 v1 : Value) :
    ((w.setCell ⟨q, 0, none⟩ v0).setCell ⟨q, 1, none⟩ v1).heap[q]? = some (.cells #[v0, v1, u2] t (0, 0)) := by
  have h1 := setCell_block3 (i := 0) h v0
  have h2 := setCell_block3 (i := 1) h1 v1
  simpa using h2

/-- The reader's next two bytes are taken. -/
def TookIs (p : Nat) (A : Option Addr) (m c : Nat) (N : Int) (l rest : List Int) (w : World) (e : Ending) (w' : World) : Prop :=
  e = .returned (.slice A 2 c) ∧ Rd w' A 2 l ∧ ∃ A', w'.heap[p]? = some (.cells (rdr3 A' m (c - 2) (N + 2)) 116 (0, 0)) ∧ Rd w' A' m rest ∧ But (fun k => k = p) w w'
theorem take2_any (p : Nat) (A : Option Addr) (m c : Nat) (N : Int) (x y : Int) (rest : List Int) (w : World) (hN : 0 ≤ N ∧ N ≤ 1000000) (hc : m + 2 ≤ c ∧ c ≤ maxLen) (h : Rd w A (m + 2) (x :: y :: rest))
    (hp : w.heap[p]? = some (.cells (rdr3 A (m + 2) c N) 116 (0, 0))) :
    Calls Try.prog 101 #[.pointer (some ⟨p, 0, none⟩), .int .i64 2] w (TookIs p A m c N [x, y] rest w) := by
  unfold rdr3 at hp
  obtain ⟨b, o, rfl, hb, _⟩ := h.at_ (by omega)
  have hbp : b ≠ p := h.apart rfl (by omega) hp (by intro j z; match j with | 0 => simp | 1 => simp | 2 => simp | j + 3 => simp)
  obtain ⟨A', hcut, hr', hsame⟩ := h.rest3 (c := c) 2 2 (by omega) (by omega) hc.1 hc.2 rfl
  rw [show m + 2 - 2 = m by omega] at hcut hr'
  have hr2 := h.take (k := 2) (by omega)
  have hbut : ∀ v u, But (fun k => k = p) w ((w.setCell ⟨p, 0, none⟩ v).setCell ⟨p, 1, none⟩ u) := fun v u => ((But.refl (fun k => k = p) _).setCell (p := ⟨p, 0, none⟩) rfl _).setCell (p := ⟨p, 1, none⟩) rfl _
  have Hfin := Lib.hid (show TookIs p (some ⟨b, o, none⟩) m c N [x, y] rest w (.returned (.slice (some ⟨b, o, none⟩) 2 c)) ((w.setCell ⟨p, 0, none⟩ (.slice A' m (c - 2))).setCell ⟨p, 1, none⟩ (.int .i64 (N + 2))) from
    ⟨rfl, hr2.but (hbut _ _) (fun g o' e _ hh => by injection e with e; injection e with e; omega), A', set3_two hp _ _, hr'.but (hbut _ _) (fun g o' e h0 hh => by
      obtain ⟨o0, e0⟩ := hsame g o' e
      injection e0 with e0
      injection e0 with e0
      omega), hbut _ _⟩)
  obtain ⟨c0, c1, c2⟩ := cells3' hp
  have hf := blk_free hp
  have n0 := hN.1
  have i0 : (2 : Int) ≤ (m : Int) + 2 := by omega
  have i1 : (2 : Int) ≤ (c : Int) := by omega
  have hcm : (c : Int) ≤ 9223372036854775807 := by have := hc.2; unfold maxLen at this; omega
  have hw2 : IntKind.i64.wrap (N + 2) = N + 2 := IntWalk.i64_in _ (by omega)
  clear hr' hr2 hbut h hp hbp hb hN
  go_enter Try.func101, Try.ntmps101
  go_wp2_with fail
  go_ret
  exact Hfin.out

/-- The reader's next two bytes are told as a number. -/
def NumTook (p : Nat) (m c : Nat) (N : Int) (z : Int) (rest : List Int) (w : World) (e : Ending) (w' : World) : Prop :=
  e = .returned (.int .u32 z) ∧ ∃ A', w'.heap[p]? = some (.cells (rdr3 A' m (c - 2) (N + 2)) 116 (0, 0)) ∧ Rd w' A' m rest ∧ But (fun k => k = p) w w'
theorem num2_any (p : Nat) (A : Option Addr) (m c : Nat) (N : Int) (x y : Int) (rest : List Int) (w : World) (hN : 0 ≤ N ∧ N ≤ 1000000) (hc : m + 2 ≤ c ∧ c ≤ maxLen) (h : Rd w A (m + 2) (x :: y :: rest))
    (hp : w.heap[p]? = some (.cells (rdr3 A (m + 2) c N) 116 (0, 0))) :
    Calls Try.prog 79 #[.pointer (some ⟨p, 0, none⟩), .int .i64 2] w (NumTook p m c N (x * 256 + y) rest w) := by
  have Ht := Lib.hid (take2_any p A m c N x y rest w hN hc h hp)
  have hx := h.byte x (by simp)
  have hy := h.byte y (by simp)
  obtain ⟨hx0, hx1⟩ := hx
  obtain ⟨hy0, hy1⟩ := hy
  clear h hp hN hc
  go_enter Try.func79, Try.ntmps79
  go_wp2_with fail
  refine Ht.out.mono ?_
  rintro e w1 ⟨rfl, hr1, A1, hp1, hr2, hb1⟩
  have Hend := Lib.hid (show NumTook p m c N (x * 256 + y) rest w (.returned (.int .u32 (x * 256 + y))) w1 from ⟨rfl, A1, hp1, hr2, hb1⟩)
  have Hr := Lib.hid hr1
  clear Ht hr1 hp1 hr2 hb1
  go_wp2_with fail
  go_loopg [5, 7] 2 (fun gk n i wr => ∃ (k : Nat) (z : Int), Hid (gk + k = 2) ∧ k ≤ 2 ∧ n = .int .u32 z ∧ i = .int .i64 (k : Int) ∧ ((k = 0 → z = 0) ∧ (k = 1 → z = x) ∧ (k = 2 → z = x * 256 + y)) ∧ w1 = wr)
  case atStart => exact ⟨0, 0, rfl, by omega, rfl, rfl, ⟨fun _ => rfl, by omega, by omega⟩, rfl⟩
  case round =>
    obtain ⟨k, z, hgk, hk, rfl, rfl, ⟨hz0, hz1, hz2⟩, rfl⟩ := hrel
    obtain rfl | rfl | rfl : k = 0 ∨ k = 1 ∨ k = 2 := by omega
    · obtain rfl := hz0 rfl
      obtain ⟨q, hix0, hc, _⟩ := Hr.out.index (c := c) (j := 0) (by omega)
      have hix : ∀ W : World, (Instr.indexAt 25 (.slice A 2 c) (.int .i64 0)).run Try.prog W = .ok (.pointer (some q)) W := hix0
      clear hix0
      simp only [List.getD_cons_zero, List.getD_cons_succ] at hc
      clear hz0 hz1 hz2
      go_wp2_with fail
      go_roundg (gk - 1)
      case measure => have := hgk.out; omega
      case rel => exact ⟨1, x, by have := hgk.out; show gk - 1 + 1 = _; omega, by omega, by simp, rfl, ⟨by omega, fun _ => rfl, by omega⟩, rfl⟩
    · obtain rfl := hz1 rfl
      obtain ⟨q, hix0, hc, _⟩ := Hr.out.index (c := c) (j := 1) (by omega)
      have hix : ∀ W : World, (Instr.indexAt 25 (.slice A 2 c) (.int .i64 1)).run Try.prog W = .ok (.pointer (some q)) W := hix0
      clear hix0
      simp only [List.getD_cons_zero, List.getD_cons_succ] at hc
      have q1 : IntKind.u32.wrap (256 * z) = 256 * z := by simp [IntKind.wrap, IntKind.bits, IntKind.signed]; omega
      have q2 : IntKind.u32.wrap (256 * z + y) = 256 * z + y := by simp [IntKind.wrap, IntKind.bits, IntKind.signed]; omega
      clear hz0 hz1 hz2
      go_wp2_with fail
      go_roundg (gk - 1)
      case measure => have := hgk.out; omega
      case rel => exact ⟨2, 256 * z + y, by have := hgk.out; show gk - 1 + 2 = _; omega, by omega, by simp, rfl, ⟨by omega, by omega, fun _ => by omega⟩, rfl⟩
    · obtain rfl := hz2 rfl
      clear hz0 hz1 hz2
      go_wp2_with fail
      go_ret
      exact Hend.out
end Go.Proofs.Ytoblllgefmajiaa
