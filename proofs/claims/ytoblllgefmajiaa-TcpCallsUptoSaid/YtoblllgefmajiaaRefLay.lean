/-
  The contracts of culvertref03's Lay (four bytes) and of culvertref05's WithSacks.
-/
import Derived.Test.YtoblllgefmajiaaBlkRef
import Derived.Test.YtoblllgefmajiaaOptParse
import Derived.Test.YtoblllgefmajiaaHeldLast
namespace Go.Proofs.Ytoblllgefmajiaa
set_option maxRecDepth 10000
open Go.RowKit

def be4 (x : Int) : List Int := [x / 16777216, x / 65536 % 256, x / 256 % 256, x % 256]
theorem wrap_u8_ (n : Int) : IntKind.u8.wrap n = n % 256 := by simp [IntKind.wrap, IntKind.bits, IntKind.signed]
theorem rlay_any (A : Option Addr) (n c : Nat) (l : List Int) (x : Int) (w : World) (hx : 0 ≤ x ∧ x < 4294967296) (hn : n ≤ 100000) (h : Rd w A n l) :
    Calls Try.prog 99 #[.slice A n c, .int .u32 x, .int .i64 4] w (RowIs (n + 4) (l ++ be4 x) w) := by
  have Hr := Lib.hid h
  have Hbyte := Lib.hid h.byte
  clear h
  obtain ⟨x0, x1⟩ := id hx
  go_enter Try.func99, Try.ntmps99
  go_wp2_with fail
  refine (own_any A n c l _ (by omega) Hr.out).mono ?_
  rintro e w1 ⟨A1, c1, rfl, hk1, hm1, hown1, hb1⟩
  have Hown1 := Lib.hid hown1
  clear hown1
  go_wp2_with fail
  go_loopg [7, 8] 4 (fun gk s i wr => ∃ (t : Nat) (A2 : Option Addr) (c2 : Nat), Hid (gk + t = 4) ∧ t ≤ 4 ∧ i = .int .i64 (3 - (t : Int)) ∧ s = .slice A2 (n + t) c2 ∧ Hid (OwnB wr w.heap.size A2 (n + t) c2 (l ++ (be4 x).take t)) ∧ Below w.heap.size w wr)
  case atStart => exact ⟨0, A1, c1, rfl, Nat.zero_le _, rfl, rfl, Lib.hid (by simpa using Hown1.out), hb1⟩
  case round =>
    obtain ⟨t, A2, c2, hgk, ht, rfl, rfl, hown, hb⟩ := hrel
    by_cases ht4 : t < 4
    · have hcase : t = 0 ∨ t = 1 ∨ t = 2 ∨ t = 3 := by omega
      have w0 := wrap_u8_ (x / 16777216)
      have w1 := wrap_u8_ (x / 65536)
      have w2 := wrap_u8_ (x / 256)
      have w3 := wrap_u8_ x
      have w4 : x / 16777216 % 256 = x / 16777216 := by omega
      rcases hcase with rfl | rfl | rfl | rfl
      · go_wp2_with (refine wpList_app rfl (.tmp 17) (.tmp 23) rfl w.heap.size A2 _ (n + 0) c2 1 1 _ [x / 16777216] rfl rfl (hown.out.on (Below.alloc (Below.refl _ _) (Nat.le_refl _) _)) (Rd.const_ wr wr.heap.size rfl [x / 16777216] _ _ (by simp; omega)) (by omega) (by have := hb.size; simp <;> omega) ?_; intro A3 c3 w5 hown3 _ hb3 _)
        go_roundg (gk - 1)
        case measure => have := hgk.out; omega
        case rel => exact ⟨1, A3, c3, by have := hgk.out; show gk - 1 + 1 = _; omega, by omega, by rfl, rfl, Lib.hid (by rw [show (be4 x).take 1 = (be4 x).take 0 ++ [x / 16777216] from rfl, ← List.append_assoc]; exact hown3), (hb.alloc hb.size _).trans hb3⟩
      · go_wp2_with (refine wpList_app rfl (.tmp 17) (.tmp 23) rfl w.heap.size A2 _ (n + 1) c2 1 1 _ [x / 65536 % 256] rfl rfl (hown.out.on (Below.alloc (Below.refl _ _) (Nat.le_refl _) _)) (Rd.const_ wr wr.heap.size rfl [x / 65536 % 256] _ _ (by simp; omega)) (by omega) (by have := hb.size; simp <;> omega) ?_; intro A3 c3 w5 hown3 _ hb3 _)
        go_roundg (gk - 1)
        case measure => have := hgk.out; omega
        case rel => exact ⟨2, A3, c3, by have := hgk.out; show gk - 1 + 2 = _; omega, by omega, by rfl, rfl, Lib.hid (by rw [show (be4 x).take 2 = (be4 x).take 1 ++ [x / 65536 % 256] from rfl, ← List.append_assoc]; exact hown3), (hb.alloc hb.size _).trans hb3⟩
      · go_wp2_with (refine wpList_app rfl (.tmp 17) (.tmp 23) rfl w.heap.size A2 _ (n + 2) c2 1 1 _ [x / 256 % 256] rfl rfl (hown.out.on (Below.alloc (Below.refl _ _) (Nat.le_refl _) _)) (Rd.const_ wr wr.heap.size rfl [x / 256 % 256] _ _ (by simp; omega)) (by omega) (by have := hb.size; simp <;> omega) ?_; intro A3 c3 w5 hown3 _ hb3 _)
        go_roundg (gk - 1)
        case measure => have := hgk.out; omega
        case rel => exact ⟨3, A3, c3, by have := hgk.out; show gk - 1 + 3 = _; omega, by omega, by rfl, rfl, Lib.hid (by rw [show (be4 x).take 3 = (be4 x).take 2 ++ [x / 256 % 256] from rfl, ← List.append_assoc]; exact hown3), (hb.alloc hb.size _).trans hb3⟩
      · go_wp2_with (refine wpList_app rfl (.tmp 17) (.tmp 23) rfl w.heap.size A2 _ (n + 3) c2 1 1 _ [x % 256] rfl rfl (hown.out.on (Below.alloc (Below.refl _ _) (Nat.le_refl _) _)) (Rd.const_ wr wr.heap.size rfl [x % 256] _ _ (by simp; omega)) (by omega) (by have := hb.size; simp <;> omega) ?_; intro A3 c3 w5 hown3 _ hb3 _)
        go_roundg (gk - 1)
        case measure => have := hgk.out; omega
        case rel => exact ⟨4, A3, c3, by have := hgk.out; show gk - 1 + 4 = _; omega, by omega, by rfl, rfl, Lib.hid (by rw [show (be4 x).take 4 = (be4 x).take 3 ++ [x % 256] from rfl, ← List.append_assoc]; exact hown3), (hb.alloc hb.size _).trans hb3⟩
    · obtain rfl : t = 4 := by omega
      go_wp2_with fail
      go_ret
      have ho := hown.out
      rw [show (be4 x).take 4 = be4 x from rfl] at ho
      exact ⟨A2, c2, rfl, ho.cap, ho.capMax, ho, hb⟩

def blkBytes (l : List (Int × Int)) : List Int := l.flatMap fun p => be4 p.1 ++ be4 p.2
theorem be4_bytes {x : Int} (h : 0 ≤ x ∧ x < 4294967296) : ∀ y ∈ be4 x, 0 ≤ y ∧ y < 256 := by intro y hy; simp [be4] at hy; omega
theorem blkBytes_bytes (l : List (Int × Int)) (h : ∀ p ∈ l, U32P p) : ∀ y ∈ blkBytes l, 0 ≤ y ∧ y < 256 := by
  intro y hy
  simp only [blkBytes, List.mem_flatMap, List.mem_append] at hy
  obtain ⟨p, hp, h1 | h1⟩ := hy
  · exact be4_bytes (h p hp).1 y h1
  · exact be4_bytes (h p hp).2 y h1
theorem blkBytes_len (l : List (Int × Int)) : (blkBytes l).length = 8 * l.length := by
  induction l with
  | nil => rfl
  | cons p l ih => simp [blkBytes, be4] at ih ⊢; omega
def SacksBad (x : Int) (w : World) (e : Ending) (w' : World) : Prop := e = .returned (.tuple #[.agg #[.int .u8 0, .slice none 0 0], .int .i64 x]) ∧ Below w.heap.size w w'
def SacksGood (n : Nat) (D : List Int) (w : World) (e : Ending) (w' : World) : Prop := ∃ A c, e = .returned (.tuple #[.agg #[.int .u8 5, .slice A (8 * n) c], .int .i64 0]) ∧ OwnB w' w.heap.size A (8 * n) c D ∧ Below w.heap.size w w'
/-- What WithSacks tells. -/
def WithSacksIs (l : List (Int × Int)) (w : World) (e : Ending) (w' : World) : Prop :=
  if l.length = 0 then SacksBad 1 w e w' else if 4 < l.length then SacksBad 3 w e w' else SacksGood l.length (blkBytes l) w e w'
theorem bytes_app_ {a b : List Int} (h : ∀ x ∈ a, 0 ≤ x ∧ x < 256) (k : ∀ x ∈ b, 0 ≤ x ∧ x < 256) : ∀ x ∈ a ++ b, 0 ≤ x ∧ x < 256 := fun x hx => by
  rcases List.mem_append.1 hx with h' | h'
  · exact h x h'
  · exact k x h'
theorem own_ne {w : World} {B n c g : Nat} {A : Option Addr} {l : List Int} {cs : Array Value} (h : OwnB w B A n c l) (hg : w.heap[g]? = some (.cells cs 39 (0, 0))) : ∀ k, A = some ⟨k, 0, none⟩ → k ≠ g := by
  intro k e he
  subst he
  rcases h.2 with ⟨e1, _⟩ | ⟨g', cap, cur, e1, _, hb, _⟩
  · injection e1 with e1 _ _; rw [e] at e1; cases e1
  · injection e1 with e1 _ _
    rw [e] at e1
    injection e1 with e1
    injection e1 with e1 _
    subst e1
    rw [hg] at hb
    injection hb with hb
    injection hb with _ hb _
    exact absurd hb (by decide)
theorem OwnB.butA {S : Nat → Prop} {w w' : World} {B : Nat} {A : Option Addr} {n c : Nat} {l : List Int} (h : OwnB w B A n c l) (hb : But S w w') (hS : ∀ k, A = some ⟨k, 0, none⟩ → ¬ S k) : OwnB w' B A n c l := by
  refine ⟨h.1, ?_⟩
  rcases h.2 with h0 | ⟨g, cap, cur, e, hB, hc, hrest⟩
  · exact .inl h0
  · exact .inr ⟨g, cap, cur, e, hB, hb.blk hc (hS g (by injection e)), hrest⟩

end Go.Proofs.Ytoblllgefmajiaa
