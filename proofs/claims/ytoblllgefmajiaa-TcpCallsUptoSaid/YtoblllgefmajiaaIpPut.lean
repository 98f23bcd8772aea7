/-
  The contracts of package ipv4's May, lay and Put.
-/
import Derived.Test.YtoblllgefmajiaaIpPlain
import Derived.Test.YtoblllgefmajiaaSumAny
import Derived.Test.YtoblllgefmajiaaWireLay
import Derived.Test.YtoblllgefmajiaaBut
namespace Go.Proofs.Ytoblllgefmajiaa
set_option maxRecDepth 10000
open Go.RowKit

theorem be16_b16 (x : Int) : be16 x = b16 x := rfl
theorem be32_b32 (x : Int) : be32 x = b32 x := rfl
theorem wraps_u8 (n : Int) (h₀ : 0 ≤ n) (h₁ : n < 2 ^ 8) : IntKind.u8.wrap n = n := by simp [IntKind.wrap, IntKind.bits, IntKind.signed]; omega

/-- Two rows of the call's own. -/
def RowsAre (n1 : Nat) (l1 : List Int) (n2 : Nat) (l2 : List Int) (w : World) (e : Ending) (w' : World) : Prop :=
  ∃ A1 c1 A2 c2, e = .returned (.tuple #[.slice A1 n1 c1, .slice A2 n2 c2]) ∧ OwnB w' w.heap.size A1 n1 c1 l1 ∧ OwnB w' w.heap.size A2 n2 c2 l2 ∧ Below w.heap.size w w'

/-- A row, told by its list alone. -/
theorem u8_lays_ (A : Option Addr) (n m c : Nat) (l : List Int) (x : Int) (w : World) (hx : 0 ≤ x ∧ x < 256) (hc : n ≤ c ∧ c ≤ maxLen) (hm : m = n + 1) (hl : n ≤ 100000) (h : Rd w A n l) :
    Calls Try.prog 49 #[.slice A n c, .int .u8 x] w (RowIs m (l ++ [x]) w) := by subst hm; exact u8_lays A n c l x w hx hc (by omega) h
theorem u16_lays_ (A : Option Addr) (n m c : Nat) (l : List Int) (x : Int) (w : World) (hx : 0 ≤ x ∧ x < 65536) (hc : n ≤ c ∧ c ≤ maxLen) (hm : m = n + 2) (hl : n ≤ 100000) (h : Rd w A n l) :
    Calls Try.prog 45 #[.slice A n c, .int .u16 x] w (RowIs m (l ++ b16 x) w) := by subst hm; exact u16_lays A n c l x w hx hc (by omega) h
theorem u32_lays_ (A : Option Addr) (n m c : Nat) (l : List Int) (x : Int) (w : World) (hx : 0 ≤ x ∧ x < 4294967296) (hc : n ≤ c ∧ c ≤ maxLen) (hm : m = n + 4) (hl : n ≤ 100000) (h : Rd w A n l) :
    Calls Try.prog 47 #[.slice A n c, .int .u32 x] w (RowIs m (l ++ b32 x) w) := by subst hm; exact u32_lays A n c l x w hx hc (by omega) h

theorem or8_64 (x : Int) (h : 0 ≤ x ∧ x < 64) : bits .or .u8 64 x = 64 + x := by
  have := bits_join .u8 8 (by decide) wraps_u8 6 64 x (by omega) (by omega) (by omega) (by omega) (by omega) (by omega)
  exact this

theorem OwnB.rdB {w : World} {B : Nat} {A : Option Addr} {n c : Nat} {l : List Int} (h : OwnB w B A n c l) (hl : Bytes l) : Rd w A n l := h.rd hl

theorem concat_told (A : Option Addr) (n c m : Nat) (ls : List (List Int)) (w : World) (hn : n ≤ 1000000) (h : RdL w A n ls) (hm : ls.flatten.length = m) (hx : m ≤ 140737488355328) :
    Calls Try.prog 103 #[.slice A n c] w (RowIs m ls.flatten w) := by subst hm; exact concat_any A n c ls w hn h hx

theorem RdL.four (w : World) (t : TypeId) (A B C D : Option Addr) (n c n1 c1 n2 c2 n3 c3 : Nat) (l l1 l2 l3 : List Int) (hc : n ≤ c ∧ c ≤ maxLen) (hc1 : n1 ≤ c1 ∧ c1 ≤ maxLen) (hc2 : n2 ≤ c2 ∧ c2 ≤ maxLen) (hc3 : n3 ≤ c3 ∧ c3 ≤ maxLen) (h : Rd w A n l) (h1 : Rd w B n1 l1) (h2 : Rd w C n2 l2) (h3 : Rd w D n3 l3) :
    RdL (w.alloc (.cells #[.slice A n c, .slice B n1 c1, .slice C n2 c2, .slice D n3 c3] t)) (some ⟨w.heap.size, 0, none⟩) 4 [l, l1, l2, l3] := by
  have := h.len; have := h1.len; have := h2.len; have := h3.len
  subst n n1 n2 n3
  refine RdL.row w _ rfl t (0, 0) [.slice A l.length c, .slice B l1.length c1, .slice C l2.length c2, .slice D l3.length c3] [l, l1, l2, l3] (fun i hi => ?_)
  match i, hi with
  | 0, _ => exact ⟨A, c, rfl, hc.1, hc.2, h⟩
  | 1, _ => exact ⟨B, c1, rfl, hc1.1, hc1.2, h1⟩
  | 2, _ => exact ⟨C, c2, rfl, hc2.1, hc2.2, h2⟩
  | 3, _ => exact ⟨D, c3, rfl, hc3.1, hc3.2, h3⟩

def NoneIs (x : Int) (w : World) (e : Ending) (w' : World) : Prop := e = .returned (.tuple #[.slice none 0 0, .int .i64 x]) ∧ Below w.heap.size w w'
/-- A row of the call's own, and OK. -/
def RowOk (m : Nat) (l : List Int) (w : World) (e : Ending) (w' : World) : Prop :=
  ∃ A c, e = .returned (.tuple #[.slice A m c, .int .i64 0]) ∧ m ≤ c ∧ c ≤ maxLen ∧ OwnB w' w.heap.size A m c l ∧ Below w.heap.size w w'

end Go.Proofs.Ytoblllgefmajiaa
