/-
  Texts laid together: IpAsk, IpParse, IpRead, TcpParse.
-/
import Derived.Test.YtoegfgbalcholaaZB17
import Derived.Test.YtoegfgbalcholaaZB03
import Derived.Test.YtoegfgbalcholaaZB05
import Derived.Deep.RegionHeld3
import Derived.BigRegion
import Derived.RegionTactic
import Derived.ChangeAlike
import Derived.Test.YtoegfgbalcholaaZB16
import Derived.Test.YtoegfgbalcholaaZB19
import Derived.Test.YtoegfgbalcholaaZB18

/-
  The contract of package ipv4's ask: it gives up with the error of the first fault that is there, or does nothing.
-/
namespace Go.Proofs.Ytoegfgbalcholaa
set_option maxRecDepth 10000
open Go.RowKit

/-- The slice of faults holds l. -/
structure RdF (w : World) (A : Option Addr) (n : Nat) (l : List (Bool × Int)) : Prop where
  len : l.length = n
  at_ : 0 < n → ∃ b, A = some ⟨b, 0, none⟩ ∧ b < w.heap.size ∧ ∀ i, i < n → w.cell? ⟨b, i * 2, none⟩ = some (.bool (l.getD i (false, 0)).1) ∧ w.cell? ⟨b, i * 2 + 1, none⟩ = some (.int .i64 (l.getD i (false, 0)).2)
/-- Faults that the walk has just laid. -/
theorem RdF.one (w : World) (g : Nat) (hg : w.heap.size = g) (t : TypeId) (fr : Nat × Nat) (x : Bool) (e : Int) : RdF (w.alloc (.cells #[.bool x, .int .i64 e] t fr)) (some ⟨g, 0, none⟩) 1 [(x, e)] := by
  subst hg
  refine ⟨rfl, fun _ => ⟨w.heap.size, rfl, by simp, fun i hi => ?_⟩⟩
  obtain rfl : i = 0 := by omega
  simp only [World.cell?_alloc_mark]
  simp
theorem RdF.seven (w : World) (g : Nat) (hg : w.heap.size = g) (t : TypeId) (fr : Nat × Nat) (x1 x2 x3 x4 x5 x6 x7 : Bool) (e1 e2 e3 e4 e5 e6 e7 : Int) :
    RdF (w.alloc (.cells #[.bool x1, .int .i64 e1, .bool x2, .int .i64 e2, .bool x3, .int .i64 e3, .bool x4, .int .i64 e4, .bool x5, .int .i64 e5, .bool x6, .int .i64 e6, .bool x7, .int .i64 e7] t fr)) (some ⟨g, 0, none⟩) 7
      [(x1, e1), (x2, e2), (x3, e3), (x4, e4), (x5, e5), (x6, e6), (x7, e7)] := by
  subst hg
  refine ⟨rfl, fun _ => ⟨w.heap.size, rfl, by simp, fun i hi => ?_⟩⟩
  simp only [World.cell?_alloc_mark]
  match i, hi with
  | 0, _ => simp
  | 1, _ => simp
  | 2, _ => simp
  | 3, _ => simp
  | 4, _ => simp
  | 5, _ => simp
  | 6, _ => simp
theorem RdF.below {w w' : World} {A : Option Addr} {n : Nat} {l : List (Bool × Int)} (h : RdF w A n l) (hb : Below w.heap.size w w') : RdF w' A n l :=
  ⟨h.len, fun hn => by
    obtain ⟨b, e, hlt, hc⟩ := h.at_ hn
    exact ⟨b, e, Nat.lt_of_lt_of_le hlt hb.size, fun i hi => ⟨by rw [hb.cell (p := ⟨b, i * 2, none⟩) hlt]; exact (hc i hi).1, by rw [hb.cell (p := ⟨b, i * 2 + 1, none⟩) hlt]; exact (hc i hi).2⟩⟩⟩
end Go.Proofs.Ytoegfgbalcholaa

/-
  The contract of package ipv4's Parse: what is wrong is told as the document's own order has it; else the head and the payload, in rows of the call's own.
-/
namespace Go.Proofs.Ytoegfgbalcholaa
set_option maxRecDepth 10000
open Go.RowKit

end Go.Proofs.Ytoegfgbalcholaa

/-
  The contract of package ipv4's Parse: what is wrong is told as the document's own order has it; else the head and the payload, in rows of the call's own.
-/
namespace Go.Proofs.Ytoegfgbalcholaa
set_option maxRecDepth 10000
open Go.RowKit

theorem twenty (b : List Int) (h : 20 ≤ b.length) : ∃ (b0 b1 b2 b3 b4 b5 b6 b7 b8 b9 b10 b11 b12 b13 b14 b15 b16 b17 b18 b19 : Int) (l : List Int), b = b0 :: b1 :: b2 :: b3 :: b4 :: b5 :: b6 :: b7 :: b8 :: b9 :: b10 :: b11 :: b12 :: b13 :: b14 :: b15 :: b16 :: b17 :: b18 :: b19 :: l := by
  have four : ∀ l : List Int, 4 ≤ l.length → ∃ a b c d t, l = a :: b :: c :: d :: t := by
    intro l h
    rcases l with _ | ⟨a, _ | ⟨b, _ | ⟨c, _ | ⟨d, t⟩⟩⟩⟩
    · simp at h
    · simp at h
    · simp at h
    · simp at h
    · exact ⟨a, b, c, d, t, rfl⟩
  obtain ⟨b0, b1, b2, b3, t, rfl⟩ := four b (by omega)
  obtain ⟨b4, b5, b6, b7, t, rfl⟩ := four t (by simp at h; omega)
  obtain ⟨b8, b9, b10, b11, t, rfl⟩ := four t (by simp at h; omega)
  obtain ⟨b12, b13, b14, b15, t, rfl⟩ := four t (by simp at h; omega)
  obtain ⟨b16, b17, b18, b19, t, rfl⟩ := four t (by simp at h; omega)
  exact ⟨_, _, _, _, _, _, _, _, _, _, _, _, _, _, _, _, _, _, _, _, t, rfl⟩

theorem OwnB.drew {w : World} {B : Nat} {A : Option Addr} {n c : Nat} {l : List Int} (h : OwnB w B A n c l) : OwnB w.drew B A n c l := h

end Go.Proofs.Ytoegfgbalcholaa

/-
  The contract of the closure within package tcp's Parse: what is wrong is told in the document's own order; else the segment, its options and its data in rows of the call's own.
-/
namespace Go.Proofs.Ytoegfgbalcholaa
set_option maxRecDepth 10000
open Go.RowKit

end Go.Proofs.Ytoegfgbalcholaa
