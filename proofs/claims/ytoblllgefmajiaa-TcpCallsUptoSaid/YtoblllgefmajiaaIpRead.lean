/-
  The contract of package ipv4's Parse: what is wrong is told as the document's own order has it; else the head and the payload, in rows of the call's own.
-/
import Derived.Test.YtoblllgefmajiaaIpParse
import Derived.BigRegion
import Derived.RegionTactic
import Derived.ChangeAlike
namespace Go.Proofs.Ytoblllgefmajiaa
set_option maxRecDepth 10000
open Go.RowKit

theorem twenty (b : List Int) (h : 20 ≤ b.length) : ∃ (b0 b1 b2 b3 b4 b5 b6 b7 b8 b9 b10 b11 b12 b13 b14 b15 b16 b17 b18 b19 : Int) (l : List Int), b = b0 :: b1 :: b2 :: b3 :: b4 :: b5 :: b6 :: b7 :: b8 :: b9 :: b10 :: b11 :: b12 :: b13 :: b14 :: b15 :: b16 :: b17 :: b18 :: b19 :: l := by
  have four : ∀ l : List Int, 4 ≤ l.length → ∃ a b c d t, l = a :: b :: c :: d :: t := by
    intro l h
    rcases l with _ | ⟨a, _ | ⟨b, _ | ⟨c, _ | ⟨d, t⟩⟩⟩⟩
    · simp at h
    · simp at h
    · simp at h
    · simp at h
    · exact ⟨a, b, c, d, t, rfl⟩
  obtain ⟨b0, b1, b2, b3, t, rfl⟩ := four b (by omega)
  obtain ⟨b4, b5, b6, b7, t, rfl⟩ := four t (by simp at h; omega)
  obtain ⟨b8, b9, b10, b11, t, rfl⟩ := four t (by simp at h; omega)
  obtain ⟨b12, b13, b14, b15, t, rfl⟩ := four t (by simp at h; omega)
  obtain ⟨b16, b17, b18, b19, t, rfl⟩ := four t (by simp at h; omega)
  exact ⟨_, _, _, _, _, _, _, _, _, _, _, _, _, _, _, _, _, _, _, _, t, rfl⟩

theorem OwnB.drew {w : World} {B : Nat} {A : Option Addr} {n c : Nat} {l : List Int} (h : OwnB w B A n c l) : OwnB w.drew B A n c l := h

def ParseBad (x : Int) (w : World) (e : Ending) (w' : World) : Prop := e = .returned (.tuple #[.agg #[.int .u8 0, .int .u16 0, .bool false, .int .u8 0, .int .u8 0, .int .u32 0, .int .u32 0, .slice none 0 0], .slice none 0 0, .int .i64 x]) ∧ Below w.heap.size w w'
def ParseGood (b : List Int) (w : World) (e : Ending) (w' : World) : Prop :=
  ∃ Ao no co Ap np cp, e = .returned (.tuple #[.agg #[.int .u8 (b.getD 1 0), .int .u16 (b.getD 4 0 * 256 + b.getD 5 0), .bool (decide (flagsL b = 16384)), .int .u8 (b.getD 8 0), .int .u8 (b.getD 9 0),
      .int .u32 (((b.getD 12 0 * 256 + b.getD 13 0) * 256 + b.getD 14 0) * 256 + b.getD 15 0), .int .u32 (((b.getD 16 0 * 256 + b.getD 17 0) * 256 + b.getD 18 0) * 256 + b.getD 19 0), .slice Ao no co], .slice Ap np cp, .int .i64 0]) ∧
    OwnB w' w.heap.size Ao no co ((b.drop 20).take ((hdrL b).toNat - 20)) ∧ OwnB w' w.heap.size Ap np cp (b.drop (hdrL b).toNat) ∧ Below w.heap.size w w'

end Go.Proofs.Ytoblllgefmajiaa
