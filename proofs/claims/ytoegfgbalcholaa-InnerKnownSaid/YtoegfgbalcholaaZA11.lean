/-
  Texts laid together: OptPut, Seg, Made, OptPlain.
-/
import Derived.Test.YtoegfgbalcholaaZA09
import Derived.Deep.RegionHeld3
import Derived.IntWalk
import Derived.Test.YtoegfgbalcholaaZA10
import Derived.Lib.SmallJoins
import Derived.Test.YtoegfgbalcholaaZA02

/-
  The contract of the document's own Put for options (culvertref05).
-/
namespace Go.Proofs.Ytoegfgbalcholaa
set_option maxRecDepth 10000
open Go.RowKit

def badB (l : Int × List Int) : Bool := decide (l.1 < 2) || decide (38 < l.2.length)
def bytesOne (l : Int × List Int) : List Int := [l.1, 2 + (l.2.length : Int)] ++ l.2
def bytesO (ls : List (Int × List Int)) : List Int := ls.flatMap bytesOne
def padTo4 (b : List Int) : List Int := b ++ List.replicate ((4 - b.length % 4) % 4) 0
/-- What Put tells of options. -/
def PutO (ls : List (Int × List Int)) (w : World) (e : Ending) (w' : World) : Prop :=
  if ls.any badB = true then e = .returned (.tuple #[.slice Option.none 0 0, .int .i64 1]) ∧ Below w.heap.size w w'
  else if 40 < (bytesO ls).length then e = .returned (.tuple #[.slice Option.none 0 0, .int .i64 3]) ∧ Below w.heap.size w w'
  else ∃ A c, e = .returned (.tuple #[.slice A (padTo4 (bytesO ls)).length c, .int .i64 0]) ∧ OwnB w' w.heap.size A (padTo4 (bytesO ls)).length c (padTo4 (bytesO ls)) ∧ Below w.heap.size w w'
theorem bytesO_snoc (ls : List (Int × List Int)) (l : Int × List Int) : bytesO (ls ++ [l]) = bytesO ls ++ bytesOne l := by simp [bytesO]
theorem any_take {ls : List (Int × List Int)} {j : Nat} (h : j < ls.length) (hb : badB (ls.getD j (0, [])) = true) : ls.any badB = true := by
  rw [List.any_eq_true]
  exact ⟨ls.getD j (0, []), by simp [List.getD, List.getElem?_eq_getElem h], hb⟩

end Go.Proofs.Ytoegfgbalcholaa

/-
  Segments (api.Segment): what one holds, one that comes in; culvertref06's Length and Same.
-/
namespace Go.Proofs.Ytoegfgbalcholaa
set_option maxRecDepth 10000
open Go.RowKit

/-- A segment, plainly. -/
structure Seg where
  sp : Int
  dp : Int
  sq : Int
  ak : Int
  fl : Int
  wn : Int
  ug : Int
  os : List (Int × List Int)
  d : List Int
structure SegNum (s : Seg) : Prop where
  sp : 0 ≤ s.sp ∧ s.sp < 65536
  dp : 0 ≤ s.dp ∧ s.dp < 65536
  sq : 0 ≤ s.sq ∧ s.sq < 4294967296
  ak : 0 ≤ s.ak ∧ s.ak < 4294967296
  fl : 0 ≤ s.fl ∧ s.fl < 256
  wn : 0 ≤ s.wn ∧ s.wn < 65536
  ug : 0 ≤ s.ug ∧ s.ug < 65536
/-- A segment's value reads as the segment. -/
structure SegRd (w : World) (s : Seg) (AO : Option Addr) (nO cO : Nat) (oss : List OptV) (AD : Option Addr) (nD cD : Nat) : Prop where
  num : SegNum s
  oc : nO ≤ cO ∧ cO ≤ maxLen
  dc : nD ≤ cD ∧ cD ≤ maxLen
  o : RdO w AO nO oss
  os : Reads w oss s.os
  d : Rd w AD nD s.d
theorem SegRd.below {w w' : World} {s : Seg} {AO : Option Addr} {nO cO : Nat} {oss : List OptV} {AD : Option Addr} {nD cD : Nat} (h : SegRd w s AO nO cO oss AD nD cD) (hb : Below w.heap.size w w') : SegRd w' s AO nO cO oss AD nD cD :=
  ⟨h.num, h.oc, h.dc, h.o.below hb, h.os.below hb, h.d.below hb⟩

end Go.Proofs.Ytoegfgbalcholaa

/-
  'make([]byte, m)': a row of noughts of the call's own. No function of the program.
-/
namespace Go.Proofs.Ytoegfgbalcholaa
set_option maxRecDepth 10000
open Go.RowKit
end Go.Proofs.Ytoegfgbalcholaa

/-
  Options' bytes, plainly: what is laid is read again, and what is read may be laid. No function of the program.
-/
namespace Go.Proofs.Ytoegfgbalcholaa
set_option maxRecDepth 10000
open Go.RowKit

theorem badB_false {l : Int × List Int} (h : badB l = false) : 2 ≤ l.1 ∧ l.2.length ≤ 38 := by
  unfold badB at h
  simp at h
  omega
theorem behindO_ok (a b : List (Int × List Int)) : behindO a (b, 0) = (a ++ b, 0) := by simp [behindO]
/-- What stands behind options that are laid is read behind them. -/
theorem parseL_bytes (r : List Int) : ∀ (ls : List (Int × List Int)), (∀ l ∈ ls, 2 ≤ l.1) → parseL (bytesO ls ++ r) = behindO ls (parseL r)
  | [], _ => by
    simp only [bytesO, List.flatMap_nil, List.nil_append]
    exact (behindO_nil (parseL r) (parseF_err _ _)).symm
  | l :: ls, h => by
    have h2 := h l (by simp)
    have ih := parseL_bytes r ls (fun x hx => h x (by simp [hx]))
    have e : bytesO (l :: ls) ++ r = l.1 :: (2 + (l.2.length : Int)) :: (l.2 ++ (bytesO ls ++ r)) := by simp [bytesO, bytesOne]
    rw [e, parseL_opt _ _ _ (by omega) (by omega), if_neg (by omega), if_neg (by simp; omega)]
    have e2 : (2 + (l.2.length : Int) - 2).toNat = l.2.length := by omega
    rw [e2, List.take_left, List.drop_left, ih, behindO_app]
    rfl
theorem parseL_zeros (k : Nat) : parseL (List.replicate k 0) = ([], 0) := by
  cases k with
  | zero => rfl
  | succ k => rw [List.replicate_succ, parseL_zero, if_pos (by simp)]
theorem padTo4_len (b : List Int) : (padTo4 b).length % 4 = 0 ∧ b.length ≤ (padTo4 b).length ∧ (padTo4 b).length ≤ b.length + 3 := by
  unfold padTo4
  simp
  omega
/-- What Put tells is read as the options. -/
theorem parseO_put {ls : List (Int × List Int)} (h : ls.any badB = false) (hl : (bytesO ls).length ≤ 40) : parseO (padTo4 (bytesO ls)) = (ls, 0) := by
  have hp := padTo4_len (bytesO ls)
  unfold parseO
  rw [if_neg (by omega)]
  have hk : ∀ l ∈ ls, 2 ≤ l.1 := fun l hl' => (badB_false (by rw [List.any_eq_false] at h; simpa using h l hl')).1
  unfold padTo4
  rw [parseL_bytes _ ls hk, parseL_zeros, behindO_ok, List.append_nil]

theorem Reads.byte {w : World} : ∀ {os : List OptV} {ls : List (Int × List Int)}, Reads w os ls → ∀ l ∈ ls, (0 ≤ l.1 ∧ l.1 < 256) ∧ ∀ x ∈ l.2, 0 ≤ x ∧ x < 256
  | [], [], _, l, hl => by simp at hl
  | o :: os, l' :: ls, h, l, hl => by
    rcases List.mem_cons.1 hl with rfl | hl
    · obtain ⟨h1, h2, _, _, h5⟩ := h.1
      exact ⟨by rw [← h1]; exact h2, h5.byte⟩
    · exact Reads.byte h.2 l hl
theorem bytesO_bytes {ls : List (Int × List Int)} (h : ∀ l ∈ ls, (0 ≤ l.1 ∧ l.1 < 256) ∧ ∀ x ∈ l.2, 0 ≤ x ∧ x < 256) (h2 : ∀ l ∈ ls, l.2.length ≤ 38) : ∀ x ∈ bytesO ls, 0 ≤ x ∧ x < 256 := by
  intro x hx
  obtain ⟨l, hl, hx⟩ := List.mem_flatMap.1 hx
  have h3 := h l hl
  have h4 := h2 l hl
  simp only [bytesOne, List.mem_append, List.mem_cons, List.not_mem_nil, or_false] at hx
  rcases hx with (rfl | rfl) | hx
  · exact h3.1
  · omega
  · exact h3.2 x hx
end Go.Proofs.Ytoegfgbalcholaa
