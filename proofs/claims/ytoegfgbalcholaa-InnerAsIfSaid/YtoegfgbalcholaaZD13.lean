/-
  Texts laid together: TcpLay, OptParse, OptPut, Seg.
-/
import Derived.Test.YtoegfgbalcholaaZD10
import Derived.Test.YtoegfgbalcholaaZD06
import Derived.Test.YtoegfgbalcholaaZD12
import Derived.IntWalk
import Derived.Deep.RegionHeld3
import Derived.Test.YtoegfgbalcholaaZD09
import Derived.Lib.SmallJoins

/-
  The contracts of culvertref06's lay (two or four bytes), num, whole.
-/
namespace Go.Proofs.Ytoegfgbalcholaa
set_option maxRecDepth 10000
open Go.RowKit

end Go.Proofs.Ytoegfgbalcholaa

/-
  The contract of the document's own Parse for options (culvertref05), and of culvertref03's Own.
-/
namespace Go.Proofs.Ytoegfgbalcholaa
set_option maxRecDepth 10000
open Go.RowKit

/-- Options' bytes, read: the options and the error. -/
def parseF : Nat → List Int → List (Int × List Int) × Int
  | 0, _ => ([], 0)
  | _ + 1, [] => ([], 0)
  | f + 1, k :: r =>
    if k = 0 then (if r.all (fun x => x == 0) = true then ([], 0) else ([], 5))
    else if k = 1 then parseF f r
    else match r with
      | [] => ([], 4)
      | n :: r' => if n < 2 then ([], 5) else if (r'.length : Int) + 2 < n then ([], 4) else
        if (parseF f (r'.drop (n - 2).toNat)).2 = 0 then ((k, r'.take (n - 2).toNat) :: (parseF f (r'.drop (n - 2).toNat)).1, 0) else ([], (parseF f (r'.drop (n - 2).toNat)).2)
def parseL (b : List Int) : List (Int × List Int) × Int := parseF b.length b
theorem parseF_stable : ∀ (f g : Nat) (b : List Int), b.length ≤ f → b.length ≤ g → parseF f b = parseF g b
  | 0, 0, _, _, _ => rfl
  | 0, _ + 1, [], _, _ => rfl
  | _ + 1, 0, [], _, _ => rfl
  | _ + 1, _ + 1, [], _, _ => rfl
  | f + 1, g + 1, k :: r, hf, hg => by
    have hf' : r.length ≤ f := by simpa using hf
    have hg' : r.length ≤ g := by simpa using hg
    unfold parseF
    split
    · rfl
    · split
      · exact parseF_stable f g r hf' hg'
      · match r, hf', hg' with
        | [], _, _ => rfl
        | n :: r', hf', hg' =>
          have e := parseF_stable f g (r'.drop (n - 2).toNat) (by simp at hf' ⊢; omega) (by simp at hg' ⊢; omega)
          simp only [e]
theorem parseL_zero (r : List Int) : parseL (0 :: r) = (if r.all (fun x => x == 0) = true then ([], 0) else ([], 5)) := by
  show parseF (r.length + 1) (0 :: r) = _
  unfold parseF
  rw [if_pos rfl]
/-- What is told of the rest, behind what was read. -/
def behindO (acc : List (Int × List Int)) (p : List (Int × List Int) × Int) : List (Int × List Int) × Int := if p.2 = 0 then (acc ++ p.1, 0) else ([], p.2)
theorem parseL_opt (k n : Int) (r : List Int) (h0 : k ≠ 0) (h1 : k ≠ 1) :
    parseL (k :: n :: r) = if n < 2 then ([], 5) else if (r.length : Int) + 2 < n then ([], 4) else behindO [(k, r.take (n - 2).toNat)] (parseL (r.drop (n - 2).toNat)) := by
  show parseF (r.length + 2) (k :: n :: r) = _
  unfold parseF
  rw [if_neg h0, if_neg h1]
  have e := parseF_stable (r.length + 1) (r.drop (n - 2).toNat).length (r.drop (n - 2).toNat) (by simp; omega) (Nat.le_refl _)
  simp only [e]
  rfl
theorem behindO_app (a b : List (Int × List Int)) (p : List (Int × List Int) × Int) : behindO a (behindO b p) = behindO (a ++ b) p := by
  unfold behindO
  by_cases h : p.2 = 0 <;> simp [h]
theorem behindO_nil (p : List (Int × List Int) × Int) (h : p.2 ≠ 0 → p.1 = []) : behindO [] p = p := by
  unfold behindO
  by_cases h0 : p.2 = 0
  · rw [if_pos h0]; ext <;> simp [h0]
  · rw [if_neg h0]; ext <;> simp [h h0]
theorem parseF_err : ∀ (f : Nat) (b : List Int), (parseF f b).2 ≠ 0 → (parseF f b).1 = []
  | 0, _, h => rfl
  | _ + 1, [], h => rfl
  | f + 1, k :: r, h => by
    unfold parseF at h ⊢
    split
    · split <;> rfl
    · rename_i h0
      rw [if_neg h0] at h
      split
      · rename_i h1
        rw [if_pos h1] at h
        exact parseF_err f r h
      · rename_i h1
        rw [if_neg h1] at h
        match r with
        | [] => rfl
        | n :: r' =>
          simp only at h ⊢
          split
          · rfl
          · rename_i h2
            rw [if_neg h2] at h
            split
            · rfl
            · rename_i h3
              rw [if_neg h3] at h
              split
              · rename_i h4
                rw [if_pos h4] at h
                exact absurd rfl h
              · rfl
/-- What Parse tells of bytes. -/
def parseO (b : List Int) : List (Int × List Int) × Int := if 40 < b.length then ([], 3) else parseL b
def ParseO (b : List Int) (w : World) (e : Ending) (w' : World) : Prop :=
  ∃ A m c os, e = .returned (.tuple #[.slice A m c, .int .i64 (parseO b).2]) ∧ OwnO w' w.heap.size A m c os ∧ Reads w' os (parseO b).1 ∧ Below w.heap.size w w'

end Go.Proofs.Ytoegfgbalcholaa

/-
  The contract of the document's own Put for options (culvertref05).
-/
namespace Go.Proofs.Ytoegfgbalcholaa
set_option maxRecDepth 10000
open Go.RowKit

def badB (l : Int × List Int) : Bool := decide (l.1 < 2) || decide (38 < l.2.length)
def bytesOne (l : Int × List Int) : List Int := [l.1, 2 + (l.2.length : Int)] ++ l.2
def bytesO (ls : List (Int × List Int)) : List Int := ls.flatMap bytesOne
def padTo4 (b : List Int) : List Int := b ++ List.replicate ((4 - b.length % 4) % 4) 0
/-- What Put tells of options. -/
def PutO (ls : List (Int × List Int)) (w : World) (e : Ending) (w' : World) : Prop :=
  if ls.any badB = true then e = .returned (.tuple #[.slice Option.none 0 0, .int .i64 1]) ∧ Below w.heap.size w w'
  else if 40 < (bytesO ls).length then e = .returned (.tuple #[.slice Option.none 0 0, .int .i64 3]) ∧ Below w.heap.size w w'
  else ∃ A c, e = .returned (.tuple #[.slice A (padTo4 (bytesO ls)).length c, .int .i64 0]) ∧ OwnB w' w.heap.size A (padTo4 (bytesO ls)).length c (padTo4 (bytesO ls)) ∧ Below w.heap.size w w'
theorem bytesO_snoc (ls : List (Int × List Int)) (l : Int × List Int) : bytesO (ls ++ [l]) = bytesO ls ++ bytesOne l := by simp [bytesO]
theorem any_take {ls : List (Int × List Int)} {j : Nat} (h : j < ls.length) (hb : badB (ls.getD j (0, [])) = true) : ls.any badB = true := by
  rw [List.any_eq_true]
  exact ⟨ls.getD j (0, []), by simp [List.getD, List.getElem?_eq_getElem h], hb⟩

end Go.Proofs.Ytoegfgbalcholaa

/-
  Segments (api.Segment): what one holds, one that comes in; culvertref06's Length and Same.
-/
namespace Go.Proofs.Ytoegfgbalcholaa
set_option maxRecDepth 10000
open Go.RowKit

/-- A segment, plainly. -/
structure Seg where
  sp : Int
  dp : Int
  sq : Int
  ak : Int
  fl : Int
  wn : Int
  ug : Int
  os : List (Int × List Int)
  d : List Int
structure SegNum (s : Seg) : Prop where
  sp : 0 ≤ s.sp ∧ s.sp < 65536
  dp : 0 ≤ s.dp ∧ s.dp < 65536
  sq : 0 ≤ s.sq ∧ s.sq < 4294967296
  ak : 0 ≤ s.ak ∧ s.ak < 4294967296
  fl : 0 ≤ s.fl ∧ s.fl < 256
  wn : 0 ≤ s.wn ∧ s.wn < 65536
  ug : 0 ≤ s.ug ∧ s.ug < 65536
/-- A segment's value reads as the segment. -/
structure SegRd (w : World) (s : Seg) (AO : Option Addr) (nO cO : Nat) (oss : List OptV) (AD : Option Addr) (nD cD : Nat) : Prop where
  num : SegNum s
  oc : nO ≤ cO ∧ cO ≤ maxLen
  dc : nD ≤ cD ∧ cD ≤ maxLen
  o : RdO w AO nO oss
  os : Reads w oss s.os
  d : Rd w AD nD s.d
theorem SegRd.below {w w' : World} {s : Seg} {AO : Option Addr} {nO cO : Nat} {oss : List OptV} {AD : Option Addr} {nD cD : Nat} (h : SegRd w s AO nO cO oss AD nD cD) (hb : Below w.heap.size w w') : SegRd w' s AO nO cO oss AD nD cD :=
  ⟨h.num, h.oc, h.dc, h.o.below hb, h.os.below hb, h.d.below hb⟩

end Go.Proofs.Ytoegfgbalcholaa
