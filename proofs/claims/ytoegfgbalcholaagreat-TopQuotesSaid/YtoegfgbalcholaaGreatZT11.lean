/-
  Texts laid together: Seg, Made, OptPlain, SegPut.
-/
import Derived.Test.YtoegfgbalcholaaGreatZT10
import Derived.Lib.SmallJoins
import Derived.Test.YtoegfgbalcholaaGreatZT03

/-
  Segments (api.Segment): what one holds, one that comes in; culvertref06's Length and Same.
-/
namespace Go.Proofs.YtoegfgbalcholaaGreat
set_option maxRecDepth 10000
open Go.RowKit

/-- A segment, plainly. -/
structure Seg where
  sp : Int
  dp : Int
  sq : Int
  ak : Int
  fl : Int
  wn : Int
  ug : Int
  os : List (Int × List Int)
  d : List Int
/-- Its nine cells, as the model has them. -/
def segC (s : Seg) (AO : Option Addr) (nO cO : Nat) (AD : Option Addr) (nD cD : Nat) : Array Value :=
  #[.int .u16 s.sp, .int .u16 s.dp, .int .u32 s.sq, .int .u32 s.ak, .int .u8 s.fl, .int .u16 s.wn, .int .u16 s.ug, .slice AO nO cO, .slice AD nD cD]
structure SegNum (s : Seg) : Prop where
  sp : 0 ≤ s.sp ∧ s.sp < 65536
  dp : 0 ≤ s.dp ∧ s.dp < 65536
  sq : 0 ≤ s.sq ∧ s.sq < 4294967296
  ak : 0 ≤ s.ak ∧ s.ak < 4294967296
  fl : 0 ≤ s.fl ∧ s.fl < 256
  wn : 0 ≤ s.wn ∧ s.wn < 65536
  ug : 0 ≤ s.ug ∧ s.ug < 65536
/-- A segment's value reads as the segment. -/
structure SegRd (w : World) (s : Seg) (AO : Option Addr) (nO cO : Nat) (oss : List OptV) (AD : Option Addr) (nD cD : Nat) : Prop where
  num : SegNum s
  oc : nO ≤ cO ∧ cO ≤ maxLen
  dc : nD ≤ cD ∧ cD ≤ maxLen
  o : RdO w AO nO oss
  os : Reads w oss s.os
  d : Rd w AD nD s.d
theorem SegRd.below {w w' : World} {s : Seg} {AO : Option Addr} {nO cO : Nat} {oss : List OptV} {AD : Option Addr} {nD cD : Nat} (h : SegRd w s AO nO cO oss AD nD cD) (hb : Below w.heap.size w w') : SegRd w' s AO nO cO oss AD nD cD :=
  ⟨h.num, h.oc, h.dc, h.o.below hb, h.os.below hb, h.d.below hb⟩

def segSame (s t : Seg) : Bool := decide (s.sp = t.sp) && decide (s.dp = t.dp) && decide (s.sq = t.sq) && decide (s.ak = t.ak) && decide (s.fl = t.fl) && decide (s.wn = t.wn) && decide (s.ug = t.ug) && decide (s.os = t.os) && decide (s.d = t.d)
end Go.Proofs.YtoegfgbalcholaaGreat

/-
  'make([]byte, m)': a row of noughts of the call's own. No function of the program.
-/
namespace Go.Proofs.YtoegfgbalcholaaGreat
set_option maxRecDepth 10000
open Go.RowKit
end Go.Proofs.YtoegfgbalcholaaGreat

/-
  Options' bytes, plainly: what is laid is read again, and what is read may be laid. No function of the program.
-/
namespace Go.Proofs.YtoegfgbalcholaaGreat
set_option maxRecDepth 10000
open Go.RowKit

theorem badB_false {l : Int × List Int} (h : badB l = false) : 2 ≤ l.1 ∧ l.2.length ≤ 38 := by
  unfold badB at h
  simp at h
  omega
theorem behindO_ok (a b : List (Int × List Int)) : behindO a (b, 0) = (a ++ b, 0) := by simp [behindO]
/-- What stands behind options that are laid is read behind them. -/
theorem parseL_bytes (r : List Int) : ∀ (ls : List (Int × List Int)), (∀ l ∈ ls, 2 ≤ l.1) → parseL (bytesO ls ++ r) = behindO ls (parseL r)
  | [], _ => by
    simp only [bytesO, List.flatMap_nil, List.nil_append]
    exact (behindO_nil (parseL r) (parseF_err _ _)).symm
  | l :: ls, h => by
    have h2 := h l (by simp)
    have ih := parseL_bytes r ls (fun x hx => h x (by simp [hx]))
    have e : bytesO (l :: ls) ++ r = l.1 :: (2 + (l.2.length : Int)) :: (l.2 ++ (bytesO ls ++ r)) := by simp [bytesO, bytesOne]
    rw [e, parseL_opt _ _ _ (by omega) (by omega), if_neg (by omega), if_neg (by simp; omega)]
    have e2 : (2 + (l.2.length : Int) - 2).toNat = l.2.length := by omega
    rw [e2, List.take_left, List.drop_left, ih, behindO_app]
    rfl
theorem parseL_zeros (k : Nat) : parseL (List.replicate k 0) = ([], 0) := by
  cases k with
  | zero => rfl
  | succ k => rw [List.replicate_succ, parseL_zero, if_pos (by simp)]
theorem padTo4_len (b : List Int) : (padTo4 b).length % 4 = 0 ∧ b.length ≤ (padTo4 b).length ∧ (padTo4 b).length ≤ b.length + 3 := by
  unfold padTo4
  simp
  omega
/-- What Put tells is read as the options. -/
theorem parseO_put {ls : List (Int × List Int)} (h : ls.any badB = false) (hl : (bytesO ls).length ≤ 40) : parseO (padTo4 (bytesO ls)) = (ls, 0) := by
  have hp := padTo4_len (bytesO ls)
  unfold parseO
  rw [if_neg (by omega)]
  have hk : ∀ l ∈ ls, 2 ≤ l.1 := fun l hl' => (badB_false (by rw [List.any_eq_false] at h; simpa using h l hl')).1
  unfold padTo4
  rw [parseL_bytes _ ls hk, parseL_zeros, behindO_ok, List.append_nil]

/-- What is read may be laid, in no more bytes. -/
theorem parseF_fits : ∀ (f : Nat) (b : List Int), (∀ x ∈ b, 0 ≤ x ∧ x < 256) → b.length ≤ 40 → (parseF f b).1.any badB = false ∧ (bytesO (parseF f b).1).length ≤ b.length
  | 0, b, _, _ => ⟨rfl, by simp [parseF, bytesO]⟩
  | f + 1, [], _, _ => ⟨rfl, by simp [parseF, bytesO]⟩
  | f + 1, k :: r, hb, hl => by
    have hr : ∀ x ∈ r, 0 ≤ x ∧ x < 256 := fun x hx => hb x (by simp [hx])
    have hk := hb k (by simp)
    have hl' : r.length ≤ 39 := by simpa using hl
    unfold parseF
    split
    · split <;> exact ⟨rfl, by simp [bytesO]⟩
    · rename_i h0
      split
      · have ih := parseF_fits f r hr (by omega)
        exact ⟨ih.1, by have := ih.2; simp only [List.length_cons]; omega⟩
      · rename_i h1
        match r, hr, hl' with
        | [], _, _ => exact ⟨rfl, by simp [bytesO]⟩
        | n :: r', hr, hl' =>
          simp only
          split
          · exact ⟨rfl, by simp [bytesO]⟩
          · split
            · exact ⟨rfl, by simp [bytesO]⟩
            · rename_i h2 h3
              have hd : (r'.drop (n - 2).toNat).length = r'.length - (n - 2).toNat := List.length_drop
              have ht : (r'.take (n - 2).toNat).length = (n - 2).toNat := by rw [List.length_take]; omega
              have hl2 : r'.length ≤ 38 := by simpa using hl'
              have ih := parseF_fits f (r'.drop (n - 2).toNat) (fun x hx => hr x (by simp [List.mem_of_mem_drop hx])) (by omega)
              split
              · refine ⟨?_, ?_⟩
                · rw [List.any_cons, ih.1, Bool.or_false]
                  unfold badB
                  simp only [ht, Bool.or_eq_false_iff, decide_eq_false_iff_not]
                  omega
                · have e : (bytesO ((k, r'.take (n - 2).toNat) :: (parseF f (r'.drop (n - 2).toNat)).1)).length = 2 + (n - 2).toNat + (bytesO (parseF f (r'.drop (n - 2).toNat)).1).length := by
                    simp only [bytesO, List.flatMap_cons, bytesOne, List.length_append, ht, List.length_cons, List.length_nil]
                  rw [e]
                  have := ih.2
                  simp only [List.length_cons]
                  omega
              · exact ⟨rfl, by simp [bytesO]⟩
theorem Reads.byte {w : World} : ∀ {os : List OptV} {ls : List (Int × List Int)}, Reads w os ls → ∀ l ∈ ls, (0 ≤ l.1 ∧ l.1 < 256) ∧ ∀ x ∈ l.2, 0 ≤ x ∧ x < 256
  | [], [], _, l, hl => by simp at hl
  | o :: os, l' :: ls, h, l, hl => by
    rcases List.mem_cons.1 hl with rfl | hl
    · obtain ⟨h1, h2, _, _, h5⟩ := h.1
      exact ⟨by rw [← h1]; exact h2, h5.byte⟩
    · exact Reads.byte h.2 l hl
theorem bytesO_bytes {ls : List (Int × List Int)} (h : ∀ l ∈ ls, (0 ≤ l.1 ∧ l.1 < 256) ∧ ∀ x ∈ l.2, 0 ≤ x ∧ x < 256) (h2 : ∀ l ∈ ls, l.2.length ≤ 38) : ∀ x ∈ bytesO ls, 0 ≤ x ∧ x < 256 := by
  intro x hx
  obtain ⟨l, hl, hx⟩ := List.mem_flatMap.1 hx
  have h3 := h l hl
  have h4 := h2 l hl
  simp only [bytesOne, List.mem_append, List.mem_cons, List.not_mem_nil, or_false] at hx
  rcases hx with (rfl | rfl) | hx
  · exact h3.1
  · omega
  · exact h3.2 x hx
end Go.Proofs.YtoegfgbalcholaaGreat

/-
  The contract of culvertref06's Put (and May).
-/
namespace Go.Proofs.YtoegfgbalcholaaGreat
set_option maxRecDepth 10000
open Go.RowKit

def b2 (n : Int) : List Int := [n / 256 % 256, n % 256]
def b4 (n : Int) : List Int := [n / 16777216 % 256, n / 65536 % 256, n / 256 % 256, n % 256]
def segHd (s : Seg) (off f : Int) : List Int := b2 s.sp ++ b2 s.dp ++ b4 s.sq ++ b4 s.ak ++ [off, s.fl] ++ b2 s.wn ++ b2 f ++ b2 s.ug
def optB (s : Seg) : List Int := padTo4 (bytesO s.os)
def offS (s : Seg) : Int := (20 + ((optB s).length : Int)) / 4 * 16
def lenB (s : Seg) : Nat := 20 + (optB s).length + s.d.length
def fieldS (src dst : Int) (s : Seg) : Int := 65535 - sumL (pseudoL src dst 6 (lenB s) ++ (segHd s (offS s) 0 ++ optB s ++ s.d))
def segB (src dst : Int) (s : Seg) : List Int := segHd s (offS s) (fieldS src dst s) ++ optB s ++ s.d
theorem seg_cells {W : World} {z : Nat} {v0 v1 v2 v3 v4 v5 v6 v7 v8 : Value} (h : W.heap[z]? = some (.cells #[v0, v1, v2, v3, v4, v5, v6, v7, v8] 29 (0, 0))) :
    W.cell? ⟨z, 0, none⟩ = some v0 ∧ W.cell? ⟨z, 1, none⟩ = some v1 ∧ W.cell? ⟨z, 2, none⟩ = some v2 ∧ W.cell? ⟨z, 3, none⟩ = some v3 ∧ W.cell? ⟨z, 4, none⟩ = some v4 ∧ W.cell? ⟨z, 5, none⟩ = some v5 ∧ W.cell? ⟨z, 6, none⟩ = some v6 ∧ W.cell? ⟨z, 7, none⟩ = some v7 ∧ W.cell? ⟨z, 8, none⟩ = some v8 :=
  ⟨blk_cell h 0, blk_cell h 1, blk_cell h 2, blk_cell h 3, blk_cell h 4, blk_cell h 5, blk_cell h 6, blk_cell h 7, blk_cell h 8⟩
theorem padTo4_bytes_ {b : List Int} (h : ∀ x ∈ b, 0 ≤ x ∧ x < 256) : ∀ x ∈ padTo4 b, 0 ≤ x ∧ x < 256 := by
  intro x hx
  rcases List.mem_append.1 hx with h1 | h1
  · exact h x h1
  · rw [List.eq_of_mem_replicate h1]; omega
theorem segHd_bytes (s : Seg) (off f : Int) (hf : 0 ≤ s.fl ∧ s.fl < 256) (ho : 0 ≤ off ∧ off < 256) : ∀ x ∈ segHd s off f, 0 ≤ x ∧ x < 256 := by
  intro x hx
  simp [segHd, b2, b4] at hx
  omega
end Go.Proofs.YtoegfgbalcholaaGreat
