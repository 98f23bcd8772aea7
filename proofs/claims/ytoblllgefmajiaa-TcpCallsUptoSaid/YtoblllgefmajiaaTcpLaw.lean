/-
  What the laws of tcp have in common: Parse's answer by name, the same segment, addresses' sums.
-/
import Derived.Test.YtoblllgefmajiaaTcpPlain
import Derived.Test.YtoblllgefmajiaaTcpWakes
import Derived.Test.YtoblllgefmajiaaTcpOpen
namespace Go.Proofs.Ytoblllgefmajiaa
set_option maxRecDepth 10000
open Go.RowKit

theorem zero_rd (w : World) : SegRd w zeroSeg none 0 0 [] none 0 0 := ⟨⟨by decide, by decide, by decide, by decide, by decide, by decide, by decide⟩, ⟨Nat.le_refl _, by simp [maxLen]⟩, ⟨Nat.le_refl _, by simp [maxLen]⟩, RdO.nil _ _, trivial, Rd.nil _ _⟩
theorem segSame_self (s : Seg) : segSame s s = true := by unfold segSame; simp
theorem Good.few {s : Seg} (h : Good s) : s.os.length ≤ 20 := by
  have := bytesO_two s.os
  have := h.may.2.1
  omega

/-- Parse tells the segment S, in rows of the call's own. -/
def SegTold (S : Seg) (nD : Nat) (w : World) (e : Ending) (w' : World) : Prop :=
  ∃ AO nO cO os AD cD, e = .returned (.tuple #[.agg #[.int .u16 S.sp, .int .u16 S.dp, .int .u32 S.sq, .int .u32 S.ak, .int .u8 S.fl, .int .u16 S.wn, .int .u16 S.ug, .slice AO nO cO, .slice AD nD cD], .int .i64 0]) ∧ SegRd w' S AO nO cO os AD nD cD ∧ nO ≤ 20 ∧
    OwnO w' w.heap.size AO nO cO os ∧ OwnL w' w.heap.size os S.os ∧ OwnB w' w.heap.size AD nD cD S.d ∧ Below w.heap.size w w'
theorem tparse_told (src dst : Int) (A : Option Addr) (n c : Nat) (b : List Int) (S : Seg) (nD : Nat) (w : World) (hc : n ≤ c ∧ c ≤ maxLen) (hA : Rd w A n b) (hx : errSeg src dst b = 0) (hS : segOf b (offB b) = S) (hn : S.d.length = nD) :
    Calls Try.prog 17 #[.int .u32 src, .int .u32 dst, .slice A n c] w (SegTold S nD w) := by
  have hG := (segOf_good (src := src) (dst := dst) hA.byte hx).1
  refine (tparse_ok src dst A n c b w hc hA hx).mono ?_
  rintro e w' ⟨AO, nO, cO, os, AD, cD, rfl, ho, hl, hd, hb⟩
  have hd' : b.drop (offB b) = S.d := by rw [← hS]; rfl
  rw [hS] at hG hl
  have hnD : b.length - offB b = nD := by rw [← hn, ← hd', List.length_drop]
  rw [hd', hnD] at hd
  have hnO : nO ≤ 20 := by rw [← ho.len, hl.reads.len]; exact hG.few
  refine ⟨AO, nO, cO, os, AD, cD, by rw [hS, hnD]; rfl, ⟨hG.num, ⟨ho.cap, ho.capMax⟩, ⟨hd.cap, hd.capMax⟩, ho.rd, hl.reads, hd.rd hG.d⟩, hnO, ho, hl, hd, hb⟩

/-- The same, the segment written out. -/
def SegLit (sp dp sq ak fl wn ug : Int) (S : Seg) (nD : Nat) (w : World) (e : Ending) (w' : World) : Prop :=
  ∃ AO nO cO os AD cD, e = .returned (.tuple #[.agg #[.int .u16 sp, .int .u16 dp, .int .u32 sq, .int .u32 ak, .int .u8 fl, .int .u16 wn, .int .u16 ug, .slice AO nO cO, .slice AD nD cD], .int .i64 0]) ∧ SegRd w' S AO nO cO os AD nD cD ∧ nO ≤ 20 ∧
    OwnO w' w.heap.size AO nO cO os ∧ OwnL w' w.heap.size os S.os ∧ OwnB w' w.heap.size AD nD cD S.d ∧ Below w.heap.size w w'
theorem tparse_lit (src dst : Int) (A : Option Addr) (n c : Nat) (b : List Int) (sp dp sq ak fl wn ug : Int) (os : List (Int × List Int)) (d : List Int) (nD : Nat) (w : World) (hc : n ≤ c ∧ c ≤ maxLen) (hA : Rd w A n b) (hx : errSeg src dst b = 0) (hS : segOf b (offB b) = ⟨sp, dp, sq, ak, fl, wn, ug, os, d⟩) (hn : d.length = nD) :
    Calls Try.prog 17 #[.int .u32 src, .int .u32 dst, .slice A n c] w (SegLit sp dp sq ak fl wn ug ⟨sp, dp, sq, ak, fl, wn, ug, os, d⟩ nD w) :=
  tparse_told src dst A n c b ⟨sp, dp, sq, ak, fl, wn, ug, os, d⟩ nD w hc hA hx hS hn
theorem own_seg {w : World} {B : Nat} {S : Seg} {AO : Option Addr} {nO cO : Nat} {os : List OptV} {AD : Option Addr} {nD cD : Nat} (hn : SegNum S) (ho : OwnO w B AO nO cO os) (hl : OwnL w B os S.os) (hd : OwnB w B AD nD cD S.d) (hby : ∀ x ∈ S.d, 0 ≤ x ∧ x < 256) : SegRd w S AO nO cO os AD nD cD :=
  ⟨hn, ⟨ho.cap, ho.capMax⟩, ⟨hd.cap, hd.capMax⟩, ho.rd, hl.reads, hd.rd hby⟩
theorem same_yes (s : Seg) (AO AO' : Option Addr) (nO cO nO' cO' : Nat) (oss oss' : List OptV) (AD AD' : Option Addr) (nD cD nD' cD' : Nat) (w : World) (hn : nO ≤ 2000000) (h : SegRd w s AO nO cO oss AD nD cD) (h' : SegRd w s AO' nO' cO' oss' AD' nD' cD') :
    Calls Try.prog 22 #[.agg #[.int .u16 s.sp, .int .u16 s.dp, .int .u32 s.sq, .int .u32 s.ak, .int .u8 s.fl, .int .u16 s.wn, .int .u16 s.ug, .slice AO nO cO, .slice AD nD cD], .agg #[.int .u16 s.sp, .int .u16 s.dp, .int .u32 s.sq, .int .u32 s.ak, .int .u8 s.fl, .int .u16 s.wn, .int .u16 s.ug, .slice AO' nO' cO', .slice AD' nD' cD']] w (OptBool true w) := by
  have := same6_any s s AO AO' nO cO nO' cO' oss oss' AD AD' nD cD nD' cD' w hn h h'
  rw [segSame_self] at this
  exact this
theorem same_zero (w : World) : Calls Try.prog 22 #[.agg #[.int .u16 0, .int .u16 0, .int .u32 0, .int .u32 0, .int .u8 0, .int .u16 0, .int .u16 0, .slice none 0 0, .slice none 0 0], .agg #[.int .u16 0, .int .u16 0, .int .u32 0, .int .u32 0, .int .u8 0, .int .u16 0, .int .u16 0, .slice none 0 0, .slice none 0 0]] w (OptBool true w) :=
  same_yes zeroSeg none none 0 0 0 0 [] [] none none 0 0 0 0 w (by omega) (zero_rd w) (zero_rd w)
end Go.Proofs.Ytoblllgefmajiaa
