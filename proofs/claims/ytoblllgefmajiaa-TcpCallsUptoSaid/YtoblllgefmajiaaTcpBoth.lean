/-
  What package tcp and the document's own answers (culvertref06) both tell: Put's bytes or error, Parse's segment or error.
-/
import Derived.Test.YtoblllgefmajiaaTcpLaw
namespace Go.Proofs.Ytoblllgefmajiaa
set_option maxRecDepth 10000
open Go.RowKit

/-- A row that reads as L, and a number. -/
def PutTold (L : List Int) (m : Nat) (x : Int) (w : World) (e : Ending) (w' : World) : Prop := ∃ A c, e = .returned (.tuple #[.slice A m c, .int .i64 x]) ∧ Rd w' A m L ∧ Below w.heap.size w w'
/-- The bytes that are told: none where the segment may not be. -/
def toldB (src dst : Int) (s : Seg) : List Int := if errS s = 0 then segB src dst s else []
theorem put_both (src dst : Int) (s : Seg) (AO : Option Addr) (nO cO : Nat) (oss : List OptV) (AD : Option Addr) (nD cD : Nat) (w : World) (L : List Int) (m : Nat) (x : Int) (hn : nO ≤ 140737488355328) (hd : nD ≤ 140737488355328) (h : SegRd w s AO nO cO oss AD nD cD) (hx : errS s = x) (hL : toldB src dst s = L) (hm : L.length = m) :
    Calls Try.prog 15 #[.int .u32 src, .int .u32 dst, .agg #[.int .u16 s.sp, .int .u16 s.dp, .int .u32 s.sq, .int .u32 s.ak, .int .u8 s.fl, .int .u16 s.wn, .int .u16 s.ug, .slice AO nO cO, .slice AD nD cD]] w (PutTold L m x w) := by
  refine (put6_any src dst s AO nO cO oss AD nD cD w hn hd h).mono fun e w' hh => ?_
  unfold toldB at hL
  by_cases h0 : errS s = 0
  · rw [if_pos h0] at hh hL
    obtain ⟨A, c, rfl, k, k2, ho, hb⟩ := hh
    subst hx; subst hL; subst hm
    rw [h0, segB_len]
    exact ⟨A, c, rfl, ho.rd (segB_bytes h.num h0 h.os.byte h.d.byte), hb⟩
  · rw [if_neg h0] at hh hL
    obtain ⟨rfl, hb⟩ := hh
    subst hx; subst hL; subst hm
    exact ⟨none, 0, rfl, Rd.nil _ _, hb⟩
theorem rput_both (src dst : Int) (s : Seg) (AO : Option Addr) (nO cO : Nat) (oss : List OptV) (AD : Option Addr) (nD cD : Nat) (w : World) (L : List Int) (m : Nat) (x : Int) (hn : nO ≤ 2000000) (hd : nD ≤ 140737488355328) (h : SegRd w s AO nO cO oss AD nD cD) (hx : errS s = x) (hL : toldB src dst s = L) (hm : L.length = m) :
    Calls Try.prog 16 #[.int .u32 src, .int .u32 dst, .agg #[.int .u16 s.sp, .int .u16 s.dp, .int .u32 s.sq, .int .u32 s.ak, .int .u8 s.fl, .int .u16 s.wn, .int .u16 s.ug, .slice AO nO cO, .slice AD nD cD]] w (PutTold L m x w) := by
  refine (rput6_any src dst s AO nO cO oss AD nD cD w hn hd h).mono fun e w' hh => ?_
  have hh0 := hh
  unfold SegPutIs at hh
  unfold toldB at hL
  have hb6 := fun h0 => segB_bytes (src := src) (dst := dst) h.num h0 h.os.byte h.d.byte
  unfold errS at hx hL hb6
  by_cases h1 : s.os.any badB = true
  · rw [if_pos h1] at hh hx hL
    rw [if_neg (by decide)] at hL
    obtain ⟨rfl, hb⟩ := hh
    subst hx; subst hL; subst hm
    exact ⟨none, 0, rfl, Rd.nil _ _, hb⟩
  rw [if_neg h1] at hh hx hL
  by_cases h2 : 40 < (bytesO s.os).length
  · rw [if_pos h2] at hh hx hL
    rw [if_neg (by decide)] at hL
    obtain ⟨rfl, hb⟩ := hh
    subst hx; subst hL; subst hm
    exact ⟨none, 0, rfl, Rd.nil _ _, hb⟩
  rw [if_neg h2] at hh hx hL
  by_cases h3 : 1480 < lenB s
  · rw [if_pos h3] at hh hx hL
    rw [if_neg (by decide)] at hL
    obtain ⟨rfl, hb⟩ := hh
    subst hx; subst hL; subst hm
    exact ⟨none, 0, rfl, Rd.nil _ _, hb⟩
  rw [if_neg h3] at hh hx hL
  rw [if_pos rfl] at hL
  obtain ⟨A, c, rfl, ho, hb⟩ := hh
  subst hx; subst hL; subst hm
  rw [segB_len]
  exact ⟨A, c, rfl, ho.rd (hb6 (by rw [if_neg h1, if_neg h2, if_neg h3])), hb⟩

/-- The segment that is told: the nought where the bytes are none. -/
def toldS (src dst : Int) (b : List Int) : Seg := if errSeg src dst b = 0 then segOf b (offB b) else zeroSeg
/-- Parse tells the segment S and x, its rows of the call's own. -/
def ParsedT (S : Seg) (x : Int) (nD : Nat) (w : World) (e : Ending) (w' : World) : Prop :=
  ∃ AO nO cO os AD cD, e = .returned (.tuple #[.agg #[.int .u16 S.sp, .int .u16 S.dp, .int .u32 S.sq, .int .u32 S.ak, .int .u8 S.fl, .int .u16 S.wn, .int .u16 S.ug, .slice AO nO cO, .slice AD nD cD], .int .i64 x]) ∧ SegRd w' S AO nO cO os AD nD cD ∧ nO ≤ 20 ∧
    OwnO w' w.heap.size AO nO cO os ∧ OwnL w' w.heap.size os S.os ∧ OwnB w' w.heap.size AD nD cD S.d ∧ Below w.heap.size w w'
theorem tparse_both (src dst : Int) (A : Option Addr) (n c : Nat) (b : List Int) (S : Seg) (x : Int) (nD : Nat) (w : World) (hc : n ≤ c ∧ c ≤ maxLen) (hA : Rd w A n b) (hx : errSeg src dst b = x) (hS : toldS src dst b = S) (hn : S.d.length = nD) :
    Calls Try.prog 17 #[.int .u32 src, .int .u32 dst, .slice A n c] w (ParsedT S x nD w) := by
  unfold toldS at hS
  by_cases h0 : errSeg src dst b = 0
  · rw [if_pos h0] at hS
    subst hx
    rw [h0]
    exact (tparse_told src dst A n c b S nD w hc hA h0 hS hn).mono fun e w' h => h
  · rw [if_neg h0] at hS
    subst hS; subst hn
    refine (tparse_err src dst A n c b x w hc hA hx (by omega)).mono ?_
    rintro e w' ⟨rfl, hb⟩
    exact ⟨none, 0, 0, [], none, 0, rfl, zero_rd _, by omega, OwnO.nil _ _, trivial, OwnB.nil _ _, hb⟩
/-- The document's Parse tells the segment S and x. -/
def ParsedR (S : Seg) (x : Int) (nD : Nat) (w : World) (e : Ending) (w' : World) : Prop :=
  ∃ AO nO cO os AD cD, e = .returned (.tuple #[.agg #[.int .u16 S.sp, .int .u16 S.dp, .int .u32 S.sq, .int .u32 S.ak, .int .u8 S.fl, .int .u16 S.wn, .int .u16 S.ug, .slice AO nO cO, .slice AD nD cD], .int .i64 x]) ∧ SegRd w' S AO nO cO os AD nD cD ∧ Below w.heap.size w w'
theorem rparse_both (src dst : Int) (A : Option Addr) (n c : Nat) (b : List Int) (S : Seg) (x : Int) (nD : Nat) (w : World) (hc : n ≤ c ∧ c ≤ maxLen) (hA : Rd w A n b) (hx : errSeg src dst b = x) (hS : toldS src dst b = S) (hn : S.d.length = nD) :
    Calls Try.prog 18 #[.int .u32 src, .int .u32 dst, .slice A n c] w (ParsedR S x nD w) := by
  unfold toldS at hS
  by_cases h0 : errSeg src dst b = 0
  · rw [if_pos h0] at hS
    subst hx
    rw [h0]
    have hG := (segOf_good (src := src) (dst := dst) hA.byte h0).1
    refine (rparse6_good src dst A n c b w hc hA h0).mono ?_
    rintro e w' ⟨AO, nO, cO, os, AD, cD, rfl, ho, hl, hd, hb⟩
    have hd' : b.drop (offB b) = S.d := by rw [← hS]; rfl
    rw [hS] at hG hl
    have hnD : b.length - offB b = nD := by rw [← hn, ← hd', List.length_drop]
    rw [hd', hnD] at hd
    exact ⟨AO, nO, cO, os, AD, cD, by rw [hS, hnD]; rfl, ⟨hG.num, ⟨ho.cap, ho.capMax⟩, ⟨hd.cap, hd.capMax⟩, ho.rd, hl, hd.rd hG.d⟩, hb⟩
  · rw [if_neg h0] at hS
    subst hS; subst hn
    refine (rparse6_bad src dst A n c b w hc hA h0).mono ?_
    rintro e w' ⟨rfl, hb⟩
    rw [hx]
    exact ⟨none, 0, 0, [], none, 0, rfl, zero_rd _, hb⟩

/-- What Parse told is written over: what is older than Bd stays; the segment itself, and its options' row. -/
structure SpoilT (w4 : World) (Bd : Nat) (AO : Option Addr) (nO cO : Nat) (os : List OptV) (AD : Option Addr) (nD cD : Nat) (q : Nat) (C : Array Value) (wr : World) : Prop where
  low : Below Bd w4 wr
  row : OwnO wr Bd AO nO cO os
  data : ∀ o ∈ os, ∃ l, OwnB wr Bd o.A o.n o.c l
  d : ∃ l, OwnB wr Bd AD nD cD l
  blk : wr.heap[q]? = some (.cells C 27 (0, 0))
theorem own_seg_apart {w : World} {B g n c q : Nat} {l : List Int} {C : Array Value} (h : OwnB w B (some ⟨g, 0, none⟩) n c l) (hq : w.heap[q]? = some (.cells C 27 (0, 0))) : g ≠ q := by
  rintro rfl
  rcases h.2 with ⟨e, _⟩ | ⟨g', cap, cur, e, _, hg, _⟩
  · injection e with e; cases e
  · injection e with e _ _
    injection e with e
    injection e with e
    subst e
    rw [hq] at hg
    injection hg with hg
    injection hg with _ hg _
    revert hg
    decide
theorem SpoilT.set_ {w4 : World} {Bd : Nat} {AO : Option Addr} {nO cO : Nat} {os : List OptV} {AD : Option Addr} {nD cD q : Nat} {C : Array Value} {wr : World} (h : SpoilT w4 Bd AO nO cO os AD nD cD q C wr) {g n c : Nat} {l : List Int} (ho : OwnB wr Bd (some ⟨g, 0, none⟩) n c l) (k : Nat) (y : Int) : SpoilT w4 Bd AO nO cO os AD nD cD q C (wr.setCell ⟨g, k, none⟩ (.int .u8 y)) := by
  have hset : But (fun x => x = g) wr (wr.setCell ⟨g, k, none⟩ (.int .u8 y)) := (But.refl (fun x => x = g) _).setCell (p := ⟨g, k, none⟩) rfl _
  have one : ∀ {A : Option Addr} {n c : Nat}, (∃ l, OwnB wr Bd A n c l) → ∃ l, OwnB (wr.setCell ⟨g, k, none⟩ (.int .u8 y)) Bd A n c l := by
    rintro A n c ⟨l', h'⟩
    by_cases hg : A = some ⟨g, 0, none⟩
    · rw [hg] at h' ⊢
      exact ⟨_, h'.set_ k y⟩
    · exact ⟨l', h'.butA hset (fun k' e he => hg (by rw [e, he]))⟩
  exact ⟨h.low.setCell (p := ⟨g, k, none⟩) (ho.at_ rfl).1 _, h.row.but hset (fun k' e he => own_apart ho h.row ⟨_, e, he⟩), fun o hm => one (h.data o hm), one h.d, hset.blk h.blk (fun e => own_seg_apart ho h.blk e.symm)⟩
theorem OwnL.dataT {w : World} {B : Nat} : ∀ {os : List OptV} {ls : List (Int × List Int)}, OwnL w B os ls → ∀ o ∈ os, ∃ l, OwnB w B o.A o.n o.c l
  | [], [], _, o, ho => by simp at ho
  | o' :: os, l :: ls, h, o, ho => by
    rcases List.mem_cons.1 ho with rfl | ho
    · exact ⟨_, h.1.2.2.2⟩
    · exact OwnL.dataT h.2 o ho
end Go.Proofs.Ytoblllgefmajiaa
