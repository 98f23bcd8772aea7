/-
  Texts laid together: TcpOpen, TcpLaw, TcpBoth, Udp.
-/
import Derived.Test.YtheknmihnkennaaGreatZA08
import Derived.Test.YtheknmihnkennaaGreatZA18
import Derived.Lib.SmallJoins
import Derived.SizedLaws
import Derived.Test.YtheknmihnkennaaGreatZA11
import Derived.Test.YtheknmihnkennaaGreatZA04
import Derived.Test.YtheknmihnkennaaGreatZA05
import Derived.Deep.RegionHeld3

/-
  A segment (api.Segment) that comes in, opened: numbers within their bounds, a slice of options, a slice of bytes.
-/
namespace Go.Proofs.YtheknmihnkennaaGreat
set_option maxRecDepth 10000
open Go.Joins Go.ChangeShapes Go.WideShapes Go.ChangeAt Go.RowKit Go.Deep

section
variable {H : Type} {enc : TypeId × Value → H} {P : Program} {w : World} {base : Nat} {spare : Nat → Bool} {held : Bool}
end

end Go.Proofs.YtheknmihnkennaaGreat

/-
  What the laws of tcp have in common: Parse's answer by name, the same segment, addresses' sums.
-/
namespace Go.Proofs.YtheknmihnkennaaGreat
set_option maxRecDepth 10000
open Go.RowKit

theorem zero_rd (w : World) : SegRd w zeroSeg none 0 0 [] none 0 0 := ⟨⟨by decide, by decide, by decide, by decide, by decide, by decide, by decide⟩, ⟨Nat.le_refl _, by simp [maxLen]⟩, ⟨Nat.le_refl _, by simp [maxLen]⟩, RdO.nil _ _, trivial, Rd.nil _ _⟩
theorem segSame_self (s : Seg) : segSame s s = true := by unfold segSame; simp
theorem Good.few {s : Seg} (h : Good s) : s.os.length ≤ 20 := by
  have := bytesO_two s.os
  have := h.may.2.1
  omega

/-- Parse tells the segment S, in rows of the call's own. -/
def SegTold (S : Seg) (nD : Nat) (w : World) (e : Ending) (w' : World) : Prop :=
  ∃ AO nO cO os AD cD, e = .returned (.tuple #[.agg #[.int .u16 S.sp, .int .u16 S.dp, .int .u32 S.sq, .int .u32 S.ak, .int .u8 S.fl, .int .u16 S.wn, .int .u16 S.ug, .slice AO nO cO, .slice AD nD cD], .int .i64 0]) ∧ SegRd w' S AO nO cO os AD nD cD ∧ nO ≤ 20 ∧
    OwnO w' w.heap.size AO nO cO os ∧ OwnL w' w.heap.size os S.os ∧ OwnB w' w.heap.size AD nD cD S.d ∧ Below w.heap.size w w'
theorem tparse_told (src dst : Int) (A : Option Addr) (n c : Nat) (b : List Int) (S : Seg) (nD : Nat) (w : World) (hc : n ≤ c ∧ c ≤ maxLen) (hA : Rd w A n b) (hx : errSeg src dst b = 0) (hS : segOf b (offB b) = S) (hn : S.d.length = nD) :
    Calls Tryz.prog 41 #[.int .u32 src, .int .u32 dst, .slice A n c] w (SegTold S nD w) := by
  have hG := (segOf_good (src := src) (dst := dst) hA.byte hx).1
  refine (tparse_ok src dst A n c b w hc hA hx).mono ?_
  rintro e w' ⟨AO, nO, cO, os, AD, cD, rfl, ho, hl, hd, hb⟩
  have hd' : b.drop (offB b) = S.d := by rw [← hS]; rfl
  rw [hS] at hG hl
  have hnD : b.length - offB b = nD := by rw [← hn, ← hd', List.length_drop]
  rw [hd', hnD] at hd
  have hnO : nO ≤ 20 := by rw [← ho.len, hl.reads.len]; exact hG.few
  refine ⟨AO, nO, cO, os, AD, cD, by rw [hS, hnD]; rfl, ⟨hG.num, ⟨ho.cap, ho.capMax⟩, ⟨hd.cap, hd.capMax⟩, ho.rd, hl.reads, hd.rd hG.d⟩, hnO, ho, hl, hd, hb⟩

theorem own_seg {w : World} {B : Nat} {S : Seg} {AO : Option Addr} {nO cO : Nat} {os : List OptV} {AD : Option Addr} {nD cD : Nat} (hn : SegNum S) (ho : OwnO w B AO nO cO os) (hl : OwnL w B os S.os) (hd : OwnB w B AD nD cD S.d) (hby : ∀ x ∈ S.d, 0 ≤ x ∧ x < 256) : SegRd w S AO nO cO os AD nD cD :=
  ⟨hn, ⟨ho.cap, ho.capMax⟩, ⟨hd.cap, hd.capMax⟩, ho.rd, hl.reads, hd.rd hby⟩
end Go.Proofs.YtheknmihnkennaaGreat

/-
  What package tcp and the document's own answers (culvertref06) both tell: Put's bytes or error, Parse's segment or error.
-/
namespace Go.Proofs.YtheknmihnkennaaGreat
set_option maxRecDepth 10000
open Go.RowKit

/-- The bytes that are told: none where the segment may not be. -/
def toldB (src dst : Int) (s : Seg) : List Int := if errS s = 0 then segB src dst s else []
/-- What Parse told is written over: what is older than Bd stays; the segment itself, and its options' row. -/
structure SpoilT (w4 : World) (Bd : Nat) (AO : Option Addr) (nO cO : Nat) (os : List OptV) (AD : Option Addr) (nD cD : Nat) (q : Nat) (C : Array Value) (wr : World) : Prop where
  low : Below Bd w4 wr
  row : OwnO wr Bd AO nO cO os
  data : ∀ o ∈ os, ∃ l, OwnB wr Bd o.A o.n o.c l
  d : ∃ l, OwnB wr Bd AD nD cD l
  blk : wr.heap[q]? = some (.cells C 29 (0, 0))
theorem own_seg_apart {w : World} {B g n c q : Nat} {l : List Int} {C : Array Value} (h : OwnB w B (some ⟨g, 0, none⟩) n c l) (hq : w.heap[q]? = some (.cells C 29 (0, 0))) : g ≠ q := by
  rintro rfl
  rcases h.2 with ⟨e, _⟩ | ⟨g', cap, cur, e, _, hg, _⟩
  · injection e with e; cases e
  · injection e with e _ _
    injection e with e
    injection e with e
    subst e
    rw [hq] at hg
    injection hg with hg
    injection hg with _ hg _
    revert hg
    decide
theorem SpoilT.set_ {w4 : World} {Bd : Nat} {AO : Option Addr} {nO cO : Nat} {os : List OptV} {AD : Option Addr} {nD cD q : Nat} {C : Array Value} {wr : World} (h : SpoilT w4 Bd AO nO cO os AD nD cD q C wr) {g n c : Nat} {l : List Int} (ho : OwnB wr Bd (some ⟨g, 0, none⟩) n c l) (k : Nat) (y : Int) : SpoilT w4 Bd AO nO cO os AD nD cD q C (wr.setCell ⟨g, k, none⟩ (.int .u8 y)) := by
  have hset : But (fun x => x = g) wr (wr.setCell ⟨g, k, none⟩ (.int .u8 y)) := (But.refl (fun x => x = g) _).setCell (p := ⟨g, k, none⟩) rfl _
  have one : ∀ {A : Option Addr} {n c : Nat}, (∃ l, OwnB wr Bd A n c l) → ∃ l, OwnB (wr.setCell ⟨g, k, none⟩ (.int .u8 y)) Bd A n c l := by
    rintro A n c ⟨l', h'⟩
    by_cases hg : A = some ⟨g, 0, none⟩
    · rw [hg] at h' ⊢
      exact ⟨_, h'.set_ k y⟩
    · exact ⟨l', h'.butA hset (fun k' e he => hg (by rw [e, he]))⟩
  exact ⟨h.low.setCell (p := ⟨g, k, none⟩) (ho.at_ rfl).1 _, h.row.but hset (fun k' e he => own_apart ho h.row ⟨_, e, he⟩), fun o hm => one (h.data o hm), one h.d, hset.blk h.blk (fun e => own_seg_apart ho h.blk e.symm)⟩
end Go.Proofs.YtheknmihnkennaaGreat

/-
  Package udp: what a datagram's bytes are; the contracts of word, fieldOf, and of the closure within Put.
-/
namespace Go.Proofs.YtheknmihnkennaaGreat
set_option maxRecDepth 10000
open Go.RowKit

/-- The field of bytes: never 0000. -/
def fldU (l : List Int) : Int := if 65535 - sumL l = 0 then 65535 else 65535 - sumL l
def hdU (s : Dg) : List Int := be16 s.sp ++ be16 s.dp ++ be16 (8 + (s.d.length : Int))
def fieldU (src dst : Int) (s : Dg) : Int := fldU (pseudoL src dst 17 (8 + (s.d.length : Int)) ++ (hdU s ++ s.d))
/-- A datagram's bytes. -/
def dgB (src dst : Int) (s : Dg) : List Int := hdU s ++ (be16 (fieldU src dst s) ++ s.d)
theorem fldU_bd (l : List Int) : 0 < fldU l ∧ fldU l < 65536 := by
  have := sumL_bd l
  unfold fldU
  split <;> omega
theorem dgB_len (src dst : Int) (s : Dg) : (dgB src dst s).length = 8 + s.d.length := by simp [dgB, hdU, be16]; omega
theorem be16_bytes {x : Int} (h : 0 ≤ x ∧ x < 65536) : ∀ y ∈ be16 x, 0 ≤ y ∧ y < 256 := by intro y hy; simp [be16] at hy; omega
theorem hdU_bytes {s : Dg} (h : DgNum s) (hl : s.d.length ≤ 1472) : ∀ x ∈ hdU s, 0 ≤ x ∧ x < 256 := by
  obtain ⟨h1, h2⟩ := h
  intro x hx
  simp [hdU, be16] at hx
  omega
theorem dgB_bytes {s : Dg} (src dst : Int) (h : DgNum s) (hl : s.d.length ≤ 1472) (hd : ∀ x ∈ s.d, 0 ≤ x ∧ x < 256) : ∀ x ∈ dgB src dst s, 0 ≤ x ∧ x < 256 := by
  intro x hx
  rcases List.mem_append.1 hx with h1 | h1
  · exact hdU_bytes h hl x h1
  · rcases List.mem_append.1 h1 with h2 | h2
    · have : 0 < fieldU src dst s ∧ fieldU src dst s < 65536 := fldU_bd _
      exact be16_bytes (by omega) x h2
    · exact hd x h2

theorem word_row (x : Int) (w : World) (hx : 0 ≤ x ∧ x < 65536) :
    Calls Tryz.prog 98 #[.int .u16 x] w (RowIs 2 (be16 x) w) := by
  have Hu := Lib.hid (u16_lays none 0 0 [] x w hx (by simp [maxLen]) (by omega) (Rd.nil _ _))
  go_enter Tryz.func98, Tryz.ntmps98
  go_wp2_with fail
  refine Hu.out.mono ?_
  rintro e w1 ⟨A1, c1, rfl, h1, h2, hown, hb1⟩
  have Ho := Lib.hid hown
  have Hb := Lib.hid hb1
  clear hown hb1
  go_wp2_with fail
  go_ret
  exact ⟨A1, c1, rfl, h1, h2, Ho.out, Hb.out⟩

theorem fieldof_any (A : Option Addr) (n c : Nat) (ls : List (List Int)) (w : World) (x : Int) (hn : n ≤ 1000) (h : RdL w A n ls) (hx : fldU ls.flatten = x) :
    Calls Tryz.prog 99 #[.slice A n c] w (SumIs x w) := by
  have Hf := Lib.hid (field_any A n c ls w (by omega) h)
  unfold fldU at hx
  obtain ⟨y, ey⟩ : ∃ y, 65535 - sumL ls.flatten = y := ⟨_, rfl⟩
  rw [ey] at Hf hx
  clear h ey
  by_cases hy : y = 0
  · subst hy
    rw [if_pos rfl] at hx
    subst hx
    go_enter Tryz.func99, Tryz.ntmps99
    go_wp2_with fail
    refine Hf.out.mono ?_
    rintro e w1 ⟨rfl, hb1⟩
    have Hb := Lib.hid hb1
    clear hb1
    go_wp2_with fail
    go_ret
    exact ⟨rfl, Hb.out⟩
  · rw [if_neg hy] at hx
    subst hx
    have hy2 : (y == 0) = false := by simpa using hy
    have hy3 : (y != 0) = true := by simpa using hy
    clear hy
    go_enter Tryz.func99, Tryz.ntmps99
    go_wp2_with fail
    refine Hf.out.mono ?_
    rintro e w1 ⟨rfl, hb1⟩
    have Hb := Lib.hid hb1
    clear hb1
    go_wp2_with fail
    go_ret
    exact ⟨rfl, Hb.out⟩

/-- A row grows in a box of the caller's own: nothing else that was there turns but the row. -/
def LaidU (p B : Nat) (A1 : Option Addr) (m : Nat) (l : List Int) (w : World) (e : Ending) (w' : World) : Prop :=
  e = .returned (.tuple #[]) ∧ (∃ A2 c2, Box w' p 22 (.slice A2 m c2) ∧ OwnB w' B A2 m c2 l) ∧ But (fun k => k = p ∨ A1 = some ⟨k, 0, none⟩) w w'

theorem own_block {w : World} {B : Nat} {A : Option Addr} {n c : Nat} {l : List Int} (h : OwnB w B A n c l) (g : Nat) : (Value.slice A n c).ownBlock = some g → A = some ⟨g, 0, none⟩ ∧ g < w.heap.size := by
  intro e
  rcases h.2 with ⟨e1, _⟩ | ⟨g', cap, cur, e1, hBg, hg, _⟩
  · injection e1 with e1 _ _
    subst e1
    simp [Value.ownBlock] at e
  · injection e1 with e1 _ _
    subst e1
    simp [Value.ownBlock] at e
    subst e
    exact ⟨rfl, lt_of_block hg⟩
theorem own_block2 {w : World} {B : Nat} {A : Option Addr} {n c : Nat} {l : List Int} (h : OwnB w B A n c l) (g : Nat) (e : A = some ⟨g, 0, none⟩) : (Value.slice A n c).ownBlock = some g := by
  subst e
  simp [Value.ownBlock]

theorem ulay_any (B p : Nat) (A : Option Addr) (n c : Nat) (ls : List (List Int)) (A1 : Option Addr) (n1 c1 : Nat) (l : List Int) (T : Nat) (w : World) (hn : n ≤ 1000) (hp : p < B) (hB : B ≤ w.heap.size)
    (hbox : Box w p 22 (.slice A1 n1 c1)) (hown : OwnB w B A1 n1 c1 l) (h : ∀ w', But (fun k => k = p ∨ A1 = some ⟨k, 0, none⟩) w w' → RdL w' A n ls) (hT : ls.flatten.length = T) (hm : n1 + T ≤ 100000) :
    Calls Tryz.prog 97 #[.slice A n c, .pointer (some ⟨p, 0, none⟩)] w (LaidU p B A1 (n1 + T) (l ++ ls.flatten) w) := by
  have Hlen := Lib.hid (h w (But.refl _ _)).len
  have HT := Lib.hid hT
  have Hh := Lib.hid h
  have Hown := Lib.hid hown
  have Hbox := Lib.hid hbox
  clear h hT hown hbox
  go_enter Tryz.func97, Tryz.ntmps97
  go_wp2_with fail
  go_loopg [7] n (fun gk i wr => ∃ (j m : Nat) (A2 : Option Addr) (c2 : Nat), Hid (gk + j = n) ∧ j ≤ n ∧ i = .int .i64 (j : Int) ∧ m ≤ 100000 ∧ Hid (Box wr p 22 (.slice A2 m c2)) ∧ Hid (OwnB wr B A2 m c2 (l ++ (ls.take j).flatten)) ∧ Hid (But (fun k => k = p ∨ A1 = some ⟨k, 0, none⟩) w wr) ∧ Hid (∀ g, A2 = some ⟨g, 0, none⟩ → g < w.heap.size → A1 = some ⟨g, 0, none⟩))
  case atStart => exact ⟨0, n1, A1, c1, rfl, Nat.zero_le _, rfl, by omega, Hbox, by simpa using Hown, Lib.hid (But.refl _ _), Lib.hid (fun _ e _ => e)⟩
  case round =>
    obtain ⟨j, m, A2, c2, hgk, hj, rfl, hmj, hbx, hown, hb, hA⟩ := hrel
    by_cases hlt : j < n
    · have hf := flat_take ls j (by rw [Hlen.out]; exact hlt)
      obtain ⟨q, Ai, ci, hrunq, hqb, hcq, hci, hcm, hri⟩ := (Hh.out wr hb.out).index (c := c) hlt
      have hsum : m + (ls.getD j []).length ≤ 100000 := by
        have h1 := hown.out.len
        have h3 := flat_len_le ls (j + 1)
        rw [List.length_append] at h1
        rw [hf, List.length_append] at h3
        have := HT.out
        have := Hown.out.len
        omega
      have Hf := Lib.hid (show (l ++ (ls.take j).flatten) ++ ls.getD j [] = l ++ (ls.take (j + 1)).flatten by rw [hf, List.append_assoc])
      have hpc := hbx.out.cell
      have Hbs := Lib.hid (show B ≤ wr.heap.size from Nat.le_trans hB hb.out.size)
      obtain ⟨k, ek⟩ : ∃ k, (ls.getD j []).length = k := ⟨_, rfl⟩
      rw [ek] at hcq hsum hri hci
      have Hri := Lib.hid hri
      clear hri hci hf ek
      go_wp2_with (refine wpList_app rfl (.tmp 11) (.tmp 12) rfl B A2 Ai m c2 k ci _ _ rfl rfl hown.out Hri.out (by omega) Hbs.out ?_; intro A3 c3 w3 hown3 hg3 hb3 hat3; have hbx3 := hbx.out.below hb3 hp; have hf3 := hbx3.free; have hc3 := hbx3.cell)
      rw [Hf.out] at hown3
      have hB3 : But (fun k => k = p ∨ A1 = some ⟨k, 0, none⟩) w w3 := by
        refine ⟨hg3.os.trans hb.out.os, hg3.tape.trans hb.out.tape, hg3.output.trans hb.out.output, Nat.le_trans hb.out.size hg3.size, fun k hk hS => ?_⟩
        rw [hg3.block k (Nat.lt_of_lt_of_le hk hb.out.size) (fun e => hS (.inr (hA.out k (own_block hown.out k e.symm).1 hk)))]
        exact hb.out.block k hk hS
      have hA3 : ∀ g, A3 = some ⟨g, 0, none⟩ → g < w.heap.size → A1 = some ⟨g, 0, none⟩ := by
        intro g e hg
        have e2 := own_block2 hown3 g e
        rcases hat3 with h1 | h1
        · rw [h1] at e2
          exact hA.out g (own_block hown.out g e2).1 hg
        · rw [h1] at e2
          injection e2 with e2
          have := hb.out.size
          omega
      have Hbx4 := Lib.hid (hbx3.set_ (.slice A3 (m + k) c3))
      have Hown4 := Lib.hid (hown3.but ((But.refl (fun k => k = p) w3).setCell (p := ⟨p, 0, none⟩) rfl (.slice A3 (m + k) c3)) (fun k hk e => by omega))
      have Hb4 := Lib.hid (hB3.setCell (p := ⟨p, 0, none⟩) (.inl rfl) (.slice A3 (m + k) c3))
      have HA3 := Lib.hid hA3
      clear hown3 hg3 hb3 hat3 hbx3 hB3 hA3 hf3 hc3
      go_roundg (gk - 1)
      case measure => have := hgk.out; omega
      case rel => exact ⟨j + 1, m + k, A3, c3, by have := hgk.out; show gk - 1 + (j + 1) = _; omega, by omega, by go_num, hsum, Hbx4, Hown4, Hb4, HA3⟩
    · obtain rfl : j = n := by omega
      have ho := hown.out
      rw [List.take_of_length_le (by rw [Hlen.out]; exact Nat.le_refl _)] at ho
      have hmT : m = n1 + T := by
        have h1 := ho.len
        rw [List.length_append] at h1
        have := HT.out
        have := Hown.out.len
        omega
      subst hmT
      have Ho := Lib.hid ho
      clear ho
      go_wp2_with fail
      go_end0
      exact ⟨rfl, ⟨A2, c2, hbx.out, Ho.out⟩, hb.out⟩
end Go.Proofs.YtheknmihnkennaaGreat
