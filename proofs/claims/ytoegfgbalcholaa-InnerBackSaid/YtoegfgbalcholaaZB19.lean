/-
  Texts laid together: OptSame, TcpAsk, IpPut, TcpPut.
-/
import Derived.Test.YtoegfgbalcholaaZB18
import Derived.Laws.BytesArg
import Derived.Laws.IdiomStrings
import Derived.Lib.SlBytesConst
import Derived.Test.YtoegfgbalcholaaZB12
import Derived.Test.YtoegfgbalcholaaZB03
import Derived.Test.YtoegfgbalcholaaZB05
import Derived.Test.YtoegfgbalcholaaZB04
import Derived.Test.YtoegfgbalcholaaZB06
import Derived.Test.YtoegfgbalcholaaZB01
import Derived.Test.YtoegfgbalcholaaZB17
import Derived.Deep.RegionHeld3

/-
  The contracts of package opts' Same and Without, and of bytes.Equal.
-/
namespace Go.Proofs.Ytoegfgbalcholaa
set_option maxRecDepth 10000
open Go.RowKit

end Go.Proofs.Ytoegfgbalcholaa

/-
  The contracts of package tcp's options, May, Length, Same.
-/
namespace Go.Proofs.Ytoegfgbalcholaa
set_option maxRecDepth 10000
open Go.RowKit
set_option linter.unusedSimpArgs false

/-- What options tells of a segment. -/
def OptionsIs (s : Seg) (w : World) (e : Ending) (w' : World) : Prop :=
  if s.os.any badB = true then e = .returned (.tuple #[.slice Option.none 0 0, .int .i64 1]) ∧ Below w.heap.size w w'
  else if 40 < (bytesO s.os).length then e = .returned (.tuple #[.slice Option.none 0 0, .int .i64 3]) ∧ Below w.heap.size w w'
  else if 1480 < lenB s then e = .returned (.tuple #[.slice Option.none 0 0, .int .i64 3]) ∧ Below w.heap.size w w'
  else ∃ A c, e = .returned (.tuple #[.slice A (optB s).length c, .int .i64 0]) ∧ OwnB w' w.heap.size A (optB s).length c (optB s) ∧ Below w.heap.size w w'

theorem options_any (s : Seg) (AO : Option Addr) (nO cO : Nat) (oss : List OptV) (AD : Option Addr) (nD cD : Nat) (w : World) (hn : nO ≤ 140737488355328) (hd : nD ≤ 140737488355328) (h : SegRd w s AO nO cO oss AD nD cD) :
    Calls Try.prog 61 #[.agg #[.int .u16 s.sp, .int .u16 s.dp, .int .u32 s.sq, .int .u32 s.ak, .int .u8 s.fl, .int .u16 s.wn, .int .u16 s.ug, .slice AO nO cO, .slice AD nD cD]] w (OptionsIs s w) := by
  obtain ⟨sp, dp, sq, ak, fl, wn, ug, os, d⟩ := s
  simp only
  have hba : Below w.heap.size w (w.alloc (.cells #[.int .u16 sp, .int .u16 dp, .int .u32 sq, .int .u32 ak, .int .u8 fl, .int .u16 wn, .int .u16 ug, .slice AO nO cO, .slice AD nD cD] 46)) := (Below.refl _ _).alloc (Nat.le_refl _) _
  have Hput := Lib.hid (put_any AO nO cO oss os _ hn (h.below hba).o (h.below hba).os)
  have hblk := heap_alloc_new w (.cells #[.int .u16 sp, .int .u16 dp, .int .u32 sq, .int .u32 ak, .int .u8 fl, .int .u16 wn, .int .u16 ug, .slice AO nO cO, .slice AD nD cD] 46)
  obtain ⟨z, hz⟩ : ∃ z, w.heap.size = z := ⟨_, rfl⟩
  rw [hz] at hblk
  have Hblk := Lib.hid hblk
  have Hba := Lib.hid hba
  have Hdl := Lib.hid h.d.len
  simp only at Hdl
  clear h hba hblk
  go_enter Try.func61, Try.ntmps61
  go_wp2_with fail
  refine Hput.out.mono ?_
  intro e w1 hp
  unfold PutO at hp
  by_cases hany : os.any badB = true
  · rw [if_pos hany] at hp
    obtain ⟨rfl, hb1⟩ := hp
    have Hb1 := Lib.hid (below_trans Hba.out hb1)
    have Hany := Lib.hid hany
    clear hany hb1
    go_wp2_with fail
    go_ret2
    unfold OptionsIs
    rw [if_pos Hany.out]
    exact ⟨rfl, Hb1.out⟩
  · rw [if_neg hany] at hp
    have Hany := Lib.hid hany
    by_cases hlong : 40 < (bytesO os).length
    · rw [if_pos hlong] at hp
      obtain ⟨rfl, hb1⟩ := hp
      have Hb1 := Lib.hid (below_trans Hba.out hb1)
      have Hlong := Lib.hid hlong
      clear hlong hb1 hany
      go_wp2_with fail
      go_ret2
      unfold OptionsIs
      rw [if_neg Hany.out, if_pos Hlong.out]
      exact ⟨rfl, Hb1.out⟩
    · rw [if_neg hlong] at hp
      have Hlong := Lib.hid hlong
      obtain ⟨Y, eY⟩ : ∃ Y, padTo4 (bytesO os) = Y := ⟨_, rfl⟩
      obtain ⟨YN, eYN⟩ : ∃ YN, Y.length = YN := ⟨_, rfl⟩
      have hpl := padTo4_len (bytesO os)
      rw [eY, eYN] at hpl
      rw [eY, eYN] at hp
      obtain ⟨A1, c1, rfl, ho1, hb1⟩ := hp
      have hYN : YN ≤ 40 ∧ YN % 4 = 0 := by omega
      have Hb1 := Lib.hid (below_trans Hba.out hb1)
      have hc8 := blk_cell (blk_on Hblk.out hb1) 8
      have Ho1 := Lib.hid ho1
      have EY := Lib.hid eY
      have EYN := Lib.hid eYN
      have hw1 : IntKind.i64.wrap (20 + (YN : Int)) = 20 + (YN : Int) := IntWalk.i64_in _ (by omega)
      have hw2 : IntKind.i64.wrap (20 + (YN : Int) + (nD : Int)) = 20 + (YN : Int) + (nD : Int) := IntWalk.i64_in _ (by omega)
      clear hb1 ho1 eY eYN hany hlong hpl
      by_cases hmost : 1480 < 20 + YN + nD
      · have hm : 1480 < 20 + (YN : Int) + (nD : Int) := by omega
        go_wp2_with fail
        go_ret2
        unfold OptionsIs
        rw [if_neg Hany.out, if_neg Hlong.out, if_pos (by unfold lenB optB; simp only [EY.out, EYN.out, Hdl.out]; omega)]
        exact ⟨rfl, Hb1.out⟩
      · have hm : 20 + (YN : Int) + (nD : Int) ≤ 1480 := by omega
        go_wp2_with fail
        go_ret2
        unfold OptionsIs
        rw [if_neg Hany.out, if_neg Hlong.out, if_neg (by unfold lenB optB; simp only [EY.out, EYN.out, Hdl.out]; omega)]
        refine ⟨A1, c1, ?_, ?_, Hb1.out⟩
        · unfold optB; simp only [EY.out, EYN.out]; rfl
        · unfold optB; simp only [EY.out, EYN.out]; exact Ho1.out.mono Hba.out.size

/-- Whether a segment may be. -/
def mayT (s : Seg) : Bool := !s.os.any badB && decide ((bytesO s.os).length ≤ 40) && decide (lenB s ≤ 1480)
/-- options, told by what may be: the error, or the options' bytes. -/
def errS (s : Seg) : Int := if s.os.any badB = true then 1 else if 40 < (bytesO s.os).length then 3 else if 1480 < lenB s then 3 else 0
theorem errS_zero (s : Seg) : errS s = 0 ↔ mayT s = true := by
  unfold errS mayT
  by_cases h1 : s.os.any badB = true
  · simp [h1]
  · by_cases h2 : 40 < (bytesO s.os).length
    · simp [h1, h2]; intro h; omega
    · have h2' : (bytesO s.os).length ≤ 40 := by omega
      have h1' : s.os.any badB = false := by simpa using h1
      by_cases h3 : 1480 < lenB s
      · simp [h1', h2, h2', h3]
      · have h3' : lenB s ≤ 1480 := by omega
        simp [h1', h2, h2', h3, h3']
theorem options_bad {s : Seg} {w w' : World} {e : Ending} (h : OptionsIs s w e w') (h0 : errS s ≠ 0) : e = .returned (.tuple #[.slice Option.none 0 0, .int .i64 (errS s)]) ∧ Below w.heap.size w w' := by
  unfold OptionsIs at h
  unfold errS at h0 ⊢
  by_cases h1 : s.os.any badB = true
  · rw [if_pos h1] at h ⊢; exact h
  · rw [if_neg h1] at h h0 ⊢
    by_cases h2 : 40 < (bytesO s.os).length
    · rw [if_pos h2] at h ⊢; exact h
    · rw [if_neg h2] at h h0 ⊢
      by_cases h3 : 1480 < lenB s
      · rw [if_pos h3] at h ⊢; exact h
      · rw [if_neg h3] at h0; exact absurd rfl h0
theorem options_good {s : Seg} {w w' : World} {e : Ending} (h : OptionsIs s w e w') (h0 : errS s = 0) : ∃ A c, e = .returned (.tuple #[.slice A (optB s).length c, .int .i64 0]) ∧ OwnB w' w.heap.size A (optB s).length c (optB s) ∧ Below w.heap.size w w' := by
  unfold OptionsIs at h
  unfold errS at h0
  by_cases h1 : s.os.any badB = true
  · rw [if_pos h1] at h0; omega
  · rw [if_neg h1] at h h0
    by_cases h2 : 40 < (bytesO s.os).length
    · rw [if_pos h2] at h0; omega
    · rw [if_neg h2] at h h0
      by_cases h3 : 1480 < lenB s
      · rw [if_pos h3] at h0; omega
      · rw [if_neg h3] at h; exact h

end Go.Proofs.Ytoegfgbalcholaa

/-
  The contracts of package ipv4's May, lay and Put.
-/
namespace Go.Proofs.Ytoegfgbalcholaa
set_option maxRecDepth 10000
open Go.RowKit

theorem wraps_u8 (n : Int) (h₀ : 0 ≤ n) (h₁ : n < 2 ^ 8) : IntKind.u8.wrap n = n := by simp [IntKind.wrap, IntKind.bits, IntKind.signed]; omega

theorem may_any (tos id_ ttl proto src dst : Int) (df : Bool) (A : Option Addr) (n c : Nat) (w : World) :
    Calls Try.prog 33 #[(.agg #[.int .u8 tos, .int .u16 id_, .bool df, .int .u8 ttl, .int .u8 proto, .int .u32 src, .int .u32 dst, .slice A n c])] w (BoolIs (mayB ttl n) w) := by
  have hb := (Below.refl w.heap.size w).alloc (Nat.le_refl _) (.cells #[.int .u8 tos, .int .u16 id_, .bool df, .int .u8 ttl, .int .u8 proto, .int .u32 src, .int .u32 dst, .slice A n c] 43)
  have Hb := Lib.hid hb
  clear hb
  have fin : ∀ x y, x = y → BoolIs y w (.returned (.bool x)) (w.alloc (.cells #[.int .u8 tos, .int .u16 id_, .bool df, .int .u8 ttl, .int .u8 proto, .int .u32 src, .int .u32 dst, .slice A n c] 43)) := fun x y e => ⟨by rw [e], Hb.out⟩
  have Fin := Lib.hid fin
  clear fin
  obtain ⟨r, er⟩ : ∃ r, mayB ttl n = r := ⟨_, rfl⟩
  rw [er]
  have Er := Lib.hid er
  clear er
  by_cases h1 : 0 < ttl
  · by_cases h2 : (n : Int) ≤ 40
    · by_cases h3 : (n : Int) % 4 = 0
      · have h4 : ((n : Int) % 4 == 0) = true := by simpa using h3
        go_enter Try.func33, Try.ntmps33
        go_wp2_with fail
        go_ret
        exact Fin.out _ _ (by rw [← Er.out]; unfold mayB; simp [h1]; omega)
      · have h4 : ((n : Int) % 4 == 0) = false := by simpa using h3
        go_enter Try.func33, Try.ntmps33
        go_wp2_with fail
        go_ret
        exact Fin.out _ _ (by rw [← Er.out]; unfold mayB; simp [h1]; omega)
    · have h2' : 40 < (n : Int) := by omega
      go_enter Try.func33, Try.ntmps33
      go_wp2_with fail
      go_ret
      exact Fin.out _ _ (by rw [← Er.out]; unfold mayB; simp [h1]; omega)
  · have h1' : ttl ≤ 0 := by omega
    go_enter Try.func33, Try.ntmps33
    go_wp2_with fail
    go_ret
    exact Fin.out _ _ (by rw [← Er.out]; unfold mayB; simp; omega)

/-- Two rows of the call's own. -/
def RowsAre (n1 : Nat) (l1 : List Int) (n2 : Nat) (l2 : List Int) (w : World) (e : Ending) (w' : World) : Prop :=
  ∃ A1 c1 A2 c2, e = .returned (.tuple #[.slice A1 n1 c1, .slice A2 n2 c2]) ∧ OwnB w' w.heap.size A1 n1 c1 l1 ∧ OwnB w' w.heap.size A2 n2 c2 l2 ∧ Below w.heap.size w w'

/-- A row, told by its list alone. -/
theorem u8_lays_ (A : Option Addr) (n m c : Nat) (l : List Int) (x : Int) (w : World) (hx : 0 ≤ x ∧ x < 256) (hc : n ≤ c ∧ c ≤ maxLen) (hm : m = n + 1) (hl : n ≤ 100000) (h : Rd w A n l) :
    Calls Try.prog 67 #[.slice A n c, .int .u8 x] w (RowIs m (l ++ [x]) w) := by subst hm; exact u8_lays A n c l x w hx hc (by omega) h
theorem u16_lays_ (A : Option Addr) (n m c : Nat) (l : List Int) (x : Int) (w : World) (hx : 0 ≤ x ∧ x < 65536) (hc : n ≤ c ∧ c ≤ maxLen) (hm : m = n + 2) (hl : n ≤ 100000) (h : Rd w A n l) :
    Calls Try.prog 37 #[.slice A n c, .int .u16 x] w (RowIs m (l ++ b16 x) w) := by subst hm; exact u16_lays A n c l x w hx hc (by omega) h
theorem u32_lays_ (A : Option Addr) (n m c : Nat) (l : List Int) (x : Int) (w : World) (hx : 0 ≤ x ∧ x < 4294967296) (hc : n ≤ c ∧ c ≤ maxLen) (hm : m = n + 4) (hl : n ≤ 100000) (h : Rd w A n l) :
    Calls Try.prog 65 #[.slice A n c, .int .u32 x] w (RowIs m (l ++ b32 x) w) := by subst hm; exact u32_lays A n c l x w hx hc (by omega) h

theorem or8_64 (x : Int) (h : 0 ≤ x ∧ x < 64) : bits .or .u8 64 x = 64 + x := by
  have := bits_join .u8 8 (by decide) wraps_u8 6 64 x (by omega) (by omega) (by omega) (by omega) (by omega) (by omega)
  exact this

theorem OwnB.rdB {w : World} {B : Nat} {A : Option Addr} {n c : Nat} {l : List Int} (h : OwnB w B A n c l) (hl : Bytes l) : Rd w A n l := h.rd hl

theorem concat_told (A : Option Addr) (n c m : Nat) (ls : List (List Int)) (w : World) (hn : n ≤ 1000000) (h : RdL w A n ls) (hm : ls.flatten.length = m) (hx : m ≤ 140737488355328) :
    Calls Try.prog 36 #[.slice A n c] w (RowIs m ls.flatten w) := by subst hm; exact concat_any A n c ls w hn h hx

theorem RdL.four (w : World) (t : TypeId) (A B C D : Option Addr) (n c n1 c1 n2 c2 n3 c3 : Nat) (l l1 l2 l3 : List Int) (hc : n ≤ c ∧ c ≤ maxLen) (hc1 : n1 ≤ c1 ∧ c1 ≤ maxLen) (hc2 : n2 ≤ c2 ∧ c2 ≤ maxLen) (hc3 : n3 ≤ c3 ∧ c3 ≤ maxLen) (h : Rd w A n l) (h1 : Rd w B n1 l1) (h2 : Rd w C n2 l2) (h3 : Rd w D n3 l3) :
    RdL (w.alloc (.cells #[.slice A n c, .slice B n1 c1, .slice C n2 c2, .slice D n3 c3] t)) (some ⟨w.heap.size, 0, none⟩) 4 [l, l1, l2, l3] := by
  have := h.len; have := h1.len; have := h2.len; have := h3.len
  subst n n1 n2 n3
  refine RdL.row w _ rfl t (0, 0) [.slice A l.length c, .slice B l1.length c1, .slice C l2.length c2, .slice D l3.length c3] [l, l1, l2, l3] (fun i hi => ?_)
  match i, hi with
  | 0, _ => exact ⟨A, c, rfl, hc.1, hc.2, h⟩
  | 1, _ => exact ⟨B, c1, rfl, hc1.1, hc1.2, h1⟩
  | 2, _ => exact ⟨C, c2, rfl, hc2.1, hc2.2, h2⟩
  | 3, _ => exact ⟨D, c3, rfl, hc3.1, hc3.2, h3⟩

theorem lay_ip (tos id_ ttl proto src dst : Int) (df : Bool) (A : Option Addr) (n c : Nat) (opts : List Int) (long : Int) (w : World)
    (h0 : 0 ≤ tos ∧ tos < 256) (h1 : 0 ≤ id_ ∧ id_ < 65536) (h2 : 0 ≤ ttl ∧ ttl < 256) (h3 : 0 ≤ proto ∧ proto < 256) (h4 : 0 ≤ src ∧ src < 4294967296) (h5 : 0 ≤ dst ∧ dst < 4294967296)
    (hn : n ≤ 40) (hc : n ≤ c ∧ c ≤ maxLen) (hl : 0 ≤ long ∧ long < 65536) (h : Rd w A n opts) :
    Calls Try.prog 34 #[(.agg #[.int .u8 tos, .int .u16 id_, .bool df, .int .u8 ttl, .int .u8 proto, .int .u32 src, .int .u32 dst, .slice A n c]), .int .i64 (20 + (n : Int)), .int .i64 long] w (RowsAre 10 (aheadL tos id_ df ttl proto n long) (8 + n) (behindL src dst opts) w) := by
  have hq0 : 0 ≤ (20 + (n : Int)) / 4 ∧ (20 + (n : Int)) / 4 < 64 := by omega
  have hqn : Hid (64 + (20 + (n : Int)) / 4 < 256) := by show _ < _; omega
  have hlo := wraps_u16 long hl.1 (by omega)
  have hho := wraps_u8 ((20 + (n : Int)) / 4) (by omega) (by omega)
  have hbhd := behindL_bytes h4 h5 h.byte
  have hA := aheadL_bytes (df := df) h0 h1 h2 h3 hn hl
  have HA := Lib.hid hA
  have Hbh := Lib.hid hbhd
  have hfl : 0 ≤ flagsOf df ∧ flagsOf df < 65536 := by unfold flagsOf; split <;> omega
  have Hal := Lib.hid (show aheadL tos id_ df ttl proto n long = [] ++ [64 + (20 + (n : Int)) / 4] ++ [tos] ++ b16 long ++ b16 id_ ++ b16 (flagsOf df) ++ [ttl] ++ [proto] by simp [aheadL])
  have Hbl := Lib.hid (show behindL src dst opts = ([[] ++ b32 src ++ b32 dst, opts] : List (List Int)).flatten by simp [behindL])
  have Hbn := Lib.hid (show ([[] ++ b32 src ++ b32 dst, opts] : List (List Int)).flatten.length = 8 + n by simp [b32, h.len]; omega)
  have B1 := Lib.hid (show Bytes ([] ++ [64 + (20 + (n : Int)) / 4]) by intro y hy; simp at hy; omega)
  have B2 := Lib.hid (B1.out.app (show Bytes [tos] by intro y hy; simp at hy; omega))
  have B3 := Lib.hid (B2.out.app (b16_bytes hl))
  have B4 := Lib.hid (B3.out.app (b16_bytes h1))
  have B5 := Lib.hid (B4.out.app (b16_bytes hfl))
  have B6 := Lib.hid (B5.out.app (show Bytes [ttl] by intro y hy; simp at hy; omega))
  have C1 := Lib.hid (show Bytes ([] ++ b32 src) by simpa using b32_bytes h4)
  have C2 := Lib.hid (C1.out.app (b32_bytes h5))
  have hhor := or8_64 ((20 + (n : Int)) / 4) hq0
  obtain ⟨q, eq⟩ : ∃ q, (20 + (n : Int)) / 4 = q := ⟨_, rfl⟩
  rw [eq] at hq0 hho hhor hqn Hal B1 B2 B3 B4 B5 B6
  have Hh := Lib.hid h
  have Hhb := Lib.hid h.byte
  clear hA hbhd h
  obtain ⟨hl0, hl1⟩ := id hl
  obtain ⟨q0, q1⟩ := hq0
  have hqn := hqn.out
  have hx1 : 0 ≤ 64 + q ∧ 64 + q < 256 := by omega
  have Hblk := Lib.hid (heap_alloc_new w (.cells #[.int .u8 tos, .int .u16 id_, .bool df, .int .u8 ttl, .int .u8 proto, .int .u32 src, .int .u32 dst, .slice A n c] 43))
  have Hb := Lib.hid ((Below.refl w.heap.size w).alloc (Nat.le_refl _) (.cells #[.int .u8 tos, .int .u16 id_, .bool df, .int .u8 ttl, .int .u8 proto, .int .u32 src, .int .u32 dst, .slice A n c] 43))
  obtain ⟨fl, efl⟩ : ∃ fl, flagsOf df = fl := ⟨_, rfl⟩
  rw [efl] at hfl Hal B5 B6
  have Efl := Lib.hid efl
  clear efl
  have hc_ := hc
  cases df
  · have hflv : fl = 0 := Efl.out.symm
    subst hflv
    clear Efl
    go_enter Try.func34, Try.ntmps34
    go_wp2_with fail
    clear eq hhor hho
    (with_reducible refine (u8_lays_ none 0 1 0 _ (64 + q) _ (by assumption) ⟨by omega, by first | assumption | simp [maxLen]⟩ rfl (by omega) (Rd.nil _ _)).mono ?_)
    rintro e w1 ⟨A1, c1, rfl, k1, m1, hown, hb⟩
    have Ho := Lib.hid (hown.mono (B' := w.heap.size) Hb.out.size)
    have Hb0 := Hb
    have Hb := Lib.hid (below_trans Hb.out hb)
    have Hblk := Lib.hid (blk_on Hblk.out hb)
    have hc := blk_cell Hblk.out 0
    simp at hc
    have hb1 := Lib.hid hb
    clear hown hb Hb0
    go_wp2_with fail
    (with_reducible refine (u8_lays_ A1 1 2 c1 _ tos _ (by assumption) ⟨by omega, by first | assumption | simp [maxLen]⟩ rfl (by omega) (Ho.out.rdB B1.out)).mono ?_)
    rintro e w2 ⟨A2, c2, rfl, k2, m2, hown, hb⟩
    have Ho := Lib.hid (hown.mono (B' := w.heap.size) Hb.out.size)
    have Hb0 := Hb
    have Hb := Lib.hid (below_trans Hb.out hb)
    have Hblk := Lib.hid (blk_on Hblk.out hb)
    have hc := blk_cell Hblk.out 1
    simp at hc
    have hb2 := Lib.hid hb
    clear hown hb Hb0
    go_wp2_with fail
    (with_reducible refine (u16_lays_ A2 2 4 c2 _ long _ (by assumption) ⟨by omega, by first | assumption | simp [maxLen]⟩ rfl (by omega) (Ho.out.rdB B2.out)).mono ?_)
    rintro e w3 ⟨A3, c3, rfl, k3, m3, hown, hb⟩
    have Ho := Lib.hid (hown.mono (B' := w.heap.size) Hb.out.size)
    have Hb0 := Hb
    have Hb := Lib.hid (below_trans Hb.out hb)
    have Hblk := Lib.hid (blk_on Hblk.out hb)
    have hc := blk_cell Hblk.out 1
    simp at hc
    have hb3 := Lib.hid hb
    clear hown hb Hb0
    go_wp2_with fail
    (with_reducible refine (u16_lays_ A3 4 6 c3 _ id_ _ (by assumption) ⟨by omega, by first | assumption | simp [maxLen]⟩ rfl (by omega) (Ho.out.rdB B3.out)).mono ?_)
    rintro e w4 ⟨A4, c4, rfl, k4, m4, hown, hb⟩
    have Ho := Lib.hid (hown.mono (B' := w.heap.size) Hb.out.size)
    have Hb0 := Hb
    have Hb := Lib.hid (below_trans Hb.out hb)
    have Hblk := Lib.hid (blk_on Hblk.out hb)
    have hc := blk_cell Hblk.out 3
    simp at hc
    have hb4 := Lib.hid hb
    clear hown hb Hb0
    go_wp2_with fail
    (with_reducible refine (u16_lays_ A4 6 8 c4 _ 0 _ (by assumption) ⟨by omega, by first | assumption | simp [maxLen]⟩ rfl (by omega) (Ho.out.rdB B4.out)).mono ?_)
    rintro e w5 ⟨A5, c5, rfl, k5, m5, hown, hb⟩
    have Ho := Lib.hid (hown.mono (B' := w.heap.size) Hb.out.size)
    have Hb0 := Hb
    have Hb := Lib.hid (below_trans Hb.out hb)
    have Hblk := Lib.hid (blk_on Hblk.out hb)
    have hc := blk_cell Hblk.out 3
    simp at hc
    have hb5 := Lib.hid hb
    clear hown hb Hb0
    go_wp2_with fail
    (with_reducible refine (u8_lays_ A5 8 9 c5 _ ttl _ (by assumption) ⟨by omega, by first | assumption | simp [maxLen]⟩ rfl (by omega) (Ho.out.rdB B5.out)).mono ?_)
    rintro e w6 ⟨A6, c6, rfl, k6, m6, hown, hb⟩
    have Ho := Lib.hid (hown.mono (B' := w.heap.size) Hb.out.size)
    have Hb0 := Hb
    have Hb := Lib.hid (below_trans Hb.out hb)
    have Hblk := Lib.hid (blk_on Hblk.out hb)
    have hc := blk_cell Hblk.out 4
    simp at hc
    have hb6 := Lib.hid hb
    clear hown hb Hb0
    go_wp2_with fail
    (with_reducible refine (u8_lays_ A6 9 10 c6 _ proto _ (by assumption) ⟨by omega, by first | assumption | simp [maxLen]⟩ rfl (by omega) (Ho.out.rdB B6.out)).mono ?_)
    rintro e w7 ⟨A7, c7, rfl, k7, m7, hown, hb⟩
    have Ho := Lib.hid (hown.mono (B' := w.heap.size) Hb.out.size)
    have Hb0 := Hb
    have Hb := Lib.hid (below_trans Hb.out hb)
    have Hblk := Lib.hid (blk_on Hblk.out hb)
    have hc := blk_cell Hblk.out 5
    simp at hc
    have hb7 := Lib.hid hb
    clear hown hb Hb0
    go_wp2_with fail
    have Ha := Ho
    (with_reducible refine (u32_lays_ none 0 4 0 _ src _ (by assumption) ⟨by omega, by first | assumption | simp [maxLen]⟩ rfl (by omega) (Rd.nil _ _)).mono ?_)
    rintro e w8 ⟨A8, c8, rfl, k8, m8, hown, hb⟩
    have Ho := Lib.hid (hown.mono (B' := w.heap.size) Hb.out.size)
    have Hb0 := Hb
    have Hb := Lib.hid (below_trans Hb.out hb)
    have Hblk := Lib.hid (blk_on Hblk.out hb)
    have hc := blk_cell Hblk.out 6
    simp at hc
    have hb8 := Lib.hid hb
    clear hown hb Hb0
    go_wp2_with fail
    have Ha := Lib.hid (Ha.out.on hb8.out)
    (with_reducible refine (u32_lays_ A8 4 8 c8 _ dst _ (by assumption) ⟨by omega, by first | assumption | simp [maxLen]⟩ rfl (by omega) (Ho.out.rdB C1.out)).mono ?_)
    rintro e w9 ⟨A9, c9, rfl, k9, m9, hown, hb⟩
    have Ho := Lib.hid (hown.mono (B' := w.heap.size) Hb.out.size)
    have Hb0 := Hb
    have Hb := Lib.hid (below_trans Hb.out hb)
    have Hblk := Lib.hid (blk_on Hblk.out hb)
    have hc := blk_cell Hblk.out 7
    simp at hc
    have hb9 := Lib.hid hb
    clear hown hb Hb0
    go_wp2_with fail
    have Ha := Lib.hid (Ha.out.on hb9.out)
    have Hoo := Lib.hid (Hh.out.below Hb.out)
    (with_reducible refine (concat_told _ 2 2 (8 + n) [[] ++ b32 src ++ b32 dst, opts] _ (by omega) (RdL.twoW _ _ A9 A 8 c9 n c _ _ ⟨by omega, by assumption⟩ hc_ (Ho.out.rdB C2.out) Hoo.out) Hbn.out (by omega)).mono ?_)
    rintro e w10 ⟨A10, c10, rfl, k10, m10, hown, hb⟩
    have hal := (Below.refl w9.heap.size w9).alloc (Nat.le_refl _) (.cells #[.slice A9 8 c9, .slice A n c] 22)
    have hbb := below_trans hal hb
    have Hr := Lib.hid (show RowsAre 10 (aheadL tos id_ false ttl proto n long) (8 + n) (behindL src dst opts) w (.returned (.tuple #[.slice A7 10 c7, .slice A10 (8 + n) c10])) w10 from
      ⟨A7, c7, A10, c10, rfl, by rw [Hal.out]; exact Ha.out.on hbb, by rw [Hbl.out]; exact hown.mono (by have := Hb.out.size; simp; omega), below_trans Hb.out hbb⟩)
    clear hown hb hal hbb
    go_wp2_with fail
    go_ret2
    exact Hr.out
  · have hflv : fl = 16384 := Efl.out.symm
    subst hflv
    clear Efl
    go_enter Try.func34, Try.ntmps34
    go_wp2_with fail
    clear eq hhor hho
    (with_reducible refine (u8_lays_ none 0 1 0 _ (64 + q) _ (by assumption) ⟨by omega, by first | assumption | simp [maxLen]⟩ rfl (by omega) (Rd.nil _ _)).mono ?_)
    rintro e w1 ⟨A1, c1, rfl, k1, m1, hown, hb⟩
    have Ho := Lib.hid (hown.mono (B' := w.heap.size) Hb.out.size)
    have Hb0 := Hb
    have Hb := Lib.hid (below_trans Hb.out hb)
    have Hblk := Lib.hid (blk_on Hblk.out hb)
    have hc := blk_cell Hblk.out 0
    simp at hc
    have hb1 := Lib.hid hb
    clear hown hb Hb0
    go_wp2_with fail
    (with_reducible refine (u8_lays_ A1 1 2 c1 _ tos _ (by assumption) ⟨by omega, by first | assumption | simp [maxLen]⟩ rfl (by omega) (Ho.out.rdB B1.out)).mono ?_)
    rintro e w2 ⟨A2, c2, rfl, k2, m2, hown, hb⟩
    have Ho := Lib.hid (hown.mono (B' := w.heap.size) Hb.out.size)
    have Hb0 := Hb
    have Hb := Lib.hid (below_trans Hb.out hb)
    have Hblk := Lib.hid (blk_on Hblk.out hb)
    have hc := blk_cell Hblk.out 1
    simp at hc
    have hb2 := Lib.hid hb
    clear hown hb Hb0
    go_wp2_with fail
    (with_reducible refine (u16_lays_ A2 2 4 c2 _ long _ (by assumption) ⟨by omega, by first | assumption | simp [maxLen]⟩ rfl (by omega) (Ho.out.rdB B2.out)).mono ?_)
    rintro e w3 ⟨A3, c3, rfl, k3, m3, hown, hb⟩
    have Ho := Lib.hid (hown.mono (B' := w.heap.size) Hb.out.size)
    have Hb0 := Hb
    have Hb := Lib.hid (below_trans Hb.out hb)
    have Hblk := Lib.hid (blk_on Hblk.out hb)
    have hc := blk_cell Hblk.out 1
    simp at hc
    have hb3 := Lib.hid hb
    clear hown hb Hb0
    go_wp2_with fail
    (with_reducible refine (u16_lays_ A3 4 6 c3 _ id_ _ (by assumption) ⟨by omega, by first | assumption | simp [maxLen]⟩ rfl (by omega) (Ho.out.rdB B3.out)).mono ?_)
    rintro e w4 ⟨A4, c4, rfl, k4, m4, hown, hb⟩
    have Ho := Lib.hid (hown.mono (B' := w.heap.size) Hb.out.size)
    have Hb0 := Hb
    have Hb := Lib.hid (below_trans Hb.out hb)
    have Hblk := Lib.hid (blk_on Hblk.out hb)
    have hc := blk_cell Hblk.out 3
    simp at hc
    have hb4 := Lib.hid hb
    clear hown hb Hb0
    go_wp2_with fail
    (with_reducible refine (u16_lays_ A4 6 8 c4 _ 16384 _ (by assumption) ⟨by omega, by first | assumption | simp [maxLen]⟩ rfl (by omega) (Ho.out.rdB B4.out)).mono ?_)
    rintro e w5 ⟨A5, c5, rfl, k5, m5, hown, hb⟩
    have Ho := Lib.hid (hown.mono (B' := w.heap.size) Hb.out.size)
    have Hb0 := Hb
    have Hb := Lib.hid (below_trans Hb.out hb)
    have Hblk := Lib.hid (blk_on Hblk.out hb)
    have hc := blk_cell Hblk.out 3
    simp at hc
    have hb5 := Lib.hid hb
    clear hown hb Hb0
    go_wp2_with fail
    (with_reducible refine (u8_lays_ A5 8 9 c5 _ ttl _ (by assumption) ⟨by omega, by first | assumption | simp [maxLen]⟩ rfl (by omega) (Ho.out.rdB B5.out)).mono ?_)
    rintro e w6 ⟨A6, c6, rfl, k6, m6, hown, hb⟩
    have Ho := Lib.hid (hown.mono (B' := w.heap.size) Hb.out.size)
    have Hb0 := Hb
    have Hb := Lib.hid (below_trans Hb.out hb)
    have Hblk := Lib.hid (blk_on Hblk.out hb)
    have hc := blk_cell Hblk.out 4
    simp at hc
    have hb6 := Lib.hid hb
    clear hown hb Hb0
    go_wp2_with fail
    (with_reducible refine (u8_lays_ A6 9 10 c6 _ proto _ (by assumption) ⟨by omega, by first | assumption | simp [maxLen]⟩ rfl (by omega) (Ho.out.rdB B6.out)).mono ?_)
    rintro e w7 ⟨A7, c7, rfl, k7, m7, hown, hb⟩
    have Ho := Lib.hid (hown.mono (B' := w.heap.size) Hb.out.size)
    have Hb0 := Hb
    have Hb := Lib.hid (below_trans Hb.out hb)
    have Hblk := Lib.hid (blk_on Hblk.out hb)
    have hc := blk_cell Hblk.out 5
    simp at hc
    have hb7 := Lib.hid hb
    clear hown hb Hb0
    go_wp2_with fail
    have Ha := Ho
    (with_reducible refine (u32_lays_ none 0 4 0 _ src _ (by assumption) ⟨by omega, by first | assumption | simp [maxLen]⟩ rfl (by omega) (Rd.nil _ _)).mono ?_)
    rintro e w8 ⟨A8, c8, rfl, k8, m8, hown, hb⟩
    have Ho := Lib.hid (hown.mono (B' := w.heap.size) Hb.out.size)
    have Hb0 := Hb
    have Hb := Lib.hid (below_trans Hb.out hb)
    have Hblk := Lib.hid (blk_on Hblk.out hb)
    have hc := blk_cell Hblk.out 6
    simp at hc
    have hb8 := Lib.hid hb
    clear hown hb Hb0
    go_wp2_with fail
    have Ha := Lib.hid (Ha.out.on hb8.out)
    (with_reducible refine (u32_lays_ A8 4 8 c8 _ dst _ (by assumption) ⟨by omega, by first | assumption | simp [maxLen]⟩ rfl (by omega) (Ho.out.rdB C1.out)).mono ?_)
    rintro e w9 ⟨A9, c9, rfl, k9, m9, hown, hb⟩
    have Ho := Lib.hid (hown.mono (B' := w.heap.size) Hb.out.size)
    have Hb0 := Hb
    have Hb := Lib.hid (below_trans Hb.out hb)
    have Hblk := Lib.hid (blk_on Hblk.out hb)
    have hc := blk_cell Hblk.out 7
    simp at hc
    have hb9 := Lib.hid hb
    clear hown hb Hb0
    go_wp2_with fail
    have Ha := Lib.hid (Ha.out.on hb9.out)
    have Hoo := Lib.hid (Hh.out.below Hb.out)
    (with_reducible refine (concat_told _ 2 2 (8 + n) [[] ++ b32 src ++ b32 dst, opts] _ (by omega) (RdL.twoW _ _ A9 A 8 c9 n c _ _ ⟨by omega, by assumption⟩ hc_ (Ho.out.rdB C2.out) Hoo.out) Hbn.out (by omega)).mono ?_)
    rintro e w10 ⟨A10, c10, rfl, k10, m10, hown, hb⟩
    have hal := (Below.refl w9.heap.size w9).alloc (Nat.le_refl _) (.cells #[.slice A9 8 c9, .slice A n c] 22)
    have hbb := below_trans hal hb
    have Hr := Lib.hid (show RowsAre 10 (aheadL tos id_ true ttl proto n long) (8 + n) (behindL src dst opts) w (.returned (.tuple #[.slice A7 10 c7, .slice A10 (8 + n) c10])) w10 from
      ⟨A7, c7, A10, c10, rfl, by rw [Hal.out]; exact Ha.out.on hbb, by rw [Hbl.out]; exact hown.mono (by have := Hb.out.size; simp; omega), below_trans Hb.out hbb⟩)
    clear hown hb hal hbb
    go_wp2_with fail
    go_ret2
    exact Hr.out

/-- A row of the call's own, and OK. -/
def RowOk (m : Nat) (l : List Int) (w : World) (e : Ending) (w' : World) : Prop :=
  ∃ A c, e = .returned (.tuple #[.slice A m c, .int .i64 0]) ∧ m ≤ c ∧ c ≤ maxLen ∧ OwnB w' w.heap.size A m c l ∧ Below w.heap.size w w'

theorem put_ok (tos id_ ttl proto src dst : Int) (df : Bool) (A A' : Option Addr) (n c n' c' : Nat) (opts payload : List Int) (w : World)
    (h0 : 0 ≤ tos ∧ tos < 256) (h1 : 0 ≤ id_ ∧ id_ < 65536) (h2 : 0 ≤ ttl ∧ ttl < 256) (h3 : 0 ≤ proto ∧ proto < 256) (h4 : 0 ≤ src ∧ src < 4294967296) (h5 : 0 ≤ dst ∧ dst < 4294967296)
    (hm : mayB ttl n = true) (hn : n ≤ 40) (hc : n ≤ c ∧ c ≤ maxLen) (hc' : n' ≤ c' ∧ c' ≤ maxLen) (hl : 20 + n + n' ≤ 1500) (h : Rd w A n opts) (h' : Rd w A' n' payload) :
    Calls Try.prog 15 #[(.agg #[.int .u8 tos, .int .u16 id_, .bool df, .int .u8 ttl, .int .u8 proto, .int .u32 src, .int .u32 dst, .slice A n c]), .slice A' n' c'] w (RowOk (20 + n + n') (packetL tos id_ df ttl proto src dst opts payload) w) := by
  have Hb := Lib.hid ((Below.refl w.heap.size w).alloc (Nat.le_refl _) (.cells #[.int .u8 tos, .int .u16 id_, .bool df, .int .u8 ttl, .int .u8 proto, .int .u32 src, .int .u32 dst, .slice A n c] 43))
  have Hblk := Lib.hid (heap_alloc_new w (.cells #[.int .u8 tos, .int .u16 id_, .bool df, .int .u8 ttl, .int .u8 proto, .int .u32 src, .int .u32 dst, .slice A n c] 43))
  have Hm := Lib.hid hm
  have hli : 20 + (n : Int) + (n' : Int) ≤ 1500 := by omega
  have hlw : 0 ≤ 20 + (n : Int) + (n' : Int) ∧ 20 + (n : Int) + (n' : Int) < 65536 := by omega
  have Ho := Lib.hid h
  have Hp := Lib.hid h'
  have Hlo := Lib.hid h.len
  have Hlp := Lib.hid h'.len
  have hA := Lib.hid (aheadL_bytes (df := df) h0 h1 h2 h3 hn hlw)
  have hB := Lib.hid (behindL_bytes h4 h5 h.byte)
  clear hm hl h h'
  go_enter Try.func15, Try.ntmps15
  go_wp2_with fail
  refine (may_any tos id_ ttl proto src dst df A n c _).mono ?_
  rw [Hm.out]
  rintro e w1 ⟨rfl, hb⟩
  have Hb := Lib.hid (below_trans Hb.out hb)
  have Hblk := Lib.hid (blk_on Hblk.out hb)
  have hc7 := blk_cell Hblk.out 7
  have hc0 := blk_cell Hblk.out 0
  have hc1 := blk_cell Hblk.out 1
  have hc2 := blk_cell Hblk.out 2
  have hc3 := blk_cell Hblk.out 3
  have hc4 := blk_cell Hblk.out 4
  have hc5 := blk_cell Hblk.out 5
  have hc6 := blk_cell Hblk.out 6
  simp at hc0 hc1 hc2 hc3 hc4 hc5 hc6 hc7
  have Ho := Lib.hid (Ho.out.below Hb.out)
  have Hp := Lib.hid (Hp.out.below Hb.out)
  clear hb
  go_wp2_with fail
  clear hc0 hc1 hc2 hc3 hc4 hc5 hc6 hc7
  (with_reducible refine (lay_ip tos id_ ttl proto src dst df A n c opts _ _ h0 h1 h2 h3 h4 h5 hn hc hlw Ho.out).mono ?_)
  rintro e w2 ⟨A1, c1, A2, c2, rfl, ho1, ho2, hb⟩
  have Ho1 := Lib.hid (ho1.mono Hb.out.size)
  have Ho2 := Lib.hid (ho2.mono Hb.out.size)
  have hk1 := ho1.cap
  have hk2 := ho2.cap
  have hm1 := ho1.capMax
  have hm2 := ho2.capMax
  have Hp := Lib.hid (Hp.out.below hb)
  have Hb := Lib.hid (below_trans Hb.out hb)
  clear ho1 ho2 hb
  go_wp2_with fail
  have Hal := Lib.hid ((Below.refl w2.heap.size w2).alloc (Nat.le_refl _) (.cells #[.slice A1 10 c1, .slice A2 (8 + n) c2] 22))
  obtain ⟨fd, efd⟩ : ∃ fd, 65535 - sumL ([aheadL tos id_ df ttl proto n (20 + (n : Int) + (n' : Int)), behindL src dst opts] : List (List Int)).flatten = fd := ⟨_, rfl⟩
  have hfd : 0 ≤ fd ∧ fd < 65536 := by have := sumL_bd ([aheadL tos id_ df ttl proto n (20 + (n : Int) + (n' : Int)), behindL src dst opts] : List (List Int)).flatten; omega
  have Efd := Lib.hid efd
  clear efd
  (with_reducible refine (field_told _ 2 2 [aheadL tos id_ df ttl proto n (20 + (n : Int) + (n' : Int)), behindL src dst opts] _ fd (by omega) (RdL.twoW _ _ A1 A2 10 c1 (8 + n) c2 _ _ ⟨hk1, hm1⟩ ⟨hk2, hm2⟩ (Ho1.out.rdB hA.out) (Ho2.out.rdB hB.out)) Efd.out).mono ?_)
  rintro e w3 ⟨rfl, hb⟩
  have hbb := below_trans Hal.out hb
  have Ho1 := Lib.hid (Ho1.out.on hbb)
  have Ho2 := Lib.hid (Ho2.out.on hbb)
  have Hp := Lib.hid (Hp.out.below hbb)
  have Hb := Lib.hid (below_trans Hb.out hbb)
  clear hb hbb Hal
  go_wp2_with fail
  (with_reducible refine (u16_lays_ none 0 2 0 [] fd _ hfd ⟨by omega, by simp [maxLen]⟩ rfl (by omega) (Rd.nil _ _)).mono ?_)
  rintro e w4 ⟨A4, c4, rfl, k4, m4, ho4, hb⟩
  have Ho4 := Lib.hid (ho4.mono Hb.out.size)
  have Ho1 := Lib.hid (Ho1.out.on hb)
  have Ho2 := Lib.hid (Ho2.out.on hb)
  have Hp := Lib.hid (Hp.out.below hb)
  have Hb := Lib.hid (below_trans Hb.out hb)
  have B4 := Lib.hid (show Bytes ([] ++ b16 fd) by simpa using b16_bytes hfd)
  clear hb ho4
  go_wp2_with fail
  have Hal := Lib.hid ((Below.refl w4.heap.size w4).alloc (Nat.le_refl _) (.cells #[.slice A1 10 c1, .slice A4 2 c4, .slice A2 (8 + n) c2, .slice A' n' c'] 22))
  (with_reducible refine (concat_told _ 4 4 (20 + n + n') [aheadL tos id_ df ttl proto n (20 + (n : Int) + (n' : Int)), [] ++ b16 fd, behindL src dst opts, payload] _ (by omega) (RdL.four _ _ A1 A4 A2 A' 10 c1 2 c4 (8 + n) c2 n' c' _ _ _ _ ⟨hk1, hm1⟩ ⟨k4, m4⟩ ⟨hk2, hm2⟩ hc' (Ho1.out.rdB hA.out) (Ho4.out.rdB B4.out) (Ho2.out.rdB hB.out) Hp.out) ?_ (by omega)).mono ?_)
  · have := Hlo.out; have := Hlp.out; simp [behindL_len, aheadL_len, b16]; omega
  rintro e w5 ⟨A5, c5, rfl, k5, m5, ho5, hb⟩
  have Hr := Lib.hid (show RowOk (20 + n + n') (packetL tos id_ df ttl proto src dst opts payload) w (.returned (.tuple #[.slice A5 (20 + n + n') c5, .int .i64 0])) w5 from by
    refine ⟨A5, c5, rfl, k5, m5, ?_, below_trans Hb.out (below_trans Hal.out hb)⟩
    have e1 : packetL tos id_ df ttl proto src dst opts payload = ([aheadL tos id_ df ttl proto n (20 + (n : Int) + (n' : Int)), [] ++ b16 fd, behindL src dst opts, payload] : List (List Int)).flatten := by
      unfold packetL fieldL
      rw [Hlo.out, Hlp.out, ← Efd.out]
      simp
    rw [e1]
    exact ho5.mono (by have := Hb.out.size; simp; omega))
  clear ho5 hb Hal
  go_wp2_with fail
  go_ret2
  exact Hr.out

end Go.Proofs.Ytoegfgbalcholaa

/-
  The contract of package tcp's Put: the error by which the segment may not be, or its bytes, as the document has them.
-/
namespace Go.Proofs.Ytoegfgbalcholaa
set_option maxRecDepth 10000
open Go.RowKit

theorem be16_b2 (x : Int) (h : 0 ≤ x ∧ x < 65536) : be16 x = b2 x := by unfold be16 b2; rw [show x / 256 % 256 = x / 256 by omega]
theorem be32_b4 (x : Int) (h : 0 ≤ x ∧ x < 4294967296) : be32 x = b4 x := by unfold be32 b4; rw [show x / 16777216 % 256 = x / 16777216 by omega]
theorem below_alloc {w w' : World} {o : Obj} (hb : Below (w.alloc o).heap.size (w.alloc o) w') : Below w.heap.size w w' := ((Below.refl _ _).alloc (Nat.le_refl _) _).trans (hb.mono (by simp))

theorem RdP.seven (w : World) (g : Nat) (hg : w.heap.size = g) (t : TypeId) (fr : Nat × Nat) (F1 F2 F3 F4 F5 F6 F7 : FuncId) (C1 C2 C3 C4 C5 C6 C7 : Array Value) (l1 l2 l3 l4 l5 l6 l7 : List Int)
    (h1 : PartDo F1 C1 w l1) (h2 : PartDo F2 C2 w l2) (h3 : PartDo F3 C3 w l3) (h4 : PartDo F4 C4 w l4) (h5 : PartDo F5 C5 w l5) (h6 : PartDo F6 C6 w l6) (h7 : PartDo F7 C7 w l7) :
    RdP (w.alloc (.cells #[.func (.func F1) #[] C1, .func (.func F2) #[] C2, .func (.func F3) #[] C3, .func (.func F4) #[] C4, .func (.func F5) #[] C5, .func (.func F6) #[] C6, .func (.func F7) #[] C7] t fr)) (some ⟨g, 0, none⟩) 7 [l1, l2, l3, l4, l5, l6, l7] := by
  refine RdP.row w g hg t fr [.func (.func F1) #[] C1, .func (.func F2) #[] C2, .func (.func F3) #[] C3, .func (.func F4) #[] C4, .func (.func F5) #[] C5, .func (.func F6) #[] C6, .func (.func F7) #[] C7] _ 7 rfl (fun i hi => ?_)
  match i, hi with
  | 0, _ => exact ⟨F1, C1, rfl, h1⟩
  | 1, _ => exact ⟨F2, C2, rfl, h2⟩
  | 2, _ => exact ⟨F3, C3, rfl, h3⟩
  | 3, _ => exact ⟨F4, C4, rfl, h4⟩
  | 4, _ => exact ⟨F5, C5, rfl, h5⟩
  | 5, _ => exact ⟨F6, C6, rfl, h6⟩
  | 6, _ => exact ⟨F7, C7, rfl, h7⟩
theorem RdP.three (w : World) (g : Nat) (hg : w.heap.size = g) (t : TypeId) (fr : Nat × Nat) (F1 F2 F3 : FuncId) (C1 C2 C3 : Array Value) (l1 l2 l3 : List Int)
    (h1 : PartDo F1 C1 w l1) (h2 : PartDo F2 C2 w l2) (h3 : PartDo F3 C3 w l3) :
    RdP (w.alloc (.cells #[.func (.func F1) #[] C1, .func (.func F2) #[] C2, .func (.func F3) #[] C3] t fr)) (some ⟨g, 0, none⟩) 3 [l1, l2, l3] := by
  refine RdP.row w g hg t fr [.func (.func F1) #[] C1, .func (.func F2) #[] C2, .func (.func F3) #[] C3] _ 3 rfl (fun i hi => ?_)
  match i, hi with
  | 0, _ => exact ⟨F1, C1, rfl, h1⟩
  | 1, _ => exact ⟨F2, C2, rfl, h2⟩
  | 2, _ => exact ⟨F3, C3, rfl, h3⟩

theorem RdL.threeW (w : World) (t : TypeId) (A B C : Option Addr) (n c n1 c1 n2 c2 : Nat) (l l1 l2 : List Int) (hc : n ≤ c ∧ c ≤ maxLen) (hc1 : n1 ≤ c1 ∧ c1 ≤ maxLen) (hc2 : n2 ≤ c2 ∧ c2 ≤ maxLen) (h : Rd w A n l) (h1 : Rd w B n1 l1) (h2 : Rd w C n2 l2) :
    RdL (w.alloc (.cells #[.slice A n c, .slice B n1 c1, .slice C n2 c2] t)) (some ⟨w.heap.size, 0, none⟩) 3 [l, l1, l2] := by
  have := h.len; have := h1.len; have := h2.len
  subst n n1 n2
  refine RdL.row w _ rfl t (0, 0) [.slice A l.length c, .slice B l1.length c1, .slice C l2.length c2] [l, l1, l2] (fun i hi => ?_)
  match i, hi with
  | 0, _ => exact ⟨A, c, rfl, hc.1, hc.2, h⟩
  | 1, _ => exact ⟨B, c1, rfl, hc1.1, hc1.2, h1⟩
  | 2, _ => exact ⟨C, c2, rfl, hc2.1, hc2.2, h2⟩
/-- What stands ahead of a segment's field. -/
def aheadT (s : Seg) (off : Int) : List Int := be16 s.sp ++ be16 s.dp ++ be32 s.sq ++ be32 s.ak ++ [off, s.fl] ++ be16 s.wn
theorem aheadT_bytes {s : Seg} {off : Int} (h : SegNum s) (ho : 0 ≤ off ∧ off < 256) : ∀ x ∈ aheadT s off, 0 ≤ x ∧ x < 256 := by
  obtain ⟨h1, h2, h3, h4, h5, h6, h7⟩ := h
  intro x hx
  simp [aheadT, be16, be32] at hx
  omega
theorem segHd_parts {s : Seg} (h : SegNum s) (off f : Int) : segHd s off f = aheadT s off ++ b2 f ++ be16 s.ug := by
  unfold segHd aheadT
  rw [be16_b2 _ h.sp, be16_b2 _ h.dp, be32_b4 _ h.sq, be32_b4 _ h.ak, be16_b2 _ h.wn, be16_b2 _ h.ug]
theorem sumL_nought (p a t : List Int) (hp : p.length % 2 = 0) (ha : a.length % 2 = 0) : sumL (p ++ (a ++ ([0, 0] ++ t))) = sumL (p ++ (a ++ t)) := by
  unfold sumL
  rw [ws_even p _ hp, ws_even a _ ha, ws_even p _ hp, ws_even a _ ha, ws_even [0, 0] t rfl]
  simp [ws]
theorem fieldS_of {s : Seg} (h : SegNum s) (src dst : Int) (n : Int) (hn : n = (lenB s : Int)) : fieldS src dst s = 65535 - sumL ([pseudoL src dst 6 n, aheadT s (offS s), be16 s.ug ++ (optB s ++ s.d)] : List (List Int)).flatten := by
  subst hn
  unfold fieldS
  rw [segHd_parts h]
  have e : aheadT s (offS s) ++ b2 0 ++ be16 s.ug ++ optB s ++ s.d = aheadT s (offS s) ++ ([0, 0] ++ (be16 s.ug ++ (optB s ++ s.d))) := by simp [b2]
  rw [e, sumL_nought _ _ _ (by simp [pseudoL]) (by simp [aheadT, be16, be32])]
  simp
theorem fieldS_bd (src dst : Int) (s : Seg) : 0 ≤ fieldS src dst s ∧ fieldS src dst s < 65536 := by
  unfold fieldS
  have := sumL_bd (pseudoL src dst 6 (lenB s) ++ (segHd s (offS s) 0 ++ optB s ++ s.d))
  omega
theorem segB_parts {s : Seg} (h : SegNum s) (src dst : Int) : segB src dst s = ([aheadT s (offS s), be16 (fieldS src dst s), be16 s.ug ++ (optB s ++ s.d)] : List (List Int)).flatten := by
  unfold segB
  rw [segHd_parts h, be16_b2 _ (fieldS_bd src dst s)]
  simp

def PutErrIs (x : Int) (w : World) (e : Ending) (w' : World) : Prop := e = .returned (.tuple #[.slice Option.none 0 0, .int .i64 x]) ∧ Below w.heap.size w w'
theorem put6_bad (src dst : Int) (s : Seg) (AO : Option Addr) (nO cO : Nat) (oss : List OptV) (AD : Option Addr) (nD cD : Nat) (w : World) (hn : nO ≤ 140737488355328) (hd : nD ≤ 140737488355328) (h : SegRd w s AO nO cO oss AD nD cD) (h0 : errS s ≠ 0) :
    Calls Try.prog 31 #[.int .u32 src, .int .u32 dst, .agg #[.int .u16 s.sp, .int .u16 s.dp, .int .u32 s.sq, .int .u32 s.ak, .int .u8 s.fl, .int .u16 s.wn, .int .u16 s.ug, .slice AO nO cO, .slice AD nD cD]] w (PutErrIs (errS s) w) := by
  have hba : Below w.heap.size w (w.alloc (.cells #[.int .u16 s.sp, .int .u16 s.dp, .int .u32 s.sq, .int .u32 s.ak, .int .u8 s.fl, .int .u16 s.wn, .int .u16 s.ug, .slice AO nO cO, .slice AD nD cD] 46)) := (Below.refl _ _).alloc (Nat.le_refl _) _
  have Ho := Lib.hid (options_any s AO nO cO oss AD nD cD _ hn hd (h.below hba))
  have Hba := Lib.hid hba
  clear h hba
  obtain ⟨x, ex⟩ : ∃ x, errS s = x := ⟨_, rfl⟩
  have Ex := Lib.hid ex
  have H0 := Lib.hid h0
  rw [ex] at h0 ⊢
  have hx : (x == 0) = false := by simpa using h0
  have hx2 : (x != 0) = true := by simpa using h0
  clear h0 ex
  obtain ⟨sp, dp, sq, ak, fl, wn, ug, os, d⟩ := s
  simp only at Ho Hba H0 Ex ⊢
  go_enter Try.func31, Try.ntmps31
  go_wp2_with fail
  refine Ho.out.mono ?_
  intro e w1 ho
  obtain ⟨rfl, hb1⟩ := options_bad ho H0.out
  rw [Ex.out]
  have Hb1 := Lib.hid (below_trans Hba.out hb1)
  clear ho hb1
  go_wp2_with fail
  go_ret2
  exact ⟨rfl, Hb1.out⟩

set_option maxHeartbeats 4000000 in
set_option maxRecDepth 100000 in
theorem put6_ok (src dst : Int) (s : Seg) (AO : Option Addr) (nO cO : Nat) (oss : List OptV) (AD : Option Addr) (nD cD : Nat) (w : World) (hn : nO ≤ 140737488355328) (hd : nD ≤ 140737488355328) (h : SegRd w s AO nO cO oss AD nD cD) (h0 : errS s = 0) :
    Calls Try.prog 31 #[.int .u32 src, .int .u32 dst, .agg #[.int .u16 s.sp, .int .u16 s.dp, .int .u32 s.sq, .int .u32 s.ak, .int .u8 s.fl, .int .u16 s.wn, .int .u16 s.ug, .slice AO nO cO, .slice AD nD cD]] w (RowOk (lenB s) (segB src dst s) w) := by
  have hba : Below w.heap.size w (w.alloc (.cells #[.int .u16 s.sp, .int .u16 s.dp, .int .u32 s.sq, .int .u32 s.ak, .int .u8 s.fl, .int .u16 s.wn, .int .u16 s.ug, .slice AO nO cO, .slice AD nD cD] 46)) := (Below.refl _ _).alloc (Nat.le_refl _) _
  have Ho := Lib.hid (options_any s AO nO cO oss AD nD cD _ hn hd (h.below hba))
  have Hba := Lib.hid hba
  have H0 := Lib.hid h0
  have Hnum := Lib.hid h.num
  have Hd := Lib.hid (h.below hba).d
  have Hdc := Lib.hid h.dc
  have hblk := heap_alloc_new w (.cells #[.int .u16 s.sp, .int .u16 s.dp, .int .u32 s.sq, .int .u32 s.ak, .int .u8 s.fl, .int .u16 s.wn, .int .u16 s.ug, .slice AO nO cO, .slice AD nD cD] 46)
  have hby := h.os.byte
  have hlen : 40 ≥ (bytesO s.os).length ∧ lenB s ≤ 1480 ∧ s.os.any badB = false := by
    have := (errS_zero s).1 h0
    unfold mayT at this
    simp at this
    exact ⟨by omega, by omega, by simpa using this.1.1⟩
  have hyb : ∀ x ∈ optB s, 0 ≤ x ∧ x < 256 := padTo4_bytes_ (bytesO_bytes hby (fun l hl => (badB_false (by rw [List.any_eq_false] at hlen; simpa using hlen.2.2 l hl)).2))
  have hyl := padTo4_len (bytesO s.os)
  obtain ⟨Y, eY⟩ : ∃ Y, optB s = Y := ⟨_, rfl⟩
  obtain ⟨YN, eYN⟩ : ∃ YN, Y.length = YN := ⟨_, rfl⟩
  have hY4 : YN ≤ 40 ∧ YN % 4 = 0 := by
    have : (optB s).length = YN := by rw [eY, eYN]
    unfold optB at this
    omega
  have hlB : 20 + YN + nD ≤ 1480 := by
    have := hlen.2.1
    unfold lenB at this
    rw [eY, eYN, h.d.len] at this
    exact this
  have EY := Lib.hid eY
  have EYN := Lib.hid eYN
  rw [eY] at hyb
  have Hyb := Lib.hid hyb
  obtain ⟨z, hz⟩ : ∃ z, w.heap.size = z := ⟨_, rfl⟩
  rw [hz] at hblk
  have Hblk := Lib.hid hblk
  obtain ⟨hY40, hYd⟩ := hY4
  have HYd := Lib.hid hYd
  have hw1 : IntKind.i64.wrap (20 + (YN : Int)) = 20 + (YN : Int) := IntWalk.i64_in _ (by omega)
  have hw2 : IntKind.i64.wrap (20 + (YN : Int) + (nD : Int)) = 20 + (YN : Int) + (nD : Int) := IntWalk.i64_in _ (by omega)
  obtain ⟨q, eq⟩ : ∃ q, (20 + (YN : Int)) / 4 = q := ⟨_, rfl⟩
  have hq : 0 ≤ q ∧ q ≤ 15 := by omega
  have Eq := Lib.hid eq
  have Hq := Lib.hid (show 0 ≤ q * 16 ∧ q * 16 < 256 by omega)
  have hq8 : IntKind.u8.wrap q = q := wraps_u8 q (by omega) (by omega)
  have hq16 : IntKind.u8.wrap (q * 16) = q * 16 := wraps_u8 _ (by omega) (by omega)
  obtain ⟨hq0, hq1⟩ := hq
  clear h hba h0 hblk hby hlen hyb hyl eY eYN hYd
  obtain ⟨sp, dp, sq, ak, fl, wn, ug, os, d⟩ := s
  simp only at Ho Hba H0 Hnum Hd Hblk EY ⊢
  go_enter Try.func31, Try.ntmps31
  go_wp2_with fail
  refine Ho.out.mono ?_
  intro e w1 ho
  obtain ⟨A1, c1, rfl, ho1, hb1⟩ := options_good ho H0.out
  rw [EY.out, EYN.out] at ho1
  rw [EY.out, EYN.out]
  have Hb1 := Lib.hid (below_trans Hba.out hb1)
  have Hk1 := Lib.hid (blk_on Hblk.out hb1)
  have Ho1 := Lib.hid (ho1.mono (B' := w.heap.size) (by simp))
  have Hd1 := Lib.hid (Hd.out.below hb1)
  clear ho ho1 hb1
  go_wp2_with fail
  refine wp_region_held_drew (S := fun w' => w'.cell? ⟨z, 0, none⟩ = some (.int .u16 sp) ∧ w'.cell? ⟨z, 1, none⟩ = some (.int .u16 dp) ∧ w'.cell? ⟨z, 2, none⟩ = some (.int .u32 sq) ∧ w'.cell? ⟨z, 3, none⟩ = some (.int .u32 ak) ∧ w'.cell? ⟨z, 4, none⟩ = some (.int .u8 fl) ∧ w'.cell? ⟨z, 5, none⟩ = some (.int .u16 wn) ∧ w'.cell? ⟨z, 6, none⟩ = some (.int .u16 ug) ∧ w'.cell? ⟨z, 7, none⟩ = some (.slice AO nO cO) ∧ w'.cell? ⟨z, 8, none⟩ = some (.slice AD nD cD)) (by kernel_rfl) (seg_cells Hk1.out) (fun hHeld => ?_)
  have hdr : Below w1.heap.size w1 w1.drew := Below.drew (Below.refl _ _)
  have Hk1 := Lib.hid (blk_on Hk1.out hdr)
  have Ho1 := Lib.hid (Ho1.out.on hdr)
  have Hd1 := Lib.hid (Hd1.out.below hdr)
  have Hb1 := Lib.hid (below_trans Hb1.out hdr)
  clear hdr
  obtain ⟨wd, ewd⟩ : ∃ wd, w1.drew = wd := ⟨_, rfl⟩
  rw [ewd] at Hk1 Ho1 Hd1 Hb1 hHeld ⊢
  clear ewd
  refine tk 0 ?_ rfl ?_ ?_
  rotate_left
  · intro w' hSw; (go_simp <;> (with_reducible rfl))
  try simp only [Act.put, putL]
  refine tk 1 ?_ rfl ?_ ?_
  rotate_left
  · intro w' hSw; (go_simp <;> (with_reducible rfl))
  try simp only [Act.put, putL]
  refine tk 3 ?_ rfl ?_ ?_
  rotate_left
  · intro w' hSw; (go_simp <;> (with_reducible rfl))
  try simp only [Act.put, putL]
  refine tk 4 ?_ rfl ?_ ?_
  rotate_left
  · intro w' hSw; (go_simp <;> (with_reducible rfl))
  try simp only [Act.put, putL]
  refine tk 6 ?_ rfl ?_ ?_
  rotate_left
  · intro w' hSw; (go_simp <;> (with_reducible rfl))
  try simp only [Act.put, putL]
  refine tk 7 ?_ rfl ?_ ?_
  rotate_left
  · intro w' hSw; (go_simp <;> (with_reducible rfl))
  try simp only [Act.put, putL]
  refine tk 9 ?_ rfl ?_ ?_
  rotate_left
  · intro w' hSw; (go_simp <;> (with_reducible rfl))
  try simp only [Act.put, putL]
  refine tk 10 ?_ rfl ?_ ?_
  rotate_left
  · intro w' hSw; (go_simp <;> (with_reducible rfl))
  try simp only [Act.put, putL]
  refine tk 12 ?_ rfl ?_ ?_
  rotate_left
  · intro w' hSw; (go_simp <;> (with_reducible rfl))
  try simp only [Act.put, putL]
  refine tk 13 ?_ rfl ?_ ?_
  rotate_left
  · intro w' hSw; (go_simp <;> (with_reducible rfl))
  try simp only [Act.put, putL]
  refine tk 15 ?_ rfl ?_ ?_
  rotate_left
  · intro w' hSw; (go_simp <;> (with_reducible rfl))
  try simp only [Act.put, putL]
  refine tk 16 ?_ rfl ?_ ?_
  rotate_left
  · intro w' hSw; (go_simp <;> (with_reducible rfl))
  try simp only [Act.put, putL]
  refine tk 18 ?_ rfl ?_ ?_
  rotate_left
  · intro w' hSw; (go_simp <;> (with_reducible rfl))
  try simp only [Act.put, putL]
  refine tk 19 ?_ rfl ?_ ?_
  rotate_left
  · intro w' hSw; (go_simp <;> (with_reducible rfl))
  try simp only [Act.put, putL]
  refine tkC 2 rfl (fun K hK => ?_)
  go_simp
  (go_at_call 63; refine (u16_part sp _ Hnum.out.sp).mono ?_; rintro e w2 ⟨F2, C2, rfl, hp2, hb2⟩; have Hp2 := Lib.hid hp2; have Hk2 := Lib.hid (blk_on Hk1.out hb2); have Hb2 := Lib.hid hb2; clear hp2 hb2)
  refine hK.out _ _ ?_ (fun hHeld => ?_)
  · exact seg_cells Hk2.out
  clear hK K
  try simp only [Act.put, putL]
  refine tkC 5 rfl (fun K hK => ?_)
  go_simp
  (go_at_call 63; refine (u16_part dp _ Hnum.out.dp).mono ?_; rintro e w3 ⟨F3, C3, rfl, hp3, hb3⟩; have Hp3 := Lib.hid hp3; have Hk3 := Lib.hid (blk_on Hk2.out hb3); have Hb3 := Lib.hid hb3; clear hp3 hb3)
  refine hK.out _ _ ?_ (fun hHeld => ?_)
  · exact seg_cells Hk3.out
  clear hK K
  try simp only [Act.put, putL]
  refine tkC 8 rfl (fun K hK => ?_)
  go_simp
  (go_at_call 64; refine (u32_part sq _ Hnum.out.sq).mono ?_; rintro e w4 ⟨F4, C4, rfl, hp4, hb4⟩; have Hp4 := Lib.hid hp4; have Hk4 := Lib.hid (blk_on Hk3.out hb4); have Hb4 := Lib.hid hb4; clear hp4 hb4)
  refine hK.out _ _ ?_ (fun hHeld => ?_)
  · exact seg_cells Hk4.out
  clear hK K
  try simp only [Act.put, putL]
  refine tkC 11 rfl (fun K hK => ?_)
  go_simp
  (go_at_call 64; refine (u32_part ak _ Hnum.out.ak).mono ?_; rintro e w5 ⟨F5, C5, rfl, hp5, hb5⟩; have Hp5 := Lib.hid hp5; have Hk5 := Lib.hid (blk_on Hk4.out hb5); have Hb5 := Lib.hid hb5; clear hp5 hb5)
  refine hK.out _ _ ?_ (fun hHeld => ?_)
  · exact seg_cells Hk5.out
  clear hK K
  try simp only [Act.put, putL]
  refine tkC 14 rfl (fun K hK => ?_)
  go_simp
  (go_at_call 66; refine (u8_part (q * 16) _ Hq.out).mono ?_; rintro e w6 ⟨F6, C6, rfl, hp6, hb6⟩; have Hp6 := Lib.hid hp6; have Hk6 := Lib.hid (blk_on Hk5.out hb6); have Hb6 := Lib.hid hb6; clear hp6 hb6)
  refine hK.out _ _ ?_ (fun hHeld => ?_)
  · exact seg_cells Hk6.out
  clear hK K
  try simp only [Act.put, putL]
  refine tkC 17 rfl (fun K hK => ?_)
  go_simp
  (go_at_call 66; refine (u8_part fl _ Hnum.out.fl).mono ?_; rintro e w7 ⟨F7, C7, rfl, hp7, hb7⟩; have Hp7 := Lib.hid hp7; have Hk7 := Lib.hid (blk_on Hk6.out hb7); have Hb7 := Lib.hid hb7; clear hp7 hb7)
  refine hK.out _ _ ?_ (fun hHeld => ?_)
  · exact seg_cells Hk7.out
  clear hK K
  try simp only [Act.put, putL]
  refine tkC 20 rfl (fun K hK => ?_)
  go_simp
  (go_at_call 63; refine (u16_part wn _ Hnum.out.wn).mono ?_; rintro e w8 ⟨F8, C8, rfl, hp8, hb8⟩; have Hp8 := Lib.hid hp8; have Hk8 := Lib.hid (blk_on Hk7.out hb8); have Hb8 := Lib.hid hb8; clear hp8 hb8)
  refine hK.out _ _ ?_ (fun hHeld => ?_)
  · exact seg_cells Hk8.out
  clear hK K
  try simp only [Act.put, putL]
  refine tkC 21 rfl (fun K hK => ?_)
  go_simp
  skip
  refine hK.out _ _ ?_ (fun hHeld => ?_)
  · exact seg_cells (blk_on Hk8.out ((Below.refl _ _).alloc (Nat.le_refl _) _))
  clear hK K
  try simp only [Act.put, putL]
  refine tkC 22 rfl (fun K hK => ?_)
  go_simp
  (go_at_call 62; refine (parts_any _ 7 7 16 [be16 sp, be16 dp, be32 sq, be32 ak, [q * 16], [fl], be16 wn] _ (by omega) (RdP.seven w8 _ rfl _ _ F2 F3 F4 F5 F6 F7 F8 C2 C3 C4 C5 C6 C7 C8 _ _ _ _ _ _ _ (Hp2.out.on (below_trans Hb3.out (below_trans Hb4.out (below_trans Hb5.out (below_trans Hb6.out (below_trans Hb7.out Hb8.out)))))) (Hp3.out.on (below_trans Hb4.out (below_trans Hb5.out (below_trans Hb6.out (below_trans Hb7.out Hb8.out))))) (Hp4.out.on (below_trans Hb5.out (below_trans Hb6.out (below_trans Hb7.out Hb8.out)))) (Hp5.out.on (below_trans Hb6.out (below_trans Hb7.out Hb8.out))) (Hp6.out.on (below_trans Hb7.out Hb8.out)) (Hp7.out.on Hb8.out) Hp8.out) rfl (by omega)).mono ?_; rintro e w9 ⟨A9, c9, rfl, k9, m9, ho9, hb9⟩; have Hbb9 := Lib.hid (below_alloc hb9); have Ho9 := Lib.hid ho9; have Hk9 := Lib.hid (blk_on Hk8.out Hbb9.out); clear hb9 ho9)
  refine hK.out _ _ ?_ (fun hHeld => ?_)
  · exact seg_cells Hk9.out
  clear hK K
  try simp only [Act.put, putL]
  refine tk 23 ?_ rfl ?_ ?_
  rotate_left
  · intro w' hSw; (go_simp <;> (with_reducible rfl))
  try simp only [Act.put, putL]
  refine wpAnyH_done (by kernel_rfl) ?_ _
  have Hl9 := Lib.hid (show ([be16 sp, be16 dp, be32 sq, be32 ak, [q * 16], [fl], be16 wn] : List (List Int)).flatten = aheadT ⟨sp, dp, sq, ak, fl, wn, ug, os, d⟩ (q * 16) by simp [aheadT])
  have Hah := Lib.hid (aheadT_bytes (off := q * 16) Hnum.out Hq.out)
  rw [Hl9.out] at Ho9
  have Hr9 := Lib.hid (Ho9.out.rd Hah.out)
  have Hc9 := Lib.hid (And.intro k9 m9)
  have Hbw := Lib.hid (below_trans Hb2.out (below_trans Hb3.out (below_trans Hb4.out (below_trans Hb5.out (below_trans Hb6.out (below_trans Hb7.out (below_trans Hb8.out Hbb9.out)))))))
  have Hr1 := Lib.hid ((Ho1.out.rd Hyb.out).below Hbw.out)
  have Hc1 := Lib.hid (And.intro Ho1.out.cap Ho1.out.capMax)
  have Hd9 := Lib.hid (Hd1.out.below Hbw.out)
  have Hb9 := Lib.hid (below_trans Hb1.out Hbw.out)
  clear Hp2 Hp3 Hp4 Hp5 Hp6 Hp7 Hp8 Hk1 Hk2 Hk3 Hk4 Hk5 Hk6 Hk7 Hk8 Hb2 Hb3 Hb4 Hb5 Hb6 Hb7 Hb8 Hbb9 Hl9 Ho9 Ho1 Hd1 Hb1 Hbw k9 m9 hHeld
  go_wp2_with fail
  have Hfl := Lib.hid (show ([be16 ug, Y, d] : List (List Int)).flatten.length = 2 + YN + nD by have := EYN.out; have := Hd9.out.len; simp [be16]; omega)
  refine wp_region_held_drew (S := fun w' => w'.cell? ⟨z, 0, none⟩ = some (.int .u16 sp) ∧ w'.cell? ⟨z, 1, none⟩ = some (.int .u16 dp) ∧ w'.cell? ⟨z, 2, none⟩ = some (.int .u32 sq) ∧ w'.cell? ⟨z, 3, none⟩ = some (.int .u32 ak) ∧ w'.cell? ⟨z, 4, none⟩ = some (.int .u8 fl) ∧ w'.cell? ⟨z, 5, none⟩ = some (.int .u16 wn) ∧ w'.cell? ⟨z, 6, none⟩ = some (.int .u16 ug) ∧ w'.cell? ⟨z, 7, none⟩ = some (.slice AO nO cO) ∧ w'.cell? ⟨z, 8, none⟩ = some (.slice AD nD cD)) (by kernel_rfl) (seg_cells Hk9.out) (fun hHeld => ?_)
  have hdr : Below w9.heap.size w9 w9.drew := Below.drew (Below.refl _ _)
  have HkD := Lib.hid (blk_on Hk9.out hdr)
  have Hr9 := Lib.hid (Hr9.out.below hdr)
  have Hr1 := Lib.hid (Hr1.out.below hdr)
  have Hd9 := Lib.hid (Hd9.out.below hdr)
  have Hb9 := Lib.hid (below_trans Hb9.out hdr)
  clear hdr
  obtain ⟨wd, ewd⟩ : ∃ wd, w9.drew = wd := ⟨_, rfl⟩
  rw [ewd] at HkD Hr9 Hr1 Hd9 Hb9 hHeld ⊢
  clear ewd
  refine tk 0 ?_ rfl ?_ ?_
  rotate_left
  · intro w' hSw; (go_simp <;> (with_reducible rfl))
  try simp only [Act.put, putL]
  refine tk 1 ?_ rfl ?_ ?_
  rotate_left
  · intro w' hSw; (go_simp <;> (with_reducible rfl))
  try simp only [Act.put, putL]
  refine tk 3 ?_ rfl ?_ ?_
  rotate_left
  · intro w' hSw; (go_simp <;> (with_reducible rfl))
  try simp only [Act.put, putL]
  refine tk 5 ?_ rfl ?_ ?_
  rotate_left
  · intro w' hSw; (go_simp <;> (with_reducible rfl))
  try simp only [Act.put, putL]
  refine tk 6 ?_ rfl ?_ ?_
  rotate_left
  · intro w' hSw; (go_simp <;> (with_reducible rfl))
  try simp only [Act.put, putL]
  refine tkC 2 rfl (fun K hK => ?_)
  go_simp
  (go_at_call 63; refine (u16_part ug _ Hnum.out.ug).mono ?_; rintro e w2 ⟨F2, C2, rfl, hp2, hb2⟩; have Hp2 := Lib.hid hp2; have Hk2 := Lib.hid (blk_on HkD.out hb2); have Hb2 := Lib.hid hb2; clear hp2 hb2)
  refine hK.out _ _ ?_ (fun hHeld => ?_)
  · exact seg_cells Hk2.out
  clear hK K
  try simp only [Act.put, putL]
  refine tkC 4 rfl (fun K hK => ?_)
  go_simp
  (go_at_call 68; refine (row_part A1 YN c1 Y _ (Hr1.out.below Hb2.out)).mono ?_; rintro e w3 ⟨F3, C3, rfl, hp3, hb3⟩; have Hp3 := Lib.hid hp3; have Hk3 := Lib.hid (blk_on Hk2.out hb3); have Hb3 := Lib.hid hb3; clear hp3 hb3)
  refine hK.out _ _ ?_ (fun hHeld => ?_)
  · exact seg_cells Hk3.out
  clear hK K
  try simp only [Act.put, putL]
  refine tkC 7 rfl (fun K hK => ?_)
  go_simp
  (go_at_call 68; refine (row_part AD nD cD d _ ((Hd9.out.below Hb2.out).below Hb3.out)).mono ?_; rintro e w4 ⟨F4, C4, rfl, hp4, hb4⟩; have Hp4 := Lib.hid hp4; have Hk4 := Lib.hid (blk_on Hk3.out hb4); have Hb4 := Lib.hid hb4; clear hp4 hb4)
  refine hK.out _ _ ?_ (fun hHeld => ?_)
  · exact seg_cells Hk4.out
  clear hK K
  try simp only [Act.put, putL]
  refine tkC 8 rfl (fun K hK => ?_)
  go_simp
  skip
  refine hK.out _ _ ?_ (fun hHeld => ?_)
  · exact seg_cells (blk_on Hk4.out ((Below.refl _ _).alloc (Nat.le_refl _) _))
  clear hK K
  try simp only [Act.put, putL]
  refine tkC 9 rfl (fun K hK => ?_)
  go_simp
  (go_at_call 62; refine (parts_any _ 3 3 (2 + YN + nD) [be16 ug, Y, d] _ (by omega) (RdP.three w4 _ rfl _ _ F2 F3 F4 C2 C3 C4 _ _ _ (Hp2.out.on (below_trans Hb3.out Hb4.out)) (Hp3.out.on Hb4.out) Hp4.out) Hfl.out (by omega)).mono ?_; rintro e w5 ⟨A5, c5, rfl, k5, m5, ho5, hb5⟩; have Hbb5 := Lib.hid (below_alloc hb5); have Ho5 := Lib.hid ho5; have Hk5 := Lib.hid (blk_on Hk4.out Hbb5.out); clear hb5 ho5)
  refine hK.out _ _ ?_ (fun hHeld => ?_)
  · exact seg_cells Hk5.out
  clear hK K
  try simp only [Act.put, putL]
  refine tk 10 ?_ rfl ?_ ?_
  rotate_left
  · intro w' hSw; (go_simp <;> (with_reducible rfl))
  try simp only [Act.put, putL]
  refine wpAnyH_done (by kernel_rfl) ?_ _
  have Hby5 := Lib.hid (show ∀ x ∈ be16 ug ++ (Y ++ d), 0 ≤ x ∧ x < 256 by
    intro x hx
    rcases List.mem_append.1 hx with h1 | h1
    · have := Hnum.out.ug; simp [be16] at h1; simp only at this; omega
    · rcases List.mem_append.1 h1 with h2 | h2
      · exact Hyb.out x h2
      · exact Hd9.out.byte x h2)
  have e5 : ([be16 ug, Y, d] : List (List Int)).flatten = be16 ug ++ (Y ++ d) := by simp
  rw [e5] at Ho5 Hfl
  have Hr5 := Lib.hid (Ho5.out.rd Hby5.out)
  have Hc5 := Lib.hid (And.intro k5 m5)
  have Hbw := Lib.hid (below_trans Hb2.out (below_trans Hb3.out (below_trans Hb4.out Hbb5.out)))
  have Hr9 := Lib.hid (Hr9.out.below Hbw.out)
  have Hb5 := Lib.hid (below_trans Hb9.out Hbw.out)
  have hc8 := blk_cell Hk5.out 8
  clear e5 Hp2 Hp3 Hp4 HkD Hk2 Hk3 Hk4 Hb2 Hb3 Hb4 Hbb5 Ho5 Hr1 Hbw k5 m5 hHeld
  go_wp2_with fail
  refine (pseudo_any src dst 6 (20 + (YN : Int) + (nD : Int)) _ (by omega)).mono ?_
  rintro e w6 ⟨A6, c6, rfl, k6, m6, ho6, hb6⟩
  have Hr6 := Lib.hid (ho6.rd (pseudo_byte _ _ _ _ (by omega)))
  have Hr9 := Lib.hid (Hr9.out.below hb6)
  have Hr5 := Lib.hid (Hr5.out.below hb6)
  have Hb6 := Lib.hid (below_trans Hb5.out hb6)
  have Hc6 := Lib.hid (And.intro k6 m6)
  clear ho6 hb6 k6 m6 hc8
  go_wp2_with fail
  have Eoff := Lib.hid (show offS ⟨sp, dp, sq, ak, fl, wn, ug, os, d⟩ = q * 16 by unfold offS; rw [EY.out, EYN.out, Eq.out])
  have EL := Lib.hid (show lenB ⟨sp, dp, sq, ak, fl, wn, ug, os, d⟩ = 20 + YN + nD by unfold lenB; rw [EY.out, EYN.out]; have := Hd9.out.len; simp only; omega)
  have Hfd := Lib.hid (fieldS_of Hnum.out src dst (20 + (YN : Int) + (nD : Int)) (by rw [EL.out]; omega))
  have Hfb := Lib.hid (fieldS_bd src dst ⟨sp, dp, sq, ak, fl, wn, ug, os, d⟩)
  have Hsb := Lib.hid (segB_parts Hnum.out src dst)
  rw [Eoff.out, EY.out] at Hfd Hsb
  obtain ⟨fd, efd⟩ : ∃ fd, fieldS src dst ⟨sp, dp, sq, ak, fl, wn, ug, os, d⟩ = fd := ⟨_, rfl⟩
  rw [efd] at Hfd Hfb Hsb
  obtain ⟨LA, eLA⟩ : ∃ LA, aheadT ⟨sp, dp, sq, ak, fl, wn, ug, os, d⟩ (q * 16) = LA := ⟨_, rfl⟩
  rw [eLA] at Hfd Hsb Hr9
  obtain ⟨LB, eLB⟩ : ∃ LB, be16 ug ++ (Y ++ d) = LB := ⟨_, rfl⟩
  simp only [eLB] at Hfd Hsb Hr5 Hfl
  clear efd eLA eLB
  refine (field_told _ 3 3 [pseudoL src dst 6 (20 + (YN : Int) + (nD : Int)), LA, LB] _ fd (by omega) (RdL.threeW w6 _ A6 A9 A5 12 c6 16 c9 (2 + YN + nD) c5 _ _ _ Hc6.out Hc9.out Hc5.out Hr6.out Hr9.out Hr5.out) Hfd.out.symm).mono ?_
  rintro e w7 ⟨rfl, hb7⟩
  have hb7' := below_alloc hb7
  have Hr9 := Lib.hid (Hr9.out.below hb7')
  have Hr5 := Lib.hid (Hr5.out.below hb7')
  have Hb7 := Lib.hid (below_trans Hb6.out hb7')
  clear hb7 hb7' Hr6
  go_wp2_with fail
  refine (row_part A9 16 c9 LA _ Hr9.out).mono ?_
  rintro e w8 ⟨F1, C1, rfl, hp1, hb8⟩
  have Hp1 := Lib.hid hp1
  have Hr5 := Lib.hid (Hr5.out.below hb8)
  have Hb8 := Lib.hid (below_trans Hb7.out hb8)
  clear hp1 hb8
  go_wp2_with fail
  refine (u16_part fd _ Hfb.out).mono ?_
  rintro e w9 ⟨F2, C2, rfl, hp2, hb9⟩
  have Hp2 := Lib.hid hp2
  have Hp1 := Lib.hid (Hp1.out.on hb9)
  have Hr5 := Lib.hid (Hr5.out.below hb9)
  have Hb9 := Lib.hid (below_trans Hb8.out hb9)
  clear hp2 hb9
  go_wp2_with fail
  refine (row_part A5 (2 + YN + nD) c5 LB _ Hr5.out).mono ?_
  rintro e w10 ⟨F3, C3, rfl, hp3, hb10⟩
  have Hp3 := Lib.hid hp3
  have Hp1 := Lib.hid (Hp1.out.on hb10)
  have Hp2 := Lib.hid (Hp2.out.on hb10)
  have Hb10 := Lib.hid (below_trans Hb9.out hb10)
  have HlA := Lib.hid Hr9.out.len
  clear hp3 hb10
  go_wp2_with fail
  refine (parts_any _ 3 3 (20 + YN + nD) [LA, be16 fd, LB] _ (by omega) (RdP.three w10 _ rfl _ _ F1 F2 F3 C1 C2 C3 _ _ _ Hp1.out Hp2.out Hp3.out) (by have := HlA.out; have := Hfl.out; simp [be16]; omega) (by omega)).mono ?_
  rintro e w11 ⟨A11, c11, rfl, k11, m11, ho11, hb11⟩
  have Hbz := Lib.hid (below_trans Hb10.out (below_alloc hb11))
  have Ho11 := Lib.hid (ho11.mono (B' := w.heap.size) (by have := Hb10.out.size; simp; omega))
  rw [← Hsb.out] at Ho11
  clear ho11 hb11
  go_wp2_with fail
  go_ret2
  rw [EL.out]
  exact ⟨A11, c11, rfl, k11, m11, Ho11.out, Hbz.out⟩

/-- Put tells what the document's own Put tells. -/
theorem put6_any (src dst : Int) (s : Seg) (AO : Option Addr) (nO cO : Nat) (oss : List OptV) (AD : Option Addr) (nD cD : Nat) (w : World) (hn : nO ≤ 140737488355328) (hd : nD ≤ 140737488355328) (h : SegRd w s AO nO cO oss AD nD cD) :
    Calls Try.prog 31 #[.int .u32 src, .int .u32 dst, .agg #[.int .u16 s.sp, .int .u16 s.dp, .int .u32 s.sq, .int .u32 s.ak, .int .u8 s.fl, .int .u16 s.wn, .int .u16 s.ug, .slice AO nO cO, .slice AD nD cD]] w (fun e w' => if errS s = 0 then RowOk (lenB s) (segB src dst s) w e w' else PutErrIs (errS s) w e w') := by
  by_cases h0 : errS s = 0
  · refine (put6_ok src dst s AO nO cO oss AD nD cD w hn hd h h0).mono fun e w' hh => ?_
    rw [if_pos h0]; exact hh
  · refine (put6_bad src dst s AO nO cO oss AD nD cD w hn hd h h0).mono fun e w' hh => ?_
    rw [if_neg h0]; exact hh
end Go.Proofs.Ytoegfgbalcholaa
