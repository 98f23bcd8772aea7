/-
  Texts laid together: OptSame, TcpAsk, IpPut.
-/
import Derived.Test.YtoegfgbalcholaaGreatZT14
import Derived.Laws.BytesArg
import Derived.Laws.IdiomStrings
import Derived.Lib.SlBytesConst
import Derived.Test.YtoegfgbalcholaaGreatZT11
import Derived.Test.YtoegfgbalcholaaGreatZT01
import Derived.Test.YtoegfgbalcholaaGreatZT07
import Derived.Test.YtoegfgbalcholaaGreatZT04
import Derived.Test.YtoegfgbalcholaaGreatZT06

/-
  The contracts of package opts' Same and Without, and of bytes.Equal.
-/
namespace Go.Proofs.YtoegfgbalcholaaGreat
set_option maxRecDepth 10000
open Go.RowKit

theorem equal_any (A A' : Option Addr) (n n' c c' : Nat) (l l' : List Int) (w : World) (h : Rd w A n l) (h' : Rd w A' n' l') :
    Calls Tryz.prog 77 #[.slice A n c, .slice A' n' c'] w fun e w' => e = .returned (.bool (decide (l = l'))) ∧ w = w' := by
  have h1 := conv_rd h c
  have h2 := conv_rd h' c'
  have Hd := Lib.hid (strs_eq_ l l' h.byte h'.byte)
  clear h h'
  go_enter Tryz.func77, Tryz.ntmps77
  go_wp2
  go_ret
  exact ⟨ret_bool (Hd.out), rfl⟩

theorem same1_any (k1 k2 : Int) (A1 A2 : Option Addr) (n1 c1 n2 c2 : Nat) (d1 d2 : List Int) (w : World) (h1 : Rd w A1 n1 d1) (h2 : Rd w A2 n2 d2) :
    Calls Tryz.prog 115 #[.agg #[.int .u8 k1, .slice A1 n1 c1], .agg #[.int .u8 k2, .slice A2 n2 c2]] w (OptBool (decide ((k1, d1) = (k2, d2))) w) := by
  have hb := ((Below.refl w.heap.size w).alloc (Nat.le_refl _) (.cells #[.int .u8 k1, .slice A1 n1 c1] 176)).alloc (by simp) (.cells #[.int .u8 k2, .slice A2 n2 c2] 176)
  have He := Lib.hid (equal_any A1 A2 n1 n2 c1 c2 d1 d2 _ (h1.below hb) (h2.below hb))
  have Hb := Lib.hid hb
  clear h1 h2 hb
  by_cases hk : k1 = k2
  · subst hk
    go_enter Tryz.func115, Tryz.ntmps115
    go_wp2_with fail
    refine He.out.mono ?_
    rintro e w' ⟨rfl, rfl⟩
    go_wp2_with fail
    go_ret
    exact ⟨by simp, Hb.out⟩
  · have hk2 : (k1 == k2) = false := by simpa using hk
    have Hx := Lib.hid (show decide ((k1, d1) = (k2, d2)) = false by simp [hk])
    clear hk
    go_enter Tryz.func115, Tryz.ntmps115
    go_wp2_with fail
    go_ret
    exact ⟨by rw [Hx.out]; rfl, Hb.out⟩

theorem equalf_any (A A' : Option Addr) (n c n' c' : Nat) (os os' : List OptV) (ls ls' : List (Int × List Int)) (w : World) (hn : n ≤ 140737488355328) (hr : RdO w A n os) (hs : Reads w os ls) (hr' : RdO w A' n' os') (hs' : Reads w os' ls') :
    Calls Tryz.prog 114 #[.slice A n c, .slice A' n' c', .func (.func 115) #[] #[]] w (OptBool (decide (ls = ls')) w) := by
  have hl : ls.length = n := by rw [← hs.len, hr.len]
  have hl' : ls'.length = n' := by rw [← hs'.len, hr'.len]
  by_cases hnn : n = n'
  · subst hnn
    have Hl := Lib.hid hl
    have Hl' := Lib.hid hl'
    have Hr := Lib.hid hr
    have Hr' := Lib.hid hr'
    have Hs := Lib.hid hs
    have Hs' := Lib.hid hs'
    clear hl hl' hr hr' hs hs'
    go_enter Tryz.func114, Tryz.ntmps114
    go_wp2_with fail
    go_loopg [17] n (fun gk i wr => ∃ j : Nat, Hid (gk + j = n) ∧ j ≤ n ∧ i = .int .i64 (j : Int) ∧ Hid (ls.take j = ls'.take j) ∧ Below w.heap.size w wr)
    case atStart => exact ⟨0, rfl, Nat.zero_le _, rfl, rfl, Below.refl _ _⟩
    case round =>
      obtain ⟨j, hgk, hj, rfl, heq, hb⟩ := hrel
      by_cases hjn : j < n
      · obtain ⟨b1, p1, hrun1, hb1, hk1, hd1⟩ := (Hr.out.below hb).index (c := c) hjn
        obtain ⟨b2, p2, hrun2, hb2, hk2, hd2⟩ := (Hr'.out.below hb).index (c := c') hjn
        have o1 := (Hs.out.below hb).get j (by rw [Hr.out.len]; exact hjn)
        have o2 := (Hs'.out.below hb).get j (by rw [Hr'.out.len]; exact hjn)
        obtain ⟨v1, ev1⟩ : ∃ v, os.getD j .none = v := ⟨_, rfl⟩
        obtain ⟨v2, ev2⟩ : ∃ v, os'.getD j .none = v := ⟨_, rfl⟩
        obtain ⟨l1, el1⟩ : ∃ v, ls.getD j (0, []) = v := ⟨_, rfl⟩
        obtain ⟨l2, el2⟩ : ∃ v, ls'.getD j (0, []) = v := ⟨_, rfl⟩
        rw [ev1] at hk1 hd1 o1
        rw [ev2] at hk2 hd2 o2
        rw [el1] at o1
        rw [el2] at o2
        obtain ⟨kd1, A1, n1, c1⟩ := v1
        obtain ⟨kd2, A2, n2, c2⟩ := v2
        obtain ⟨t1, d1⟩ := l1
        obtain ⟨t2, d2⟩ := l2
        obtain ⟨rfl, -, -, -, r1⟩ := o1
        obtain ⟨rfl, -, -, -, r2⟩ := o2
        simp only at hk1 hd1 hk2 hd2 r1 r2
        have El1 := Lib.hid el1
        have El2 := Lib.hid el2
        have hbx : Below wr.heap.size wr ((wr.alloc (.cells #[.int .u8 kd1, .slice A1 n1 c1] 176)).alloc (.cells #[.int .u8 kd2, .slice A2 n2 c2] 176)) := ((Below.refl _ _).alloc (Nat.le_refl _) _).alloc (by simp) _
        have Hsm := Lib.hid (same1_any kd1 kd2 A1 A2 n1 c1 n2 c2 d1 d2 _ (r1.below hbx) (r2.below hbx))
        have Hbx := Lib.hid (hb.trans (hbx.mono hb.size))
        have hk2' := (((Below.refl wr.heap.size wr).alloc (Nat.le_refl _) (.cells #[.int .u8 kd1, .slice A1 n1 c1] 176)).cell (p := ⟨b2, p2, none⟩) hb2).trans hk2
        have hd2' := (((Below.refl wr.heap.size wr).alloc (Nat.le_refl _) (.cells #[.int .u8 kd1, .slice A1 n1 c1] 176)).cell (p := ⟨b2, p2 + 1, none⟩) hb2).trans hd2
        clear ev1 ev2 el1 el2 r1 r2 hbx hk2 hd2
        go_wp2_with fail
        refine Hsm.out.mono ?_
        rintro e w2 ⟨rfl, hb3⟩
        have Hb3 := Lib.hid (Hbx.out.trans (hb3.mono Hbx.out.size))
        clear hb3
        by_cases hee : (kd1, d1) = (kd2, d2)
        · have Heq := Lib.hid (show ls.take (j + 1) = ls'.take (j + 1) by rw [take_snoc_ ls j (0, []) (by rw [Hl.out]; exact hjn), take_snoc_ ls' j (0, []) (by rw [Hl'.out]; exact hjn), heq.out, El1.out, El2.out, hee])
          rw [decide_eq_true hee]
          clear hee
          go_wp2_with fail
          go_roundg (gk - 1)
          case measure => have := hgk.out; omega
          case rel => exact ⟨j + 1, by have := hgk.out; show gk - 1 + (j + 1) = _; omega, by omega, by go_num, Heq, Hb3.out⟩
        · have Hfin := Lib.hid (show decide (ls = ls') = false by
            have : ls ≠ ls' := getD_ne (j := j) (d := (0, [])) (by rw [El1.out, El2.out]; exact hee)
            simpa using this)
          rw [decide_eq_false hee]
          clear hee
          go_wp2_with fail
          go_ret
          exact ⟨by rw [Hfin.out]; rfl, Hb3.out⟩
      · obtain rfl : n = j := by omega
        have Hfin := Lib.hid (show decide (ls = ls') = true by
          have h := heq.out
          rw [List.take_of_length_le (by rw [Hl.out]; omega), List.take_of_length_le (by rw [Hl'.out]; omega)] at h
          simpa using h)
        go_wp2_with fail
        go_ret
        exact ⟨by rw [Hfin.out]; rfl, hb⟩
  · have Hfin := Lib.hid (show decide (ls = ls') = false by
      have : ls ≠ ls' := fun e => hnn (by rw [← hl, ← hl', e])
      simpa using this)
    have h1 : ((n : Int) == (n' : Int)) = false := by simp; omega
    have h2 : ((n : Int) != (n' : Int)) = true := by simp; omega
    clear hr hs hr' hs' hl hl' hnn
    go_enter Tryz.func114, Tryz.ntmps114
    go_wp2_with fail
    go_ret
    exact ⟨by rw [Hfin.out]; rfl, Below.refl _ _⟩

theorem same_any (A A' : Option Addr) (n c n' c' : Nat) (os os' : List OptV) (ls ls' : List (Int × List Int)) (w : World) (hn : n ≤ 140737488355328) (hr : RdO w A n os) (hs : Reads w os ls) (hr' : RdO w A' n' os') (hs' : Reads w os' ls') :
    Calls Tryz.prog 78 #[.slice A n c, .slice A' n' c'] w (OptBool (decide (ls = ls')) w) := by
  have He := Lib.hid (equalf_any A A' n c n' c' os os' ls ls' w hn hr hs hr' hs')
  clear hr hs hr' hs'
  go_enter Tryz.func78, Tryz.ntmps78
  go_wp2_with fail
  refine He.out.mono ?_
  rintro e w2 ⟨rfl, hb⟩
  have Hb := Lib.hid hb
  clear hb
  go_wp2_with fail
  go_ret
  exact ⟨rfl, Hb.out⟩

end Go.Proofs.YtoegfgbalcholaaGreat

/-
  The contracts of package tcp's options, May, Length, Same.
-/
namespace Go.Proofs.YtoegfgbalcholaaGreat
set_option maxRecDepth 10000
open Go.RowKit
set_option linter.unusedSimpArgs false

/-- What options tells of a segment. -/
def OptionsIs (s : Seg) (w : World) (e : Ending) (w' : World) : Prop :=
  if s.os.any badB = true then e = .returned (.tuple #[.slice Option.none 0 0, .int .i64 1]) ∧ Below w.heap.size w w'
  else if 40 < (bytesO s.os).length then e = .returned (.tuple #[.slice Option.none 0 0, .int .i64 3]) ∧ Below w.heap.size w w'
  else if 1480 < lenB s then e = .returned (.tuple #[.slice Option.none 0 0, .int .i64 3]) ∧ Below w.heap.size w w'
  else ∃ A c, e = .returned (.tuple #[.slice A (optB s).length c, .int .i64 0]) ∧ OwnB w' w.heap.size A (optB s).length c (optB s) ∧ Below w.heap.size w w'

theorem options_any (s : Seg) (AO : Option Addr) (nO cO : Nat) (oss : List OptV) (AD : Option Addr) (nD cD : Nat) (w : World) (hn : nO ≤ 140737488355328) (hd : nD ≤ 140737488355328) (h : SegRd w s AO nO cO oss AD nD cD) :
    Calls Tryz.prog 97 #[.agg #[.int .u16 s.sp, .int .u16 s.dp, .int .u32 s.sq, .int .u32 s.ak, .int .u8 s.fl, .int .u16 s.wn, .int .u16 s.ug, .slice AO nO cO, .slice AD nD cD]] w (OptionsIs s w) := by
  obtain ⟨sp, dp, sq, ak, fl, wn, ug, os, d⟩ := s
  simp only
  have hba : Below w.heap.size w (w.alloc (.cells #[.int .u16 sp, .int .u16 dp, .int .u32 sq, .int .u32 ak, .int .u8 fl, .int .u16 wn, .int .u16 ug, .slice AO nO cO, .slice AD nD cD] 29)) := (Below.refl _ _).alloc (Nat.le_refl _) _
  have Hput := Lib.hid (put_any AO nO cO oss os _ hn (h.below hba).o (h.below hba).os)
  have hblk := heap_alloc_new w (.cells #[.int .u16 sp, .int .u16 dp, .int .u32 sq, .int .u32 ak, .int .u8 fl, .int .u16 wn, .int .u16 ug, .slice AO nO cO, .slice AD nD cD] 29)
  obtain ⟨z, hz⟩ : ∃ z, w.heap.size = z := ⟨_, rfl⟩
  rw [hz] at hblk
  have Hblk := Lib.hid hblk
  have Hba := Lib.hid hba
  have Hdl := Lib.hid h.d.len
  simp only at Hdl
  clear h hba hblk
  go_enter Tryz.func97, Tryz.ntmps97
  go_wp2_with fail
  refine Hput.out.mono ?_
  intro e w1 hp
  unfold PutO at hp
  by_cases hany : os.any badB = true
  · rw [if_pos hany] at hp
    obtain ⟨rfl, hb1⟩ := hp
    have Hb1 := Lib.hid (below_trans Hba.out hb1)
    have Hany := Lib.hid hany
    clear hany hb1
    go_wp2_with fail
    go_ret2
    unfold OptionsIs
    rw [if_pos Hany.out]
    exact ⟨rfl, Hb1.out⟩
  · rw [if_neg hany] at hp
    have Hany := Lib.hid hany
    by_cases hlong : 40 < (bytesO os).length
    · rw [if_pos hlong] at hp
      obtain ⟨rfl, hb1⟩ := hp
      have Hb1 := Lib.hid (below_trans Hba.out hb1)
      have Hlong := Lib.hid hlong
      clear hlong hb1 hany
      go_wp2_with fail
      go_ret2
      unfold OptionsIs
      rw [if_neg Hany.out, if_pos Hlong.out]
      exact ⟨rfl, Hb1.out⟩
    · rw [if_neg hlong] at hp
      have Hlong := Lib.hid hlong
      obtain ⟨Y, eY⟩ : ∃ Y, padTo4 (bytesO os) = Y := ⟨_, rfl⟩
      obtain ⟨YN, eYN⟩ : ∃ YN, Y.length = YN := ⟨_, rfl⟩
      have hpl := padTo4_len (bytesO os)
      rw [eY, eYN] at hpl
      rw [eY, eYN] at hp
      obtain ⟨A1, c1, rfl, ho1, hb1⟩ := hp
      have hYN : YN ≤ 40 ∧ YN % 4 = 0 := by omega
      have Hb1 := Lib.hid (below_trans Hba.out hb1)
      have hc8 := blk_cell (blk_on Hblk.out hb1) 8
      have Ho1 := Lib.hid ho1
      have EY := Lib.hid eY
      have EYN := Lib.hid eYN
      have hw1 : IntKind.i64.wrap (20 + (YN : Int)) = 20 + (YN : Int) := IntWalk.i64_in _ (by omega)
      have hw2 : IntKind.i64.wrap (20 + (YN : Int) + (nD : Int)) = 20 + (YN : Int) + (nD : Int) := IntWalk.i64_in _ (by omega)
      clear hb1 ho1 eY eYN hany hlong hpl
      by_cases hmost : 1480 < 20 + YN + nD
      · have hm : 1480 < 20 + (YN : Int) + (nD : Int) := by omega
        go_wp2_with fail
        go_ret2
        unfold OptionsIs
        rw [if_neg Hany.out, if_neg Hlong.out, if_pos (by unfold lenB optB; simp only [EY.out, EYN.out, Hdl.out]; omega)]
        exact ⟨rfl, Hb1.out⟩
      · have hm : 20 + (YN : Int) + (nD : Int) ≤ 1480 := by omega
        go_wp2_with fail
        go_ret2
        unfold OptionsIs
        rw [if_neg Hany.out, if_neg Hlong.out, if_neg (by unfold lenB optB; simp only [EY.out, EYN.out, Hdl.out]; omega)]
        refine ⟨A1, c1, ?_, ?_, Hb1.out⟩
        · unfold optB; simp only [EY.out, EYN.out]; rfl
        · unfold optB; simp only [EY.out, EYN.out]; exact Ho1.out.mono Hba.out.size

/-- Whether a segment may be. -/
def mayT (s : Seg) : Bool := !s.os.any badB && decide ((bytesO s.os).length ≤ 40) && decide (lenB s ≤ 1480)
/-- options, told by what may be: the error, or the options' bytes. -/
def errS (s : Seg) : Int := if s.os.any badB = true then 1 else if 40 < (bytesO s.os).length then 3 else if 1480 < lenB s then 3 else 0
theorem errS_zero (s : Seg) : errS s = 0 ↔ mayT s = true := by
  unfold errS mayT
  by_cases h1 : s.os.any badB = true
  · simp [h1]
  · by_cases h2 : 40 < (bytesO s.os).length
    · simp [h1, h2]; intro h; omega
    · have h2' : (bytesO s.os).length ≤ 40 := by omega
      have h1' : s.os.any badB = false := by simpa using h1
      by_cases h3 : 1480 < lenB s
      · simp [h1', h2, h2', h3]
      · have h3' : lenB s ≤ 1480 := by omega
        simp [h1', h2, h2', h3, h3']
theorem options_bad {s : Seg} {w w' : World} {e : Ending} (h : OptionsIs s w e w') (h0 : errS s ≠ 0) : e = .returned (.tuple #[.slice Option.none 0 0, .int .i64 (errS s)]) ∧ Below w.heap.size w w' := by
  unfold OptionsIs at h
  unfold errS at h0 ⊢
  by_cases h1 : s.os.any badB = true
  · rw [if_pos h1] at h ⊢; exact h
  · rw [if_neg h1] at h h0 ⊢
    by_cases h2 : 40 < (bytesO s.os).length
    · rw [if_pos h2] at h ⊢; exact h
    · rw [if_neg h2] at h h0 ⊢
      by_cases h3 : 1480 < lenB s
      · rw [if_pos h3] at h ⊢; exact h
      · rw [if_neg h3] at h0; exact absurd rfl h0
theorem options_good {s : Seg} {w w' : World} {e : Ending} (h : OptionsIs s w e w') (h0 : errS s = 0) : ∃ A c, e = .returned (.tuple #[.slice A (optB s).length c, .int .i64 0]) ∧ OwnB w' w.heap.size A (optB s).length c (optB s) ∧ Below w.heap.size w w' := by
  unfold OptionsIs at h
  unfold errS at h0
  by_cases h1 : s.os.any badB = true
  · rw [if_pos h1] at h0; omega
  · rw [if_neg h1] at h h0
    by_cases h2 : 40 < (bytesO s.os).length
    · rw [if_pos h2] at h0; omega
    · rw [if_neg h2] at h h0
      by_cases h3 : 1480 < lenB s
      · rw [if_pos h3] at h0; omega
      · rw [if_neg h3] at h; exact h

set_option maxHeartbeats 1000000 in
theorem same6_any (s t : Seg) (AO AO' : Option Addr) (nO cO nO' cO' : Nat) (oss oss' : List OptV) (AD AD' : Option Addr) (nD cD nD' cD' : Nat) (w : World) (hn : nO ≤ 140737488355328) (h : SegRd w s AO nO cO oss AD nD cD) (h' : SegRd w t AO' nO' cO' oss' AD' nD' cD') :
    Calls Tryz.prog 32 #[.agg #[.int .u16 s.sp, .int .u16 s.dp, .int .u32 s.sq, .int .u32 s.ak, .int .u8 s.fl, .int .u16 s.wn, .int .u16 s.ug, .slice AO nO cO, .slice AD nD cD], .agg #[.int .u16 t.sp, .int .u16 t.dp, .int .u32 t.sq, .int .u32 t.ak, .int .u8 t.fl, .int .u16 t.wn, .int .u16 t.ug, .slice AO' nO' cO', .slice AD' nD' cD']] w (OptBool (segSame s t) w) := by
  obtain ⟨sp, dp, sq, ak, fl, wn, ug, os, d⟩ := s
  obtain ⟨sp', dp', sq', ak', fl', wn', ug', os', d'⟩ := t
  have hb : Below w.heap.size w ((w.alloc (.cells #[.int .u16 sp, .int .u16 dp, .int .u32 sq, .int .u32 ak, .int .u8 fl, .int .u16 wn, .int .u16 ug, .slice AO nO cO, .slice AD nD cD] 29)).alloc (.cells #[.int .u16 sp', .int .u16 dp', .int .u32 sq', .int .u32 ak', .int .u8 fl', .int .u16 wn', .int .u16 ug', .slice AO' nO' cO', .slice AD' nD' cD'] 29)) := ((Below.refl _ _).alloc (Nat.le_refl _) _).alloc (by simp) _
  have Hs := Lib.hid (same_any AO AO' nO cO nO' cO' oss oss' os os' _ (by omega) (h.below hb).o (h.below hb).os (h'.below hb).o (h'.below hb).os)
  have hblk1 : ((w.alloc (.cells #[.int .u16 sp, .int .u16 dp, .int .u32 sq, .int .u32 ak, .int .u8 fl, .int .u16 wn, .int .u16 ug, .slice AO nO cO, .slice AD nD cD] 29)).alloc (.cells #[.int .u16 sp', .int .u16 dp', .int .u32 sq', .int .u32 ak', .int .u8 fl', .int .u16 wn', .int .u16 ug', .slice AO' nO' cO', .slice AD' nD' cD'] 29)).heap[w.heap.size]? = some (.cells #[.int .u16 sp, .int .u16 dp, .int .u32 sq, .int .u32 ak, .int .u8 fl, .int .u16 wn, .int .u16 ug, .slice AO nO cO, .slice AD nD cD] 29 (0, 0)) := by rw [Below.heap_alloc _ _ _ (by simp)]; exact heap_alloc_new w _
  have hblk2 : ((w.alloc (.cells #[.int .u16 sp, .int .u16 dp, .int .u32 sq, .int .u32 ak, .int .u8 fl, .int .u16 wn, .int .u16 ug, .slice AO nO cO, .slice AD nD cD] 29)).alloc (.cells #[.int .u16 sp', .int .u16 dp', .int .u32 sq', .int .u32 ak', .int .u8 fl', .int .u16 wn', .int .u16 ug', .slice AO' nO' cO', .slice AD' nD' cD'] 29)).heap[w.heap.size + 1]? = some (.cells #[.int .u16 sp', .int .u16 dp', .int .u32 sq', .int .u32 ak', .int .u8 fl', .int .u16 wn', .int .u16 ug', .slice AO' nO' cO', .slice AD' nD' cD'] 29 (0, 0)) := by
    have := heap_alloc_new (w.alloc (.cells #[.int .u16 sp, .int .u16 dp, .int .u32 sq, .int .u32 ak, .int .u8 fl, .int .u16 wn, .int .u16 ug, .slice AO nO cO, .slice AD nD cD] 29)) (.cells #[.int .u16 sp', .int .u16 dp', .int .u32 sq', .int .u32 ak', .int .u8 fl', .int .u16 wn', .int .u16 ug', .slice AO' nO' cO', .slice AD' nD' cD'] 29)
    simpa using this
  have Hk1 := Lib.hid hblk1
  have Hk2 := Lib.hid hblk2
  clear hblk1 hblk2
  have Hd := Lib.hid (h.below hb).d
  have Hd' := Lib.hid (h'.below hb).d
  have Hb := Lib.hid hb
  clear h h' hb
  simp only
  by_cases hx : sp = sp'
  · subst hx
    by_cases hx : dp = dp'
    · subst hx
      by_cases hx : sq = sq'
      · subst hx
        by_cases hx : ak = ak'
        · subst hx
          by_cases hx : fl = fl'
          · subst hx
            by_cases hx : wn = wn'
            · subst hx
              by_cases hx : ug = ug'
              · subst hx
                go_enter Tryz.func32, Tryz.ntmps32
                go_wp2_with fail
                refine Hs.out.mono ?_
                rintro e w2 ⟨rfl, hb2⟩
                have Hb2 := Lib.hid (Hb.out.trans (hb2.mono Hb.out.size))
                by_cases hx : os = os'
                · subst hx
                  rw [decide_eq_true rfl]
                  have c8 := blk_cell (blk_on Hk1.out hb2) 8
                  have c8' := blk_cell (blk_on Hk2.out hb2) 8
                  have He := Lib.hid (equal_any AD AD' nD nD' cD cD' d d' w2 (Hd.out.below hb2) (Hd'.out.below hb2))
                  have Hx := Lib.hid (show segSame ⟨sp, dp, sq, ak, fl, wn, ug, os, d⟩ ⟨sp, dp, sq, ak, fl, wn, ug, os, d'⟩ = decide (d = d') by unfold segSame; simp)
                  clear hb2
                  go_wp2_with fail
                  refine He.out.mono ?_
                  rintro e w3 ⟨rfl, rfl⟩
                  go_wp2_with fail
                  go_ret
                  exact ⟨by rw [Hx.out]; rfl, Hb2.out⟩
                · rw [decide_eq_false hx]
                  have Hx := Lib.hid (show segSame ⟨sp, dp, sq, ak, fl, wn, ug, os, d⟩ ⟨sp, dp, sq, ak, fl, wn, ug, os', d'⟩ = false by unfold segSame; simp [hx])
                  clear hx hb2
                  go_wp2_with fail
                  go_ret
                  exact ⟨by rw [Hx.out]; rfl, Hb2.out⟩
              · skip
                have hne : (ug == ug') = false := by simpa using hx
                have Hx := Lib.hid (show segSame ⟨sp, dp, sq, ak, fl, wn, ug, os, d⟩ ⟨sp, dp, sq, ak, fl, wn, ug', os', d'⟩ = false by unfold segSame; simp [hx])
                clear hx
                go_enter Tryz.func32, Tryz.ntmps32
                go_wp2_with fail
                go_ret
                exact ⟨by rw [Hx.out]; rfl, Hb.out⟩
            · skip
              have hne : (wn == wn') = false := by simpa using hx
              have Hx := Lib.hid (show segSame ⟨sp, dp, sq, ak, fl, wn, ug, os, d⟩ ⟨sp, dp, sq, ak, fl, wn', ug', os', d'⟩ = false by unfold segSame; simp [hx])
              clear hx
              go_enter Tryz.func32, Tryz.ntmps32
              go_wp2_with fail
              go_ret
              exact ⟨by rw [Hx.out]; rfl, Hb.out⟩
          · skip
            have hne : (fl == fl') = false := by simpa using hx
            have Hx := Lib.hid (show segSame ⟨sp, dp, sq, ak, fl, wn, ug, os, d⟩ ⟨sp, dp, sq, ak, fl', wn', ug', os', d'⟩ = false by unfold segSame; simp [hx])
            clear hx
            go_enter Tryz.func32, Tryz.ntmps32
            go_wp2_with fail
            go_ret
            exact ⟨by rw [Hx.out]; rfl, Hb.out⟩
        · skip
          have hne : (ak == ak') = false := by simpa using hx
          have Hx := Lib.hid (show segSame ⟨sp, dp, sq, ak, fl, wn, ug, os, d⟩ ⟨sp, dp, sq, ak', fl', wn', ug', os', d'⟩ = false by unfold segSame; simp [hx])
          clear hx
          go_enter Tryz.func32, Tryz.ntmps32
          go_wp2_with fail
          go_ret
          exact ⟨by rw [Hx.out]; rfl, Hb.out⟩
      · skip
        have hne : (sq == sq') = false := by simpa using hx
        have Hx := Lib.hid (show segSame ⟨sp, dp, sq, ak, fl, wn, ug, os, d⟩ ⟨sp, dp, sq', ak', fl', wn', ug', os', d'⟩ = false by unfold segSame; simp [hx])
        clear hx
        go_enter Tryz.func32, Tryz.ntmps32
        go_wp2_with fail
        go_ret
        exact ⟨by rw [Hx.out]; rfl, Hb.out⟩
    · skip
      have hne : (dp == dp') = false := by simpa using hx
      have Hx := Lib.hid (show segSame ⟨sp, dp, sq, ak, fl, wn, ug, os, d⟩ ⟨sp, dp', sq', ak', fl', wn', ug', os', d'⟩ = false by unfold segSame; simp [hx])
      clear hx
      go_enter Tryz.func32, Tryz.ntmps32
      go_wp2_with fail
      go_ret
      exact ⟨by rw [Hx.out]; rfl, Hb.out⟩
  · skip
    have hne : (sp == sp') = false := by simpa using hx
    have Hx := Lib.hid (show segSame ⟨sp, dp, sq, ak, fl, wn, ug, os, d⟩ ⟨sp', dp', sq', ak', fl', wn', ug', os', d'⟩ = false by unfold segSame; simp [hx])
    clear hx
    go_enter Tryz.func32, Tryz.ntmps32
    go_wp2_with fail
    go_ret
    exact ⟨by rw [Hx.out]; rfl, Hb.out⟩
end Go.Proofs.YtoegfgbalcholaaGreat

/-
  The contracts of package ipv4's May, lay and Put.
-/
namespace Go.Proofs.YtoegfgbalcholaaGreat
set_option maxRecDepth 10000
open Go.RowKit

theorem wraps_u8 (n : Int) (h₀ : 0 ≤ n) (h₁ : n < 2 ^ 8) : IntKind.u8.wrap n = n := by simp [IntKind.wrap, IntKind.bits, IntKind.signed]; omega

theorem may_any (tos id_ ttl proto src dst : Int) (df : Bool) (A : Option Addr) (n c : Nat) (w : World) :
    Calls Tryz.prog 55 #[(.agg #[.int .u8 tos, .int .u16 id_, .bool df, .int .u8 ttl, .int .u8 proto, .int .u32 src, .int .u32 dst, .slice A n c])] w (BoolIs (mayB ttl n) w) := by
  have hb := (Below.refl w.heap.size w).alloc (Nat.le_refl _) (.cells #[.int .u8 tos, .int .u16 id_, .bool df, .int .u8 ttl, .int .u8 proto, .int .u32 src, .int .u32 dst, .slice A n c] 26)
  have Hb := Lib.hid hb
  clear hb
  have fin : ∀ x y, x = y → BoolIs y w (.returned (.bool x)) (w.alloc (.cells #[.int .u8 tos, .int .u16 id_, .bool df, .int .u8 ttl, .int .u8 proto, .int .u32 src, .int .u32 dst, .slice A n c] 26)) := fun x y e => ⟨by rw [e], Hb.out⟩
  have Fin := Lib.hid fin
  clear fin
  obtain ⟨r, er⟩ : ∃ r, mayB ttl n = r := ⟨_, rfl⟩
  rw [er]
  have Er := Lib.hid er
  clear er
  by_cases h1 : 0 < ttl
  · by_cases h2 : (n : Int) ≤ 40
    · by_cases h3 : (n : Int) % 4 = 0
      · have h4 : ((n : Int) % 4 == 0) = true := by simpa using h3
        go_enter Tryz.func55, Tryz.ntmps55
        go_wp2_with fail
        go_ret
        exact Fin.out _ _ (by rw [← Er.out]; unfold mayB; simp [h1]; omega)
      · have h4 : ((n : Int) % 4 == 0) = false := by simpa using h3
        go_enter Tryz.func55, Tryz.ntmps55
        go_wp2_with fail
        go_ret
        exact Fin.out _ _ (by rw [← Er.out]; unfold mayB; simp [h1]; omega)
    · have h2' : 40 < (n : Int) := by omega
      go_enter Tryz.func55, Tryz.ntmps55
      go_wp2_with fail
      go_ret
      exact Fin.out _ _ (by rw [← Er.out]; unfold mayB; simp [h1]; omega)
  · have h1' : ttl ≤ 0 := by omega
    go_enter Tryz.func55, Tryz.ntmps55
    go_wp2_with fail
    go_ret
    exact Fin.out _ _ (by rw [← Er.out]; unfold mayB; simp; omega)

/-- Two rows of the call's own. -/
def RowsAre (n1 : Nat) (l1 : List Int) (n2 : Nat) (l2 : List Int) (w : World) (e : Ending) (w' : World) : Prop :=
  ∃ A1 c1 A2 c2, e = .returned (.tuple #[.slice A1 n1 c1, .slice A2 n2 c2]) ∧ OwnB w' w.heap.size A1 n1 c1 l1 ∧ OwnB w' w.heap.size A2 n2 c2 l2 ∧ Below w.heap.size w w'

/-- A row, told by its list alone. -/
theorem u8_lays_ (A : Option Addr) (n m c : Nat) (l : List Int) (x : Int) (w : World) (hx : 0 ≤ x ∧ x < 256) (hc : n ≤ c ∧ c ≤ maxLen) (hm : m = n + 1) (hl : n ≤ 100000) (h : Rd w A n l) :
    Calls Tryz.prog 102 #[.slice A n c, .int .u8 x] w (RowIs m (l ++ [x]) w) := by subst hm; exact u8_lays A n c l x w hx hc (by omega) h
theorem u16_lays_ (A : Option Addr) (n m c : Nat) (l : List Int) (x : Int) (w : World) (hx : 0 ≤ x ∧ x < 65536) (hc : n ≤ c ∧ c ≤ maxLen) (hm : m = n + 2) (hl : n ≤ 100000) (h : Rd w A n l) :
    Calls Tryz.prog 44 #[.slice A n c, .int .u16 x] w (RowIs m (l ++ b16 x) w) := by subst hm; exact u16_lays A n c l x w hx hc (by omega) h
theorem u32_lays_ (A : Option Addr) (n m c : Nat) (l : List Int) (x : Int) (w : World) (hx : 0 ≤ x ∧ x < 4294967296) (hc : n ≤ c ∧ c ≤ maxLen) (hm : m = n + 4) (hl : n ≤ 100000) (h : Rd w A n l) :
    Calls Tryz.prog 41 #[.slice A n c, .int .u32 x] w (RowIs m (l ++ b32 x) w) := by subst hm; exact u32_lays A n c l x w hx hc (by omega) h

theorem or8_64 (x : Int) (h : 0 ≤ x ∧ x < 64) : bits .or .u8 64 x = 64 + x := by
  have := bits_join .u8 8 (by decide) wraps_u8 6 64 x (by omega) (by omega) (by omega) (by omega) (by omega) (by omega)
  exact this

theorem OwnB.rdB {w : World} {B : Nat} {A : Option Addr} {n c : Nat} {l : List Int} (h : OwnB w B A n c l) (hl : Bytes l) : Rd w A n l := h.rd hl

theorem concat_told (A : Option Addr) (n c m : Nat) (ls : List (List Int)) (w : World) (hn : n ≤ 1000000) (h : RdL w A n ls) (hm : ls.flatten.length = m) (hx : m ≤ 140737488355328) :
    Calls Tryz.prog 43 #[.slice A n c] w (RowIs m ls.flatten w) := by subst hm; exact concat_any A n c ls w hn h hx

theorem RdL.four (w : World) (t : TypeId) (A B C D : Option Addr) (n c n1 c1 n2 c2 n3 c3 : Nat) (l l1 l2 l3 : List Int) (hc : n ≤ c ∧ c ≤ maxLen) (hc1 : n1 ≤ c1 ∧ c1 ≤ maxLen) (hc2 : n2 ≤ c2 ∧ c2 ≤ maxLen) (hc3 : n3 ≤ c3 ∧ c3 ≤ maxLen) (h : Rd w A n l) (h1 : Rd w B n1 l1) (h2 : Rd w C n2 l2) (h3 : Rd w D n3 l3) :
    RdL (w.alloc (.cells #[.slice A n c, .slice B n1 c1, .slice C n2 c2, .slice D n3 c3] t)) (some ⟨w.heap.size, 0, none⟩) 4 [l, l1, l2, l3] := by
  have := h.len; have := h1.len; have := h2.len; have := h3.len
  subst n n1 n2 n3
  refine RdL.row w _ rfl t (0, 0) [.slice A l.length c, .slice B l1.length c1, .slice C l2.length c2, .slice D l3.length c3] [l, l1, l2, l3] (fun i hi => ?_)
  match i, hi with
  | 0, _ => exact ⟨A, c, rfl, hc.1, hc.2, h⟩
  | 1, _ => exact ⟨B, c1, rfl, hc1.1, hc1.2, h1⟩
  | 2, _ => exact ⟨C, c2, rfl, hc2.1, hc2.2, h2⟩
  | 3, _ => exact ⟨D, c3, rfl, hc3.1, hc3.2, h3⟩

theorem lay_ip (tos id_ ttl proto src dst : Int) (df : Bool) (A : Option Addr) (n c : Nat) (opts : List Int) (long : Int) (w : World)
    (h0 : 0 ≤ tos ∧ tos < 256) (h1 : 0 ≤ id_ ∧ id_ < 65536) (h2 : 0 ≤ ttl ∧ ttl < 256) (h3 : 0 ≤ proto ∧ proto < 256) (h4 : 0 ≤ src ∧ src < 4294967296) (h5 : 0 ≤ dst ∧ dst < 4294967296)
    (hn : n ≤ 40) (hc : n ≤ c ∧ c ≤ maxLen) (hl : 0 ≤ long ∧ long < 65536) (h : Rd w A n opts) :
    Calls Tryz.prog 61 #[(.agg #[.int .u8 tos, .int .u16 id_, .bool df, .int .u8 ttl, .int .u8 proto, .int .u32 src, .int .u32 dst, .slice A n c]), .int .i64 (20 + (n : Int)), .int .i64 long] w (RowsAre 10 (aheadL tos id_ df ttl proto n long) (8 + n) (behindL src dst opts) w) := by
  have hq0 : 0 ≤ (20 + (n : Int)) / 4 ∧ (20 + (n : Int)) / 4 < 64 := by omega
  have hqn : Hid (64 + (20 + (n : Int)) / 4 < 256) := by show _ < _; omega
  have hlo := wraps_u16 long hl.1 (by omega)
  have hho := wraps_u8 ((20 + (n : Int)) / 4) (by omega) (by omega)
  have hbhd := behindL_bytes h4 h5 h.byte
  have hA := aheadL_bytes (df := df) h0 h1 h2 h3 hn hl
  have HA := Lib.hid hA
  have Hbh := Lib.hid hbhd
  have hfl : 0 ≤ flagsOf df ∧ flagsOf df < 65536 := by unfold flagsOf; split <;> omega
  have Hal := Lib.hid (show aheadL tos id_ df ttl proto n long = [] ++ [64 + (20 + (n : Int)) / 4] ++ [tos] ++ b16 long ++ b16 id_ ++ b16 (flagsOf df) ++ [ttl] ++ [proto] by simp [aheadL])
  have Hbl := Lib.hid (show behindL src dst opts = ([[] ++ b32 src ++ b32 dst, opts] : List (List Int)).flatten by simp [behindL])
  have Hbn := Lib.hid (show ([[] ++ b32 src ++ b32 dst, opts] : List (List Int)).flatten.length = 8 + n by simp [b32, h.len]; omega)
  have B1 := Lib.hid (show Bytes ([] ++ [64 + (20 + (n : Int)) / 4]) by intro y hy; simp at hy; omega)
  have B2 := Lib.hid (B1.out.app (show Bytes [tos] by intro y hy; simp at hy; omega))
  have B3 := Lib.hid (B2.out.app (b16_bytes hl))
  have B4 := Lib.hid (B3.out.app (b16_bytes h1))
  have B5 := Lib.hid (B4.out.app (b16_bytes hfl))
  have B6 := Lib.hid (B5.out.app (show Bytes [ttl] by intro y hy; simp at hy; omega))
  have C1 := Lib.hid (show Bytes ([] ++ b32 src) by simpa using b32_bytes h4)
  have C2 := Lib.hid (C1.out.app (b32_bytes h5))
  have hhor := or8_64 ((20 + (n : Int)) / 4) hq0
  obtain ⟨q, eq⟩ : ∃ q, (20 + (n : Int)) / 4 = q := ⟨_, rfl⟩
  rw [eq] at hq0 hho hhor hqn Hal B1 B2 B3 B4 B5 B6
  have Hh := Lib.hid h
  have Hhb := Lib.hid h.byte
  clear hA hbhd h
  obtain ⟨hl0, hl1⟩ := id hl
  obtain ⟨q0, q1⟩ := hq0
  have hqn := hqn.out
  have hx1 : 0 ≤ 64 + q ∧ 64 + q < 256 := by omega
  have Hblk := Lib.hid (heap_alloc_new w (.cells #[.int .u8 tos, .int .u16 id_, .bool df, .int .u8 ttl, .int .u8 proto, .int .u32 src, .int .u32 dst, .slice A n c] 26))
  have Hb := Lib.hid ((Below.refl w.heap.size w).alloc (Nat.le_refl _) (.cells #[.int .u8 tos, .int .u16 id_, .bool df, .int .u8 ttl, .int .u8 proto, .int .u32 src, .int .u32 dst, .slice A n c] 26))
  obtain ⟨fl, efl⟩ : ∃ fl, flagsOf df = fl := ⟨_, rfl⟩
  rw [efl] at hfl Hal B5 B6
  have Efl := Lib.hid efl
  clear efl
  have hc_ := hc
  cases df
  · have hflv : fl = 0 := Efl.out.symm
    subst hflv
    clear Efl
    go_enter Tryz.func61, Tryz.ntmps61
    go_wp2_with fail
    clear eq hhor hho
    (with_reducible refine (u8_lays_ none 0 1 0 _ (64 + q) _ (by assumption) ⟨by omega, by first | assumption | simp [maxLen]⟩ rfl (by omega) (Rd.nil _ _)).mono ?_)
    rintro e w1 ⟨A1, c1, rfl, k1, m1, hown, hb⟩
    have Ho := Lib.hid (hown.mono (B' := w.heap.size) Hb.out.size)
    have Hb0 := Hb
    have Hb := Lib.hid (below_trans Hb.out hb)
    have Hblk := Lib.hid (blk_on Hblk.out hb)
    have hc := blk_cell Hblk.out 0
    simp at hc
    have hb1 := Lib.hid hb
    clear hown hb Hb0
    go_wp2_with fail
    (with_reducible refine (u8_lays_ A1 1 2 c1 _ tos _ (by assumption) ⟨by omega, by first | assumption | simp [maxLen]⟩ rfl (by omega) (Ho.out.rdB B1.out)).mono ?_)
    rintro e w2 ⟨A2, c2, rfl, k2, m2, hown, hb⟩
    have Ho := Lib.hid (hown.mono (B' := w.heap.size) Hb.out.size)
    have Hb0 := Hb
    have Hb := Lib.hid (below_trans Hb.out hb)
    have Hblk := Lib.hid (blk_on Hblk.out hb)
    have hc := blk_cell Hblk.out 1
    simp at hc
    have hb2 := Lib.hid hb
    clear hown hb Hb0
    go_wp2_with fail
    (with_reducible refine (u16_lays_ A2 2 4 c2 _ long _ (by assumption) ⟨by omega, by first | assumption | simp [maxLen]⟩ rfl (by omega) (Ho.out.rdB B2.out)).mono ?_)
    rintro e w3 ⟨A3, c3, rfl, k3, m3, hown, hb⟩
    have Ho := Lib.hid (hown.mono (B' := w.heap.size) Hb.out.size)
    have Hb0 := Hb
    have Hb := Lib.hid (below_trans Hb.out hb)
    have Hblk := Lib.hid (blk_on Hblk.out hb)
    have hc := blk_cell Hblk.out 1
    simp at hc
    have hb3 := Lib.hid hb
    clear hown hb Hb0
    go_wp2_with fail
    (with_reducible refine (u16_lays_ A3 4 6 c3 _ id_ _ (by assumption) ⟨by omega, by first | assumption | simp [maxLen]⟩ rfl (by omega) (Ho.out.rdB B3.out)).mono ?_)
    rintro e w4 ⟨A4, c4, rfl, k4, m4, hown, hb⟩
    have Ho := Lib.hid (hown.mono (B' := w.heap.size) Hb.out.size)
    have Hb0 := Hb
    have Hb := Lib.hid (below_trans Hb.out hb)
    have Hblk := Lib.hid (blk_on Hblk.out hb)
    have hc := blk_cell Hblk.out 3
    simp at hc
    have hb4 := Lib.hid hb
    clear hown hb Hb0
    go_wp2_with fail
    (with_reducible refine (u16_lays_ A4 6 8 c4 _ 0 _ (by assumption) ⟨by omega, by first | assumption | simp [maxLen]⟩ rfl (by omega) (Ho.out.rdB B4.out)).mono ?_)
    rintro e w5 ⟨A5, c5, rfl, k5, m5, hown, hb⟩
    have Ho := Lib.hid (hown.mono (B' := w.heap.size) Hb.out.size)
    have Hb0 := Hb
    have Hb := Lib.hid (below_trans Hb.out hb)
    have Hblk := Lib.hid (blk_on Hblk.out hb)
    have hc := blk_cell Hblk.out 3
    simp at hc
    have hb5 := Lib.hid hb
    clear hown hb Hb0
    go_wp2_with fail
    (with_reducible refine (u8_lays_ A5 8 9 c5 _ ttl _ (by assumption) ⟨by omega, by first | assumption | simp [maxLen]⟩ rfl (by omega) (Ho.out.rdB B5.out)).mono ?_)
    rintro e w6 ⟨A6, c6, rfl, k6, m6, hown, hb⟩
    have Ho := Lib.hid (hown.mono (B' := w.heap.size) Hb.out.size)
    have Hb0 := Hb
    have Hb := Lib.hid (below_trans Hb.out hb)
    have Hblk := Lib.hid (blk_on Hblk.out hb)
    have hc := blk_cell Hblk.out 4
    simp at hc
    have hb6 := Lib.hid hb
    clear hown hb Hb0
    go_wp2_with fail
    (with_reducible refine (u8_lays_ A6 9 10 c6 _ proto _ (by assumption) ⟨by omega, by first | assumption | simp [maxLen]⟩ rfl (by omega) (Ho.out.rdB B6.out)).mono ?_)
    rintro e w7 ⟨A7, c7, rfl, k7, m7, hown, hb⟩
    have Ho := Lib.hid (hown.mono (B' := w.heap.size) Hb.out.size)
    have Hb0 := Hb
    have Hb := Lib.hid (below_trans Hb.out hb)
    have Hblk := Lib.hid (blk_on Hblk.out hb)
    have hc := blk_cell Hblk.out 5
    simp at hc
    have hb7 := Lib.hid hb
    clear hown hb Hb0
    go_wp2_with fail
    have Ha := Ho
    (with_reducible refine (u32_lays_ none 0 4 0 _ src _ (by assumption) ⟨by omega, by first | assumption | simp [maxLen]⟩ rfl (by omega) (Rd.nil _ _)).mono ?_)
    rintro e w8 ⟨A8, c8, rfl, k8, m8, hown, hb⟩
    have Ho := Lib.hid (hown.mono (B' := w.heap.size) Hb.out.size)
    have Hb0 := Hb
    have Hb := Lib.hid (below_trans Hb.out hb)
    have Hblk := Lib.hid (blk_on Hblk.out hb)
    have hc := blk_cell Hblk.out 6
    simp at hc
    have hb8 := Lib.hid hb
    clear hown hb Hb0
    go_wp2_with fail
    have Ha := Lib.hid (Ha.out.on hb8.out)
    (with_reducible refine (u32_lays_ A8 4 8 c8 _ dst _ (by assumption) ⟨by omega, by first | assumption | simp [maxLen]⟩ rfl (by omega) (Ho.out.rdB C1.out)).mono ?_)
    rintro e w9 ⟨A9, c9, rfl, k9, m9, hown, hb⟩
    have Ho := Lib.hid (hown.mono (B' := w.heap.size) Hb.out.size)
    have Hb0 := Hb
    have Hb := Lib.hid (below_trans Hb.out hb)
    have Hblk := Lib.hid (blk_on Hblk.out hb)
    have hc := blk_cell Hblk.out 7
    simp at hc
    have hb9 := Lib.hid hb
    clear hown hb Hb0
    go_wp2_with fail
    have Ha := Lib.hid (Ha.out.on hb9.out)
    have Hoo := Lib.hid (Hh.out.below Hb.out)
    (with_reducible refine (concat_told _ 2 2 (8 + n) [[] ++ b32 src ++ b32 dst, opts] _ (by omega) (RdL.twoW _ _ A9 A 8 c9 n c _ _ ⟨by omega, by assumption⟩ hc_ (Ho.out.rdB C2.out) Hoo.out) Hbn.out (by omega)).mono ?_)
    rintro e w10 ⟨A10, c10, rfl, k10, m10, hown, hb⟩
    have hal := (Below.refl w9.heap.size w9).alloc (Nat.le_refl _) (.cells #[.slice A9 8 c9, .slice A n c] 24)
    have hbb := below_trans hal hb
    have Hr := Lib.hid (show RowsAre 10 (aheadL tos id_ false ttl proto n long) (8 + n) (behindL src dst opts) w (.returned (.tuple #[.slice A7 10 c7, .slice A10 (8 + n) c10])) w10 from
      ⟨A7, c7, A10, c10, rfl, by rw [Hal.out]; exact Ha.out.on hbb, by rw [Hbl.out]; exact hown.mono (by have := Hb.out.size; simp; omega), below_trans Hb.out hbb⟩)
    clear hown hb hal hbb
    go_wp2_with fail
    go_ret2
    exact Hr.out
  · have hflv : fl = 16384 := Efl.out.symm
    subst hflv
    clear Efl
    go_enter Tryz.func61, Tryz.ntmps61
    go_wp2_with fail
    clear eq hhor hho
    (with_reducible refine (u8_lays_ none 0 1 0 _ (64 + q) _ (by assumption) ⟨by omega, by first | assumption | simp [maxLen]⟩ rfl (by omega) (Rd.nil _ _)).mono ?_)
    rintro e w1 ⟨A1, c1, rfl, k1, m1, hown, hb⟩
    have Ho := Lib.hid (hown.mono (B' := w.heap.size) Hb.out.size)
    have Hb0 := Hb
    have Hb := Lib.hid (below_trans Hb.out hb)
    have Hblk := Lib.hid (blk_on Hblk.out hb)
    have hc := blk_cell Hblk.out 0
    simp at hc
    have hb1 := Lib.hid hb
    clear hown hb Hb0
    go_wp2_with fail
    (with_reducible refine (u8_lays_ A1 1 2 c1 _ tos _ (by assumption) ⟨by omega, by first | assumption | simp [maxLen]⟩ rfl (by omega) (Ho.out.rdB B1.out)).mono ?_)
    rintro e w2 ⟨A2, c2, rfl, k2, m2, hown, hb⟩
    have Ho := Lib.hid (hown.mono (B' := w.heap.size) Hb.out.size)
    have Hb0 := Hb
    have Hb := Lib.hid (below_trans Hb.out hb)
    have Hblk := Lib.hid (blk_on Hblk.out hb)
    have hc := blk_cell Hblk.out 1
    simp at hc
    have hb2 := Lib.hid hb
    clear hown hb Hb0
    go_wp2_with fail
    (with_reducible refine (u16_lays_ A2 2 4 c2 _ long _ (by assumption) ⟨by omega, by first | assumption | simp [maxLen]⟩ rfl (by omega) (Ho.out.rdB B2.out)).mono ?_)
    rintro e w3 ⟨A3, c3, rfl, k3, m3, hown, hb⟩
    have Ho := Lib.hid (hown.mono (B' := w.heap.size) Hb.out.size)
    have Hb0 := Hb
    have Hb := Lib.hid (below_trans Hb.out hb)
    have Hblk := Lib.hid (blk_on Hblk.out hb)
    have hc := blk_cell Hblk.out 1
    simp at hc
    have hb3 := Lib.hid hb
    clear hown hb Hb0
    go_wp2_with fail
    (with_reducible refine (u16_lays_ A3 4 6 c3 _ id_ _ (by assumption) ⟨by omega, by first | assumption | simp [maxLen]⟩ rfl (by omega) (Ho.out.rdB B3.out)).mono ?_)
    rintro e w4 ⟨A4, c4, rfl, k4, m4, hown, hb⟩
    have Ho := Lib.hid (hown.mono (B' := w.heap.size) Hb.out.size)
    have Hb0 := Hb
    have Hb := Lib.hid (below_trans Hb.out hb)
    have Hblk := Lib.hid (blk_on Hblk.out hb)
    have hc := blk_cell Hblk.out 3
    simp at hc
    have hb4 := Lib.hid hb
    clear hown hb Hb0
    go_wp2_with fail
    (with_reducible refine (u16_lays_ A4 6 8 c4 _ 16384 _ (by assumption) ⟨by omega, by first | assumption | simp [maxLen]⟩ rfl (by omega) (Ho.out.rdB B4.out)).mono ?_)
    rintro e w5 ⟨A5, c5, rfl, k5, m5, hown, hb⟩
    have Ho := Lib.hid (hown.mono (B' := w.heap.size) Hb.out.size)
    have Hb0 := Hb
    have Hb := Lib.hid (below_trans Hb.out hb)
    have Hblk := Lib.hid (blk_on Hblk.out hb)
    have hc := blk_cell Hblk.out 3
    simp at hc
    have hb5 := Lib.hid hb
    clear hown hb Hb0
    go_wp2_with fail
    (with_reducible refine (u8_lays_ A5 8 9 c5 _ ttl _ (by assumption) ⟨by omega, by first | assumption | simp [maxLen]⟩ rfl (by omega) (Ho.out.rdB B5.out)).mono ?_)
    rintro e w6 ⟨A6, c6, rfl, k6, m6, hown, hb⟩
    have Ho := Lib.hid (hown.mono (B' := w.heap.size) Hb.out.size)
    have Hb0 := Hb
    have Hb := Lib.hid (below_trans Hb.out hb)
    have Hblk := Lib.hid (blk_on Hblk.out hb)
    have hc := blk_cell Hblk.out 4
    simp at hc
    have hb6 := Lib.hid hb
    clear hown hb Hb0
    go_wp2_with fail
    (with_reducible refine (u8_lays_ A6 9 10 c6 _ proto _ (by assumption) ⟨by omega, by first | assumption | simp [maxLen]⟩ rfl (by omega) (Ho.out.rdB B6.out)).mono ?_)
    rintro e w7 ⟨A7, c7, rfl, k7, m7, hown, hb⟩
    have Ho := Lib.hid (hown.mono (B' := w.heap.size) Hb.out.size)
    have Hb0 := Hb
    have Hb := Lib.hid (below_trans Hb.out hb)
    have Hblk := Lib.hid (blk_on Hblk.out hb)
    have hc := blk_cell Hblk.out 5
    simp at hc
    have hb7 := Lib.hid hb
    clear hown hb Hb0
    go_wp2_with fail
    have Ha := Ho
    (with_reducible refine (u32_lays_ none 0 4 0 _ src _ (by assumption) ⟨by omega, by first | assumption | simp [maxLen]⟩ rfl (by omega) (Rd.nil _ _)).mono ?_)
    rintro e w8 ⟨A8, c8, rfl, k8, m8, hown, hb⟩
    have Ho := Lib.hid (hown.mono (B' := w.heap.size) Hb.out.size)
    have Hb0 := Hb
    have Hb := Lib.hid (below_trans Hb.out hb)
    have Hblk := Lib.hid (blk_on Hblk.out hb)
    have hc := blk_cell Hblk.out 6
    simp at hc
    have hb8 := Lib.hid hb
    clear hown hb Hb0
    go_wp2_with fail
    have Ha := Lib.hid (Ha.out.on hb8.out)
    (with_reducible refine (u32_lays_ A8 4 8 c8 _ dst _ (by assumption) ⟨by omega, by first | assumption | simp [maxLen]⟩ rfl (by omega) (Ho.out.rdB C1.out)).mono ?_)
    rintro e w9 ⟨A9, c9, rfl, k9, m9, hown, hb⟩
    have Ho := Lib.hid (hown.mono (B' := w.heap.size) Hb.out.size)
    have Hb0 := Hb
    have Hb := Lib.hid (below_trans Hb.out hb)
    have Hblk := Lib.hid (blk_on Hblk.out hb)
    have hc := blk_cell Hblk.out 7
    simp at hc
    have hb9 := Lib.hid hb
    clear hown hb Hb0
    go_wp2_with fail
    have Ha := Lib.hid (Ha.out.on hb9.out)
    have Hoo := Lib.hid (Hh.out.below Hb.out)
    (with_reducible refine (concat_told _ 2 2 (8 + n) [[] ++ b32 src ++ b32 dst, opts] _ (by omega) (RdL.twoW _ _ A9 A 8 c9 n c _ _ ⟨by omega, by assumption⟩ hc_ (Ho.out.rdB C2.out) Hoo.out) Hbn.out (by omega)).mono ?_)
    rintro e w10 ⟨A10, c10, rfl, k10, m10, hown, hb⟩
    have hal := (Below.refl w9.heap.size w9).alloc (Nat.le_refl _) (.cells #[.slice A9 8 c9, .slice A n c] 24)
    have hbb := below_trans hal hb
    have Hr := Lib.hid (show RowsAre 10 (aheadL tos id_ true ttl proto n long) (8 + n) (behindL src dst opts) w (.returned (.tuple #[.slice A7 10 c7, .slice A10 (8 + n) c10])) w10 from
      ⟨A7, c7, A10, c10, rfl, by rw [Hal.out]; exact Ha.out.on hbb, by rw [Hbl.out]; exact hown.mono (by have := Hb.out.size; simp; omega), below_trans Hb.out hbb⟩)
    clear hown hb hal hbb
    go_wp2_with fail
    go_ret2
    exact Hr.out

def NoneIs (x : Int) (w : World) (e : Ending) (w' : World) : Prop := e = .returned (.tuple #[.slice none 0 0, .int .i64 x]) ∧ Below w.heap.size w w'
/-- A row of the call's own, and OK. -/
def RowOk (m : Nat) (l : List Int) (w : World) (e : Ending) (w' : World) : Prop :=
  ∃ A c, e = .returned (.tuple #[.slice A m c, .int .i64 0]) ∧ m ≤ c ∧ c ≤ maxLen ∧ OwnB w' w.heap.size A m c l ∧ Below w.heap.size w w'

theorem put_long (tos id_ ttl proto src dst : Int) (df : Bool) (A A' : Option Addr) (n c n' c' : Nat) (w : World) (hm : mayB ttl n = true) (hn : n ≤ 40) (hn' : n' ≤ 140737488355328) (hl : 1500 < 20 + n + n') :
    Calls Tryz.prog 22 #[(.agg #[.int .u8 tos, .int .u16 id_, .bool df, .int .u8 ttl, .int .u8 proto, .int .u32 src, .int .u32 dst, .slice A n c]), .slice A' n' c'] w (NoneIs 3 w) := by
  have Hb := Lib.hid ((Below.refl w.heap.size w).alloc (Nat.le_refl _) (.cells #[.int .u8 tos, .int .u16 id_, .bool df, .int .u8 ttl, .int .u8 proto, .int .u32 src, .int .u32 dst, .slice A n c] 26))
  have Hblk := Lib.hid (heap_alloc_new w (.cells #[.int .u8 tos, .int .u16 id_, .bool df, .int .u8 ttl, .int .u8 proto, .int .u32 src, .int .u32 dst, .slice A n c] 26))
  have Hm := Lib.hid hm
  have hli : 1500 < 20 + (n : Int) + (n' : Int) := by omega
  clear hm hl
  go_enter Tryz.func22, Tryz.ntmps22
  go_wp2_with fail
  refine (may_any tos id_ ttl proto src dst df A n c _).mono ?_
  rw [Hm.out]
  rintro e w1 ⟨rfl, hb⟩
  have Hb := Lib.hid (below_trans Hb.out hb)
  have Hblk := Lib.hid (blk_on Hblk.out hb)
  have hc := blk_cell Hblk.out 7
  simp at hc
  clear hb
  go_wp2_with fail
  go_ret2
  exact ⟨rfl, Hb.out⟩

theorem put_ok (tos id_ ttl proto src dst : Int) (df : Bool) (A A' : Option Addr) (n c n' c' : Nat) (opts payload : List Int) (w : World)
    (h0 : 0 ≤ tos ∧ tos < 256) (h1 : 0 ≤ id_ ∧ id_ < 65536) (h2 : 0 ≤ ttl ∧ ttl < 256) (h3 : 0 ≤ proto ∧ proto < 256) (h4 : 0 ≤ src ∧ src < 4294967296) (h5 : 0 ≤ dst ∧ dst < 4294967296)
    (hm : mayB ttl n = true) (hn : n ≤ 40) (hc : n ≤ c ∧ c ≤ maxLen) (hc' : n' ≤ c' ∧ c' ≤ maxLen) (hl : 20 + n + n' ≤ 1500) (h : Rd w A n opts) (h' : Rd w A' n' payload) :
    Calls Tryz.prog 22 #[(.agg #[.int .u8 tos, .int .u16 id_, .bool df, .int .u8 ttl, .int .u8 proto, .int .u32 src, .int .u32 dst, .slice A n c]), .slice A' n' c'] w (RowOk (20 + n + n') (packetL tos id_ df ttl proto src dst opts payload) w) := by
  have Hb := Lib.hid ((Below.refl w.heap.size w).alloc (Nat.le_refl _) (.cells #[.int .u8 tos, .int .u16 id_, .bool df, .int .u8 ttl, .int .u8 proto, .int .u32 src, .int .u32 dst, .slice A n c] 26))
  have Hblk := Lib.hid (heap_alloc_new w (.cells #[.int .u8 tos, .int .u16 id_, .bool df, .int .u8 ttl, .int .u8 proto, .int .u32 src, .int .u32 dst, .slice A n c] 26))
  have Hm := Lib.hid hm
  have hli : 20 + (n : Int) + (n' : Int) ≤ 1500 := by omega
  have hlw : 0 ≤ 20 + (n : Int) + (n' : Int) ∧ 20 + (n : Int) + (n' : Int) < 65536 := by omega
  have Ho := Lib.hid h
  have Hp := Lib.hid h'
  have Hlo := Lib.hid h.len
  have Hlp := Lib.hid h'.len
  have hA := Lib.hid (aheadL_bytes (df := df) h0 h1 h2 h3 hn hlw)
  have hB := Lib.hid (behindL_bytes h4 h5 h.byte)
  clear hm hl h h'
  go_enter Tryz.func22, Tryz.ntmps22
  go_wp2_with fail
  refine (may_any tos id_ ttl proto src dst df A n c _).mono ?_
  rw [Hm.out]
  rintro e w1 ⟨rfl, hb⟩
  have Hb := Lib.hid (below_trans Hb.out hb)
  have Hblk := Lib.hid (blk_on Hblk.out hb)
  have hc7 := blk_cell Hblk.out 7
  have hc0 := blk_cell Hblk.out 0
  have hc1 := blk_cell Hblk.out 1
  have hc2 := blk_cell Hblk.out 2
  have hc3 := blk_cell Hblk.out 3
  have hc4 := blk_cell Hblk.out 4
  have hc5 := blk_cell Hblk.out 5
  have hc6 := blk_cell Hblk.out 6
  simp at hc0 hc1 hc2 hc3 hc4 hc5 hc6 hc7
  have Ho := Lib.hid (Ho.out.below Hb.out)
  have Hp := Lib.hid (Hp.out.below Hb.out)
  clear hb
  go_wp2_with fail
  clear hc0 hc1 hc2 hc3 hc4 hc5 hc6 hc7
  (with_reducible refine (lay_ip tos id_ ttl proto src dst df A n c opts _ _ h0 h1 h2 h3 h4 h5 hn hc hlw Ho.out).mono ?_)
  rintro e w2 ⟨A1, c1, A2, c2, rfl, ho1, ho2, hb⟩
  have Ho1 := Lib.hid (ho1.mono Hb.out.size)
  have Ho2 := Lib.hid (ho2.mono Hb.out.size)
  have hk1 := ho1.cap
  have hk2 := ho2.cap
  have hm1 := ho1.capMax
  have hm2 := ho2.capMax
  have Hp := Lib.hid (Hp.out.below hb)
  have Hb := Lib.hid (below_trans Hb.out hb)
  clear ho1 ho2 hb
  go_wp2_with fail
  have Hal := Lib.hid ((Below.refl w2.heap.size w2).alloc (Nat.le_refl _) (.cells #[.slice A1 10 c1, .slice A2 (8 + n) c2] 24))
  obtain ⟨fd, efd⟩ : ∃ fd, 65535 - sumL ([aheadL tos id_ df ttl proto n (20 + (n : Int) + (n' : Int)), behindL src dst opts] : List (List Int)).flatten = fd := ⟨_, rfl⟩
  have hfd : 0 ≤ fd ∧ fd < 65536 := by have := sumL_bd ([aheadL tos id_ df ttl proto n (20 + (n : Int) + (n' : Int)), behindL src dst opts] : List (List Int)).flatten; omega
  have Efd := Lib.hid efd
  clear efd
  (with_reducible refine (field_told _ 2 2 [aheadL tos id_ df ttl proto n (20 + (n : Int) + (n' : Int)), behindL src dst opts] _ fd (by omega) (RdL.twoW _ _ A1 A2 10 c1 (8 + n) c2 _ _ ⟨hk1, hm1⟩ ⟨hk2, hm2⟩ (Ho1.out.rdB hA.out) (Ho2.out.rdB hB.out)) Efd.out).mono ?_)
  rintro e w3 ⟨rfl, hb⟩
  have hbb := below_trans Hal.out hb
  have Ho1 := Lib.hid (Ho1.out.on hbb)
  have Ho2 := Lib.hid (Ho2.out.on hbb)
  have Hp := Lib.hid (Hp.out.below hbb)
  have Hb := Lib.hid (below_trans Hb.out hbb)
  clear hb hbb Hal
  go_wp2_with fail
  (with_reducible refine (u16_lays_ none 0 2 0 [] fd _ hfd ⟨by omega, by simp [maxLen]⟩ rfl (by omega) (Rd.nil _ _)).mono ?_)
  rintro e w4 ⟨A4, c4, rfl, k4, m4, ho4, hb⟩
  have Ho4 := Lib.hid (ho4.mono Hb.out.size)
  have Ho1 := Lib.hid (Ho1.out.on hb)
  have Ho2 := Lib.hid (Ho2.out.on hb)
  have Hp := Lib.hid (Hp.out.below hb)
  have Hb := Lib.hid (below_trans Hb.out hb)
  have B4 := Lib.hid (show Bytes ([] ++ b16 fd) by simpa using b16_bytes hfd)
  clear hb ho4
  go_wp2_with fail
  have Hal := Lib.hid ((Below.refl w4.heap.size w4).alloc (Nat.le_refl _) (.cells #[.slice A1 10 c1, .slice A4 2 c4, .slice A2 (8 + n) c2, .slice A' n' c'] 24))
  (with_reducible refine (concat_told _ 4 4 (20 + n + n') [aheadL tos id_ df ttl proto n (20 + (n : Int) + (n' : Int)), [] ++ b16 fd, behindL src dst opts, payload] _ (by omega) (RdL.four _ _ A1 A4 A2 A' 10 c1 2 c4 (8 + n) c2 n' c' _ _ _ _ ⟨hk1, hm1⟩ ⟨k4, m4⟩ ⟨hk2, hm2⟩ hc' (Ho1.out.rdB hA.out) (Ho4.out.rdB B4.out) (Ho2.out.rdB hB.out) Hp.out) ?_ (by omega)).mono ?_)
  · have := Hlo.out; have := Hlp.out; simp [behindL_len, aheadL_len, b16]; omega
  rintro e w5 ⟨A5, c5, rfl, k5, m5, ho5, hb⟩
  have Hr := Lib.hid (show RowOk (20 + n + n') (packetL tos id_ df ttl proto src dst opts payload) w (.returned (.tuple #[.slice A5 (20 + n + n') c5, .int .i64 0])) w5 from by
    refine ⟨A5, c5, rfl, k5, m5, ?_, below_trans Hb.out (below_trans Hal.out hb)⟩
    have e1 : packetL tos id_ df ttl proto src dst opts payload = ([aheadL tos id_ df ttl proto n (20 + (n : Int) + (n' : Int)), [] ++ b16 fd, behindL src dst opts, payload] : List (List Int)).flatten := by
      unfold packetL fieldL
      rw [Hlo.out, Hlp.out, ← Efd.out]
      simp
    rw [e1]
    exact ho5.mono (by have := Hb.out.size; simp; omega))
  clear ho5 hb Hal
  go_wp2_with fail
  go_ret2
  exact Hr.out

end Go.Proofs.YtoegfgbalcholaaGreat
