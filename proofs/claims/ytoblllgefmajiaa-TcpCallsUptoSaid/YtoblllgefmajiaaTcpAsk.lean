/-
  The contracts of package tcp's options, May, Length, Same.
-/
import Derived.Test.YtoblllgefmajiaaSegPut
import Derived.Test.YtoblllgefmajiaaOptsPut
import Derived.Test.YtoblllgefmajiaaOptSame
namespace Go.Proofs.Ytoblllgefmajiaa
set_option maxRecDepth 10000
open Go.RowKit
set_option linter.unusedSimpArgs false

theorem and8_bit (i : Nat) (hi : i < 8) (x : Int) (h : 0 ≤ x ∧ x < 256) : bits .and .u8 x (2 ^ i) = x / 2 ^ i % 2 * 2 ^ i := by
  obtain ⟨a, rfl⟩ := Int.eq_ofNat_of_zero_le h.1
  have hp : 2 ^ i < 2 ^ 8 := Nat.pow_lt_pow_right (by omega) hi
  have w8 : ∀ (n : Int) (_ : 0 ≤ n) (_ : n < 2 ^ 8), IntKind.u8.wrap n = n := fun n h0 h1 => by simp [IntKind.wrap, IntKind.bits, IntKind.signed]; omega
  have := (bits_nat .u8 8 (by decide) w8 a (2 ^ i) (by omega) hp).1
  rw [show ((2 : Int) ^ i) = ((2 ^ i : Nat) : Int) by simp, this, nat_and_pow]
  simp

/-- What options tells of a segment. -/
def OptionsIs (s : Seg) (w : World) (e : Ending) (w' : World) : Prop :=
  if s.os.any badB = true then e = .returned (.tuple #[.slice Option.none 0 0, .int .i64 1]) ∧ Below w.heap.size w w'
  else if 40 < (bytesO s.os).length then e = .returned (.tuple #[.slice Option.none 0 0, .int .i64 3]) ∧ Below w.heap.size w w'
  else if 1480 < lenB s then e = .returned (.tuple #[.slice Option.none 0 0, .int .i64 3]) ∧ Below w.heap.size w w'
  else ∃ A c, e = .returned (.tuple #[.slice A (optB s).length c, .int .i64 0]) ∧ OwnB w' w.heap.size A (optB s).length c (optB s) ∧ Below w.heap.size w w'

theorem options_any (s : Seg) (AO : Option Addr) (nO cO : Nat) (oss : List OptV) (AD : Option Addr) (nD cD : Nat) (w : World) (hn : nO ≤ 140737488355328) (hd : nD ≤ 140737488355328) (h : SegRd w s AO nO cO oss AD nD cD) :
    Calls Try.prog 42 #[.agg #[.int .u16 s.sp, .int .u16 s.dp, .int .u32 s.sq, .int .u32 s.ak, .int .u8 s.fl, .int .u16 s.wn, .int .u16 s.ug, .slice AO nO cO, .slice AD nD cD]] w (OptionsIs s w) := by
  obtain ⟨sp, dp, sq, ak, fl, wn, ug, os, d⟩ := s
  simp only
  have hba : Below w.heap.size w (w.alloc (.cells #[.int .u16 sp, .int .u16 dp, .int .u32 sq, .int .u32 ak, .int .u8 fl, .int .u16 wn, .int .u16 ug, .slice AO nO cO, .slice AD nD cD] 27)) := (Below.refl _ _).alloc (Nat.le_refl _) _
  have Hput := Lib.hid (put_any AO nO cO oss os _ hn (h.below hba).o (h.below hba).os)
  have hblk := heap_alloc_new w (.cells #[.int .u16 sp, .int .u16 dp, .int .u32 sq, .int .u32 ak, .int .u8 fl, .int .u16 wn, .int .u16 ug, .slice AO nO cO, .slice AD nD cD] 27)
  obtain ⟨z, hz⟩ : ∃ z, w.heap.size = z := ⟨_, rfl⟩
  rw [hz] at hblk
  have Hblk := Lib.hid hblk
  have Hba := Lib.hid hba
  have Hdl := Lib.hid h.d.len
  simp only at Hdl
  clear h hba hblk
  go_enter Try.func42, Try.ntmps42
  go_wp2_with fail
  refine Hput.out.mono ?_
  intro e w1 hp
  unfold PutO at hp
  by_cases hany : os.any badB = true
  · rw [if_pos hany] at hp
    obtain ⟨rfl, hb1⟩ := hp
    have Hb1 := Lib.hid (below_trans Hba.out hb1)
    have Hany := Lib.hid hany
    clear hany hb1
    go_wp2_with fail
    go_ret2
    unfold OptionsIs
    rw [if_pos Hany.out]
    exact ⟨rfl, Hb1.out⟩
  · rw [if_neg hany] at hp
    have Hany := Lib.hid hany
    by_cases hlong : 40 < (bytesO os).length
    · rw [if_pos hlong] at hp
      obtain ⟨rfl, hb1⟩ := hp
      have Hb1 := Lib.hid (below_trans Hba.out hb1)
      have Hlong := Lib.hid hlong
      clear hlong hb1 hany
      go_wp2_with fail
      go_ret2
      unfold OptionsIs
      rw [if_neg Hany.out, if_pos Hlong.out]
      exact ⟨rfl, Hb1.out⟩
    · rw [if_neg hlong] at hp
      have Hlong := Lib.hid hlong
      obtain ⟨Y, eY⟩ : ∃ Y, padTo4 (bytesO os) = Y := ⟨_, rfl⟩
      obtain ⟨YN, eYN⟩ : ∃ YN, Y.length = YN := ⟨_, rfl⟩
      have hpl := padTo4_len (bytesO os)
      rw [eY, eYN] at hpl
      rw [eY, eYN] at hp
      obtain ⟨A1, c1, rfl, ho1, hb1⟩ := hp
      have hYN : YN ≤ 40 ∧ YN % 4 = 0 := by omega
      have Hb1 := Lib.hid (below_trans Hba.out hb1)
      have hc8 := blk_cell (blk_on Hblk.out hb1) 8
      have Ho1 := Lib.hid ho1
      have EY := Lib.hid eY
      have EYN := Lib.hid eYN
      have hw1 : IntKind.i64.wrap (20 + (YN : Int)) = 20 + (YN : Int) := IntWalk.i64_in _ (by omega)
      have hw2 : IntKind.i64.wrap (20 + (YN : Int) + (nD : Int)) = 20 + (YN : Int) + (nD : Int) := IntWalk.i64_in _ (by omega)
      clear hb1 ho1 eY eYN hany hlong hpl
      by_cases hmost : 1480 < 20 + YN + nD
      · have hm : 1480 < 20 + (YN : Int) + (nD : Int) := by omega
        go_wp2_with fail
        go_ret2
        unfold OptionsIs
        rw [if_neg Hany.out, if_neg Hlong.out, if_pos (by unfold lenB optB; simp only [EY.out, EYN.out, Hdl.out]; omega)]
        exact ⟨rfl, Hb1.out⟩
      · have hm : 20 + (YN : Int) + (nD : Int) ≤ 1480 := by omega
        go_wp2_with fail
        go_ret2
        unfold OptionsIs
        rw [if_neg Hany.out, if_neg Hlong.out, if_neg (by unfold lenB optB; simp only [EY.out, EYN.out, Hdl.out]; omega)]
        refine ⟨A1, c1, ?_, ?_, Hb1.out⟩
        · unfold optB; simp only [EY.out, EYN.out]; rfl
        · unfold optB; simp only [EY.out, EYN.out]; exact Ho1.out.mono Hba.out.size

/-- Whether a segment may be. -/
def mayT (s : Seg) : Bool := !s.os.any badB && decide ((bytesO s.os).length ≤ 40) && decide (lenB s ≤ 1480)
/-- options, told by what may be: the error, or the options' bytes. -/
def errS (s : Seg) : Int := if s.os.any badB = true then 1 else if 40 < (bytesO s.os).length then 3 else if 1480 < lenB s then 3 else 0
theorem errS_zero (s : Seg) : errS s = 0 ↔ mayT s = true := by
  unfold errS mayT
  by_cases h1 : s.os.any badB = true
  · simp [h1]
  · by_cases h2 : 40 < (bytesO s.os).length
    · simp [h1, h2]; intro h; omega
    · have h2' : (bytesO s.os).length ≤ 40 := by omega
      have h1' : s.os.any badB = false := by simpa using h1
      by_cases h3 : 1480 < lenB s
      · simp [h1', h2, h2', h3]
      · have h3' : lenB s ≤ 1480 := by omega
        simp [h1', h2, h2', h3, h3']
theorem options_bad {s : Seg} {w w' : World} {e : Ending} (h : OptionsIs s w e w') (h0 : errS s ≠ 0) : e = .returned (.tuple #[.slice Option.none 0 0, .int .i64 (errS s)]) ∧ Below w.heap.size w w' := by
  unfold OptionsIs at h
  unfold errS at h0 ⊢
  by_cases h1 : s.os.any badB = true
  · rw [if_pos h1] at h ⊢; exact h
  · rw [if_neg h1] at h h0 ⊢
    by_cases h2 : 40 < (bytesO s.os).length
    · rw [if_pos h2] at h ⊢; exact h
    · rw [if_neg h2] at h h0 ⊢
      by_cases h3 : 1480 < lenB s
      · rw [if_pos h3] at h ⊢; exact h
      · rw [if_neg h3] at h0; exact absurd rfl h0
theorem options_good {s : Seg} {w w' : World} {e : Ending} (h : OptionsIs s w e w') (h0 : errS s = 0) : ∃ A c, e = .returned (.tuple #[.slice A (optB s).length c, .int .i64 0]) ∧ OwnB w' w.heap.size A (optB s).length c (optB s) ∧ Below w.heap.size w w' := by
  unfold OptionsIs at h
  unfold errS at h0
  by_cases h1 : s.os.any badB = true
  · rw [if_pos h1] at h0; omega
  · rw [if_neg h1] at h h0
    by_cases h2 : 40 < (bytesO s.os).length
    · rw [if_pos h2] at h0; omega
    · rw [if_neg h2] at h h0
      by_cases h3 : 1480 < lenB s
      · rw [if_pos h3] at h0; omega
      · rw [if_neg h3] at h; exact h

theorem may_seg (s : Seg) (AO : Option Addr) (nO cO : Nat) (oss : List OptV) (AD : Option Addr) (nD cD : Nat) (w : World) (hn : nO ≤ 140737488355328) (hd : nD ≤ 140737488355328) (h : SegRd w s AO nO cO oss AD nD cD) :
    Calls Try.prog 20 #[.agg #[.int .u16 s.sp, .int .u16 s.dp, .int .u32 s.sq, .int .u32 s.ak, .int .u8 s.fl, .int .u16 s.wn, .int .u16 s.ug, .slice AO nO cO, .slice AD nD cD]] w (OptBool (mayT s) w) := by
  have hba : Below w.heap.size w (w.alloc (.cells #[.int .u16 s.sp, .int .u16 s.dp, .int .u32 s.sq, .int .u32 s.ak, .int .u8 s.fl, .int .u16 s.wn, .int .u16 s.ug, .slice AO nO cO, .slice AD nD cD] 27)) := (Below.refl _ _).alloc (Nat.le_refl _) _
  have Ho := Lib.hid (options_any s AO nO cO oss AD nD cD _ hn hd (h.below hba))
  have Hba := Lib.hid hba
  clear h hba
  obtain ⟨sp, dp, sq, ak, fl, wn, ug, os, d⟩ := s
  simp only at Ho Hba ⊢
  go_enter Try.func20, Try.ntmps20
  go_wp2_with fail
  refine Ho.out.mono ?_
  intro e w1 ho
  obtain ⟨s, es⟩ : ∃ s : Seg, Seg.mk sp dp sq ak fl wn ug os d = s := ⟨_, rfl⟩
  rw [es] at ho
  have Es := Lib.hid es
  by_cases h0 : errS s = 0
  · obtain ⟨A1, c1, rfl, -, hb1⟩ := options_good ho h0
    have Hm := Lib.hid ((errS_zero s).1 h0)
    have Hb1 := Lib.hid (below_trans Hba.out hb1)
    clear ho h0 hb1 es
    go_wp2_with fail
    go_ret
    exact ⟨by rw [Es.out, Hm.out]; rfl, Hb1.out⟩
  · obtain ⟨rfl, hb1⟩ := options_bad ho h0
    have Hm := Lib.hid (show mayT s = false by have := (errS_zero s).2; cases hm : mayT s; rfl; exact absurd (this hm) h0)
    have Hb1 := Lib.hid (below_trans Hba.out hb1)
    have h0b : (errS s == 0) = false := by simpa using h0
    clear ho h0 hb1 es
    go_wp2_with fail
    go_ret
    exact ⟨by rw [Es.out, Hm.out]; rfl, Hb1.out⟩

theorem length_any (s : Seg) (AO : Option Addr) (nO cO : Nat) (AD : Option Addr) (nD cD : Nat) (w : World) (hf : 0 ≤ s.fl ∧ s.fl < 256) :
    Calls Try.prog 23 #[.agg #[.int .u16 s.sp, .int .u16 s.dp, .int .u32 s.sq, .int .u32 s.ak, .int .u8 s.fl, .int .u16 s.wn, .int .u16 s.ug, .slice AO nO cO, .slice AD nD cD]] w fun e w' => e = .returned (.int .u32 (lenS s.fl nD)) ∧ Below w.heap.size w w' := by
  obtain ⟨sp, dp, sq, ak, fl, wn, ug, os, d⟩ := s
  simp only at hf ⊢
  have hb : Below w.heap.size w (w.alloc (.cells #[.int .u16 sp, .int .u16 dp, .int .u32 sq, .int .u32 ak, .int .u8 fl, .int .u16 wn, .int .u16 ug, .slice AO nO cO, .slice AD nD cD] 27)) := (Below.refl _ _).alloc (Nat.le_refl _) _
  have Hb := Lib.hid hb
  have h1 := and8_bit 1 (by omega) fl hf
  have h2 := and8_bit 0 (by omega) fl hf
  simp at h1 h2
  have q1 : fl / 2 % 2 = 0 ∨ fl / 2 % 2 = 1 := by omega
  have q2 : fl % 2 = 0 ∨ fl % 2 = 1 := by omega
  have fin : ∀ x y : Int, x = y → (Ending.returned (.int .u32 x) = .returned (.int .u32 y) ∧ Below w.heap.size w (w.alloc (.cells #[.int .u16 sp, .int .u16 dp, .int .u32 sq, .int .u32 ak, .int .u8 fl, .int .u16 wn, .int .u16 ug, .slice AO nO cO, .slice AD nD cD] 27))) := fun x y e => ⟨ret_int e, Hb.out⟩
  have Fin := Lib.hid fin
  clear hb fin
  rcases q1 with q1 | q1 <;> rcases q2 with q2 | q2
  all_goals
    rw [q1] at h1
    rw [q2] at h2
    have Q1 := Lib.hid q1
    have Q2 := Lib.hid q2
    clear q1 q2
    go_enter Try.func23, Try.ntmps23
    go_wp2_with fail
    go_ret
    refine Fin.out _ _ ?_
    unfold lenS
    rw [Q1.out, Q2.out]
    try simp [IntKind.wrap, IntKind.bits, IntKind.signed]
    try omega

set_option maxHeartbeats 1000000 in
theorem same6_any (s t : Seg) (AO AO' : Option Addr) (nO cO nO' cO' : Nat) (oss oss' : List OptV) (AD AD' : Option Addr) (nD cD nD' cD' : Nat) (w : World) (hn : nO ≤ 2000000) (h : SegRd w s AO nO cO oss AD nD cD) (h' : SegRd w t AO' nO' cO' oss' AD' nD' cD') :
    Calls Try.prog 22 #[.agg #[.int .u16 s.sp, .int .u16 s.dp, .int .u32 s.sq, .int .u32 s.ak, .int .u8 s.fl, .int .u16 s.wn, .int .u16 s.ug, .slice AO nO cO, .slice AD nD cD], .agg #[.int .u16 t.sp, .int .u16 t.dp, .int .u32 t.sq, .int .u32 t.ak, .int .u8 t.fl, .int .u16 t.wn, .int .u16 t.ug, .slice AO' nO' cO', .slice AD' nD' cD']] w (OptBool (segSame s t) w) := by
  obtain ⟨sp, dp, sq, ak, fl, wn, ug, os, d⟩ := s
  obtain ⟨sp', dp', sq', ak', fl', wn', ug', os', d'⟩ := t
  have hb : Below w.heap.size w ((w.alloc (.cells #[.int .u16 sp, .int .u16 dp, .int .u32 sq, .int .u32 ak, .int .u8 fl, .int .u16 wn, .int .u16 ug, .slice AO nO cO, .slice AD nD cD] 27)).alloc (.cells #[.int .u16 sp', .int .u16 dp', .int .u32 sq', .int .u32 ak', .int .u8 fl', .int .u16 wn', .int .u16 ug', .slice AO' nO' cO', .slice AD' nD' cD'] 27)) := ((Below.refl _ _).alloc (Nat.le_refl _) _).alloc (by simp) _
  have Hs := Lib.hid (same_any AO AO' nO cO nO' cO' oss oss' os os' _ (by omega) (h.below hb).o (h.below hb).os (h'.below hb).o (h'.below hb).os)
  have hblk1 : ((w.alloc (.cells #[.int .u16 sp, .int .u16 dp, .int .u32 sq, .int .u32 ak, .int .u8 fl, .int .u16 wn, .int .u16 ug, .slice AO nO cO, .slice AD nD cD] 27)).alloc (.cells #[.int .u16 sp', .int .u16 dp', .int .u32 sq', .int .u32 ak', .int .u8 fl', .int .u16 wn', .int .u16 ug', .slice AO' nO' cO', .slice AD' nD' cD'] 27)).heap[w.heap.size]? = some (.cells #[.int .u16 sp, .int .u16 dp, .int .u32 sq, .int .u32 ak, .int .u8 fl, .int .u16 wn, .int .u16 ug, .slice AO nO cO, .slice AD nD cD] 27 (0, 0)) := by rw [Below.heap_alloc _ _ _ (by simp)]; exact heap_alloc_new w _
  have hblk2 : ((w.alloc (.cells #[.int .u16 sp, .int .u16 dp, .int .u32 sq, .int .u32 ak, .int .u8 fl, .int .u16 wn, .int .u16 ug, .slice AO nO cO, .slice AD nD cD] 27)).alloc (.cells #[.int .u16 sp', .int .u16 dp', .int .u32 sq', .int .u32 ak', .int .u8 fl', .int .u16 wn', .int .u16 ug', .slice AO' nO' cO', .slice AD' nD' cD'] 27)).heap[w.heap.size + 1]? = some (.cells #[.int .u16 sp', .int .u16 dp', .int .u32 sq', .int .u32 ak', .int .u8 fl', .int .u16 wn', .int .u16 ug', .slice AO' nO' cO', .slice AD' nD' cD'] 27 (0, 0)) := by
    have := heap_alloc_new (w.alloc (.cells #[.int .u16 sp, .int .u16 dp, .int .u32 sq, .int .u32 ak, .int .u8 fl, .int .u16 wn, .int .u16 ug, .slice AO nO cO, .slice AD nD cD] 27)) (.cells #[.int .u16 sp', .int .u16 dp', .int .u32 sq', .int .u32 ak', .int .u8 fl', .int .u16 wn', .int .u16 ug', .slice AO' nO' cO', .slice AD' nD' cD'] 27)
    simpa using this
  have Hk1 := Lib.hid hblk1
  have Hk2 := Lib.hid hblk2
  clear hblk1 hblk2
  have Hd := Lib.hid (h.below hb).d
  have Hd' := Lib.hid (h'.below hb).d
  have Hb := Lib.hid hb
  clear h h' hb
  simp only
  by_cases hx : sp = sp'
  · subst hx
    by_cases hx : dp = dp'
    · subst hx
      by_cases hx : sq = sq'
      · subst hx
        by_cases hx : ak = ak'
        · subst hx
          by_cases hx : fl = fl'
          · subst hx
            by_cases hx : wn = wn'
            · subst hx
              by_cases hx : ug = ug'
              · subst hx
                go_enter Try.func22, Try.ntmps22
                go_wp2_with fail
                refine Hs.out.mono ?_
                rintro e w2 ⟨rfl, hb2⟩
                have Hb2 := Lib.hid (Hb.out.trans (hb2.mono Hb.out.size))
                by_cases hx : os = os'
                · subst hx
                  rw [decide_eq_true rfl]
                  have c8 := blk_cell (blk_on Hk1.out hb2) 8
                  have c8' := blk_cell (blk_on Hk2.out hb2) 8
                  have He := Lib.hid (equal_any AD AD' nD nD' cD cD' d d' w2 (Hd.out.below hb2) (Hd'.out.below hb2))
                  have Hx := Lib.hid (show segSame ⟨sp, dp, sq, ak, fl, wn, ug, os, d⟩ ⟨sp, dp, sq, ak, fl, wn, ug, os, d'⟩ = decide (d = d') by unfold segSame; simp)
                  clear hb2
                  go_wp2_with fail
                  refine He.out.mono ?_
                  rintro e w3 ⟨rfl, rfl⟩
                  go_wp2_with fail
                  go_ret
                  exact ⟨by rw [Hx.out]; rfl, Hb2.out⟩
                · rw [decide_eq_false hx]
                  have Hx := Lib.hid (show segSame ⟨sp, dp, sq, ak, fl, wn, ug, os, d⟩ ⟨sp, dp, sq, ak, fl, wn, ug, os', d'⟩ = false by unfold segSame; simp [hx])
                  clear hx hb2
                  go_wp2_with fail
                  go_ret
                  exact ⟨by rw [Hx.out]; rfl, Hb2.out⟩
              · skip
                have hne : (ug == ug') = false := by simpa using hx
                have Hx := Lib.hid (show segSame ⟨sp, dp, sq, ak, fl, wn, ug, os, d⟩ ⟨sp, dp, sq, ak, fl, wn, ug', os', d'⟩ = false by unfold segSame; simp [hx])
                clear hx
                go_enter Try.func22, Try.ntmps22
                go_wp2_with fail
                go_ret
                exact ⟨by rw [Hx.out]; rfl, Hb.out⟩
            · skip
              have hne : (wn == wn') = false := by simpa using hx
              have Hx := Lib.hid (show segSame ⟨sp, dp, sq, ak, fl, wn, ug, os, d⟩ ⟨sp, dp, sq, ak, fl, wn', ug', os', d'⟩ = false by unfold segSame; simp [hx])
              clear hx
              go_enter Try.func22, Try.ntmps22
              go_wp2_with fail
              go_ret
              exact ⟨by rw [Hx.out]; rfl, Hb.out⟩
          · skip
            have hne : (fl == fl') = false := by simpa using hx
            have Hx := Lib.hid (show segSame ⟨sp, dp, sq, ak, fl, wn, ug, os, d⟩ ⟨sp, dp, sq, ak, fl', wn', ug', os', d'⟩ = false by unfold segSame; simp [hx])
            clear hx
            go_enter Try.func22, Try.ntmps22
            go_wp2_with fail
            go_ret
            exact ⟨by rw [Hx.out]; rfl, Hb.out⟩
        · skip
          have hne : (ak == ak') = false := by simpa using hx
          have Hx := Lib.hid (show segSame ⟨sp, dp, sq, ak, fl, wn, ug, os, d⟩ ⟨sp, dp, sq, ak', fl', wn', ug', os', d'⟩ = false by unfold segSame; simp [hx])
          clear hx
          go_enter Try.func22, Try.ntmps22
          go_wp2_with fail
          go_ret
          exact ⟨by rw [Hx.out]; rfl, Hb.out⟩
      · skip
        have hne : (sq == sq') = false := by simpa using hx
        have Hx := Lib.hid (show segSame ⟨sp, dp, sq, ak, fl, wn, ug, os, d⟩ ⟨sp, dp, sq', ak', fl', wn', ug', os', d'⟩ = false by unfold segSame; simp [hx])
        clear hx
        go_enter Try.func22, Try.ntmps22
        go_wp2_with fail
        go_ret
        exact ⟨by rw [Hx.out]; rfl, Hb.out⟩
    · skip
      have hne : (dp == dp') = false := by simpa using hx
      have Hx := Lib.hid (show segSame ⟨sp, dp, sq, ak, fl, wn, ug, os, d⟩ ⟨sp, dp', sq', ak', fl', wn', ug', os', d'⟩ = false by unfold segSame; simp [hx])
      clear hx
      go_enter Try.func22, Try.ntmps22
      go_wp2_with fail
      go_ret
      exact ⟨by rw [Hx.out]; rfl, Hb.out⟩
  · skip
    have hne : (sp == sp') = false := by simpa using hx
    have Hx := Lib.hid (show segSame ⟨sp, dp, sq, ak, fl, wn, ug, os, d⟩ ⟨sp', dp', sq', ak', fl', wn', ug', os', d'⟩ = false by unfold segSame; simp [hx])
    clear hx
    go_enter Try.func22, Try.ntmps22
    go_wp2_with fail
    go_ret
    exact ⟨by rw [Hx.out]; rfl, Hb.out⟩
end Go.Proofs.Ytoblllgefmajiaa
