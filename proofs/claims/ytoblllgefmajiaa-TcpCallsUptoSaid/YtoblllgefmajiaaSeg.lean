/-
  Segments (api.Segment): what one holds, one that comes in; culvertref06's Length and Same.
-/
import Derived.Test.YtoblllgefmajiaaTcpLay
import Derived.Test.YtoblllgefmajiaaOptParse
import Derived.Test.YtoblllgefmajiaaOptPut
import Derived.Lib.SmallJoins
namespace Go.Proofs.Ytoblllgefmajiaa
set_option maxRecDepth 10000
open Go.RowKit

/-- A segment, plainly. -/
structure Seg where
  sp : Int
  dp : Int
  sq : Int
  ak : Int
  fl : Int
  wn : Int
  ug : Int
  os : List (Int × List Int)
  d : List Int
/-- Its nine cells, as the model has them. -/
def segC (s : Seg) (AO : Option Addr) (nO cO : Nat) (AD : Option Addr) (nD cD : Nat) : Array Value :=
  #[.int .u16 s.sp, .int .u16 s.dp, .int .u32 s.sq, .int .u32 s.ak, .int .u8 s.fl, .int .u16 s.wn, .int .u16 s.ug, .slice AO nO cO, .slice AD nD cD]
structure SegNum (s : Seg) : Prop where
  sp : 0 ≤ s.sp ∧ s.sp < 65536
  dp : 0 ≤ s.dp ∧ s.dp < 65536
  sq : 0 ≤ s.sq ∧ s.sq < 4294967296
  ak : 0 ≤ s.ak ∧ s.ak < 4294967296
  fl : 0 ≤ s.fl ∧ s.fl < 256
  wn : 0 ≤ s.wn ∧ s.wn < 65536
  ug : 0 ≤ s.ug ∧ s.ug < 65536
/-- A segment's value reads as the segment. -/
structure SegRd (w : World) (s : Seg) (AO : Option Addr) (nO cO : Nat) (oss : List OptV) (AD : Option Addr) (nD cD : Nat) : Prop where
  num : SegNum s
  oc : nO ≤ cO ∧ cO ≤ maxLen
  dc : nD ≤ cD ∧ cD ≤ maxLen
  o : RdO w AO nO oss
  os : Reads w oss s.os
  d : Rd w AD nD s.d
theorem SegRd.below {w w' : World} {s : Seg} {AO : Option Addr} {nO cO : Nat} {oss : List OptV} {AD : Option Addr} {nD cD : Nat} (h : SegRd w s AO nO cO oss AD nD cD) (hb : Below w.heap.size w w') : SegRd w' s AO nO cO oss AD nD cD :=
  ⟨h.num, h.oc, h.dc, h.o.below hb, h.os.below hb, h.d.below hb⟩

def lenS (fl : Int) (nD : Nat) : Int := ((nD : Int) + fl % 2 + fl / 2 % 2) % 4294967296
theorem rlength_any (s : Seg) (AO : Option Addr) (nO cO : Nat) (AD : Option Addr) (nD cD : Nat) (w : World) (hf : 0 ≤ s.fl ∧ s.fl < 256) :
    Calls Try.prog 24 #[.agg #[.int .u16 s.sp, .int .u16 s.dp, .int .u32 s.sq, .int .u32 s.ak, .int .u8 s.fl, .int .u16 s.wn, .int .u16 s.ug, .slice AO nO cO, .slice AD nD cD]] w fun e w' => e = .returned (.int .u32 (lenS s.fl nD)) ∧ Below w.heap.size w w' := by
  obtain ⟨sp, dp, sq, ak, fl, wn, ug, os, d⟩ := s
  simp only at hf ⊢
  have hb : Below w.heap.size w (w.alloc (.cells #[.int .u16 sp, .int .u16 dp, .int .u32 sq, .int .u32 ak, .int .u8 fl, .int .u16 wn, .int .u16 ug, .slice AO nO cO, .slice AD nD cD] 27)) := (Below.refl _ _).alloc (Nat.le_refl _) _
  have Hb := Lib.hid hb
  clear hb
  go_enter Try.func24, Try.ntmps24
  go_wp2_with fail
  go_ret
  refine ⟨ret_int ?_, Hb.out⟩
  unfold lenS
  simp

def segSame (s t : Seg) : Bool := decide (s.sp = t.sp) && decide (s.dp = t.dp) && decide (s.sq = t.sq) && decide (s.ak = t.ak) && decide (s.fl = t.fl) && decide (s.wn = t.wn) && decide (s.ug = t.ug) && decide (s.os = t.os) && decide (s.d = t.d)
set_option maxHeartbeats 1000000 in
theorem rsame6_any (s t : Seg) (AO AO' : Option Addr) (nO cO nO' cO' : Nat) (oss oss' : List OptV) (AD AD' : Option Addr) (nD cD nD' cD' : Nat) (w : World) (hn : nO ≤ 2000000) (h : SegRd w s AO nO cO oss AD nD cD) (h' : SegRd w t AO' nO' cO' oss' AD' nD' cD') :
    Calls Try.prog 19 #[.agg #[.int .u16 s.sp, .int .u16 s.dp, .int .u32 s.sq, .int .u32 s.ak, .int .u8 s.fl, .int .u16 s.wn, .int .u16 s.ug, .slice AO nO cO, .slice AD nD cD], .agg #[.int .u16 t.sp, .int .u16 t.dp, .int .u32 t.sq, .int .u32 t.ak, .int .u8 t.fl, .int .u16 t.wn, .int .u16 t.ug, .slice AO' nO' cO', .slice AD' nD' cD']] w (OptBool (segSame s t) w) := by
  obtain ⟨sp, dp, sq, ak, fl, wn, ug, os, d⟩ := s
  obtain ⟨sp', dp', sq', ak', fl', wn', ug', os', d'⟩ := t
  have hb : Below w.heap.size w ((w.alloc (.cells #[.int .u16 sp, .int .u16 dp, .int .u32 sq, .int .u32 ak, .int .u8 fl, .int .u16 wn, .int .u16 ug, .slice AO nO cO, .slice AD nD cD] 27)).alloc (.cells #[.int .u16 sp', .int .u16 dp', .int .u32 sq', .int .u32 ak', .int .u8 fl', .int .u16 wn', .int .u16 ug', .slice AO' nO' cO', .slice AD' nD' cD'] 27)) := ((Below.refl _ _).alloc (Nat.le_refl _) _).alloc (by simp) _
  have Hs := Lib.hid (rsame_any AO AO' nO cO nO' cO' oss oss' os os' _ (by unfold maxLen; omega) (h.below hb).o (h.below hb).os (h'.below hb).o (h'.below hb).os)
  have hblk1 : ((w.alloc (.cells #[.int .u16 sp, .int .u16 dp, .int .u32 sq, .int .u32 ak, .int .u8 fl, .int .u16 wn, .int .u16 ug, .slice AO nO cO, .slice AD nD cD] 27)).alloc (.cells #[.int .u16 sp', .int .u16 dp', .int .u32 sq', .int .u32 ak', .int .u8 fl', .int .u16 wn', .int .u16 ug', .slice AO' nO' cO', .slice AD' nD' cD'] 27)).heap[w.heap.size]? = some (.cells #[.int .u16 sp, .int .u16 dp, .int .u32 sq, .int .u32 ak, .int .u8 fl, .int .u16 wn, .int .u16 ug, .slice AO nO cO, .slice AD nD cD] 27 (0, 0)) := by rw [Below.heap_alloc _ _ _ (by simp)]; exact heap_alloc_new w _
  have hblk2 : ((w.alloc (.cells #[.int .u16 sp, .int .u16 dp, .int .u32 sq, .int .u32 ak, .int .u8 fl, .int .u16 wn, .int .u16 ug, .slice AO nO cO, .slice AD nD cD] 27)).alloc (.cells #[.int .u16 sp', .int .u16 dp', .int .u32 sq', .int .u32 ak', .int .u8 fl', .int .u16 wn', .int .u16 ug', .slice AO' nO' cO', .slice AD' nD' cD'] 27)).heap[w.heap.size + 1]? = some (.cells #[.int .u16 sp', .int .u16 dp', .int .u32 sq', .int .u32 ak', .int .u8 fl', .int .u16 wn', .int .u16 ug', .slice AO' nO' cO', .slice AD' nD' cD'] 27 (0, 0)) := by
    have := heap_alloc_new (w.alloc (.cells #[.int .u16 sp, .int .u16 dp, .int .u32 sq, .int .u32 ak, .int .u8 fl, .int .u16 wn, .int .u16 ug, .slice AO nO cO, .slice AD nD cD] 27)) (.cells #[.int .u16 sp', .int .u16 dp', .int .u32 sq', .int .u32 ak', .int .u8 fl', .int .u16 wn', .int .u16 ug', .slice AO' nO' cO', .slice AD' nD' cD'] 27)
    simpa using this
  have Hk1 := Lib.hid hblk1
  have Hk2 := Lib.hid hblk2
  clear hblk1 hblk2
  have Hd := Lib.hid (h.below hb).d
  have Hd' := Lib.hid (h'.below hb).d
  have Hb := Lib.hid hb
  clear h h' hb
  simp only
  by_cases hx : sp = sp'
  · subst hx
    by_cases hx : dp = dp'
    · subst hx
      by_cases hx : sq = sq'
      · subst hx
        by_cases hx : ak = ak'
        · subst hx
          by_cases hx : fl = fl'
          · subst hx
            by_cases hx : wn = wn'
            · subst hx
              by_cases hx : ug = ug'
              · subst hx
                go_enter Try.func19, Try.ntmps19
                go_wp2_with fail
                refine Hs.out.mono ?_
                rintro e w2 ⟨rfl, hb2⟩
                have Hb2 := Lib.hid (Hb.out.trans (hb2.mono Hb.out.size))
                by_cases hx : os = os'
                · subst hx
                  rw [decide_eq_true rfl]
                  have c8 := blk_cell (blk_on Hk1.out hb2) 8
                  have c8' := blk_cell (blk_on Hk2.out hb2) 8
                  have q1 := conv_rd (Hd.out.below hb2) cD
                  have q2 := conv_rd (Hd'.out.below hb2) cD'
                  have Hse := Lib.hid (strs_eq_ d d' Hd.out.byte Hd'.out.byte)
                  have Hx := Lib.hid (show segSame ⟨sp, dp, sq, ak, fl, wn, ug, os, d⟩ ⟨sp, dp, sq, ak, fl, wn, ug, os, d'⟩ = decide (d = d') by unfold segSame; simp)
                  clear hb2
                  go_wp2_with fail
                  go_ret
                  exact ⟨by rw [Hx.out, ← Hse.out]; rfl, Hb2.out⟩
                · rw [decide_eq_false hx]
                  have Hx := Lib.hid (show segSame ⟨sp, dp, sq, ak, fl, wn, ug, os, d⟩ ⟨sp, dp, sq, ak, fl, wn, ug, os', d'⟩ = false by unfold segSame; simp [hx])
                  clear hx hb2
                  go_wp2_with fail
                  go_ret
                  exact ⟨by rw [Hx.out]; rfl, Hb2.out⟩
              · skip
                have hne : (ug == ug') = false := by simpa using hx
                have Hx := Lib.hid (show segSame ⟨sp, dp, sq, ak, fl, wn, ug, os, d⟩ ⟨sp, dp, sq, ak, fl, wn, ug', os', d'⟩ = false by unfold segSame; simp [hx])
                clear hx
                go_enter Try.func19, Try.ntmps19
                go_wp2_with fail
                go_ret
                exact ⟨by rw [Hx.out]; rfl, Hb.out⟩
            · skip
              have hne : (wn == wn') = false := by simpa using hx
              have Hx := Lib.hid (show segSame ⟨sp, dp, sq, ak, fl, wn, ug, os, d⟩ ⟨sp, dp, sq, ak, fl, wn', ug', os', d'⟩ = false by unfold segSame; simp [hx])
              clear hx
              go_enter Try.func19, Try.ntmps19
              go_wp2_with fail
              go_ret
              exact ⟨by rw [Hx.out]; rfl, Hb.out⟩
          · skip
            have hne : (fl == fl') = false := by simpa using hx
            have Hx := Lib.hid (show segSame ⟨sp, dp, sq, ak, fl, wn, ug, os, d⟩ ⟨sp, dp, sq, ak, fl', wn', ug', os', d'⟩ = false by unfold segSame; simp [hx])
            clear hx
            go_enter Try.func19, Try.ntmps19
            go_wp2_with fail
            go_ret
            exact ⟨by rw [Hx.out]; rfl, Hb.out⟩
        · skip
          have hne : (ak == ak') = false := by simpa using hx
          have Hx := Lib.hid (show segSame ⟨sp, dp, sq, ak, fl, wn, ug, os, d⟩ ⟨sp, dp, sq, ak', fl', wn', ug', os', d'⟩ = false by unfold segSame; simp [hx])
          clear hx
          go_enter Try.func19, Try.ntmps19
          go_wp2_with fail
          go_ret
          exact ⟨by rw [Hx.out]; rfl, Hb.out⟩
      · skip
        have hne : (sq == sq') = false := by simpa using hx
        have Hx := Lib.hid (show segSame ⟨sp, dp, sq, ak, fl, wn, ug, os, d⟩ ⟨sp, dp, sq', ak', fl', wn', ug', os', d'⟩ = false by unfold segSame; simp [hx])
        clear hx
        go_enter Try.func19, Try.ntmps19
        go_wp2_with fail
        go_ret
        exact ⟨by rw [Hx.out]; rfl, Hb.out⟩
    · skip
      have hne : (dp == dp') = false := by simpa using hx
      have Hx := Lib.hid (show segSame ⟨sp, dp, sq, ak, fl, wn, ug, os, d⟩ ⟨sp, dp', sq', ak', fl', wn', ug', os', d'⟩ = false by unfold segSame; simp [hx])
      clear hx
      go_enter Try.func19, Try.ntmps19
      go_wp2_with fail
      go_ret
      exact ⟨by rw [Hx.out]; rfl, Hb.out⟩
  · skip
    have hne : (sp == sp') = false := by simpa using hx
    have Hx := Lib.hid (show segSame ⟨sp, dp, sq, ak, fl, wn, ug, os, d⟩ ⟨sp', dp', sq', ak', fl', wn', ug', os', d'⟩ = false by unfold segSame; simp [hx])
    clear hx
    go_enter Try.func19, Try.ntmps19
    go_wp2_with fail
    go_ret
    exact ⟨by rw [Hx.out]; rfl, Hb.out⟩
end Go.Proofs.Ytoblllgefmajiaa
