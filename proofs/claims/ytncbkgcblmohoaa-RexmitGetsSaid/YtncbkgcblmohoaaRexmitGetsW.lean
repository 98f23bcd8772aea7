/-
  RexmitGets' walk, over the face.
-/
import Derived.Test.YtncbkgcblmohoaaTk
import Derived.Test.YtncbkgcblmohoaaRxPcsA
import Derived.Test.YtncbkgcblmohoaaRxFitB
import Derived.Test.YtncbkgcblmohoaaRxGetC
import Derived.Test.YtncbkgcblmohoaaRxGetQ
import Derived.Test.YtncbkgcblmohoaaRxOpen
import Derived.Test.YtncbkgcblmohoaaRdSub
import Derived.Test.YtncbkgcblmohoaaSeqNum
import Derived.Deep.DeepCutAuto
import Derived.Deep.LoopGhost
import Derived.Deep.CutRange
namespace Go.Proofs.Ytncbkgcblmohoaa.rexmitGetsW
set_option maxRecDepth 10000
open Go.RowKit
set_option linter.unusedVariables false
set_option linter.unusedSimpArgs false
variable {XAt : XA}

theorem str_eql (x : ByteArray) (W : World) : (binOp .eql 9 (.string x) (.string x)).run Try.prog W = .ok (.bool true) W := by
  go_simp
theorem pcs_apart {w : World} {B : Nat} {v g : Value} {qs : List PQ} (h : PcsX w 54 B v qs) (ho : ∀ b, g.ownBlock = some b → b < B) : ∀ k, blkQ v qs k → ¬ g.ownBlock = some k := by
  rintro k (hk | ⟨q, hq, hk⟩) e
  · have := h.own k hk; have := ho k e; omega
  · have := (own_ltX (h.rows q hq) hk).1; have := ho k e; omega
theorem pcs_lt {w : World} {B : Nat} {v : Value} {qs : List PQ} (h : PcsX w 54 B v qs) : ∀ k, blkQ v qs k → k < w.heap.size := by
  rintro k (hk | ⟨q, hq, hk⟩)
  · exact h.sl.lt hk
  · exact (own_ltX (h.rows q hq) hk).2
/-- What came, one piece's bytes more. -/
theorem got_app (F : XFace XAt) {Z : Nat → Prop} {w4 w : World} {ws : MX} (HM : AtX XAt Z w4 ws w) {A9 : Option Addr} {e c9 : Nat} {l : List Int} (ho : OwnB w w4.heap.size A9 e c9 l) (hz : ∀ b, (Value.slice A9 e c9).ownBlock = some b → Z b) {B : Nat} {v : Value} {qs : List PQ} (hp : PcsX w 54 B v qs) (hap : ∀ k, blkQ v qs k → ¬ (Value.slice A9 e c9).ownBlock = some k) {A2 : Option Addr} {k c2 : Nat} {l2 : List Int} (hr : Rd w A2 k l2) (hs : e + k ≤ 100000) :
    ∃ A10 c10 w10, ∃ Z10 : Nat → Prop, (Builtin.append_ #[37, 37] 37 #[.slice A9 e c9, .slice A2 k c2]).run Try.prog w = .ok (.slice A10 (e + k) c10) w10 ∧ PcsX w10 54 B v qs ∧ OwnB w10 w4.heap.size A10 (e + k) c10 (l ++ l2) ∧ (∀ b, (Value.slice A10 (e + k) c10).ownBlock = some b → Z10 b) ∧ AtX XAt Z10 w4 ws w10 ∧ ∀ j, blkQ v qs j → ¬ (Value.slice A10 (e + k) c10).ownBlock = some j := by
  obtain ⟨A10, c10, w10, hrun, hown, hg, hbel, hat⟩ := app_run w 37 w4.heap.size A9 A2 e c9 k c2 l l2 ho hr (by omega) HM.base.size
  have hB : But (fun b => (Value.slice A9 e c9).ownBlock = some b) w w10 := ⟨hg.os, hg.tape, hg.output, hg.size, fun j hj hn => hg.block j hj (fun e2 => hn e2.symm)⟩
  refine ⟨A10, c10, w10, fun b => Z b ∨ (Value.slice A10 (e + k) c10).ownBlock = some b, hrun, hp.but hB hap, hown, fun b hb => .inr hb, ?_, fun j hj hb => ?_⟩
  · refine HM.more F hB (fun b hb => .inl (hz b hb)) (fun b hb => (own_ltX ho hb).1) (fun b hb => ?_) (fun b hb => .inl (HM.old b hb))
    rcases hb with hb | hb
    · exact ⟨.inl hb, Nat.lt_of_lt_of_le (HM.many.1 b hb) hB.size⟩
    · refine ⟨?_, (own_ltX hown hb).2⟩
      rcases hat with e1 | e1
      · exact .inl (hz b (by rw [← e1]; exact hb))
      · rw [e1] at hb
        injection hb with hb
        exact .inr (Nat.le_of_eq hb)
  · rcases hat with e1 | e1
    · exact hap j hj (by rw [← e1]; exact hb)
    · rw [e1] at hb
      injection hb with hb
      have := pcs_lt hp j hj
      omega
set_option maxHeartbeats 8000000 in
theorem walk (F : XFace XAt) (w : World) (x y r t : Int) (hx : 0 ≤ x ∧ x < 4294967296) (hy : 0 ≤ y ∧ y < 4294967296) (hr : 0 ≤ r ∧ r < 18446744073709551616) (ht : -9223372036854775808 ≤ t ∧ t < 9223372036854775808)
    (A : Option Addr) (N cD : Nat) (l0 : List Int) (hd : RdC w A N cD l0) (AL : Option Addr) (NL cL : Nat) (f : Nat → Bool) (hL : RdBo w AL NL f) (hNL : NL ≤ cL ∧ cL ≤ maxLen) :
    Calls Try.prog 6 #[.agg #[.int .u32 x, .int .u32 y, .int .u64 r, .int .i64 t], .slice A N cD, .slice AL NL cL] w fun e w' => e = .returned (.bool true) ∧ Below w.heap.size w w' := by
  obtain ⟨z, ez⟩ : ∃ z, w.heap.size = z := ⟨_, rfl⟩
  obtain ⟨w1, ew1⟩ : ∃ v, w.alloc (.cells #[.int .u32 x, .int .u32 y, .int .u64 r, .int .i64 t] 25) = v := ⟨_, rfl⟩
  have hb1 : Below w.heap.size w w1 := by rw [← ew1]; exact (Below.refl _ _).alloc (Nat.le_refl _) _
  have hk1 : w1.heap[z]? = some (.cells #[.int .u32 x, .int .u32 y, .int .u64 r, .int .i64 t] 25 (0, 0)) := by rw [← ew1, ← ez]; exact heap_alloc_new w _
  have c0 : w1.cell? ⟨z, 0, none⟩ = some (.int .u32 x) := by rw [blk_cell hk1]; rfl
  have c1 : w1.cell? ⟨z, 1, none⟩ = some (.int .u32 y) := by rw [blk_cell hk1]; rfl
  have c2 : w1.cell? ⟨z, 2, none⟩ = some (.int .u64 r) := by rw [blk_cell hk1]; rfl
  have c3 : w1.cell? ⟨z, 3, none⟩ = some (.int .i64 t) := by rw [blk_cell hk1]; rfl
  have HFit := Lib.hid (fit19_any x y r t w1 ⟨by omega, by omega⟩ ⟨by omega, by omega⟩ ⟨by omega, by omega⟩)
  have hfit := fit_bd y r t
  obtain ⟨y2, ey2⟩ : ∃ v, fitW y = v := ⟨_, rfl⟩
  obtain ⟨r2, er2⟩ : ∃ v, fitR r = v := ⟨_, rfl⟩
  obtain ⟨t2, et2⟩ : ∃ v, fitT t = v := ⟨_, rfl⟩
  rw [ey2, er2, et2] at HFit hfit
  have Hfit := Lib.hid hfit
  have HB1 := Lib.hid hb1
  have HK1 := Lib.hid hk1
  have Ew1 := Lib.hid ew1
  clear hb1 hk1 ew1 hfit ey2 er2 et2
  obtain ⟨n, hmin, hnN, hn6⟩ := min_nat 60 N (by omega)
  obtain ⟨hs1, hsr⟩ := hd.upto n hnN
  obtain ⟨dt, edt⟩ : ∃ d, l0.take n = d := ⟨_, rfl⟩
  rw [edt] at hsr
  have HF := Lib.hid F
  have Hx := Lib.hid hx
  have Hn := Lib.hid (show n ≤ 60 by omega)
  have Hsr := Lib.hid hsr
  have HLo := Lib.hid hL
  have HNL := Lib.hid (show NL ≤ 9223372036854775807 from by have := hNL.1; have := hNL.2; unfold maxLen at this; omega)
  obtain ⟨win, ewin⟩ : ∃ v, 1 + y2 % 9 = v := ⟨_, rfl⟩
  have hwin : 1 ≤ win ∧ win ≤ 9 := by omega
  have hy2 : (1 + y2.tmod 9) % 4294967296 = win := by rw [Int.tmod_eq_emod_of_nonneg (by have := Hfit.out; omega)]; omega
  have Hwin := Lib.hid hwin
  have Ewin := Lib.hid hy2
  clear F hx hy hr ht hd hL hNL hn6 hnN hsr edt ewin hwin hy2
  go_enter Try.func6, Try.ntmps6
  go_upto_region 1 with (fail)
  rw [Ew1.out]
  try rw [ez]
  go_wp2_with fail
  refine HFit.out.mono ?_
  rintro e w2 ⟨rfl, hb2⟩
  have hk2 := blk_on HK1.out hb2
  have HB2 := Lib.hid (below_trans HB1.out hb2)
  have HB2c := Lib.hid hb2
  have d0 : w2.cell? ⟨z, 0, none⟩ = some (.int .u32 x) := by rw [blk_cell hk2]; rfl
  have d1 : w2.cell? ⟨z, 1, none⟩ = some (.int .u32 y) := by rw [blk_cell hk2]; rfl
  have d2 : w2.cell? ⟨z, 2, none⟩ = some (.int .u64 r) := by rw [blk_cell hk2]; rfl
  have d3 : w2.cell? ⟨z, 3, none⟩ = some (.int .i64 t) := by rw [blk_cell hk2]; rfl
  have f0 := blk_free hk2 0
  have f1 := blk_free hk2 1
  have f2 := blk_free hk2 2
  have f3 := blk_free hk2 3
  obtain ⟨w3, ew3⟩ : ∃ v, (((w2.setCell ⟨z, 0, none⟩ (.int .u32 x)).setCell ⟨z, 1, none⟩ (.int .u32 y2)).setCell ⟨z, 2, none⟩ (.int .u64 r2)).setCell ⟨z, 3, none⟩ (.int .i64 t2) = v := ⟨_, rfl⟩
  have hk3 : w3.heap[z]? = some (.cells #[.int .u32 x, .int .u32 y2, .int .u64 r2, .int .i64 t2] 25 (0, 0)) := by
    rw [← ew3]
    simp [World.setCell, Array.getElem?_modify, hk2]
  have hb3 : But (fun k => k = z) w2 w3 := by rw [← ew3]; exact ((((But.refl (fun k => k = z) w2).setCell (p := ⟨z, 0, none⟩) rfl _).setCell (p := ⟨z, 1, none⟩) rfl _).setCell (p := ⟨z, 2, none⟩) rfl _).setCell (p := ⟨z, 3, none⟩) rfl _
  have HB3 := Lib.hid (HB2.out.trans (hb3.below (B := w.heap.size) (fun k hk => by omega) HB2.out.size))
  have HK3 := Lib.hid hk3
  have HB3c := Lib.hid hb3
  have Ew3 := Lib.hid ew3
  clear hk2 hk3 hb2 hb3 ew3 c0 c1 c2 c3
  go_upto_region 2 with (fail)
  try rw [Ew3.out]
  clear d0 d1 d2 d3 f0 f1 f2 f3
  have k1 : w3.cell? ⟨z, 1, none⟩ = some (.int .u32 y2) := by rw [blk_cell HK3.out]; rfl
  have k3 : w3.cell? ⟨z, 3, none⟩ = some (.int .i64 t2) := by rw [blk_cell HK3.out]; rfl
  have f1 := blk_free HK3.out 1
  have f3 := blk_free HK3.out 3
  obtain ⟨w4, ew4⟩ : ∃ v, (w3.setCell ⟨z, 1, none⟩ (.int .u32 win)).setCell ⟨z, 3, none⟩ (.int .i64 10) = v := ⟨_, rfl⟩
  have hk4 : w4.heap[z]? = some (.cells #[.int .u32 x, .int .u32 win, .int .u64 r2, .int .i64 10] 25 (0, 0)) := by
    rw [← ew4]
    simp [World.setCell, Array.getElem?_modify, HK3.out]
  have hb4 : But (fun k => k = z) w3 w4 := by rw [← ew4]; exact ((But.refl (fun k => k = z) w3).setCell (p := ⟨z, 1, none⟩) rfl _).setCell (p := ⟨z, 3, none⟩) rfl _
  have HB4 := Lib.hid (HB3.out.trans (hb4.below (B := w.heap.size) (fun k hk => by omega) HB3.out.size))
  have HK4 := Lib.hid hk4
  have Ew4 := Lib.hid ew4
  clear hk4 hb4 ew4
  go_upto_region 5 with (fail)
  rw [Ewin.out, Ew4.out]
  clear k1 k3 f1 f3 hmin
  have d0 : w4.cell? ⟨z, 0, none⟩ = some (.int .u32 x) := by rw [blk_cell HK4.out]; rfl
  have d1 : w4.cell? ⟨z, 1, none⟩ = some (.int .u32 win) := by rw [blk_cell HK4.out]; rfl
  have d2 : w4.cell? ⟨z, 2, none⟩ = some (.int .u64 r2) := by rw [blk_cell HK4.out]; rfl
  have d3 : w4.cell? ⟨z, 3, none⟩ = some (.int .i64 10) := by rw [blk_cell HK4.out]; rfl
  have hrb : 1 ≤ r2 ∧ r2 ≤ 50 := by have := Hfit.out; omega
  have Hrb := Lib.hid hrb
  go_wp2_with fail
  refine (ynew HF.out _ [] w4 w4 (AtX.start w4) x win r2 10 Hx.out (by have := Hwin.out; unfold u32X; omega) (by have := Hwin.out; unfold badX; omega)).mono ?_
  rintro e w5 ⟨g, rfl, h1, h2⟩
  have HM := Lib.hid h1
  clear h1 h2 d0 d1 d2 d3 hs1
  unfold madeX
  go_wp2_with fail
  refine (awake19_any HF.out w5).mono ?_
  rintro e w6 ⟨rfl, hb⟩
  have h1 := HM.out.below HF.out hb
  have HM := Lib.hid h1
  clear hb h1
  have HB40 := Lib.hid (fun W (hW : Below w4.heap.size w4 W) => (show RdC W A n cD dt from Hsr.out.below (HB4.out.trans (hW.mono HB4.out.size))))
  have HBase := Lib.hid (show ∀ b o, A = some ⟨b, o, none⟩ → 0 < n → b < w4.heap.size from fun b o e h0 => by
    obtain ⟨b2, o2, e2, hlt, _⟩ := Hsr.out.rd.at_ h0
    rw [e] at e2
    injection e2 with e2
    injection e2 with e2
    have := HB4.out.size
    omega)
  have Hdl := Lib.hid (And.intro Hsr.out.rd.len Hsr.out.rd.byte)
  have hgt := gt_new (x := x) (win := win) (r := r2) (data := dt) Hx.out Hwin.out hrb (by have := Hdl.out.1; have := Hn.out; omega) Hdl.out.2
  obtain ⟨s0, es0⟩ : ∃ v, writeS dt 0 (newX x win r2 10) = v := ⟨_, rfl⟩
  rw [es0] at hgt
  have HG0 := Lib.hid hgt
  have Es0 := Lib.hid es0
  clear hgt es0 hrb
  go_wp2_with fail
  refine (ywrite HF.out _ 0 g _ _ [(g, s0)] w4 w6 HM.out rfl 0 A n cD dt s0 0 (by decide) (HB40.out _ HM.out.base).rd (by have := Hn.out; omega) (HB40.out _ HM.out.base).nc (HB40.out _ HM.out.base).cm (fun b o e h0 => HBase.out b o e h0) Es0.out HG0.out.2.1 rfl).mono ?_
  rintro e w7 ⟨rfl, h1, h2⟩
  have HM := Lib.hid h1
  clear h1 h2
  go_wp2_with fail
  go_loopg [9, 10, 11, 12, 64] 4000 (fun gk x9 x10 x11 x12 x64 wr => ∃ (i q c K c9 : Nat) (now : Int) (A9 : Option Addr) (s : XS) (Z : Nat → Prop), Hid (gk + i = 4000) ∧ x64 = .int .i64 (i : Int) ∧ x9 = .slice A9 q c9 ∧ x10 = .int .i64 (K : Int) ∧ x11 = .int .i64 (c : Int) ∧ x12 = .int .u64 now ∧ Hid (q ≤ n ∧ c ≤ 8 ∧ 0 ≤ now ∧ now ≤ 60000 * (i : Int) ∧ s.alarm ≤ now + 60000 ∧ (i = 0 ∨ q = n ∨ s.alarm ≤ now) ∧ i ≤ 1 + 9 * q + c ∧ K ≤ 100 * i) ∧ Hid (GtX s x dt q c win r2) ∧ Hid (OwnB wr w4.heap.size A9 q c9 (dt.take q) ∧ ∀ b, (Value.slice A9 q c9).ownBlock = some b → Z b) ∧ Hid (AtX XAt Z w4 [(g, s)] wr))
  case atStart => exact ⟨0, 0, 0, 0, 0, 0, none, s0, _, Lib.hid (by omega), rfl, rfl, rfl, rfl, rfl, Lib.hid (by have := HG0.out.2.2; omega), Lib.hid HG0.out.1, Lib.hid ⟨by rw [List.take_zero]; exact OwnB.nil _ _, fun b hb => (by cases hb)⟩, HM⟩
  case round =>
    clear HM HG0 Es0
    obtain ⟨i, q, c, K, c9, now, A9, s, Z, hgk, rfl, rfl, rfl, rfl, rfl, HI, HG, HO, HM⟩ := hrel
    obtain ⟨wo, ewo⟩ : ∃ wo, wo = wr := ⟨_, rfl⟩
    subst ewo
    obtain rfl : gk = 4000 - i := by have := hgk.out; omega
    clear hgk
    have i1 : (i : Int) < 4000 := by have := HI.out; have := Hn.out; omega
    by_cases hq : q < n
    · have i2 : ((q : Int) == (n : Int)) = false := by simp; omega
      have i2' : (q == n) = false := by simp; omega
      have hdl := Hdl.out.1
      have hn6 := Hn.out
      have hI := HI.out
      obtain ⟨g1, g2, g3, g4, g5⟩ := HG.out.sends (by omega) (by omega) Hwin.out
      obtain ⟨s1, es1⟩ : ∃ v, sendS 4 s = v := ⟨_, rfl⟩
      obtain ⟨P, eP⟩ : ∃ v, sendL 4 s = v := ⟨_, rfl⟩
      rw [es1] at g1 g2 g5
      rw [eP] at g2 g3
      obtain ⟨s2, xa, is, ld, c2, t1, t2', t3, t4, t5, t6, t7, t8, t9, t10, t11⟩ := g1.round_tick (by omega) (by omega) Hwin.out Hrb.out now (by omega) (by omega) Hdl.out.2
      obtain ⟨m, hm⟩ : ∃ m, ld.length = m := ⟨_, rfl⟩
      have HS := Lib.hid (And.intro es1 (And.intro eP (And.intro g4 (And.intro g3 (show ∀ p ∈ P, PiG x dt q (q + s2.sent) p from fun p hp => (g2 p hp).mono (by omega))))))
      have HT := Lib.hid (And.intro t1 (And.intro t2' (And.intro t3 (And.intro t4 (And.intro t5 hm)))))
      have HG2 := Lib.hid t6
      have HT2 := Lib.hid (show (∀ y ∈ ld, 0 ≤ y ∧ y < 256) ∧ s2.alarm ≤ now + 60000 ∧ (is = true → c2 = c + 1 ∧ xa = numX (x + (q : Int)) ∧ PiG x dt q (q + s2.sent) (xa, ld)) ∧ (is = false → c2 = c ∧ (i = 0)) from ⟨t7, t9, t10, fun e => ⟨(t11 e).1, by have := (t11 e).2; omega⟩⟩)
      have Hnow := Lib.hid (show nowX now from by unfold nowX; omega)
      have Hq := Lib.hid hq
      clear hdl hn6 hI g1 g2 g3 g4 g5 es1 eP t1 t2' t3 t4 t5 t6 t7 t8 t9 t10 t11 hm hq
      go_wp2_with fail
      refine (ysend' (ysend HF.out _ 0 g s [(g, s)] [(g, s1)] w4 wo HM.out rfl 4 s1 P 0 (by decide) HS.out.1 HS.out.2.1 HS.out.2.2.1 rfl)).mono ?_
      rintro e wa ⟨va, qa, Za, rfl, hpa, hqa, h1, h2, h3, h4⟩
      obtain ⟨Aa, ca, rfl⟩ := hpa.sl.form
      have HM := Lib.hid h1
      have Hob := Lib.hid (show ∀ b, (Value.slice A9 q c9).ownBlock = some b → b < wo.heap.size from fun b hb => (own_ltX HO.out.1 hb).2)
      have HO := Lib.hid (show OwnB wa w4.heap.size A9 q c9 (dt.take q) ∧ ∀ b, (Value.slice A9 q c9).ownBlock = some b → Za b from ⟨own_on2 HO.out.1 h2 (fun b hb hn => hn (HO.out.2 b hb)), fun b hb => h3 b (HO.out.2 b hb)⟩)
      have Hqa := Lib.hid hqa
      have HpA := Lib.hid (And.intro hpa h4)
      have HB := Lib.hid (show w4.heap.size ≤ wo.heap.size ∧ wo.heap.size ≤ wa.heap.size from ⟨(‹Hid (AtX XAt Z w4 [(g, s)] wo)›).out.base.size, h2.size⟩)
      clear hpa hqa h1 h2 h3 h4
      go_wp2_with fail
      refine (ytickO (ytick HF.out _ 0 g s1 [(g, s1)] [(g, s2)] w4 wa HM.out rfl 4 now s2 xa is 0 ld (by decide) Hnow.out HT.out.1 HT.out.2.1 HT.out.2.2.1 HT.out.2.2.2.1 HT.out.2.2.2.2.1 rfl) m HT.out.2.2.2.2.2).mono ?_
      rintro e wt ⟨At, ct, Zt, rfl, hown, h1, h2, h3, -⟩
      have HM := Lib.hid h1
      have HO := Lib.hid (show OwnB wt w4.heap.size A9 q c9 (dt.take q) ∧ ∀ b, (Value.slice A9 q c9).ownBlock = some b → Zt b from ⟨own_on2 HO.out.1 h2 (fun b hb hn => hn (HO.out.2 b hb)), fun b hb => h3 b (HO.out.2 b hb)⟩)
      have HpT := Lib.hid (HpA.out.1.but h2 (fun k hk hn => hn (HpA.out.2 k hk)))
      have Hown := Lib.hid (hown.mono HB.out.2)
      have HBt := Lib.hid (Nat.le_trans HB.out.2 h2.size)
      have HZt := Lib.hid (fun k hk => h3 k (HpA.out.2 k hk))
      clear hown h1 h2 h3 HpA
      go_upto_region 16 with (fail)
      obtain ⟨zt, hzt⟩ : ∃ z, wt.heap.size = z := ⟨_, rfl⟩
      obtain ⟨wn, ewn⟩ : ∃ v, wt.alloc (.cells #[.int .u32 xa, .slice At m ct] 54) = v := ⟨_, rfl⟩
      rw [hzt, ewn]
      have hbn : Below wt.heap.size wt wn := by rw [← ewn]; exact (Below.refl _ _).alloc (Nat.le_refl _) _
      have hkn : wn.heap[zt]? = some (.cells #[.int .u32 xa, .slice At m ct] 54 (0, 0)) := by rw [← ewn, ← hzt]; exact heap_alloc_new wt _
      have kn0 : wn.cell? ⟨zt, 0, none⟩ = some (.int .u32 xa) := by rw [blk_cell hkn]; rfl
      have kn1 : wn.cell? ⟨zt, 1, none⟩ = some (.slice At m ct) := by rw [blk_cell hkn]; rfl
      have HMn := Lib.hid (HM.out.below HF.out hbn)
      have HOn := Lib.hid (show OwnB wn w4.heap.size A9 q c9 (dt.take q) ∧ ∀ b, (Value.slice A9 q c9).ownBlock = some b → Zt b from ⟨HO.out.1.on hbn, HO.out.2⟩)
      have hpn := HpT.out.on hbn
      have hon := Hown.out.on hbn
      have hla : qa.length = P.length := told_len Hqa.out
      obtain ⟨A3, c3, w6, hrun, hp3, hb3, ho3⟩ := pcs_app hpn rfl (by have := HS.out.2.2.2.1; omega) (Nat.le_trans HBt.out hbn.size) xa At m ct ld hon
      have hap := pcs_apart hpn Hob.out
      have hap3 := pcs_apart hp3 Hob.out
      have h6 := HMn.out.but HF.out (T := fun b => (Value.slice Aa qa.length ca).ownBlock = some b) hb3 (fun k hk => .inl (HZt.out k (.inl hk))) (fun k hk => Nat.le_trans HB.out.1 (hpn.own k hk))
      have HR := Lib.hid hrun
      have hql : qa.length ≤ 60 := by have := HS.out.2.2.2.1; omega
      have hin : ∀ p ∈ qa, PiG x dt q (q + s2.sent) (toldQ p) := fun p hp => HS.out.2.2.2.2 _ (by rw [← Hqa.out]; exact List.mem_map.2 ⟨p, hp, rfl⟩)
      have H1 := Lib.hid (show PcsX wn 54 wo.heap.size (.slice Aa qa.length ca) qa ∧ (qa.length ≤ 61 ∧ (∀ p ∈ qa, PiG x dt q (q + s2.sent) (toldQ p))) from ⟨hpn, by omega, hin⟩)
      have H2 := Lib.hid (show is = true → PcsX w6 54 wo.heap.size (.slice A3 (qa.length + 1) c3) (qa ++ [⟨xa, At, ct, ld⟩]) ∧ (∀ p ∈ qa ++ [(⟨xa, At, ct, ld⟩ : PQ)], PiG x dt q (q + s2.sent) (toldQ p)) ∧ OwnB w6 w4.heap.size A9 q c9 (dt.take q) ∧ AtX XAt Zt w4 [(g, s2)] w6 from fun e => ⟨hp3, fun p hp => (by
        rcases List.mem_append.1 hp with h | h
        · exact hin p h
        · rw [List.mem_singleton] at h
          subst h
          exact (HT2.out.2.2.1 e).2.2), own_on2 HOn.out.1 hb3 (fun b hb e2 => hap b (.inl e2) hb), h6⟩)
      have Hql := Lib.hid hql
      have hL3 : (qa ++ [(⟨xa, At, ct, ld⟩ : PQ)]).length = qa.length + 1 := by simp
      clear hbn hkn hpn hon hla hrun hp3 hb3 ho3 hap hap3 h6 hql hin ewn
      go_upto_if 89 with (fail)
      go_cut [13] (fun s13 wv => ∃ (A3 : Option Addr) (c3 L : Nat) (qs3 : List PQ) (wx : World), wx = wv ∧ s13 = .slice A3 L c3 ∧ Hid (qs3.length = L) ∧ Hid (PcsX wx 54 wo.heap.size (.slice A3 L c3) qs3) ∧ Hid (qs3.length ≤ 61 ∧ (∀ p ∈ qs3, PiG x dt q (q + s2.sent) (toldQ p)) ∧ (is = true → 0 < L ∧ ∀ p, qs3[L - 1]? = some p → p.seq = numX (x + (q : Int)))) ∧ Hid (OwnB wx w4.heap.size A9 q c9 (dt.take q)) ∧ Hid (AtX XAt Zt w4 [(g, s2)] wx))
      case first =>
        cases is with
        | false =>
          go_wp2_with fail
          go_meet
          case rel => exact ⟨_, _, _, qa, wn, rfl, rfl, Lib.hid rfl, Lib.hid H1.out.1, Lib.hid ⟨H1.out.2.1, H1.out.2.2, fun e => (by cases e)⟩, Lib.hid HOn.out.1, HMn⟩
        | true =>
          go_wp2_with (at_builtin; refine wpList_appX rfl (.tmp 90) (.tmp 92) _ _ rfl rfl _ _ _ w6 rfl rfl HR.out ?_)
          go_meet
          case rel => exact ⟨A3, c3, qa.length + 1, qa ++ [⟨xa, At, ct, ld⟩], w6, rfl, rfl, Lib.hid hL3, Lib.hid (H2.out (by trivial)).1, Lib.hid ⟨by rw [hL3]; have := Hql.out; omega, (H2.out (by trivial)).2.1, fun _ => ⟨Nat.succ_pos _, fun p hp => by
            simp at hp
            rw [← hp]
            exact (HT2.out.2.2.1 (by trivial)).2.1⟩⟩, Lib.hid (H2.out (by trivial)).2.2.1, Lib.hid (H2.out (by trivial)).2.2.2⟩
      case rest =>
        obtain ⟨A3, c3, L, qs3, wx, hwx, rfl, HqL, HP3, HI3, HO3, HM3⟩ := hcut
        subst hwx
        clear kn0 kn1 H1 H2 HR HOn HMn HpT Hown HZt Hql hL3 hzt
        have Hlast := Lib.hid HI3.out.2.2
        have HPi := Lib.hid HI3.out.2.1
        have HLl := Lib.hid (show L ≤ 61 by have := HI3.out.1; have := HqL.out; omega)
        have Hap3 := Lib.hid (pcs_apart HP3.out Hob.out)
        have HOt := Lib.hid (show ∀ b, (Value.slice A9 q c9).ownBlock = some b → Zt b from HO.out.2)
        clear HI3 HO HM Hob
        go_wp2_with fail
        go_loopg [9, 10, 96] L (fun gk x9 x10 x96 wr => ∃ (i2 e K2 c9 : Nat) (A9 : Option Addr) (Z : Nat → Prop), Hid (gk + i2 = L) ∧ x96 = .int .i64 (i2 : Int) ∧ x9 = .slice A9 e c9 ∧ x10 = .int .i64 (K2 : Int) ∧ Hid (q ≤ e ∧ e ≤ q + s2.sent ∧ e ≤ n ∧ K2 ≤ K + i2 ∧ (is = true → c = 8 → i2 = L → q + 1 ≤ e)) ∧ Hid (PcsX wr 54 wo.heap.size (.slice A3 L c3) qs3) ∧ Hid (OwnB wr w4.heap.size A9 e c9 (dt.take e) ∧ ∀ b, (Value.slice A9 e c9).ownBlock = some b → Z b) ∧ Hid (AtX XAt Z w4 [(g, s2)] wr) ∧ Hid (∀ k, blkQ (.slice A3 L c3) qs3 k → ¬ (Value.slice A9 e c9).ownBlock = some k))
        case atStart => exact ⟨0, q, K, c9, A9, Zt, Lib.hid (by omega), rfl, rfl, rfl, Lib.hid (by have := HI.out; have := Hq.out; refine ⟨by omega, by omega, by omega, by omega, fun e1 _ e2 => ?_⟩; have := (Hlast.out e1).1; omega), HP3, Lib.hid ⟨HO3.out, HOt.out⟩, HM3, Hap3⟩
        case round =>
          clear HM3 HO3 HOt Hap3 HP3
          obtain ⟨i2, e, K2, c9, A9, Z, hgk, rfl, rfl, rfl, HE, HP3, HO, HM, Hap⟩ := hrel
          obtain rfl : gk = L - i2 := by have := hgk.out; omega
          have hi2 : i2 ≤ L := by have := hgk.out; omega
          clear hgk
          by_cases hi : i2 < L
          · have i3 : (i2 : Int) < (L : Int) := by omega
            have hiq : i2 < qs3.length := by have := HqL.out; omega
            obtain ⟨pq, epq⟩ : ∃ p, qs3[i2]? = some p := ⟨_, List.getElem?_eq_getElem hiq⟩
            obtain ⟨m5, em5⟩ : ∃ m, pq.data.length = m := ⟨_, rfl⟩
            obtain ⟨o, eo, o1, o2, o3, o4, o5, o6⟩ := piece_at (HPi.out pq (List.mem_of_getElem? epq)) em5 (by have := Hn.out; have := Hdl.out.1; omega) Hdl.out.2
            obtain ⟨b5, p5, hidx, k50, k51, r5⟩ := HP3.out.index epq o5
            have hlast := Hlast.out
            obtain ⟨sq, Aq, cq, d⟩ := pq
            simp only [toldQ] at eo em5 o5 o6 k50 k51 r5
            subst em5
            obtain ⟨m5, em5⟩ : ∃ m, d.length = m := ⟨_, rfl⟩
            rw [em5] at o2 o3 o4 o6 k51 r5
            obtain ⟨zp, hzp⟩ : ∃ z, wr.heap.size = z := ⟨_, rfl⟩
            obtain ⟨wp, ewp⟩ : ∃ v, wr.alloc (.cells #[.int .u32 sq, .slice Aq m5 cq] 54) = v := ⟨_, rfl⟩
            have hbp : Below wr.heap.size wr wp := by rw [← ewp]; exact (Below.refl _ _).alloc (Nat.le_refl _) _
            have hkp : wp.heap[zp]? = some (.cells #[.int .u32 sq, .slice Aq m5 cq] 54 (0, 0)) := by rw [← ewp, ← hzp]; exact heap_alloc_new wr _
            have Hhit := Lib.hid (show is = true → i2 + 1 = L → o = q from fun e1 e2 => by
              obtain ⟨h1, h2⟩ := hlast e1
              have h3 := h2 _ (show qs3[L - 1]? = some _ by rw [show L - 1 = i2 by omega]; exact epq)
              have h3 : sq = numX (x + (q : Int)) := h3
              exact num_inj (by have := Hn.out; have := Hdl.out.1; omega) (by have := Hn.out; have := Hq.out; omega) (eo.trans h3))
            have HPp := Lib.hid (HP3.out.on hbp)
            have HOp := Lib.hid (show OwnB wp w4.heap.size A9 e c9 (dt.take e) ∧ ∀ b, (Value.slice A9 e c9).ownBlock = some b → Z b from ⟨HO.out.1.on hbp, HO.out.2⟩)
            have HMp := Lib.hid (HM.out.below HF.out hbp)
            have Hrp := Lib.hid (r5.below hbp)
            have Hkp := Lib.hid hkp
            have Hpc := Lib.hid (And.intro eo (And.intro o1 (And.intro o2 (And.intro o3 (And.intro o4 (And.intro o5 o6))))))
            have Hi := Lib.hid (And.intro hi hi2)
            have Hlo := Lib.hid (HLo.out.below (HB4.out.trans (HMp.out.base.mono HB4.out.size)))
            have Hmc := Lib.hid (show m5 ≤ cq from (HP3.out.rows _ (List.mem_of_getElem? epq)).cap |> fun h => by rw [← em5]; exact h)
            clear hi2 hiq eo o1 o2 o3 o4 o5 o6 hlast r5 hbp hkp hi em5 epq HP3 HO HM
            go_upto_region 23 with (fail)
            try rw [hzp]
            try rw [ewp]
            clear hidx k50 k51 ewp hzp
            go_cut [20] (fun s20 wv => ∃ gn : Bool, s20 = .bool gn ∧ wv = wp ∧ Hid (gn = true → c ≤ 7))
            case first =>
              by_cases hK : K2 < NL
              · have j1 : (K2 : Int) < (NL : Int) := by omega
                obtain ⟨b6, p6, hix, -, k6⟩ := Hlo.out.index (c := cL) hK
                cases hf : f K2 with
                | false =>
                  rw [hf] at k6
                  clear hK hf
                  go_wp2_with fail
                  go_meet
                  case rel => exact ⟨false, rfl, rfl, Lib.hid (fun e => by cases e)⟩
                | true =>
                  rw [hf] at k6
                  clear hK hf
                  by_cases hc7 : c ≤ 7
                  · have j2 : (c : Int) < 8 := by omega
                    have Hc7 := Lib.hid hc7
                    clear hc7
                    go_wp2_with fail
                    go_meet
                    case rel => exact ⟨true, rfl, rfl, Lib.hid (fun _ => Hc7.out)⟩
                  · have j2 : ¬ (c : Int) < 8 := by omega
                    clear hc7
                    go_wp2_with fail
                    go_meet
                    case rel => exact ⟨false, rfl, rfl, Lib.hid (fun e => by cases e)⟩
              · have j1 : ¬ (K2 : Int) < (NL : Int) := by omega
                clear hK
                go_wp2_with fail
                go_meet
                case rel => exact ⟨false, rfl, rfl, Lib.hid (fun e => by cases e)⟩
            case rest =>
              obtain ⟨gn, rfl, hwp, Hgn⟩ := hcut
              subst hwp
              clear Hlo
              have Hk2 := Lib.hid (show K2 + 1 ≤ 1000000 from by have := HE.out; have := HI.out; have := Hi.out; have := HLl.out; have := Hn.out; omega)
              have j4 : (i2 : Int) < 1000000 := by have := HLl.out; omega
              have j3 : (K2 : Int) < 1000000 := by have := Hk2.out; omega
              cases gn with
              | true =>
                go_wp2_with fail
                go_roundg (L - (i2 + 1))
                case measure => have := Hi.out; omega
                case rel => exact ⟨i2 + 1, e, K2 + 1, c9, A9, Z, Lib.hid (by have := Hi.out; omega), by go_num, rfl, by go_num, Lib.hid (by have := HE.out; have := Hgn.out; refine ⟨by omega, by omega, by omega, by omega, fun _ e2 _ => ?_⟩; have := Hgn.out (by trivial); omega), HPp, HOp, HMp, Hap⟩
              | false =>
                go_upto_region 26 with (fail)
                obtain ⟨wv, ewv⟩ : ∃ v, wc.drew = v := ⟨_, rfl⟩
                have hbv : Below wc.heap.size wc wv := by rw [← ewv]; exact (Below.refl _ _).drew
                have HPv := Lib.hid (HPp.out.on hbv)
                have HOv := Lib.hid (show OwnB wv w4.heap.size A9 e c9 (dt.take e) ∧ ∀ b, (Value.slice A9 e c9).ownBlock = some b → Z b from ⟨HOp.out.1.on hbv, HOp.out.2⟩)
                have HMv := Lib.hid (HMp.out.below HF.out hbv)
                have HC := Lib.hid (fun W (hW : Below wc.heap.size wc W) => show W.cell? ⟨zp, 0, none⟩ = some (.int .u32 sq) ∧ W.cell? ⟨zp, 1, none⟩ = some (.slice Aq m5 cq) ∧ W.cell? ⟨z, 0, none⟩ = some (.int .u32 x) from ⟨by rw [blk_cell (blk_on Hkp.out hW)]; rfl, by rw [blk_cell (blk_on Hkp.out hW)]; rfl, by rw [blk_cell (blk_on HK4.out (HMp.out.base.trans (hW.mono HMp.out.base.size)))]; rfl⟩)
                have Hrv := Lib.hid (Hrp.out.below hbv)
                have HBv := Lib.hid hbv
                obtain ⟨fe, efe⟩ : ∃ v, numX (x + (e : Int)) = v := ⟨_, rfl⟩
                have Hfe := Lib.hid (show sAdd x (e : Int) = fe from efe)
                have Hcall := Lib.hid (gcut_any x o e m5 cq Aq d wv Hrv.out Hmc.out (by have := Hpc.out.2.2.2.1; have := Hn.out; have := Hdl.out.1; omega) (by have := HE.out; have := Hn.out; omega) (by have := Hpc.out.2.2.2.1; have := Hn.out; have := Hdl.out.1; omega) sq fe Hpc.out.1 efe)
                clear hbv efe j4
                refine wp_region_held_drew (S := fun w' => w'.cell? ⟨zp, 0, none⟩ = some (.int .u32 sq) ∧ w'.cell? ⟨zp, 1, none⟩ = some (.slice Aq m5 cq) ∧ w'.cell? ⟨z, 0, none⟩ = some (.int .u32 x)) (by kernel_rfl) (by rw [ewv]; exact HC.out _ HBv.out) (fun hHeld => ?_)
                rw [ewv] at hHeld ⊢
                clear ewv
                refine tk 0 ?_ rfl ?_ ?_
                rotate_left
                · intro w' hSw; (go_simp <;> (with_reducible rfl))
                try simp only [Act.put, putL]
                refine tk 1 ?_ rfl ?_ ?_
                rotate_left
                · intro w' hSw; (go_simp <;> (with_reducible rfl))
                try simp only [Act.put, putL]
                refine tk 2 ?_ rfl ?_ ?_
                rotate_left
                · intro w' hSw; (go_simp <;> (with_reducible rfl))
                try simp only [Act.put, putL]
                refine tk 3 ?_ rfl ?_ ?_
                rotate_left
                · intro w' hSw; (go_simp <;> (with_reducible rfl))
                try simp only [Act.put, putL]
                refine tk 4 ?_ rfl ?_ ?_
                rotate_left
                · intro w' hSw; (go_simp <;> (with_reducible rfl))
                try simp only [Act.put, putL]
                refine tk 5 ?_ rfl ?_ ?_
                rotate_left
                · intro w' hSw; (go_simp <;> (with_reducible rfl))
                try simp only [Act.put, putL]
                refine tk 6 ?_ rfl ?_ ?_
                rotate_left
                · intro w' hSw; (go_simp <;> (with_reducible rfl))
                try simp only [Act.put, putL]
                refine tk 7 ?_ rfl ?_ ?_
                rotate_left
                · intro w' hSw; (go_simp <;> (with_reducible rfl))
                try simp only [Act.put, putL]
                refine tkC 8 rfl (fun K hK => ?_)
                go_simp
                (refine (add_any x (e : Int) wv).mono ?_; rintro en w' ⟨rfl, rfl⟩; rw [Hfe.out])
                refine hK.out _ _ ?_ (fun hHeld => ?_)
                · exact HC.out _ HBv.out
                clear hK K
                try simp only [Act.put, putL]
                refine tkC 9 rfl (fun K hK => ?_)
                go_simp
                (refine Hcall.out.mono ?_; rintro en w9 ⟨a2, A2, k, c2', rfl, hk9, hr9, hb9⟩; have Hk9 := Lib.hid (And.intro hk9 (And.intro hr9 hb9)); clear hk9 hr9 hb9 Hcall)
                refine hK.out _ _ ?_ (fun hHeld => ?_)
                · exact HC.out _ (below_trans HBv.out Hk9.out.2.2)
                clear hK K
                try simp only [Act.put, putL]
                refine tk 10 ?_ rfl ?_ ?_
                rotate_left
                · intro w' hSw; (go_simp <;> (with_reducible rfl))
                try simp only [Act.put, putL]
                refine tk 11 ?_ rfl ?_ ?_
                rotate_left
                · intro w' hSw; (go_simp <;> (with_reducible rfl))
                try simp only [Act.put, putL]
                refine tk 12 ?_ rfl ?_ ?_
                rotate_left
                · intro w' hSw; (go_simp <;> (with_reducible rfl))
                try simp only [Act.put, putL]
                refine tk 13 ?_ rfl ?_ ?_
                rotate_left
                · intro w' hSw; (go_simp <;> (with_reducible rfl))
                try simp only [Act.put, putL]
                refine tk 14 ?_ rfl ?_ ?_
                rotate_left
                · intro w' hSw; (go_simp <;> (with_reducible rfl))
                try simp only [Act.put, putL]
                refine wpAnyH_done (by kernel_rfl) ?_ _
                clear hHeld
                go_upto_region 27 with (fail)
                obtain ⟨wu, ewu⟩ : ∃ v, w9.drew = v := ⟨_, rfl⟩
                have hb9 : Below wv.heap.size wv wu := by rw [← ewu]; exact Hk9.out.2.2.drew
                have HPu := Lib.hid (HPv.out.on hb9)
                have HOu := Lib.hid (show OwnB wu w4.heap.size A9 e c9 (dt.take e) ∧ ∀ b, (Value.slice A9 e c9).ownBlock = some b → Z b from ⟨HOv.out.1.on hb9, HOv.out.2⟩)
                have HMu := Lib.hid (HMv.out.below HF.out hb9)
                have HBu := Lib.hid (below_trans HBv.out hb9)
                have Hru := Lib.hid (show Rd wu A2 k (d.drop (e - o)) by rw [← ewu]; exact Hk9.out.2.1.below ((Below.refl _ _).drew))
                have Hkm := Lib.hid (show k = m5 - (e - o) from Hk9.out.1)
                have Hobd := Lib.hid (show o ≤ 1000 ∧ e ≤ 1000 from by have := Hpc.out.2.2.2.1; have := Hn.out; have := Hdl.out.1; have := HE.out; omega)
                clear hb9 Hk9 HPv HOv HMv HBv Hrv
                by_cases hk0 : 0 < k
                · have j5 : (0 : Int) < (k : Int) := by omega
                  by_cases hoe : o ≤ e
                  · have Hls := Lib.hid (show sLess fe sq = false by
                      have := less_near x o e Hobd.out.1 Hobd.out.2
                      rw [Hpc.out.1, show numX (x + (e : Int)) = fe from Hfe.out] at this
                      rw [this, decide_eq_false_iff_not]
                      omega)
                    have Hke := Lib.hid (And.intro hk0 hoe)
                    clear hoe
                    refine wp_region_held_drew (S := fun w' => w'.cell? ⟨zp, 0, none⟩ = some (.int .u32 sq) ∧ w'.cell? ⟨zp, 1, none⟩ = some (.slice Aq m5 cq) ∧ w'.cell? ⟨z, 0, none⟩ = some (.int .u32 x)) (by kernel_rfl) (by rw [ewu]; exact HC.out _ HBu.out) (fun hHeld => ?_)
                    rw [ewu] at hHeld ⊢
                    clear ewu
                    refine tk 0 ?_ rfl ?_ ?_
                    rotate_left
                    · intro w' hSw; (go_simp <;> (with_reducible rfl))
                    try simp only [Act.put, putL]
                    refine tk 1 ?_ rfl ?_ ?_
                    rotate_left
                    · intro w' hSw; (go_simp <;> (with_reducible rfl))
                    try simp only [Act.put, putL]
                    refine tk 2 ?_ rfl ?_ ?_
                    rotate_left
                    · intro w' hSw; (go_simp <;> (with_reducible rfl))
                    try simp only [Act.put, putL]
                    refine tk 3 ?_ rfl ?_ ?_
                    rotate_left
                    · intro w' hSw; (go_simp <;> (with_reducible rfl))
                    try simp only [Act.put, putL]
                    refine tk 4 ?_ rfl ?_ ?_
                    rotate_left
                    · intro w' hSw; (go_simp <;> (with_reducible rfl))
                    try simp only [Act.put, putL]
                    refine tk 5 ?_ rfl ?_ ?_
                    rotate_left
                    · intro w' hSw; (go_simp <;> (with_reducible rfl))
                    try simp only [Act.put, putL]
                    refine tk 6 ?_ rfl ?_ ?_
                    rotate_left
                    · intro w' hSw; (go_simp <;> (with_reducible rfl))
                    try simp only [Act.put, putL]
                    refine tk 7 ?_ rfl ?_ ?_
                    rotate_left
                    · intro w' hSw; (go_simp <;> (with_reducible rfl))
                    try simp only [Act.put, putL]
                    refine tk 9 ?_ rfl ?_ ?_
                    rotate_left
                    · intro w' hSw; (go_simp <;> (with_reducible rfl))
                    try simp only [Act.put, putL]
                    refine tk 10 ?_ rfl ?_ ?_
                    rotate_left
                    · intro w' hSw; (go_simp <;> (with_reducible rfl))
                    try simp only [Act.put, putL]
                    refine tkC 8 rfl (fun K hK => ?_)
                    go_simp
                    (refine (add_any x (e : Int) wu).mono ?_; rintro en w' ⟨rfl, rfl⟩; rw [Hfe.out])
                    refine hK.out _ _ ?_ (fun hHeld => ?_)
                    · exact HC.out _ HBu.out
                    clear hK K
                    try simp only [Act.put, putL]
                    refine tkC 11 rfl (fun K hK => ?_)
                    go_simp
                    (refine (less_any fe sq wu).mono ?_; rintro en w' ⟨rfl, rfl⟩; rw [Hls.out])
                    refine hK.out _ _ ?_ (fun hHeld => ?_)
                    · exact HC.out _ HBu.out
                    clear hK K
                    try simp only [Act.put, putL]
                    refine tk 12 ?_ rfl ?_ ?_
                    rotate_left
                    · intro w' hSw; (go_simp <;> (with_reducible rfl))
                    try simp only [Act.put, putL]
                    refine tk 13 ?_ rfl ?_ ?_
                    rotate_left
                    · intro w' hSw; (go_simp <;> (with_reducible rfl))
                    try simp only [Act.put, putL]
                    refine wpAnyH_done (by kernel_rfl) ?_ _
                    clear hHeld
                    obtain ⟨A10, c10, w10, Z10, hrun, h1, h2, h3, h4, h5⟩ := got_app HF.out HMu.out HOu.out.1 HOu.out.2 HPu.out Hap.out (c2 := c2') Hru.out (by have := Hpc.out.2.2.2.1; have := Hobd.out; have := Hkm.out; have := Hn.out; have := Hdl.out.1; omega)
                    rw [Hpc.out.2.2.2.2.2.2 e Hke.out.2, ← Hkm.out] at h2
                    have HR := Lib.hid hrun
                    have HP10 := Lib.hid h1
                    have HO10 := Lib.hid (And.intro h2 h3)
                    have HM10 := Lib.hid h4
                    have Hap10 := Lib.hid h5
                    have He10 := Lib.hid (show q ≤ e + k ∧ e + k ≤ q + s2.sent ∧ e + k ≤ n ∧ K2 + 1 ≤ K + (i2 + 1) ∧ (is = true → c = 8 → i2 + 1 = L → q + 1 ≤ e + k) from by
                      have := HE.out; have := Hpc.out; have := Hkm.out; have := Hdl.out.1; have := Hke.out
                      refine ⟨by omega, by omega, by omega, by omega, fun _ _ _ => by omega⟩)
                    clear hrun h1 h2 h3 h4 h5 hk0 HPu HOu HMu Hap Hls
                    have j4 : (i2 : Int) < 1000000 := by have := HLl.out; have := Hi.out; omega
                    go_wp2_with (at_builtin; refine wpList_appX rfl (.tmp 144) (.tmp 145) _ _ rfl rfl _ _ _ w10 rfl rfl HR.out ?_)
                    go_roundg (L - (i2 + 1))
                    case measure => have := Hi.out; omega
                    case rel => exact ⟨i2 + 1, e + k, K2 + 1, c10, A10, Z10, Lib.hid (by have := Hi.out; omega), by go_num, rfl, by go_num, He10, HP10, HO10, HM10, Hap10⟩
                  · have Hls := Lib.hid (show sLess fe sq = true by
                      have := less_near x o e Hobd.out.1 Hobd.out.2
                      rw [Hpc.out.1, show numX (x + (e : Int)) = fe from Hfe.out] at this
                      rw [this, decide_eq_true_iff]
                      omega)
                    have Hke := Lib.hid hoe
                    clear hoe
                    refine wp_region_held_drew (S := fun w' => w'.cell? ⟨zp, 0, none⟩ = some (.int .u32 sq) ∧ w'.cell? ⟨zp, 1, none⟩ = some (.slice Aq m5 cq) ∧ w'.cell? ⟨z, 0, none⟩ = some (.int .u32 x)) (by kernel_rfl) (by rw [ewu]; exact HC.out _ HBu.out) (fun hHeld => ?_)
                    rw [ewu] at hHeld ⊢
                    clear ewu
                    refine tk 0 ?_ rfl ?_ ?_
                    rotate_left
                    · intro w' hSw; (go_simp <;> (with_reducible rfl))
                    try simp only [Act.put, putL]
                    refine tk 1 ?_ rfl ?_ ?_
                    rotate_left
                    · intro w' hSw; (go_simp <;> (with_reducible rfl))
                    try simp only [Act.put, putL]
                    refine tk 2 ?_ rfl ?_ ?_
                    rotate_left
                    · intro w' hSw; (go_simp <;> (with_reducible rfl))
                    try simp only [Act.put, putL]
                    refine tk 3 ?_ rfl ?_ ?_
                    rotate_left
                    · intro w' hSw; (go_simp <;> (with_reducible rfl))
                    try simp only [Act.put, putL]
                    refine tk 4 ?_ rfl ?_ ?_
                    rotate_left
                    · intro w' hSw; (go_simp <;> (with_reducible rfl))
                    try simp only [Act.put, putL]
                    refine tk 5 ?_ rfl ?_ ?_
                    rotate_left
                    · intro w' hSw; (go_simp <;> (with_reducible rfl))
                    try simp only [Act.put, putL]
                    refine tk 6 ?_ rfl ?_ ?_
                    rotate_left
                    · intro w' hSw; (go_simp <;> (with_reducible rfl))
                    try simp only [Act.put, putL]
                    refine tk 7 ?_ rfl ?_ ?_
                    rotate_left
                    · intro w' hSw; (go_simp <;> (with_reducible rfl))
                    try simp only [Act.put, putL]
                    refine tk 9 ?_ rfl ?_ ?_
                    rotate_left
                    · intro w' hSw; (go_simp <;> (with_reducible rfl))
                    try simp only [Act.put, putL]
                    refine tk 10 ?_ rfl ?_ ?_
                    rotate_left
                    · intro w' hSw; (go_simp <;> (with_reducible rfl))
                    try simp only [Act.put, putL]
                    refine tkC 8 rfl (fun K hK => ?_)
                    go_simp
                    (refine (add_any x (e : Int) wu).mono ?_; rintro en w' ⟨rfl, rfl⟩; rw [Hfe.out])
                    refine hK.out _ _ ?_ (fun hHeld => ?_)
                    · exact HC.out _ HBu.out
                    clear hK K
                    try simp only [Act.put, putL]
                    refine tkC 11 rfl (fun K hK => ?_)
                    go_simp
                    (refine (less_any fe sq wu).mono ?_; rintro en w' ⟨rfl, rfl⟩; rw [Hls.out])
                    refine hK.out _ _ ?_ (fun hHeld => ?_)
                    · exact HC.out _ HBu.out
                    clear hK K
                    try simp only [Act.put, putL]
                    refine tk 12 ?_ rfl ?_ ?_
                    rotate_left
                    · intro w' hSw; (go_simp <;> (with_reducible rfl))
                    try simp only [Act.put, putL]
                    refine tk 13 ?_ rfl ?_ ?_
                    rotate_left
                    · intro w' hSw; (go_simp <;> (with_reducible rfl))
                    try simp only [Act.put, putL]
                    refine wpAnyH_done (by kernel_rfl) ?_ _
                    clear hHeld
                    have j4 : (i2 : Int) < 1000000 := by have := HLl.out; have := Hi.out; omega
                    go_wp2_with fail
                    go_roundg (L - (i2 + 1))
                    case measure => have := Hi.out; omega
                    case rel => exact ⟨i2 + 1, e, K2 + 1, c9, A9, Z, Lib.hid (by have := Hi.out; omega), by go_num, rfl, by go_num, Lib.hid (by have := HE.out; have := Hke.out; have := Hhit.out; refine ⟨by omega, by omega, by omega, by omega, fun e1 _ e3 => ?_⟩; have := Hhit.out e1 e3; omega), HPu, HOu, HMu, Hap⟩
                · have j5 : ¬ (0 : Int) < (k : Int) := by omega
                  refine wp_region_held_drew (S := fun w' => w'.cell? ⟨zp, 0, none⟩ = some (.int .u32 sq) ∧ w'.cell? ⟨zp, 1, none⟩ = some (.slice Aq m5 cq) ∧ w'.cell? ⟨z, 0, none⟩ = some (.int .u32 x)) (by kernel_rfl) (by rw [ewu]; exact HC.out _ HBu.out) (fun hHeld => ?_)
                  rw [ewu] at hHeld ⊢
                  clear ewu
                  refine tk 0 ?_ rfl ?_ ?_
                  rotate_left
                  · intro w' hSw; (go_simp <;> (with_reducible rfl))
                  try simp only [Act.put, putL]
                  refine tk 1 ?_ rfl ?_ ?_
                  rotate_left
                  · intro w' hSw; (go_simp <;> (with_reducible rfl))
                  try simp only [Act.put, putL]
                  refine tk 2 ?_ rfl ?_ ?_
                  rotate_left
                  · intro w' hSw; (go_simp <;> (with_reducible rfl))
                  try simp only [Act.put, putL]
                  refine tk 3 ?_ rfl ?_ ?_
                  rotate_left
                  · intro w' hSw; (go_simp <;> (with_reducible rfl))
                  try simp only [Act.put, putL]
                  refine tkN 4 rfl ?_
                  try simp only [Act.put, putL]
                  refine tkN 5 rfl ?_
                  try simp only [Act.put, putL]
                  refine tkN 6 rfl ?_
                  try simp only [Act.put, putL]
                  refine tkN 7 rfl ?_
                  try simp only [Act.put, putL]
                  refine tkN 8 rfl ?_
                  try simp only [Act.put, putL]
                  refine tkN 9 rfl ?_
                  try simp only [Act.put, putL]
                  refine tkN 10 rfl ?_
                  try simp only [Act.put, putL]
                  refine tkN 11 rfl ?_
                  try simp only [Act.put, putL]
                  refine tkN 12 rfl ?_
                  try simp only [Act.put, putL]
                  refine tk 13 ?_ rfl ?_ ?_
                  rotate_left
                  · intro w' hSw; (go_simp <;> (with_reducible rfl))
                  try simp only [Act.put, putL]
                  refine wpAnyH_done (by kernel_rfl) ?_ _
                  clear hHeld
                  have j4 : (i2 : Int) < 1000000 := by have := HLl.out; have := Hi.out; omega
                  go_wp2_with fail
                  go_roundg (L - (i2 + 1))
                  case measure => have := Hi.out; omega
                  case rel => exact ⟨i2 + 1, e, K2 + 1, c9, A9, Z, Lib.hid (by have := Hi.out; omega), by go_num, rfl, by go_num, Lib.hid (by have := HE.out; have := Hkm.out; have := Hpc.out; refine ⟨by omega, by omega, by omega, by omega, fun e1 _ e3 => ?_⟩; have := Hhit.out e1 e3; omega), HPu, HOu, HMu, Hap⟩
          · have i3 : ¬ (i2 : Int) < (L : Int) := by omega
            have hiL : i2 = L := by omega
            have hE := HE.out
            have hI := HI.out
            have hdl := Hdl.out.1
            have hn6 := Hn.out
            have hq1 := Hq.out
            have hrb := Hrb.out
            obtain ⟨a1, a2, a3, a4⟩ := HG2.out.acks e (by omega) (by omega) (by omega) (by omega) Hwin.out now (by omega)
            obtain ⟨s3, es3⟩ : ∃ v, ackS (numX (x + (e : Int))) win now s2 = v := ⟨_, rfl⟩
            rw [es3] at a1 a4
            have hfb := numX_bd (x + (e : Int))
            obtain ⟨fe, efe⟩ : ∃ v, numX (x + (e : Int)) = v := ⟨_, rfl⟩
            rw [efe] at es3 a2 a3 hfb
            obtain ⟨c4, ec4⟩ : ∃ v, (if e = q then c2 else 0) = v := ⟨_, rfl⟩
            rw [ec4] at a1
            obtain ⟨nb, enb⟩ : ∃ v, e - q = v := ⟨_, rfl⟩
            rw [enb] at a2
            obtain ⟨al, eal⟩ : ∃ v, alarmX s3 = v := ⟨_, rfl⟩
            obtain ⟨now2, en2⟩ : ∃ v, (if e < n then max (now + 1) s3.alarm else now) = v := ⟨_, rfl⟩
            have hset := a1.set_ (by omega)
            rw [hdl] at hset
            have hal : s3.alarm ≤ now + 60000 := by have := HT2.out.2.1; omega
            have hc2 : (e = q → c2 ≤ 8 ∧ i + 1 ≤ 1 + 9 * q + c2) := fun e1 => by
              rcases Bool.eq_false_or_eq_true is with h | h
              · have h1 := (HT2.out.2.2.1 h).1
                have h2 := hE.2.2.2.2 h
                omega
              · have h1 := HT2.out.2.2.2 h
                omega
            have HF3 := Lib.hid (show e ≤ n ∧ c4 ≤ 8 ∧ 0 ≤ now2 ∧ now2 ≤ 60000 * ((i + 1 : Nat) : Int) ∧ s3.alarm ≤ now2 + 60000 ∧ (i + 1 = 0 ∨ e = n ∨ s3.alarm ≤ now2) ∧ i + 1 ≤ 1 + 9 * e + c4 ∧ K2 ≤ 100 * (i + 1) from by
              have hL := HLl.out
              have e4 : (e = q ∧ c4 = c2) ∨ (q < e ∧ c4 = 0) := by
                rw [← ec4]
                by_cases e1 : e = q
                · exact .inl ⟨e1, if_pos e1⟩
                · exact .inr ⟨by omega, if_neg e1⟩
              have e5 : (e < n ∧ now2 = max (now + 1) s3.alarm) ∨ (e = n ∧ now2 = now) := by
                rw [← en2]
                by_cases e1 : e < n
                · exact .inl ⟨e1, if_pos e1⟩
                · exact .inr ⟨by omega, if_neg e1⟩
              rcases e4 with ⟨e6, e7⟩ | ⟨e6, e7⟩
              · have := hc2 e6
                refine ⟨by omega, by omega, by omega, by omega, by omega, by omega, by omega, by omega⟩
              · refine ⟨by omega, by omega, by omega, by omega, by omega, by omega, by omega, by omega⟩)
            have HA := Lib.hid (And.intro es3 (And.intro a2 a3))
            have HG3 := Lib.hid a1
            have Hfe := Lib.hid (show sAdd x (e : Int) = fe from efe)
            have Hfb := Lib.hid (show u32X fe from hfb)
            have Hset := Lib.hid hset
            have Hec := Lib.hid ec4
            have Hnb := Lib.hid enb
            have Heal := Lib.hid eal
            have Hen2 := Lib.hid en2
            have Hc2 := Lib.hid (show c2 ≤ 9 ∧ c ≤ 8 from by
              rcases Bool.eq_false_or_eq_true is with h | h
              · have h1 := (HT2.out.2.2.1 h).1
                omega
              · have h1 := HT2.out.2.2.2 h
                omega)
            have Hae := Lib.hid (show now2 ≤ 1000000000 ∧ 0 ≤ now ∧ now + 1 ≤ 1000000000 from by have := HF3.out; omega)
            obtain ⟨wv, ewv⟩ : ∃ v, wr.drew = v := ⟨_, rfl⟩
            have hbv : Below wr.heap.size wr wv := by rw [← ewv]; exact (Below.refl _ _).drew
            have HMv := Lib.hid (HM.out.below HF.out hbv)
            have HOv := Lib.hid (show OwnB wv w4.heap.size A9 e c9 (dt.take e) ∧ ∀ b, (Value.slice A9 e c9).ownBlock = some b → Z b from ⟨HO.out.1.on hbv, HO.out.2⟩)
            have HC := Lib.hid (fun W (hW : Below w4.heap.size w4 W) => show W.cell? ⟨z, 0, none⟩ = some (.int .u32 x) ∧ W.cell? ⟨z, 1, none⟩ = some (.int .u32 win) from ⟨by rw [blk_cell (blk_on HK4.out hW)]; rfl, by rw [blk_cell (blk_on HK4.out hW)]; rfl⟩)
            clear hE hI hdl hn6 hq1 hrb a1 a2 a3 a4 es3 efe ec4 enb eal en2 hset hal hc2 hfb hbv hi hi2 hiL HO HM Hap HP3
            go_upto_region 30 with (fail)
            refine wp_region_held_drew (S := fun w' => w'.cell? ⟨z, 0, none⟩ = some (.int .u32 x) ∧ w'.cell? ⟨z, 1, none⟩ = some (.int .u32 win)) (by kernel_rfl) (by rw [ewv]; exact HC.out _ HMv.out.base) (fun hHeld => ?_)
            rw [ewv] at hHeld ⊢
            clear ewv
            refine tk 0 ?_ rfl ?_ ?_
            rotate_left
            · intro w' hSw; (go_simp <;> (with_reducible rfl))
            try simp only [Act.put, putL]
            refine tk 1 ?_ rfl ?_ ?_
            rotate_left
            · intro w' hSw; (go_simp <;> (with_reducible rfl))
            try simp only [Act.put, putL]
            refine tk 2 ?_ rfl ?_ ?_
            rotate_left
            · intro w' hSw; (go_simp <;> (with_reducible rfl))
            try simp only [Act.put, putL]
            refine tk 3 ?_ rfl ?_ ?_
            rotate_left
            · intro w' hSw; (go_simp <;> (with_reducible rfl))
            try simp only [Act.put, putL]
            refine tk 4 ?_ rfl ?_ ?_
            rotate_left
            · intro w' hSw; (go_simp <;> (with_reducible rfl))
            try simp only [Act.put, putL]
            refine tk 6 ?_ rfl ?_ ?_
            rotate_left
            · intro w' hSw; (go_simp <;> (with_reducible rfl))
            try simp only [Act.put, putL]
            refine tk 7 ?_ rfl ?_ ?_
            rotate_left
            · intro w' hSw; (go_simp <;> (with_reducible rfl))
            try simp only [Act.put, putL]
            refine tk 8 ?_ rfl ?_ ?_
            rotate_left
            · intro w' hSw; (go_simp <;> (with_reducible rfl))
            try simp only [Act.put, putL]
            refine tkC 5 rfl (fun K hK => ?_)
            go_simp
            (refine (add_any x (e : Int) wv).mono ?_; rintro en w' ⟨rfl, rfl⟩; rw [Hfe.out])
            refine hK.out _ _ ?_ (fun hHeld => ?_)
            · exact HC.out _ HMv.out.base
            clear hK K
            try simp only [Act.put, putL]
            refine tkC 9 rfl (fun K hK => ?_)
            go_simp
            (refine (yack HF.out _ 0 g s2 _ [(g, s3)] w4 wv HMv.out rfl fe win now s3 (nb : Int) 0 Hfb.out (by have := Hwin.out; unfold u32X; omega) Hnow.out HA.out.1 HA.out.2.1 HA.out.2.2 rfl).mono ?_; rintro en w8 ⟨rfl, h1, h2⟩; have HM8 := Lib.hid h1; have HB8 := Lib.hid h2; clear h1 h2)
            refine hK.out _ _ ?_ (fun hHeld => ?_)
            · exact HC.out _ HM8.out.base
            clear hK K
            try simp only [Act.put, putL]
            refine tk 10 ?_ rfl ?_ ?_
            rotate_left
            · intro w' hSw; (go_simp <;> (with_reducible rfl))
            try simp only [Act.put, putL]
            refine tk 11 ?_ rfl ?_ ?_
            rotate_left
            · intro w' hSw; (go_simp <;> (with_reducible rfl))
            try simp only [Act.put, putL]
            refine tk 12 ?_ rfl ?_ ?_
            rotate_left
            · intro w' hSw; (go_simp <;> (with_reducible rfl))
            try simp only [Act.put, putL]
            refine tk 13 ?_ rfl ?_ ?_
            rotate_left
            · intro w' hSw; (go_simp <;> (with_reducible rfl))
            try simp only [Act.put, putL]
            refine tk 14 ?_ rfl ?_ ?_
            rotate_left
            · intro w' hSw; (go_simp <;> (with_reducible rfl))
            try simp only [Act.put, putL]
            refine wpAnyH_done (by kernel_rfl) ?_ _
            clear hHeld
            have HO8 := Lib.hid (show OwnB w8 w4.heap.size A9 e c9 (dt.take e) ∧ ∀ b, (Value.slice A9 e c9).ownBlock = some b → Z b from ⟨own_on2 HOv.out.1 HB8.out (fun b hb hn => hn (HOv.out.2 b hb)), HOv.out.2⟩)
            go_upto_if 163 with (fail)
            go_cut [11] from 164 to 165 (fun s11 wv2 => s11 = .int .i64 (c2 : Int) ∧ wv2 = w8)
            case first =>
              have j6 : (c : Int) < 1000 := by have := Hc2.out; omega
              cases is with
              | false =>
                go_wp2_with fail
                go_meet
                case rel => exact ⟨congrArg (Value.int .i64) (by have := (HT2.out.2.2.2 (by trivial)).1; omega), rfl⟩
              | true =>
                go_wp2_with fail
                go_meet
                case rel => exact ⟨congrArg (Value.int .i64) (by have := (HT2.out.2.2.1 (by trivial)).1; omega), rfl⟩
            case rest =>
              obtain ⟨rfl, hw8⟩ := hcut
              subst hw8
              by_cases heq : e = q
              · have j7 : ¬ (0 : Int) < (nb : Int) := by have := Hnb.out; omega
                have j8 : (0 < nb) = False := eq_false (by have := Hnb.out; omega)
                have Hc4 := Lib.hid (show c4 = c2 by rw [← Hec.out, if_pos heq])
                clear heq
                by_cases hen : e < n
                · have HAl := Lib.hid (show setX s3 = true ∧ alarmX s3 = al from ⟨by rw [Hset.out.1]; exact decide_eq_true hen, Heal.out⟩)
                  obtain ⟨n1, en1⟩ : ∃ v, now + 1 = v := ⟨_, rfl⟩
                  have Q1 := Lib.hid (show IntKind.u64.wrap (now + 1) = n1 by rw [IntKind.wrap_u64]; have := Hae.out; omega)
                  have Q3 := Lib.hid (show (if n1 < al then al else n1) = now2 by
                    have h1 := Hset.out.2
                    rw [if_pos hen, Heal.out] at h1
                    rw [← Hen2.out, if_pos hen, ← en1, h1]
                    split <;> omega)
                  clear hen en1
                  go_wp2_with fail
                  refine (yalarm HF.out _ 0 g s3 _ w4 wc HM8.out rfl al true HAl.out.2 HAl.out.1).mono ?_
                  rintro en wl ⟨rfl, h1, h2⟩
                  have HM9 := Lib.hid h1
                  have HO9 := Lib.hid (show OwnB wl w4.heap.size A9 e c9 (dt.take e) ∧ ∀ b, (Value.slice A9 e c9).ownBlock = some b → Z b from ⟨own_on2 HO8.out.1 h2 (fun b hb hn => hn (HO8.out.2 b hb)), HO8.out.2⟩)
                  clear h1 h2
                  (have q1 := Q1.out; have q3 := Q3.out)
                  go_wp2_with fail
                  skip
                  go_roundg (4000 - (i + 1))
                  case measure => have := i1; omega
                  case rel => exact ⟨i + 1, e, c4, K2, c9, now2, A9, s3, Z, Lib.hid (by omega), by go_num, rfl, rfl, congrArg (Value.int .i64) (by have := Hc4.out; omega), rfl, HF3, HG3, HO9, HM9⟩
                · have HAl := Lib.hid (show setX s3 = false ∧ alarmX s3 = al from ⟨by rw [Hset.out.1]; exact decide_eq_false hen, Heal.out⟩)
                  have Hn2 := Lib.hid (show now2 = now by rw [← Hen2.out, if_neg hen])
                  clear hen
                  go_wp2_with fail
                  refine (yalarm HF.out _ 0 g s3 _ w4 wc HM8.out rfl al false HAl.out.2 HAl.out.1).mono ?_
                  rintro en wl ⟨rfl, h1, h2⟩
                  have HM9 := Lib.hid h1
                  have HO9 := Lib.hid (show OwnB wl w4.heap.size A9 e c9 (dt.take e) ∧ ∀ b, (Value.slice A9 e c9).ownBlock = some b → Z b from ⟨own_on2 HO8.out.1 h2 (fun b hb hn => hn (HO8.out.2 b hb)), HO8.out.2⟩)
                  clear h1 h2
                  skip
                  go_wp2_with fail
                  rw [← Hn2.out]
                  go_roundg (4000 - (i + 1))
                  case measure => have := i1; omega
                  case rel => exact ⟨i + 1, e, c4, K2, c9, now2, A9, s3, Z, Lib.hid (by omega), by go_num, rfl, rfl, congrArg (Value.int .i64) (by have := Hc4.out; omega), rfl, HF3, HG3, HO9, HM9⟩
              · have j7 : (0 : Int) < (nb : Int) := by have := Hnb.out; have := HE.out; omega
                have j8 : 0 < nb := by have := Hnb.out; have := HE.out; omega
                have Hc4 := Lib.hid (show c4 = 0 by rw [← Hec.out, if_neg heq])
                clear heq
                by_cases hen : e < n
                · have HAl := Lib.hid (show setX s3 = true ∧ alarmX s3 = al from ⟨by rw [Hset.out.1]; exact decide_eq_true hen, Heal.out⟩)
                  obtain ⟨n1, en1⟩ : ∃ v, now + 1 = v := ⟨_, rfl⟩
                  have Q1 := Lib.hid (show IntKind.u64.wrap (now + 1) = n1 by rw [IntKind.wrap_u64]; have := Hae.out; omega)
                  have Q3 := Lib.hid (show (if n1 < al then al else n1) = now2 by
                    have h1 := Hset.out.2
                    rw [if_pos hen, Heal.out] at h1
                    rw [← Hen2.out, if_pos hen, ← en1, h1]
                    split <;> omega)
                  clear hen en1
                  go_wp2_with fail
                  refine (yalarm HF.out _ 0 g s3 _ w4 wc HM8.out rfl al true HAl.out.2 HAl.out.1).mono ?_
                  rintro en wl ⟨rfl, h1, h2⟩
                  have HM9 := Lib.hid h1
                  have HO9 := Lib.hid (show OwnB wl w4.heap.size A9 e c9 (dt.take e) ∧ ∀ b, (Value.slice A9 e c9).ownBlock = some b → Z b from ⟨own_on2 HO8.out.1 h2 (fun b hb hn => hn (HO8.out.2 b hb)), HO8.out.2⟩)
                  clear h1 h2
                  (have q1 := Q1.out; have q3 := Q3.out)
                  go_wp2_with fail
                  skip
                  go_roundg (4000 - (i + 1))
                  case measure => have := i1; omega
                  case rel => exact ⟨i + 1, e, c4, K2, c9, now2, A9, s3, Z, Lib.hid (by omega), by go_num, rfl, rfl, congrArg (Value.int .i64) (by have := Hc4.out; omega), rfl, HF3, HG3, HO9, HM9⟩
                · have HAl := Lib.hid (show setX s3 = false ∧ alarmX s3 = al from ⟨by rw [Hset.out.1]; exact decide_eq_false hen, Heal.out⟩)
                  have Hn2 := Lib.hid (show now2 = now by rw [← Hen2.out, if_neg hen])
                  clear hen
                  go_wp2_with fail
                  refine (yalarm HF.out _ 0 g s3 _ w4 wc HM8.out rfl al false HAl.out.2 HAl.out.1).mono ?_
                  rintro en wl ⟨rfl, h1, h2⟩
                  have HM9 := Lib.hid h1
                  have HO9 := Lib.hid (show OwnB wl w4.heap.size A9 e c9 (dt.take e) ∧ ∀ b, (Value.slice A9 e c9).ownBlock = some b → Z b from ⟨own_on2 HO8.out.1 h2 (fun b hb hn => hn (HO8.out.2 b hb)), HO8.out.2⟩)
                  clear h1 h2
                  skip
                  go_wp2_with fail
                  rw [← Hn2.out]
                  go_roundg (4000 - (i + 1))
                  case measure => have := i1; omega
                  case rel => exact ⟨i + 1, e, c4, K2, c9, now2, A9, s3, Z, Lib.hid (by omega), by go_num, rfl, rfl, congrArg (Value.int .i64) (by have := Hc4.out; omega), rfl, HF3, HG3, HO9, HM9⟩
    · have hqn : q = n := by have := HI.out; omega
      have i2 : ((q : Int) == (n : Int)) = true := by rw [beq_iff_eq]; omega
      have i2' : (q == n) = true := by rw [beq_iff_eq]; exact hqn
      have hO := HO.out.1
      have hte : dt.take q = dt := List.take_of_length_le (by have := Hdl.out.1; omega)
      rw [hte] at hO
      have hcA := conv_rd (hO.rd Hdl.out.2) c9
      have hcD := conv_rd (HB40.out _ HM.out.base).rd cD
      obtain ⟨st, est⟩ : ∃ v, strOfNums dt = v := ⟨_, rfl⟩
      rw [est] at hcA hcD
      have hn1 := str_eql st
      have hub := numX_bd (x + (q : Int))
      have hua := HG.out.una
      have hbs : s.bs = [] := by rw [HG.out.bs]; exact List.drop_eq_nil_of_le (by have := Hdl.out.1; omega)
      obtain ⟨ua, eua⟩ : ∃ v, s.una = v := ⟨_, rfl⟩
      have hend : endX s = ua := by
        unfold endX
        rw [hbs, eua, List.length_nil]
        rw [← hua, eua] at hub
        unfold numX
        omega
      have Eua := Lib.hid eua
      have Hend := Lib.hid hend
      clear hO hte est hub hua hbs eua hend hqn hq
      go_wp2_with fail
      refine (yuna HF.out _ 0 g s _ w4 wo HM.out rfl).mono ?_
      rintro en wc ⟨rfl, h1, h2⟩
      have HM := Lib.hid h1
      clear h1 h2 hcA hcD
      rw [Eua.out]
      go_wp2_with fail
      refine (yend HF.out _ 0 g s _ w4 wc HM.out rfl ua Hend.out).mono ?_
      rintro en wd ⟨rfl, h1, h2⟩
      have HE := Lib.hid (HB4.out.trans (h1.base.mono HB4.out.size))
      clear h1 h2
      go_wp2_with fail
      go_ret
      exact ⟨rfl, HE.out⟩
end Go.Proofs.Ytncbkgcblmohoaa.rexmitGetsW
