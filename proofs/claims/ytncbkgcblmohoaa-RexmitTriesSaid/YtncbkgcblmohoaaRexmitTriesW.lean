/-
  RexmitTries' walk, over the face.
-/
import Derived.Test.YtncbkgcblmohoaaTk
import Derived.Test.YtncbkgcblmohoaaRxAwake
import Derived.Test.YtncbkgcblmohoaaRxFitB
import Derived.Test.YtncbkgcblmohoaaRxTriP
import Derived.Test.YtncbkgcblmohoaaSeqNum
import Derived.Test.YtncbkgcblmohoaaMade
import Derived.Deep.DeepCutAuto
import Derived.Deep.LoopGhost
import Derived.Deep.CutRange
namespace Go.Proofs.Ytncbkgcblmohoaa.rexmitTriesW
set_option maxRecDepth 10000
open Go.RowKit
set_option linter.unusedVariables false
set_option linter.unusedSimpArgs false
variable {XAt : XA}

theorem ytickn {f : Nat} {args : Array Value} {Z : Nat → Prop} {w0 w : World} {ws : MX} {x : Int} {is : Bool} {er : Int} {l : List Int} (h : Calls Try.prog f args w (YTick XAt Z w0 ws x is er l w)) (hl : ∀ y ∈ l, 0 ≤ y ∧ y < 256) (m : Nat) (hm : l.length = m) :
    Calls Try.prog f args w (fun e w' => ∃ A c, ∃ Z' : Nat → Prop, e = .returned (.tuple #[.agg #[.int .u32 x, .slice A m c], .bool is, .int .i64 er]) ∧ (∀ W, But (fun k => ¬ Z' k) w' W → Rd W A m l) ∧ AtX XAt Z' w0 ws w') := by
  refine h.mono ?_
  rintro e w' ⟨A, n, c, rfl, h0, h1, h2, h3⟩
  obtain rfl : m = n := hm.symm.trans h0
  exact ⟨A, c, _, rfl, fun W hb => rd_own (c := c) (h1.rd hl) hb (fun b hb2 hn => hn (.inr hb2)), h2⟩
set_option maxHeartbeats 8000000 in
theorem walk (F : XFace XAt) (w : World) (x y r t : Int) (hx : 0 ≤ x ∧ x < 4294967296) (hy : 0 ≤ y ∧ y < 4294967296) (hr : 0 ≤ r ∧ r < 18446744073709551616) (ht : -9223372036854775808 ≤ t ∧ t < 9223372036854775808) (at_ by_ : Int) (hat : 0 ≤ at_ ∧ at_ < 65536) (hby : 0 ≤ by_ ∧ by_ < 256) :
    Calls Try.prog 5 #[.agg #[.int .u32 x, .int .u32 y, .int .u64 r, .int .i64 t], .int .u16 at_, .int .u8 by_] w fun e w' => e = .returned (.bool true) ∧ Below w.heap.size w w' := by
  obtain ⟨z, ez⟩ : ∃ z, w.heap.size = z := ⟨_, rfl⟩
  obtain ⟨w1, ew1⟩ : ∃ v, w.alloc (.cells #[.int .u32 x, .int .u32 y, .int .u64 r, .int .i64 t] 25) = v := ⟨_, rfl⟩
  have hb1 : Below w.heap.size w w1 := by rw [← ew1]; exact (Below.refl _ _).alloc (Nat.le_refl _) _
  have hk1 : w1.heap[z]? = some (.cells #[.int .u32 x, .int .u32 y, .int .u64 r, .int .i64 t] 25 (0, 0)) := by rw [← ew1, ← ez]; exact heap_alloc_new w _
  have c0 : w1.cell? ⟨z, 0, none⟩ = some (.int .u32 x) := by rw [blk_cell hk1]; rfl
  have c1 : w1.cell? ⟨z, 1, none⟩ = some (.int .u32 y) := by rw [blk_cell hk1]; rfl
  have c2 : w1.cell? ⟨z, 2, none⟩ = some (.int .u64 r) := by rw [blk_cell hk1]; rfl
  have c3 : w1.cell? ⟨z, 3, none⟩ = some (.int .i64 t) := by rw [blk_cell hk1]; rfl
  have HFit := Lib.hid (fit19_any x y r t w1 ⟨by omega, by omega⟩ ⟨by omega, by omega⟩ ⟨by omega, by omega⟩)
  have hfit := fit_bd y r t
  obtain ⟨y2, ey2⟩ : ∃ v, fitW y = v := ⟨_, rfl⟩
  obtain ⟨r2, er2⟩ : ∃ v, fitR r = v := ⟨_, rfl⟩
  obtain ⟨t2, et2⟩ : ∃ v, fitT t = v := ⟨_, rfl⟩
  rw [ey2, er2, et2] at HFit hfit
  have Hfit := Lib.hid hfit
  have HB1 := Lib.hid hb1
  have HK1 := Lib.hid hk1
  have Ew1 := Lib.hid ew1
  clear hb1 hk1 ew1 hfit ey2 er2 et2
  have HF := Lib.hid F
  have Hx := Lib.hid hx
  have Hat := Lib.hid hat
  obtain ⟨n, u1, hn⟩ : ∃ n : Nat, wrap64 (1 + wrap64 (by_.tmod 4)) = (n : Int) ∧ 1 ≤ n ∧ n ≤ 4 := by
    refine ⟨(1 + by_ % 4).toNat, ?_, by omega, by omega⟩
    rw [Int.tmod_eq_emod_of_nonneg hby.1]
    have e1 : wrap64 (by_ % 4) = by_ % 4 := IntWalk.wrap64_in _ (by omega)
    rw [e1, IntWalk.wrap64_in _ (by omega)]
    omega
  have u2 : IntKind.u64.wrap at_ = at_ := by rw [IntKind.wrap_u64]; omega
  have Hn := Lib.hid hn
  have U1 := Lib.hid u1
  clear u1
  obtain ⟨C, hmk, hrdm⟩ : ∃ C, (∀ w, (Instr.makeSlice 37 (.int .i64 (n : Int)) (.int .i64 (n : Int))).run Try.prog w = .ok (.slice (some ⟨w.heap.size, 0, none⟩) n n) (w.alloc (.cells C 5))) ∧ ∀ (w : World) (g : Nat), w.heap.size = g → Rd (w.alloc (.cells C 5)) (some ⟨g, 0, none⟩) n (List.replicate n 0) := ⟨madeCells (Value.int .u8 0).cells n, fun w => made_run n (by omega) w, fun w g h => made_nums w g h n⟩
  have Hrdm := Lib.hid hrdm
  have Hmk := Lib.hid hmk
  clear F hx hy hr ht hat hby hn hrdm hmk
  go_enter Try.func5, Try.ntmps5
  go_upto_region 1 with (fail)
  rw [Ew1.out]
  try rw [ez]
  go_wp2_with fail
  refine HFit.out.mono ?_
  rintro e w2 ⟨rfl, hb2⟩
  have hk2 := blk_on HK1.out hb2
  have HB2 := Lib.hid (below_trans HB1.out hb2)
  have d0 : w2.cell? ⟨z, 0, none⟩ = some (.int .u32 x) := by rw [blk_cell hk2]; rfl
  have d1 : w2.cell? ⟨z, 1, none⟩ = some (.int .u32 y) := by rw [blk_cell hk2]; rfl
  have d2 : w2.cell? ⟨z, 2, none⟩ = some (.int .u64 r) := by rw [blk_cell hk2]; rfl
  have d3 : w2.cell? ⟨z, 3, none⟩ = some (.int .i64 t) := by rw [blk_cell hk2]; rfl
  have f0 := blk_free hk2 0
  have f1 := blk_free hk2 1
  have f2 := blk_free hk2 2
  have f3 := blk_free hk2 3
  obtain ⟨w3, ew3⟩ : ∃ v, (((w2.setCell ⟨z, 0, none⟩ (.int .u32 x)).setCell ⟨z, 1, none⟩ (.int .u32 y2)).setCell ⟨z, 2, none⟩ (.int .u64 r2)).setCell ⟨z, 3, none⟩ (.int .i64 t2) = v := ⟨_, rfl⟩
  have hk3 : w3.heap[z]? = some (.cells #[.int .u32 x, .int .u32 y2, .int .u64 r2, .int .i64 t2] 25 (0, 0)) := by
    rw [← ew3]
    simp [World.setCell, Array.getElem?_modify, hk2]
  have hb3 : But (fun k => k = z) w2 w3 := by rw [← ew3]; exact ((((But.refl (fun k => k = z) w2).setCell (p := ⟨z, 0, none⟩) rfl _).setCell (p := ⟨z, 1, none⟩) rfl _).setCell (p := ⟨z, 2, none⟩) rfl _).setCell (p := ⟨z, 3, none⟩) rfl _
  have HB3 := Lib.hid (HB2.out.trans (hb3.below (B := w.heap.size) (fun k hk => by omega) HB2.out.size))
  have HK3 := Lib.hid hk3
  have Ew3 := Lib.hid ew3
  clear hk2 hk3 hb2 hb3 ew3 c0 c1 c2 c3
  go_upto_region 2 with (fail)
  try rw [Ew3.out]
  clear d0 d1 d2 d3 f0 f1 f2 f3
  have HZ := Lib.hid (fun W (hW : Below w3.heap.size w3 W) => blk_on HK3.out hW)
  have d0 : w3.cell? ⟨z, 0, none⟩ = some (.int .u32 x) := by rw [blk_cell HK3.out]; rfl
  have d1 : w3.cell? ⟨z, 1, none⟩ = some (.int .u32 y2) := by rw [blk_cell HK3.out]; rfl
  have d2 : w3.cell? ⟨z, 2, none⟩ = some (.int .u64 r2) := by rw [blk_cell HK3.out]; rfl
  have d3 : w3.cell? ⟨z, 3, none⟩ = some (.int .i64 t2) := by rw [blk_cell HK3.out]; rfl
  go_wp2_with fail
  refine (ynew HF.out _ [] w3 w3 (AtX.start w3) x y2 r2 t2 Hx.out (by have := Hfit.out; unfold u32X; omega) (by have := Hfit.out; unfold badX; omega)).mono ?_
  rintro e w4 ⟨g, rfl, h1, h2⟩
  have HM := Lib.hid h1
  clear h1 h2 d0 d1 d2 d3
  unfold madeX
  go_wp2_with fail
  rw [U1.out]
  refine (awake19_any HF.out w4).mono ?_
  rintro e w5 ⟨rfl, hb⟩
  have h1 := HM.out.below HF.out hb
  have HM := Lib.hid h1
  clear hb h1 u2
  obtain ⟨z5, hz5⟩ : ∃ z, w5.heap.size = z := ⟨_, rfl⟩
  obtain ⟨w6, ew6⟩ : ∃ v, w5.alloc (.cells C 5) = v := ⟨_, rfl⟩
  have hb56 : Below w5.heap.size w5 w6 := by rw [← ew6]; exact (Below.refl _ _).alloc (Nat.le_refl _) _
  have hrd6 := Hrdm.out w5 z5 hz5
  rw [ew6] at hrd6
  have h1 := HM.out.more HF.out (w' := w6) (Z' := fun q => q < w3.heap.size ∨ q = z5) (T := fun _ => False) (But.of hb56) (fun _ x => x.elim) (fun _ x => x.elim) (fun q hq => by
    rcases hq with hq | hq
    · exact ⟨.inl hq, by have := HM.out.many.1 q hq; have := hb56.size; omega⟩
    · exact ⟨.inr (by omega), by rw [← ew6]; simp; omega⟩) (fun q hq => .inl hq)
  have HM := Lib.hid h1
  have Hrd6 := Lib.hid hrd6
  have Ew6 := Lib.hid ew6
  have hmk5 := Hmk.out w5
  rw [hz5] at hmk5
  clear h1 hrd6 hb56 ew6
  have htri := tri_new (x := x) (win := y2) (r := r2) (t := t2) (n := n) (now := at_) Hx.out (by have := Hfit.out; omega) (by have := Hfit.out; omega) (by have := Hfit.out; omega) Hn.out Hat.out
  obtain ⟨s0, es0⟩ : ∃ s, writeS (List.replicate n 0) at_ (newX x y2 r2 t2) = s := ⟨_, rfl⟩
  rw [es0] at htri
  have HT := Lib.hid htri.1
  have HE0 := Lib.hid htri.2
  have Es0 := Lib.hid es0
  clear htri es0
  go_wp2_with fail
  try rw [Ew6.out]
  refine (ywrite HF.out _ 0 g _ [(g, newX x y2 r2 t2)] [(g, s0)] w3 w6 HM.out rfl at_ (some ⟨z5, 0, none⟩) n n (List.replicate n 0) s0 0 (by have := Hat.out; unfold nowX; omega) Hrd6.out (by have := Hn.out; omega) (Nat.le_refl _) (by have := Hn.out; unfold maxLen; omega) (fun b o e _ => by injection e with e; injection e with e; exact .inr e.symm) Es0.out HE0.out rfl).mono ?_
  rintro e w7 ⟨rfl, h1, h2⟩
  have HM := Lib.hid h1
  clear h1 h2 hmk5 Hrd6 Ew6 hz5 Hrdm Hmk HE0 Es0
  go_wp2_with fail
  go_loopg [9, 11] n (fun gk x9 x11 wr => ∃ (L : Nat) (st : Int) (s : XS) (Z : Nat → Prop), Hid (gk = L) ∧ x11 = .int .i64 (L : Int) ∧ x9 = .int .u64 st ∧ Hid (L ≤ 4 ∧ 0 ≤ st ∧ st ≤ 65536 + (4 - (L : Int)) * 200000) ∧ Hid (TrX s L y2 r2 t2 0 st r2) ∧ Hid (AtX XAt Z w3 [(g, s)] wr))
  case atStart => exact ⟨n, at_, s0, _, Lib.hid rfl, rfl, rfl, Lib.hid (by have := Hn.out; have := Hat.out; omega), HT, HM⟩
  case round =>
    clear HM HT
    obtain ⟨L, st, s, Z, hgk, rfl, rfl, HL, HT, HM⟩ := hrel
    have eL : L = gk := hgk.out.symm
    subst eL
    obtain ⟨wo, ewo⟩ : ∃ wo, wo = wr := ⟨_, rfl⟩
    subst ewo
    clear hgk
    have i0 : (L : Int) < 100 := by have := HL.out; omega
    by_cases hL0 : 0 < L
    · have i1 : (0 : Int) < (L : Int) := by omega
      have i1' : 0 < L := by omega
      have HL0 := Lib.hid hL0
      have hkb := HZ.out _ HM.out.base
      have d2 : wo.cell? ⟨z, 2, none⟩ = some (.int .u64 r2) := by rw [blk_cell hkb]; rfl
      have d3 : wo.cell? ⟨z, 3, none⟩ = some (.int .i64 t2) := by rw [blk_cell hkb]; rfl
      obtain ⟨T, eT⟩ : ∃ T : Nat, t2 = (T : Int) := ⟨t2.toNat, by have := Hfit.out; omega⟩
      have ET := Lib.hid eT
      rw [eT] at d3
      clear hkb hL0 eT
      go_wp2_with fail
      clear d2 d3
      go_loopg [12, 13, 76] T (fun gk x12 x13 x76 wr => ∃ (k : Nat) (D W : Int) (s : XS) (Z : Nat → Prop), Hid (gk + k = T) ∧ x76 = .int .i64 (k : Int) ∧ x12 = .int .u64 D ∧ x13 = .int .u64 W ∧ Hid (0 ≤ D ∧ D + r2 = st + W) ∧ Hid (TrX s L y2 r2 t2 k D W) ∧ Hid (AtX XAt Z w3 [(g, s)] wr))
      case atStart => exact ⟨0, st, r2, s, Z, Lib.hid (by omega), rfl, rfl, rfl, Lib.hid (by have := HL.out; omega), HT, HM⟩
      case round =>
        clear HM HT
        obtain ⟨k, D, W, s, Z, hgk, rfl, rfl, rfl, HD, HT, HM⟩ := hrel
        obtain rfl : gk = T - k := by have := hgk.out; omega
        have hkT : k ≤ T := by have := hgk.out; omega
        have hT10 : T ≤ 10 := by have := Hfit.out; have := ET.out; omega
        clear hgk
        obtain ⟨hW1, hW2⟩ := HT.out.small (by have := Hfit.out; omega)
        obtain ⟨hD0, hD1⟩ := HD.out
        have hst := HL.out
        have hr2 := Hfit.out.2.1
        obtain ⟨D2, eD2⟩ : ∃ v, D + W = v := ⟨_, rfl⟩
        have hD2 : 1 ≤ D2 ∧ D2 ≤ 2000000 := by omega
        have V1 := Lib.hid (show IntKind.u64.wrap (D + W) = D2 by rw [IntKind.wrap_u64]; omega)
        by_cases hk : k < T
        · have i2 : (k : Int) < (T : Int) := by omega
          have i3 : (k : Int) < 100 := by omega
          obtain ⟨W2, eW2⟩ : ∃ v, W * 2 = v := ⟨_, rfl⟩
          have V2 := Lib.hid (show IntKind.u64.wrap (W * 2) = W2 by rw [IntKind.wrap_u64]; omega)
          obtain ⟨D1, eD1⟩ : ∃ v, D2 - 1 = v := ⟨_, rfl⟩
          have V3 := Lib.hid (show IntKind.u64.wrap (D2 - 1) = D1 by rw [IntKind.wrap_u64]; omega)
          have hal := HT.out.alarms HL0.out
          rw [eD2] at hal
          have hea := HT.out.early HL0.out D1 (by omega)
          obtain ⟨e1, e2, e3, e4, e5⟩ := tick_two hea
          obtain ⟨hT2, hb, hE, hDl, hby⟩ := HT.out.tick HL0.out hst.1 (by rw [ET.out]; exact i2) D2 eD2.symm (by omega)
          obtain ⟨s2, es2⟩ : ∃ v, tickS 10 D2 s = v := ⟨_, rfl⟩
          obtain ⟨xa, exa⟩ : ∃ v, tickA 10 D2 s = v := ⟨_, rfl⟩
          obtain ⟨ld, eld⟩ : ∃ v, tickD 10 D2 s = v := ⟨_, rfl⟩
          obtain ⟨m, em⟩ : ∃ v, max 1 (min L y2.toNat) = v := ⟨_, rfl⟩
          rw [es2, show W + W = W2 by omega] at hT2
          rw [eld, em] at hDl
          rw [eld] at hby
          have HP := Lib.hid (And.intro hal (And.intro e1 (And.intro e2 (And.intro e3 (And.intro e4 e5)))))
          have HQ := Lib.hid (And.intro hb (And.intro hE (And.intro hDl (And.intro hby (And.intro es2 (And.intro exa eld))))))
          have HT2 := Lib.hid hT2
          have Hn1 := Lib.hid (show nowX D1 ∧ nowX D2 from by unfold nowX; omega)
          have HD2 := Lib.hid (show 0 ≤ D2 ∧ D2 + r2 = st + W2 from by omega)
          have hy2 := Hfit.out.1
          have Q1 := Lib.hid (show IntKind.i64.wrap y2 = y2 by rw [IntKind.wrap_i64]; omega)
          obtain ⟨mn, emn⟩ : ∃ v : Int, (if y2 < (L : Int) then y2 else (L : Int)) = v := ⟨_, rfl⟩
          have Q3 := Lib.hid (show (if (1 : Int) < mn then mn else 1) = (m : Int) by rw [← emn, ← em]; split <;> split <;> omega)
          have Hk := Lib.hid (And.intro hk hkT)
          clear hW1 hW2 hD0 hD1 hst hr2 hD2 eD2 eW2 eD1 hal hea e1 e2 e3 e4 e5 hT2 hb hE hDl hby es2 exa eld em hy2 hT10 hk hkT
          go_wp2_with fail
          rw [V1.out, V2.out]
          refine (yalarm HF.out _ 0 g s _ w3 wr HM.out rfl D2 true HP.out.1.1 HP.out.1.2).mono ?_
          rintro e wa ⟨rfl, h1, h2⟩
          have HM := Lib.hid h1
          clear h1 h2
          go_wp2_with fail
          rw [V3.out]
          refine (ytickn (ytick HF.out _ 0 g s [(g, s)] [(g, s)] w3 wa HM.out rfl 10 D1 s 0 false 0 [] (by decide) Hn1.out.1 HP.out.2.1 HP.out.2.2.1 HP.out.2.2.2.1 HP.out.2.2.2.2.1 HP.out.2.2.2.2.2 rfl) (by simp) 0 (rfl)).mono ?_
          rintro e wt ⟨At, ct, Zt, rfl, h0, h1⟩
          have HM := Lib.hid h1
          have H0 := Lib.hid h0
          clear h0 h1
          go_wp2_with fail
          obtain ⟨zt, hzt⟩ : ∃ z, wt.heap.size = z := ⟨_, rfl⟩
          simp only [hzt]
          obtain ⟨wn, Zn, ewn, h1, -, -, h0⟩ := alloc_next HF.out HM.out hzt 0 At 0 ct _ H0.out
          simp only [ewn]
          have HM := Lib.hid h1
          obtain ⟨kn0, kn1, -⟩ := h0 wn (But.refl _ _)
          clear h0 h1 hzt ewn H0
          clear kn0 kn1
          go_wp2_with fail
          refine (ytickn (ytick HF.out _ 0 g s [(g, s)] [(g, s2)] w3 wn HM.out rfl 10 D2 s2 xa true 0 ld (by decide) Hn1.out.2 HQ.out.2.2.2.2.1 HQ.out.2.2.2.2.2.1 HQ.out.1 HQ.out.2.1 HQ.out.2.2.2.2.2.2 rfl) (HQ.out.2.2.2.1) m (HQ.out.2.2.1)).mono ?_
          rintro e wt ⟨At, ct, Zt, rfl, h0, h1⟩
          have HM := Lib.hid h1
          have H0 := Lib.hid h0
          clear h0 h1
          go_upto_region 23 with (fail)
          obtain ⟨zt, hzt⟩ : ∃ z, wt.heap.size = z := ⟨_, rfl⟩
          simp only [hzt]
          obtain ⟨wn, Zn, ewn, h1, -, -, h0⟩ := alloc_next HF.out HM.out hzt xa At m ct _ H0.out
          simp only [ewn]
          have HM := Lib.hid h1
          obtain ⟨kn0, kn1, -⟩ := h0 wn (But.refl _ _)
          clear h0 h1 hzt ewn H0
          have hkb := HZ.out _ HM.out.base
          have d1 : wn.cell? ⟨z, 1, none⟩ = some (.int .u32 y2) := by rw [blk_cell hkb]; rfl
          have q1 := Q1.out
          have q3 := Q3.out
          clear hkb
          go_wp2_with fail
          clear q1 q3 d1 kn0 kn1
          go_roundg (T - (k + 1))
          case measure => have := Hk.out; omega
          case rel => exact ⟨k + 1, D2, W2, s2, Zn, Lib.hid (by have := Hk.out; omega), by go_num, rfl, rfl, HD2, HT2, HM⟩
        · obtain rfl : k = T := by omega
          have i2 : ¬ (k : Int) < (k : Int) := by omega
          obtain ⟨D3, eD3⟩ : ∃ v, D2 + 3 = v := ⟨_, rfl⟩
          have V3 := Lib.hid (show IntKind.u64.wrap (D2 + 3) = D3 by rw [IntKind.wrap_u64]; omega)
          have hfu := HT.out.full HL0.out ET.out.symm D2 (by omega)
          obtain ⟨e1, e2, e3, e4, e5⟩ := tick_three hfu
          have hk0 : 0 < k := by have := Hfit.out; have := ET.out; omega
          obtain ⟨hT2, hN, hE⟩ := HT.out.ack HL0.out hk0 D3 (by omega)
          obtain ⟨s2, es2⟩ : ∃ v, ackS (numX (s.una + 1)) y2 D3 s = v := ⟨_, rfl⟩
          rw [es2] at hT2
          have HP := Lib.hid (And.intro e1 (And.intro e2 (And.intro e3 (And.intro e4 e5))))
          have HQ := Lib.hid (And.intro hN (And.intro hE es2))
          have HT2 := Lib.hid hT2
          have Hn1 := Lib.hid (show nowX D3 ∧ nowX D2 from by unfold nowX; omega)
          have HL2 := Lib.hid (show L - 1 ≤ 4 ∧ 0 ≤ D3 ∧ D3 ≤ 65536 + (4 - ((L - 1 : Nat) : Int)) * 200000 from by have := HL0.out; omega)
          obtain ⟨ua, eua⟩ : ∃ v, s.una = v := ⟨_, rfl⟩
          obtain ⟨ub, eub⟩ : ∃ v, numX (ua + 1) = v := ⟨_, rfl⟩
          have Hub := Lib.hid (show sAdd ua 1 = ub from eub)
          have hub := numX_bd (ua + 1)
          rw [eub] at hub
          have Hubd := Lib.hid hub
          rw [eua, eub] at HQ
          have Eua := Lib.hid eua
          clear hW1 hW2 hD0 hD1 hst hr2 hD2 eD2 eD3 hfu e1 e2 e3 e4 e5 hk0 hT2 hN hE es2 eua eub hT10 hk hkT hub
          go_wp2_with fail
          rw [V1.out]
          refine (ytickn (ytick HF.out _ 0 g s [(g, s)] [(g, s)] w3 wr HM.out rfl 10 D2 s 0 false 7 [] (by decide) Hn1.out.2 HP.out.1 HP.out.2.1 HP.out.2.2.1 HP.out.2.2.2.1 HP.out.2.2.2.2 rfl) (by simp) 0 (rfl)).mono ?_
          rintro e wt ⟨At, ct, Zt, rfl, h0, h1⟩
          have HM := Lib.hid h1
          have H0 := Lib.hid h0
          clear h0 h1
          go_upto_region 28 with (fail)
          obtain ⟨zt, hzt⟩ : ∃ z, wt.heap.size = z := ⟨_, rfl⟩
          simp only [hzt]
          obtain ⟨wn, Zn, ewn, h1, -, -, h0⟩ := alloc_next HF.out HM.out hzt 0 At 0 ct _ H0.out
          simp only [ewn]
          have HM := Lib.hid h1
          obtain ⟨kn0, kn1, -⟩ := h0 wn (But.refl _ _)
          clear h0 h1 hzt ewn H0
          clear kn0 kn1
          go_wp2_with fail
          rw [V3.out]
          have hkb := HZ.out _ HM.out.base
          obtain ⟨wd, ewd⟩ : ∃ v, wn.drew = v := ⟨_, rfl⟩
          have HMd := Lib.hid (show AtX XAt Zn w3 [(g, s)] wd by rw [← ewd]; exact HM.out.below HF.out ((Below.refl _ _).drew))
          have HC := Lib.hid (fun W (hW : Below w3.heap.size w3 W) => show W.cell? ⟨z, 1, none⟩ = some (.int .u32 y2) by rw [blk_cell (HZ.out W hW)]; rfl)
          clear hkb
          refine wp_region_held_drew (S := fun w' => w'.cell? ⟨z, 1, none⟩ = some (.int .u32 y2)) (by kernel_rfl) (by rw [ewd]; exact HC.out _ HMd.out.base) (fun hHeld => ?_)
          rw [ewd] at hHeld ⊢
          clear ewd HM
          refine tk 0 ?_ rfl ?_ ?_
          rotate_left
          · intro w' hSw; (go_simp <;> (with_reducible rfl))
          try simp only [Act.put, putL]
          refine tk 1 ?_ rfl ?_ ?_
          rotate_left
          · intro w' hSw; (go_simp <;> (with_reducible rfl))
          try simp only [Act.put, putL]
          refine tk 4 ?_ rfl ?_ ?_
          rotate_left
          · intro w' hSw; (go_simp <;> (with_reducible rfl))
          try simp only [Act.put, putL]
          refine tk 5 ?_ rfl ?_ ?_
          rotate_left
          · intro w' hSw; (go_simp <;> (with_reducible rfl))
          try simp only [Act.put, putL]
          refine tk 6 ?_ rfl ?_ ?_
          rotate_left
          · intro w' hSw; (go_simp <;> (with_reducible rfl))
          try simp only [Act.put, putL]
          refine tkC 2 rfl (fun K hK => ?_)
          go_simp
          (refine (yuna HF.out _ 0 g s _ w3 wd HMd.out rfl).mono ?_; rintro e w8 ⟨rfl, h1, h2⟩; have HM8 := Lib.hid h1; clear h1 h2; rw [Eua.out])
          refine hK.out _ _ ?_ (fun hHeld => ?_)
          · exact HC.out _ HM8.out.base
          clear hK K
          try simp only [Act.put, putL]
          refine tkC 3 rfl (fun K hK => ?_)
          go_simp
          (refine (add_any ua 1 w8).mono ?_; rintro e w' ⟨rfl, rfl⟩; rw [Hub.out])
          refine hK.out _ _ ?_ (fun hHeld => ?_)
          · exact HC.out _ HM8.out.base
          clear hK K
          try simp only [Act.put, putL]
          refine tkC 7 rfl (fun K hK => ?_)
          go_simp
          (refine (yack HF.out _ 0 g s _ [(g, s2)] w3 w8 HM8.out rfl ub y2 D3 s2 1 0 Hubd.out (by have := Hfit.out; unfold u32X; omega) Hn1.out.1 HQ.out.2.2 HQ.out.1 HQ.out.2.1 rfl).mono ?_; rintro e w9 ⟨rfl, h1, h2⟩; have HM9 := Lib.hid h1; clear h1 h2)
          refine hK.out _ _ ?_ (fun hHeld => ?_)
          · exact HC.out _ HM9.out.base
          clear hK K
          try simp only [Act.put, putL]
          refine tk 8 ?_ rfl ?_ ?_
          rotate_left
          · intro w' hSw; (go_simp <;> (with_reducible rfl))
          try simp only [Act.put, putL]
          refine tk 9 ?_ rfl ?_ ?_
          rotate_left
          · intro w' hSw; (go_simp <;> (with_reducible rfl))
          try simp only [Act.put, putL]
          refine tk 10 ?_ rfl ?_ ?_
          rotate_left
          · intro w' hSw; (go_simp <;> (with_reducible rfl))
          try simp only [Act.put, putL]
          refine tk 11 ?_ rfl ?_ ?_
          rotate_left
          · intro w' hSw; (go_simp <;> (with_reducible rfl))
          try simp only [Act.put, putL]
          refine tk 12 ?_ rfl ?_ ?_
          rotate_left
          · intro w' hSw; (go_simp <;> (with_reducible rfl))
          try simp only [Act.put, putL]
          refine wpAnyH_done (by kernel_rfl) ?_ _
          clear hHeld
          go_wp2_with fail
          have hL1 := HL0.out
          go_roundg (L - 1)
          case measure => omega
          case rel => exact ⟨L - 1, D3, s2, _, Lib.hid rfl, congrArg (Value.int .i64) (by omega), rfl, HL2, HT2, HM9⟩
    · obtain rfl : L = 0 := by omega
      obtain ⟨e1, e2, e3⟩ := HT.out.last rfl 549755813888
      obtain ⟨e4, e5, e6, e7, e8⟩ := tick_two e3
      have HP := Lib.hid (And.intro e1 (And.intro e2 (And.intro e4 (And.intro e5 (And.intro e6 (And.intro e7 e8))))))
      have HB30 := Lib.hid (below_trans HB3.out HM.out.base)
      clear e1 e2 e3 e4 e5 e6 e7 e8 hL0
      go_wp2_with fail
      refine (yalarm HF.out _ 0 g s _ w3 wo HM.out rfl 0 false HP.out.2.1 HP.out.1).mono ?_
      rintro e wa ⟨rfl, h1, h2⟩
      have HM := Lib.hid h1
      clear h1 h2
      go_wp2_with fail
      refine (ytickn (ytick HF.out _ 0 g s [(g, s)] [(g, s)] w3 wa HM.out rfl 10 549755813888 s 0 false 0 [] (by decide) (by decide) HP.out.2.2.1 HP.out.2.2.2.1 HP.out.2.2.2.2.1 HP.out.2.2.2.2.2.1 HP.out.2.2.2.2.2.2 rfl) (by simp) 0 (rfl)).mono ?_
      rintro e wt ⟨At, ct, Zt, rfl, h0, h1⟩
      have HM := Lib.hid h1
      have H0 := Lib.hid h0
      clear h0 h1
      go_upto_region 36 with (fail)
      obtain ⟨zt, hzt⟩ : ∃ z, wt.heap.size = z := ⟨_, rfl⟩
      simp only [hzt]
      obtain ⟨wn, Zn, ewn, h1, -, -, h0⟩ := alloc_next HF.out HM.out hzt 0 At 0 ct _ H0.out
      simp only [ewn]
      have HM := Lib.hid h1
      obtain ⟨kn0, kn1, -⟩ := h0 wn (But.refl _ _)
      clear h0 h1 hzt ewn H0
      have HE := Lib.hid (below_trans HB3.out HM.out.base)
      go_wp2_with fail
      go_ret
      exact ⟨rfl, HE.out⟩
end Go.Proofs.Ytncbkgcblmohoaa.rexmitTriesW
