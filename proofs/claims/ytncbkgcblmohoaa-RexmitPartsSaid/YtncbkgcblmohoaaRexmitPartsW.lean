/-
  RexmitParts' walk, over the face.
-/
import Derived.Test.YtncbkgcblmohoaaTk
import Derived.Test.YtncbkgcblmohoaaRxPcs
import Derived.Test.YtncbkgcblmohoaaRxFitB
import Derived.Test.YtncbkgcblmohoaaRdSub
import Derived.Test.YtncbkgcblmohoaaSeqNum
import Derived.Deep.DeepCutAuto
import Derived.Deep.LoopGhost
import Derived.Deep.CutRange
namespace Go.Proofs.Ytncbkgcblmohoaa.rexmitPartsW
set_option maxRecDepth 10000
open Go.RowKit
set_option linter.unusedVariables false
set_option linter.unusedSimpArgs false
variable {XAt : XA}

theorem str_neq (x : ByteArray) (W : World) : (binOp .neq 9 (.string x) (.string x)).run Try.prog W = .ok (.bool false) W := by
  go_simp
theorem str_eql (x : ByteArray) (W : World) : (binOp .eql 9 (.string x) (.string x)).run Try.prog W = .ok (.bool true) W := by
  go_simp
theorem quot_is (n ms np : Nat) (hn : n ≤ 300) (hm : 1 ≤ ms ∧ ms ≤ 200) (h : np = (n + ms - 1) / ms) : wrap64 ((wrap64 (wrap64 ((n : Int) + (ms : Int)) - 1)).tdiv (ms : Int)) = (np : Int) := by
  have e1 : wrap64 ((n : Int) + (ms : Int)) = (n : Int) + (ms : Int) := IntWalk.wrap64_in _ (by omega)
  have e2 : wrap64 ((n : Int) + (ms : Int) - 1) = ((n + ms - 1 : Nat) : Int) := by rw [IntWalk.wrap64_in _ (by omega)]; omega
  rw [e1, e2]
  have e3 : (((n + ms - 1 : Nat) : Int)).tdiv (ms : Int) = ((n + ms - 1) / ms : Nat) := rfl
  rw [e3, ← h]
  have : np ≤ n + ms - 1 := by rw [h]; exact Nat.div_le_self _ _
  exact IntWalk.wrap64_in _ (by omega)
theorem quot_lt {n ms np i : Nat} (hm : 1 ≤ ms) (h : np = (n + ms - 1) / ms) (hi : i < np) : i * ms < n := by
  have h1 : i + 1 ≤ (n + ms - 1) / ms := by omega
  rw [Nat.le_div_iff_mul_le (by omega), Nat.succ_mul] at h1
  omega
theorem quot_all {n ms np : Nat} (hm : 1 ≤ ms) (h : np = (n + ms - 1) / ms) : n ≤ np * ms := by
  have h1 := Nat.div_add_mod (n + ms - 1) ms
  have h2 := Nat.mod_lt (n + ms - 1) (show ms > 0 by omega)
  rw [← h, Nat.mul_comm] at h1
  omega
set_option maxHeartbeats 8000000 in
theorem walk (F : XFace XAt) (w : World) (x y r t : Int) (hx : 0 ≤ x ∧ x < 4294967296) (hy : 0 ≤ y ∧ y < 4294967296) (hr : 0 ≤ r ∧ r < 18446744073709551616) (ht : -9223372036854775808 ≤ t ∧ t < 9223372036854775808)
    (A : Option Addr) (N cD : Nat) (l0 : List Int) (hd : RdC w A N cD l0) (AP : Option Addr) (NP cP : Nat) (lP : List Int) (hP : RdC w AP NP cP lP) (mi : Int) (hmi : 0 ≤ mi ∧ mi < 256) :
    Calls Try.prog 7 #[.agg #[.int .u32 x, .int .u32 y, .int .u64 r, .int .i64 t], .slice A N cD, .agg #[.slice AP NP cP, .int .u8 mi]] w fun e w' => e = .returned (.bool true) ∧ Below w.heap.size w w' := by
  obtain ⟨n, hmin, hnN, hn3⟩ := min_nat 300 N (by omega)
  obtain ⟨hs1, hsr⟩ := hd.upto n hnN
  obtain ⟨s, es⟩ : ∃ s, l0.take n = s := ⟨_, rfl⟩
  rw [es] at hsr
  obtain ⟨ms, u1, hms⟩ : ∃ ms : Nat, wrap64 (1 + (wrap64 mi).tmod 200) = (ms : Int) ∧ 1 ≤ ms ∧ ms ≤ 200 := by
    refine ⟨(1 + mi % 200).toNat, ?_, by omega, by omega⟩
    have e0 : wrap64 mi = mi := IntWalk.wrap64_in _ (by omega)
    rw [e0, Int.tmod_eq_emod_of_nonneg hmi.1]
    rw [IntWalk.wrap64_in _ (by omega)]
    omega
  obtain ⟨z, ez⟩ : ∃ z, w.heap.size = z := ⟨_, rfl⟩
  obtain ⟨w1, ew1⟩ : ∃ v, (w.alloc (.cells #[.int .u32 x, .int .u32 y, .int .u64 r, .int .i64 t] 25)).alloc (.cells #[.slice AP NP cP, .int .u8 mi] 81) = v := ⟨_, rfl⟩
  have hb1 : Below w.heap.size w w1 := by rw [← ew1]; exact ((Below.refl _ _).alloc (Nat.le_refl _) _).alloc (by simp) _
  have hk1 : w1.heap[z]? = some (.cells #[.int .u32 x, .int .u32 y, .int .u64 r, .int .i64 t] 25 (0, 0)) := by rw [← ew1, Below.heap_alloc _ _ _ (by simp [ez]), ← ez]; exact heap_alloc_new w _
  have hk1b : w1.heap[z + 1]? = some (.cells #[.slice AP NP cP, .int .u8 mi] 81 (0, 0)) := by
    rw [← ew1, ← ez]; simpa using heap_alloc_new (w.alloc (.cells #[.int .u32 x, .int .u32 y, .int .u64 r, .int .i64 t] 25)) (.cells #[.slice AP NP cP, .int .u8 mi] 81)
  have c0 : w1.cell? ⟨z, 0, none⟩ = some (.int .u32 x) := by rw [blk_cell hk1]; rfl
  have c1 : w1.cell? ⟨z, 1, none⟩ = some (.int .u32 y) := by rw [blk_cell hk1]; rfl
  have c2 : w1.cell? ⟨z, 2, none⟩ = some (.int .u64 r) := by rw [blk_cell hk1]; rfl
  have c3 : w1.cell? ⟨z, 3, none⟩ = some (.int .i64 t) := by rw [blk_cell hk1]; rfl
  have HFit := Lib.hid (fit19_any x y r t w1 ⟨by omega, by omega⟩ ⟨by omega, by omega⟩ ⟨by omega, by omega⟩)
  have hfit := fit_bd y r t
  obtain ⟨y2, ey2⟩ : ∃ v, fitW y = v := ⟨_, rfl⟩
  obtain ⟨r2, er2⟩ : ∃ v, fitR r = v := ⟨_, rfl⟩
  obtain ⟨t2, et2⟩ : ∃ v, fitT t = v := ⟨_, rfl⟩
  rw [ey2, er2, et2] at HFit hfit
  have Hfit := Lib.hid hfit
  have HB1 := Lib.hid hb1
  have HK1 := Lib.hid hk1
  have HK1b := Lib.hid hk1b
  have Ew1 := Lib.hid ew1
  have HF := Lib.hid F
  have Hx := Lib.hid hx
  have Hms := Lib.hid hms
  have U1 := Lib.hid u1
  have Hn := Lib.hid (show n ≤ 300 by omega)
  have Hsr := Lib.hid hsr
  have HP := Lib.hid hP
  clear F hx hy hr ht hd hP hmi hms u1 es hn3 hnN hsr hb1 hk1 hk1b ew1 hfit ey2 er2 et2
  go_enter Try.func7, Try.ntmps7
  go_upto_region 1 with (fail)
  rw [Ew1.out]
  try rw [ez]
  go_wp2_with fail
  refine HFit.out.mono ?_
  rintro e w2 ⟨rfl, hb2⟩
  have hk2 := blk_on HK1.out hb2
  have HB2 := Lib.hid (below_trans HB1.out hb2)
  have HB2c := Lib.hid hb2
  have d0 : w2.cell? ⟨z, 0, none⟩ = some (.int .u32 x) := by rw [blk_cell hk2]; rfl
  have d1 : w2.cell? ⟨z, 1, none⟩ = some (.int .u32 y) := by rw [blk_cell hk2]; rfl
  have d2 : w2.cell? ⟨z, 2, none⟩ = some (.int .u64 r) := by rw [blk_cell hk2]; rfl
  have d3 : w2.cell? ⟨z, 3, none⟩ = some (.int .i64 t) := by rw [blk_cell hk2]; rfl
  have f0 := blk_free hk2 0
  have f1 := blk_free hk2 1
  have f2 := blk_free hk2 2
  have f3 := blk_free hk2 3
  obtain ⟨w3, ew3⟩ : ∃ v, (((w2.setCell ⟨z, 0, none⟩ (.int .u32 x)).setCell ⟨z, 1, none⟩ (.int .u32 y2)).setCell ⟨z, 2, none⟩ (.int .u64 r2)).setCell ⟨z, 3, none⟩ (.int .i64 t2) = v := ⟨_, rfl⟩
  have hk3 : w3.heap[z]? = some (.cells #[.int .u32 x, .int .u32 y2, .int .u64 r2, .int .i64 t2] 25 (0, 0)) := by
    rw [← ew3]
    simp [World.setCell, Array.getElem?_modify, hk2]
  have hb3 : But (fun k => k = z) w2 w3 := by rw [← ew3]; exact ((((But.refl (fun k => k = z) w2).setCell (p := ⟨z, 0, none⟩) rfl _).setCell (p := ⟨z, 1, none⟩) rfl _).setCell (p := ⟨z, 2, none⟩) rfl _).setCell (p := ⟨z, 3, none⟩) rfl _
  have HB3 := Lib.hid (HB2.out.trans (hb3.below (B := w.heap.size) (fun k hk => by omega) HB2.out.size))
  have HK3 := Lib.hid hk3
  have HB3c := Lib.hid hb3
  have Ew3 := Lib.hid ew3
  clear hk2 hk3 hb2 hb3 ew3 c0 c1 c2 c3
  go_upto_region 2 with (fail)
  try rw [Ew3.out]
  clear d0 d1 d2 d3 f0 f1 f2 f3
  have k1 : w3.cell? ⟨z, 1, none⟩ = some (.int .u32 y2) := by rw [blk_cell HK3.out]; rfl
  have f1 := blk_free HK3.out 1
  obtain ⟨w4, ew4⟩ : ∃ v, w3.setCell ⟨z, 1, none⟩ (.int .u32 1000) = v := ⟨_, rfl⟩
  have hk4 := heap_setCell_at HK3.out 1 (.int .u32 1000)
  rw [ew4] at hk4
  have hb4 : But (fun k => k = z) w3 w4 := by rw [← ew4]; exact (But.refl (fun k => k = z) w3).setCell (p := ⟨z, 1, none⟩) rfl _
  have HB4 := Lib.hid (HB3.out.trans (hb4.below (B := w.heap.size) (fun k hk => by omega) HB3.out.size))
  have HK4 := Lib.hid (show w4.heap[z]? = some (.cells #[.int .u32 x, .int .u32 1000, .int .u64 r2, .int .i64 t2] 25 (0, 0)) from hk4)
  have Ew4 := Lib.hid ew4
  have HK4b := Lib.hid (show w4.heap[z + 1]? = some (.cells #[.slice AP NP cP, .int .u8 mi] 81 (0, 0)) from hb4.blk (((HB3c.out).blk (blk_on HK1b.out HB2c.out) (fun e => by omega))) (fun e => by omega))
  clear hk4 hb4 ew4
  go_upto_region 3 with (fail)
  rw [Ew4.out]
  clear k1 f1
  have d0 : w4.cell? ⟨z, 0, none⟩ = some (.int .u32 x) := by rw [blk_cell HK4.out]; rfl
  have d1 : w4.cell? ⟨z, 1, none⟩ = some (.int .u32 1000) := by rw [blk_cell HK4.out]; rfl
  have d2 : w4.cell? ⟨z, 2, none⟩ = some (.int .u64 r2) := by rw [blk_cell HK4.out]; rfl
  have d3 : w4.cell? ⟨z, 3, none⟩ = some (.int .i64 t2) := by rw [blk_cell HK4.out]; rfl
  go_wp2_with fail
  refine (ynew HF.out _ [] w4 w4 (AtX.start w4) x 1000 r2 t2 Hx.out (by decide) (by have := Hfit.out; unfold badX; omega)).mono ?_
  rintro e w5 ⟨ga, rfl, h1, h2⟩
  have HM := Lib.hid h1
  clear h1 h2 d0 d1 d2 d3
  have hkb := blk_on HK4.out HM.out.base
  have d0 : w5.cell? ⟨z, 0, none⟩ = some (.int .u32 x) := by rw [blk_cell hkb]; rfl
  have d1 : w5.cell? ⟨z, 1, none⟩ = some (.int .u32 1000) := by rw [blk_cell hkb]; rfl
  have d2 : w5.cell? ⟨z, 2, none⟩ = some (.int .u64 r2) := by rw [blk_cell hkb]; rfl
  have d3 : w5.cell? ⟨z, 3, none⟩ = some (.int .i64 t2) := by rw [blk_cell hkb]; rfl
  clear hkb
  unfold madeX
  go_wp2_with fail
  refine (ynew HF.out _ _ w4 w5 HM.out x 1000 r2 t2 Hx.out (by decide) (by have := Hfit.out; unfold badX; omega)).mono ?_
  rintro e w6 ⟨gb, rfl, h1, h2⟩
  have HM := Lib.hid h1
  clear h1 h2 d0 d1 d2 d3
  have hpt := PtX.new_ (x := x) (win := 1000) (r := r2) (t := t2) Hx.out (by decide) (by have := Hfit.out; unfold badX; omega)
  have hby := Hsr.out.rd.byte
  have hsl := Hsr.out.rd.len
  obtain ⟨hpa, hea⟩ := hpt.write (d := s) (by have := Hn.out; simp; omega) hby
  rw [List.nil_append] at hpa
  obtain ⟨sn, esn⟩ : ∃ v, newX x 1000 r2 t2 = v := ⟨_, rfl⟩
  obtain ⟨sa, esa⟩ : ∃ v, writeS s 0 sn = v := ⟨_, rfl⟩
  rw [esn] at hpt hpa hea HM
  rw [esa] at hpa
  have Hpt := Lib.hid hpt
  have Hpa := Lib.hid hpa
  have Hea := Lib.hid (And.intro hea esa)
  have Hby := Lib.hid (And.intro hby hsl)
  clear hpt hpa hea esn esa hby hsl
  unfold madeX
  go_wp2_with fail
  refine (awake19_any HF.out w6).mono ?_
  rintro e w7 ⟨rfl, hb⟩
  have h1 := HM.out.below HF.out hb
  have HM := Lib.hid h1
  clear hb h1
  have HB40 := Lib.hid (fun W (hW : Below w4.heap.size w4 W) => (show RdC W A n cD s from Hsr.out.below (HB4.out.trans (hW.mono HB4.out.size))))
  have HBase := Lib.hid (show ∀ b o, A = some ⟨b, o, none⟩ → 0 < n → b < w4.heap.size from fun b o e h0 => by
    obtain ⟨b2, o2, e2, hlt, _⟩ := Hsr.out.rd.at_ h0
    rw [e] at e2
    injection e2 with e2
    injection e2 with e2
    have := HB4.out.size
    omega)
  go_wp2_with fail
  refine (ywrite HF.out _ 0 ga sn _ [(ga, sa), (gb, sn)] w4 w7 HM.out rfl 0 A n cD s sa 0 (by decide) (HB40.out _ HM.out.base).rd (by have := Hn.out; omega) (HB40.out _ HM.out.base).nc (HB40.out _ HM.out.base).cm (fun b o e h0 => HBase.out b o e h0) Hea.out.2 Hea.out.1 rfl).mono ?_
  rintro e w8 ⟨rfl, h1, h2⟩
  have HM := Lib.hid h1
  clear h1 h2 hs1
  have hkb := blk_on HK4b.out HM.out.base
  have d0 : w8.cell? ⟨z + 1, 0, none⟩ = some (.slice AP NP cP) := by rw [blk_cell hkb]; rfl
  clear hkb
  go_wp2_with fail
  clear d0
  have HR0 := Lib.hid (HB40.out w4 (Below.refl _ _))
  have HbP := Lib.hid (show ∀ W, Below w4.heap.size w4 W → Rd W AP NP lP from fun W hW => (HP.out.below (HB4.out.trans (hW.mono HB4.out.size))).rd)
  have HNP := Lib.hid (show NP ≤ 9223372036854775807 from by have := HP.out.nc; have := HP.out.cm; unfold maxLen at this; omega)
  go_loopg [11, 74] NP (fun gk x11 x74 wr => ∃ (i j m c1 : Nat) (A1 : Option Addr) (sb : XS) (Z : Nat → Prop), Hid (gk + i = NP) ∧ x74 = .int .i64 (i : Int) ∧ x11 = .slice A1 m c1 ∧ Hid (j + m = n ∧ PtX sb x 1000 (s.take j)) ∧ Hid (RdC w4 A1 m c1 (s.drop j)) ∧ Hid (AtX XAt Z w4 [(ga, sa), (gb, sb)] wr))
  case atStart => exact ⟨0, 0, n, cD, A, sn, _, Lib.hid (by omega), rfl, rfl, Lib.hid ⟨by omega, Hpt.out⟩, HR0, HM⟩
  case round =>
    clear HM
    obtain ⟨i, j, m, c1, A1, sb, Z, hgk, rfl, rfl, Hj, HR, HM⟩ := hrel
    obtain rfl : gk = NP - i := by have := hgk.out; omega
    have hiN : i ≤ NP := by have := hgk.out; omega
    have HRA := Lib.hid (show ∀ b o, A1 = some ⟨b, o, none⟩ → 0 < m → Z b from fun b o e h0 => by
      obtain ⟨b2, o2, e2, hlt, _⟩ := HR.out.rd.at_ h0
      rw [e] at e2
      injection e2 with e2
      injection e2 with e2
      exact HM.out.old b (by omega))
    clear hgk
    have hm3 : m ≤ 300 := by have := Hj.out; have := Hn.out; omega
    have Hm3 := Lib.hid hm3
    by_cases hi : i < NP
    · have i2 : (i : Int) < (NP : Int) := by omega
      have i3 : (i : Int) < 9223372036854775807 := by have := HNP.out; omega
      obtain ⟨p, hidx, hcell, -⟩ := (HbP.out _ HM.out.base).index (c := cP) hi
      obtain ⟨e, ee⟩ : ∃ e, lP.getD i 0 = e := ⟨_, rfl⟩
      have heb : 0 ≤ e ∧ e < 256 := by
        have hlt : i < lP.length := by have := HP.out.rd.len; omega
        rw [← ee]
        simp only [List.getD, List.getElem?_eq_getElem hlt, Option.getD_some]
        exact HP.out.rd.byte _ (List.getElem_mem hlt)
      rw [ee] at hcell
      have V1 := Lib.hid (show wrap64 e = e from IntWalk.wrap64_in _ (by omega))
      obtain ⟨k, hk, hkm⟩ : ∃ k : Nat, (if (m : Int) < e then (m : Int) else e) = (k : Int) ∧ k ≤ m := by
        by_cases h0 : (m : Int) < e
        · exact ⟨m, by rw [if_pos h0], Nat.le_refl _⟩
        · exact ⟨e.toNat, by rw [if_neg h0]; omega, by omega⟩
      obtain ⟨hup, hru⟩ := HR.out.upto k hkm
      obtain ⟨A2, hfr, hrf⟩ := HR.out.from_ k hkm
      obtain ⟨m2, em2⟩ : ∃ v, m - k = v := ⟨_, rfl⟩
      rw [em2] at hfr hrf
      rw [List.drop_drop] at hrf
      have hby2 : ∀ y ∈ (s.drop j).take k, 0 ≤ y ∧ y < 256 := hru.rd.byte
      have hdl : ((s.drop j).take k).length = k := hru.rd.len
      obtain ⟨hp2, he2⟩ := Hj.out.2.write (d := (s.drop j).take k) (by have := Hn.out; have := Hj.out; rw [List.length_take, hdl]; omega) hby2
      rw [← List.take_add] at hp2
      obtain ⟨sb2, esb2⟩ : ∃ v, writeS ((s.drop j).take k) 0 sb = v := ⟨_, rfl⟩
      rw [esb2] at hp2
      have Hru := Lib.hid (hru.below HM.out.base)
      have HR2 := Lib.hid hrf
      have Hj2 := Lib.hid (show (j + k) + m2 = n ∧ PtX sb2 x 1000 (s.take (j + k)) from ⟨by have := Hj.out.1; omega, hp2⟩)
      have He2 := Lib.hid (And.intro he2 esb2)
      have Hki := Lib.hid (show k ≤ 100000 ∧ i < NP ∧ k ≤ m from ⟨by omega, hi, hkm⟩)
      clear hm3 hi hiN ee heb hkm hru hrf em2 hby2 hdl hp2 he2 esb2
      go_upto_region 13 with (fail)
      rw [V1.out, hk]
      clear hk hcell hidx
      go_wp2_with fail
      refine (ywrite HF.out _ 1 gb sb _ [(ga, sa), (gb, sb2)] w4 wr HM.out rfl 0 A1 k c1 _ sb2 0 (by decide) Hru.out.rd Hki.out.1 Hru.out.nc Hru.out.cm (fun b o e h0 => HRA.out b o e (by have := Hki.out; omega)) He2.out.2 He2.out.1 rfl).mono ?_
      rintro e w9 ⟨rfl, h1, h2⟩
      have HM9 := Lib.hid h1
      clear h1 h2
      go_wp2_with fail
      clear hup hfr
      go_roundg (NP - (i + 1))
      case measure => have := Hki.out; omega
      case rel => exact ⟨i + 1, j + k, m2, c1 - k, A2, sb2, Z, Lib.hid (by have := Hki.out; omega), by go_num, rfl, Hj2, HR2, HM9⟩
    · obtain rfl : i = NP := by omega
      have i2 : ¬ (i : Int) < (i : Int) := by omega
      have hrA := HR.out
      obtain ⟨hp2, he2⟩ := Hj.out.2.write (d := s.drop j) (by have := Hn.out; have := Hj.out; have := Hsr.out.rd.len; simp; omega) hrA.rd.byte
      rw [List.take_append_drop] at hp2
      obtain ⟨sb2, esb2⟩ : ∃ v, writeS (s.drop j) 0 sb = v := ⟨_, rfl⟩
      rw [esb2] at hp2
      have Hru := Lib.hid (hrA.below HM.out.base)
      have Hpb := Lib.hid hp2
      have He2 := Lib.hid (And.intro he2 esb2)
      clear hm3 hi hiN hp2 he2 esb2 hrA
      go_wp2_with fail
      refine (ywrite HF.out _ 1 gb sb _ [(ga, sa), (gb, sb2)] w4 wr HM.out rfl 0 A1 m c1 _ sb2 0 (by decide) Hru.out.rd (by have := Hm3.out; omega) Hru.out.nc Hru.out.cm (fun b o e h0 => HRA.out b o e h0) He2.out.2 He2.out.1 rfl).mono ?_
      rintro e w9 ⟨rfl, h1, h2⟩
      have HM := Lib.hid h1
      have hkb := blk_on HK4b.out HM.out.base
      have d1 : w9.cell? ⟨z + 1, 1, none⟩ = some (.int .u8 mi) := by rw [blk_cell hkb]; rfl
      clear h1 h2 hkb
      go_wp2_with fail
      rw [U1.out]
      clear d1
      have hsl := Hby.out.2
      obtain ⟨hsa, hse, hna, hea⟩ := Hpa.out.send (by have := Hn.out; omega) ms (by have := Hms.out; omega)
      obtain ⟨hsb, -, hnb, heb⟩ := Hpb.out.send (by have := Hn.out; omega) ms (by have := Hms.out; omega)
      rw [hsl] at hsa hsb hea heb
      obtain ⟨P, eP⟩ : ∃ P, cutX ms n x s = P := ⟨_, rfl⟩
      rw [eP] at hsa hsb
      obtain ⟨ta, eta⟩ : ∃ v, sendS (ms : Int) sa = v := ⟨_, rfl⟩
      obtain ⟨tb, etb⟩ : ∃ v, sendS (ms : Int) sb2 = v := ⟨_, rfl⟩
      rw [eta] at hna hea
      rw [etb] at hnb heb
      obtain ⟨np, enp⟩ : ∃ v, P.length = v := ⟨_, rfl⟩
      have hnp : np = (n + ms - 1) / ms := by rw [← enp, ← eP, cutX_len ms (by have := Hms.out; omega) n x s (by omega), hsl]
      have hget : ∀ i : Nat, i * ms < n → P[i]? = some (numX (x + ((i * ms : Nat) : Int)), (s.drop (i * ms)).take ms) := fun i hi => by
        rw [← eP]
        exact cutX_get ms (by have := Hms.out; omega) n x s i (by omega) Hx.out (by omega)
      have HP1 := Lib.hid (And.intro hsa (And.intro hsb (And.intro hse (And.intro eta (And.intro etb (And.intro enp hnp))))))
      have HP2 := Lib.hid (And.intro hna (And.intro hea (And.intro hnb heb)))
      have Hget := Lib.hid hget
      clear hsa hsb hse hna hea hnb heb eP eta etb enp hnp hget hsl
      refine (ysend' (ysend HF.out _ 0 ga sa [(ga, sa), (gb, sb2)] [(ga, ta), (gb, sb2)] w4 w9 HM.out rfl (ms : Int) ta P 0 (by have := Hms.out; unfold i64X; omega) HP1.out.2.2.2.1 HP1.out.1 HP1.out.2.2.1 rfl)).mono ?_
      rintro e wa ⟨va, qa, Za, rfl, hpa, hqa, h1, -, -, hza⟩
      obtain ⟨Aa, ca, rfl⟩ := hpa.sl.form
      have HM := Lib.hid h1
      have Hqa := Lib.hid hqa
      have HpA := Lib.hid (hpa.mono (Nat.zero_le _))
      have Hza := Lib.hid hza
      have la : qa.length = np := by rw [told_len hqa]; exact HP1.out.2.2.2.2.2.1
      clear hpa hqa h1 hza
      go_wp2_with fail
      refine (ysend' (ysend HF.out _ 1 gb sb2 [(ga, ta), (gb, sb2)] [(ga, ta), (gb, tb)] w4 wa HM.out rfl (ms : Int) tb P 0 (by have := Hms.out; unfold i64X; omega) HP1.out.2.2.2.2.1 HP1.out.2.1 HP1.out.2.2.1 rfl)).mono ?_
      rintro e wb ⟨vb, qb, Zb, rfl, hpb, hqb, h1, h2, -, hzb⟩
      obtain ⟨Ab, cb, rfl⟩ := hpb.sl.form
      have HM := Lib.hid h1
      have Hqb := Lib.hid hqb
      have HpB := Lib.hid (hpb.mono (Nat.zero_le _))
      have HpA2 := Lib.hid (HpA.out.but h2 (fun k hk hn => hn (Hza.out k hk)))
      have lb : qb.length = np := by rw [told_len hqb]; exact HP1.out.2.2.2.2.2.1
      clear hpb hqb h1 h2 hzb HpA
      rw [la] at HpA2
      rw [lb] at HpB
      try simp only [lb]
      go_upto_region 22 with (fail)
      clear la lb
      have q9 := quot_is n ms np Hn.out Hms.out HP1.out.2.2.2.2.2.2
      have hms0 : ¬ (ms : Int) = 0 := by have := Hms.out; omega
      go_wp2_with fail
      clear q9 hms0
      go_loopg [20, 141] np (fun gk x20 x141 wr => ∃ (i ln c5 : Nat) (A5 : Option Addr), Hid (gk + i = np) ∧ x141 = .int .i64 (i : Int) ∧ x20 = .slice A5 ln c5 ∧ Hid ((s.take (i * ms)).length = ln) ∧ Hid (Hold wb A5 ln c5 (s.take (i * ms)) wr))
      case atStart => exact ⟨0, 0, 0, none, Lib.hid (by omega), rfl, rfl, Lib.hid (by simp), Lib.hid ⟨Below.refl _ _, by rw [Nat.zero_mul, List.take_zero]; exact OwnB.nil _ _⟩⟩
      case round =>
        obtain ⟨i, ln, c5, A5, hgk, rfl, rfl, Hln, HO⟩ := hrel
        obtain rfl : gk = np - i := by have := hgk.out; omega
        have hinp : i ≤ np := by have := hgk.out; omega
        have hnp3 : np ≤ 500 := by
          have h5 := HP1.out.2.2.2.2.2.2
          have := Nat.div_le_self (n + ms - 1) ms
          have := Hms.out
          have := Hn.out
          omega
        have hsl := Hby.out.2
        clear hgk
        by_cases hi : i < np
        · have i4 : (i : Int) < (np : Int) := by omega
          have i5 : (i : Int) < 1000 := by omega
          have i6 : (0 : Int) ≤ (i : Int) := by omega
          have hin := quot_lt (show 1 ≤ ms from Hms.out.1) HP1.out.2.2.2.2.2.2 hi
          obtain ⟨o, eo⟩ : ∃ o, i * ms = o := ⟨_, rfl⟩
          have hg := Hget.out i hin
          have hl2 := Hln.out
          have hO2 := HO.out
          have eo2 : (i + 1) * ms = o + ms := by rw [Nat.succ_mul, eo]
          rw [eo] at hin hg hl2 hO2
          obtain rfl : ln = o := by rw [← hl2, List.length_take]; omega
          obtain ⟨sq, esq⟩ : ∃ v, numX (x + (ln : Int)) = v := ⟨_, rfl⟩
          obtain ⟨d, ed⟩ : ∃ v, (s.drop ln).take ms = v := ⟨_, rfl⟩
          rw [esq, ed] at hg
          obtain ⟨dl, edl⟩ : ∃ v, d.length = v := ⟨_, rfl⟩
          have hdb : ∀ y ∈ d, 0 ≤ y ∧ y < 256 := fun y hy => by
            rw [← ed] at hy
            exact Hby.out.1 y (List.mem_of_mem_drop (List.mem_of_mem_take hy))
          obtain ⟨Aq1, cq1, hq1⟩ := told_at Hqa.out hg
          obtain ⟨Aq2, cq2, hq2⟩ := told_at Hqb.out hg
          obtain ⟨wv, ewv⟩ : ∃ v, wr.drew = v := ⟨_, rfl⟩
          have hbv : Below wb.heap.size wb wv := by rw [← ewv]; exact hO2.old.drew
          obtain ⟨b1, p1, hx1, k10, k11, r1⟩ := (HpA2.out.on hbv).index hq1 hdb
          obtain ⟨b2, p2, hx2, k20, k21, r2⟩ := (HpB.out.on hbv).index hq2 hdb
          simp only [edl] at k11 k21 r1 r2
          have kz : wv.cell? ⟨z, 0, none⟩ = some (.int .u32 x) := by rw [blk_cell (blk_on HK4.out (HM.out.base.trans (hbv.mono HM.out.base.size)))]; rfl
          obtain ⟨st, est⟩ : ∃ v, strOfNums d = v := ⟨_, rfl⟩
          have hc1 := conv_rd r1 cq1
          have hc2 := conv_rd r2 cq2
          rw [est] at hc1 hc2
          have HSv := Lib.hid (show wv.cell? ⟨b1, p1, none⟩ = some (.int .u32 sq) ∧ wv.cell? ⟨b1, p1 + 1, none⟩ = some (.slice Aq1 dl cq1) ∧ wv.cell? ⟨b2, p2, none⟩ = some (.int .u32 sq) ∧ wv.cell? ⟨b2, p2 + 1, none⟩ = some (.slice Aq2 dl cq2) ∧ wv.cell? ⟨z, 0, none⟩ = some (.int .u32 x) ∧ (convert 37 9 (.slice Aq1 dl cq1)).run Try.prog wv = .ok (.string st) wv ∧ (convert 37 9 (.slice Aq2 dl cq2)).run Try.prog wv = .ok (.string st) wv from ⟨k10, k11, k20, k21, kz, hc1, hc2⟩)
          have Hsq := Lib.hid (show sAdd x (ln : Int) = sq from esq)
          have hn1 := str_neq st
          have hov : OwnB wv wb.heap.size A5 ln c5 (s.take ln) := by rw [← ewv]; exact hO2.own.drewN 1
          obtain ⟨A6, c6, w6, hrun, hown6, -, hbel6, -⟩ := app_run wv 37 wb.heap.size A5 Aq1 ln c5 dl cq1 (s.take ln) d hov r1 (by have := Hn.out; have : dl ≤ ms := by rw [← edl, ← ed, List.length_take]; omega
                                                                                                                                   have := Hms.out; omega) hbv.size
          have Hrun := Lib.hid hrun
          have HO6 := Lib.hid (show Hold wb A6 (ln + dl) c6 (s.take ((i + 1) * ms)) w6 from ⟨hbv.trans hbel6, by
            rw [eo2, List.take_add, ed]; exact hown6⟩)
          have Hln6 := Lib.hid (show (s.take ((i + 1) * ms)).length = ln + dl by
            rw [eo2, List.take_add, ed, List.length_append, edl, hl2])
          have Hii := Lib.hid hi
          have Ewv := Lib.hid ewv
          have HD := Lib.hid k11
          clear hinp hnp3 hsl hin hg hl2 hO2 eo eo2 esq ed edl hdb hq1 hq2 ewv hbv k10 k20 k21 r1 r2 kz est hc1 hc2 hov hrun hown6 hbel6 hi k11 HO Hln
          go_wp2_with fail
          refine wp_region_held_drew (S := fun w' => w'.cell? ⟨b1, p1, none⟩ = some (.int .u32 sq) ∧ w'.cell? ⟨b1, p1 + 1, none⟩ = some (.slice Aq1 dl cq1) ∧ w'.cell? ⟨b2, p2, none⟩ = some (.int .u32 sq) ∧ w'.cell? ⟨b2, p2 + 1, none⟩ = some (.slice Aq2 dl cq2) ∧ w'.cell? ⟨z, 0, none⟩ = some (.int .u32 x) ∧ (convert 37 9 (.slice Aq1 dl cq1)).run Try.prog w' = .ok (.string st) w' ∧ (convert 37 9 (.slice Aq2 dl cq2)).run Try.prog w' = .ok (.string st) w') (by kernel_rfl) (by rw [Ewv.out]; exact HSv.out) (fun hHeld => ?_)
          rw [Ewv.out] at hHeld ⊢
          refine tk 0 ?_ rfl ?_ ?_
          rotate_left
          · intro w' hSw; (go_simp <;> (with_reducible rfl))
          try simp only [Act.put, putL]
          refine tk 1 ?_ rfl ?_ ?_
          rotate_left
          · intro w' hSw; (go_simp <;> (with_reducible rfl))
          try simp only [Act.put, putL]
          refine tk 2 ?_ rfl ?_ ?_
          rotate_left
          · intro w' hSw; (go_simp <;> (with_reducible rfl))
          try simp only [Act.put, putL]
          refine tk 3 ?_ rfl ?_ ?_
          rotate_left
          · intro w' hSw; (go_simp <;> (with_reducible rfl))
          try simp only [Act.put, putL]
          refine tk 4 ?_ rfl ?_ ?_
          rotate_left
          · intro w' hSw; (go_simp <;> (with_reducible rfl))
          try simp only [Act.put, putL]
          refine tk 5 ?_ rfl ?_ ?_
          rotate_left
          · intro w' hSw; (go_simp <;> (with_reducible rfl))
          try simp only [Act.put, putL]
          refine tk 6 ?_ rfl ?_ ?_
          rotate_left
          · intro w' hSw; (go_simp <;> (with_reducible rfl))
          try simp only [Act.put, putL]
          refine tk 7 ?_ rfl ?_ ?_
          rotate_left
          · intro w' hSw; (go_simp <;> (with_reducible rfl))
          try simp only [Act.put, putL]
          refine tk 8 ?_ rfl ?_ ?_
          rotate_left
          · intro w' hSw; (go_simp <;> (with_reducible rfl))
          try simp only [Act.put, putL]
          refine tk 9 ?_ rfl ?_ ?_
          rotate_left
          · intro w' hSw; (go_simp <;> (with_reducible rfl))
          try simp only [Act.put, putL]
          refine tk 10 ?_ rfl ?_ ?_
          rotate_left
          · intro w' hSw; (go_simp <;> (with_reducible rfl))
          try simp only [Act.put, putL]
          refine tk 11 ?_ rfl ?_ ?_
          rotate_left
          · intro w' hSw; (go_simp <;> (with_reducible rfl))
          try simp only [Act.put, putL]
          refine tk 12 ?_ rfl ?_ ?_
          rotate_left
          · intro w' hSw; (go_simp <;> (with_reducible rfl))
          try simp only [Act.put, putL]
          refine tk 13 ?_ rfl ?_ ?_
          rotate_left
          · intro w' hSw; (go_simp <;> (with_reducible rfl))
          try simp only [Act.put, putL]
          refine tk 14 ?_ rfl ?_ ?_
          rotate_left
          · intro w' hSw; (go_simp <;> (with_reducible rfl))
          try simp only [Act.put, putL]
          refine tk 15 ?_ rfl ?_ ?_
          rotate_left
          · intro w' hSw; (go_simp <;> (with_reducible rfl))
          try simp only [Act.put, putL]
          refine tk 16 ?_ rfl ?_ ?_
          rotate_left
          · intro w' hSw; (go_simp <;> (with_reducible rfl))
          try simp only [Act.put, putL]
          refine tk 17 (.string st) rfl ?_ ?_
          · intro w' hSw; have hcv := hSw.2.2.2.2.2.1; (go_simp <;> (with_reducible rfl))
          try simp only [Act.put, putL]
          refine tk 18 ?_ rfl ?_ ?_
          rotate_left
          · intro w' hSw; (go_simp <;> (with_reducible rfl))
          try simp only [Act.put, putL]
          refine tk 19 ?_ rfl ?_ ?_
          rotate_left
          · intro w' hSw; (go_simp <;> (with_reducible rfl))
          try simp only [Act.put, putL]
          refine tk 20 ?_ rfl ?_ ?_
          rotate_left
          · intro w' hSw; (go_simp <;> (with_reducible rfl))
          try simp only [Act.put, putL]
          refine tk 21 ?_ rfl ?_ ?_
          rotate_left
          · intro w' hSw; (go_simp <;> (with_reducible rfl))
          try simp only [Act.put, putL]
          refine tk 22 ?_ rfl ?_ ?_
          rotate_left
          · intro w' hSw; (go_simp <;> (with_reducible rfl))
          try simp only [Act.put, putL]
          refine tk 23 (.string st) rfl ?_ ?_
          · intro w' hSw; have hcv := hSw.2.2.2.2.2.2; (go_simp <;> (with_reducible rfl))
          try simp only [Act.put, putL]
          refine tk 24 ?_ rfl ?_ ?_
          rotate_left
          · intro w' hSw; (go_simp <;> (with_reducible rfl))
          try simp only [Act.put, putL]
          refine tk 25 ?_ rfl ?_ ?_
          rotate_left
          · intro w' hSw; (go_simp <;> (with_reducible rfl))
          try simp only [Act.put, putL]
          refine tk 26 ?_ rfl ?_ ?_
          rotate_left
          · intro w' hSw; (go_simp <;> (with_reducible rfl))
          try simp only [Act.put, putL]
          refine tk 27 ?_ rfl ?_ ?_
          rotate_left
          · intro w' hSw; (go_simp <;> (with_reducible rfl))
          try simp only [Act.put, putL]
          refine tk 28 ?_ rfl ?_ ?_
          rotate_left
          · intro w' hSw; (go_simp <;> (with_reducible rfl))
          try simp only [Act.put, putL]
          refine tk 29 ?_ rfl ?_ ?_
          rotate_left
          · intro w' hSw; (go_simp <;> (with_reducible rfl))
          try simp only [Act.put, putL]
          refine tk 30 ?_ rfl ?_ ?_
          rotate_left
          · intro w' hSw; (go_simp <;> (with_reducible rfl))
          try simp only [Act.put, putL]
          refine tk 31 ?_ rfl ?_ ?_
          rotate_left
          · intro w' hSw; (go_simp <;> (with_reducible rfl))
          try simp only [Act.put, putL]
          refine tk 32 ?_ rfl ?_ ?_
          rotate_left
          · intro w' hSw; (go_simp <;> (with_reducible rfl))
          try simp only [Act.put, putL]
          refine tk 33 ?_ rfl ?_ ?_
          rotate_left
          · intro w' hSw; (go_simp <;> (with_reducible rfl))
          try simp only [Act.put, putL]
          refine tk 34 ?_ rfl ?_ ?_
          rotate_left
          · intro w' hSw; (go_simp <;> (with_reducible rfl))
          try simp only [Act.put, putL]
          refine tk 35 ?_ rfl ?_ ?_
          rotate_left
          · intro w' hSw; (go_simp <;> (with_reducible rfl))
          try simp only [Act.put, putL]
          refine tkC 36 rfl (fun K hK => ?_)
          go_simp
          (refine (add_any x (ln : Int) wv).mono ?_; rintro e w' ⟨rfl, rfl⟩; rw [Hsq.out])
          refine hK.out _ _ ?_ (fun hHeld => ?_)
          · exact HSv.out
          clear hK K
          try simp only [Act.put, putL]
          refine tk 37 ?_ rfl ?_ ?_
          rotate_left
          · intro w' hSw; (go_simp <;> (with_reducible rfl))
          try simp only [Act.put, putL]
          refine tk 38 ?_ rfl ?_ ?_
          rotate_left
          · intro w' hSw; (go_simp <;> (with_reducible rfl))
          try simp only [Act.put, putL]
          refine wpAnyH_done (by kernel_rfl) ?_ _
          clear hHeld
          have k11 := HD.out
          go_wp2_with (at_builtin; refine wpList_appX rfl (.tmp 183) (.tmp 188) _ _ rfl rfl _ _ _ w6 rfl rfl Hrun.out ?_)
          clear k11 hx1 hx2 hn1
          go_roundg (np - (i + 1))
          case measure => have := Hii.out; omega
          case rel => exact ⟨i + 1, ln + dl, c6, A6, Lib.hid (by have := Hii.out; omega), by go_num, rfl, Hln6, HO6⟩
        · obtain rfl : i = np := by omega
          have i4 : ¬ (i : Int) < (i : Int) := by omega
          have hall := quot_all (show 1 ≤ ms from Hms.out.1) HP1.out.2.2.2.2.2.2
          have hts : s.take (i * ms) = s := List.take_of_length_le (by omega)
          have hO2 := HO.out
          rw [hts] at hO2
          have HMr := Lib.hid (HM.out.below HF.out hO2.old)
          have hcA := conv_rd (hO2.own.rd Hby.out.1) c5
          have hcD := conv_rd (HB40.out _ HMr.out.base).rd cD
          obtain ⟨st, est⟩ : ∃ v, strOfNums s = v := ⟨_, rfl⟩
          rw [est] at hcA hcD
          have hn1 := str_eql st
          clear hinp hnp3 hsl hi hall hts hO2 est HO Hln
          obtain ⟨E, eE⟩ : ∃ v, numX (x + (n : Int)) = v := ⟨_, rfl⟩
          have HE2 := Lib.hid (show nxtX ta = E ∧ endX ta = E ∧ endX tb = E from by
            obtain ⟨e1, e2, e3, e4⟩ := HP2.out
            exact ⟨by rw [e1, e2, eE], by rw [e2, eE], by rw [e4, eE]⟩)
          clear eE
          go_wp2_with fail
          refine (ynxt HF.out _ 0 ga ta _ w4 wr HMr.out rfl E HE2.out.1).mono ?_
          rintro e wc ⟨rfl, h1, h2⟩
          have HM := Lib.hid h1
          clear h1 h2 hcA hcD
          go_wp2_with fail
          refine (yend HF.out _ 0 ga ta _ w4 wc HM.out rfl E HE2.out.2.1).mono ?_
          rintro e wd ⟨rfl, h1, h2⟩
          have HM := Lib.hid h1
          clear h1 h2
          go_wp2_with fail
          refine (yend HF.out _ 1 gb tb _ w4 wd HM.out rfl E HE2.out.2.2).mono ?_
          rintro e we ⟨rfl, h1, h2⟩
          have HM := Lib.hid h1
          clear h1 h2
          go_wp2_with fail
          refine (yend HF.out _ 0 ga ta _ w4 we HM.out rfl E HE2.out.2.1).mono ?_
          rintro e wf ⟨rfl, h1, h2⟩
          have HE := Lib.hid (HB4.out.trans (h1.base.mono HB4.out.size))
          clear h1 h2
          go_wp2_with fail
          go_ret
          exact ⟨rfl, HE.out⟩
end Go.Proofs.Ytncbkgcblmohoaa.rexmitPartsW
