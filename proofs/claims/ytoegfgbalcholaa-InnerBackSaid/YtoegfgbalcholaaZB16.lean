/-
  Texts laid together: TupVal, InnerBackW, SegParse, SegGood.
-/
import Derived.Test.YtoegfgbalcholaaZB04
import Derived.Test.YtoegfgbalcholaaZB06
import Derived.Test.YtoegfgbalcholaaZB05
import Derived.Laws.StructEq
import Derived.Test.YtoegfgbalcholaaZB01
import Derived.Test.YtoegfgbalcholaaZB12
import Derived.Test.YtoegfgbalcholaaZB15
import Derived.Deep.DeepCutAuto
import Derived.Test.YtoegfgbalcholaaZB10

/-
  Tuples (api.Tuple) as values: their cells, how the run holds one against another; two results of which the first is a tuple.
-/
namespace Go.Proofs.Ytoegfgbalcholaa
set_option maxRecDepth 10000
open Go.RowKit
set_option linter.unusedSimpArgs false
set_option linter.unusedVariables false

theorem cells5 {w : World} {g : Nat} {u0 u1 u2 u3 u4 : Value} {t : TypeId} (h : w.heap[g]? = some (.cells #[u0, u1, u2, u3, u4] t (0, 0))) : w.cell? ⟨g, 0, none⟩ = some u0 ∧ w.cell? ⟨g, 1, none⟩ = some u1 ∧ w.cell? ⟨g, 2, none⟩ = some u2 ∧ w.cell? ⟨g, 3, none⟩ = some u3 ∧ w.cell? ⟨g, 4, none⟩ = some u4 := ⟨by rw [blk_cell h]; rfl, by rw [blk_cell h]; rfl, by rw [blk_cell h]; rfl, by rw [blk_cell h]; rfl, by rw [blk_cell h]; rfl⟩
theorem keep_blk {w : World} {q p i : Nat} {o : Obj} (h : w.heap[q]? = some o) (hn : p ≠ q) (v : Value) : (w.setCell ⟨p, i, none⟩ v).heap[q]? = some o := by
  simp [World.setCell, Array.getElem?_modify, h, hn]
end Go.Proofs.Ytoegfgbalcholaa

/-
  InnerBack, over the face (stage 16, written ahead).
-/
namespace Go.Proofs.Ytoegfgbalcholaa.innerBackW
set_option maxRecDepth 10000
open Go.ChangeShapes Go.WideShapes Go.ChangeAt Go.RowKit
set_option linter.unusedVariables false
set_option linter.unusedSimpArgs false

theorem wraps8Q (n : Int) (h₀ : 0 ≤ n) (h₁ : n < 2 ^ 8) : IntKind.u8.wrap n = n := by simp [IntKind.wrap, IntKind.bits, IntKind.signed]; omega
theorem and15Q (x : Int) (h : 0 ≤ x ∧ x < 256) : bits .and .u8 x 15 = x % 16 := bits_mask .u8 8 (by decide) wraps8Q 4 (by omega) x h.1 h.2
theorem row5 {w : World} {g : Nat} {T : TypeId} {a b c d e : Value} (h : w.heap[g]? = some (.cells #[a, b, c, d, e] T (0, 0))) : w.cell? ⟨g, 0, none⟩ = some a ∧ w.cell? ⟨g, 1, none⟩ = some b ∧ w.cell? ⟨g, 2, none⟩ = some c ∧ w.cell? ⟨g, 3, none⟩ = some d ∧ w.cell? ⟨g, 4, none⟩ = some e := by
  refine ⟨?_, ?_, ?_, ?_, ?_⟩ <;> (rw [blk_cell h]; rfl)
set_option maxHeartbeats 4000000 in
theorem walk (hRead : ReadF16) (hRw : RwF16) (hAw : AwF16) (w : World) (v : Value) (hv : BytesAt w v) (v1 : Value) (h1 : TuAt w v1) (sh : Int) (w2 : (Lit.int .u32 sh).wf = true) :
    Calls Try.prog 5 #[v, v1, .int .u32 sh] w fun e w' => e = .returned (.bool true) ∧ Below w.heap.size w w' := by
  obtain ⟨A, n, c, l, rfl, hnc, hcm, hr⟩ := hv
  obtain ⟨t, rfl, ht⟩ := h1
  have hn : n ≤ 140737488351232 := Nat.le_trans hnc hcm
  have hsh := bounds_u32 w2
  have HRead := Lib.hid hRead
  have HRw' := Lib.hid hRw
  have HAw := Lib.hid hAw
  have HT := Lib.hid ht
  have Hsh := Lib.hid (show 0 ≤ sh ∧ sh < 4294967296 by omega)
  have Hcc := Lib.hid (show n ≤ c ∧ c ≤ maxLen from ⟨hnc, by simp [maxLen]; omega⟩)
  obtain ⟨zb, hzb⟩ : ∃ z, w.heap.size = z := ⟨_, rfl⟩
  obtain ⟨w0, ew0⟩ : ∃ w0, (w.alloc (.cells #[.slice A n c] 22)).alloc (.cells #[.int .u8 t.pr, .int .u32 t.sr, .int .u32 t.ds, .int .u16 t.sp, .int .u16 t.dp] 26) = w0 := ⟨_, rfl⟩
  have hb0 : Below w.heap.size w w0 := by rw [← ew0]; exact ((Below.refl _ _).alloc (Nat.le_refl _) _).alloc (by simp) _
  have HD0 := Lib.hid (show w0.heap[zb]? = some (.cells #[.slice A n c] 22 (0, 0)) by rw [← ew0, Below.heap_alloc _ _ _ (by simp [hzb]), ← hzb]; exact heap_alloc_new w _)
  have HZ0 := Lib.hid (show w0.heap[zb + 1]? = some (.cells #[.int .u8 t.pr, .int .u32 t.sr, .int .u32 t.ds, .int .u16 t.sp, .int .u16 t.dp] 26 (0, 0)) by rw [← ew0, ← hzb]; simpa using heap_alloc_new (w.alloc (.cells #[.slice A n c] 22)) (.cells #[.int .u8 t.pr, .int .u32 t.sr, .int .u32 t.ds, .int .u16 t.sp, .int .u16 t.dp] 26))
  have HR0 := Lib.hid (hr.below hb0)
  have HRw := Lib.hid hr
  have HB0 := Lib.hid hb0
  have Hby := Lib.hid hr.byte
  have Hlen := Lib.hid hr.len
  have Ew0 := Lib.hid ew0
  have Hzb := Lib.hid hzb
  have hni : (n : Int) ≤ 140737488351232 := by omega
  obtain ⟨T, eT⟩ : ∃ T, qT l = T := ⟨_, rfl⟩
  obtain ⟨S, eS⟩ : ∃ S, qS l = S := ⟨_, rfl⟩
  obtain ⟨E, eE⟩ : ∃ E, errQ l = E := ⟨_, rfl⟩
  have HrT := Lib.hid eT; have HrS := Lib.hid eS; have HrE := Lib.hid eE
  clear hRead hRw hAw ht hsh hnc hcm hzb ew0 hb0 hr eT eS eE w2
  go_enter Try.func5, Try.ntmps5
  go_upto_region 1 with (fail)
  rw [Ew0.out]
  try rw [Hzb.out]
  clear Ew0
  have d0 : w0.cell? ⟨zb, 0, none⟩ = some (.slice A n c) := blk_cell HD0.out 0
  go_wp2_with fail
  refine (HRead.out A n c l T S E _ Hcc.out hn HR0.out HrT.out HrS.out HrE.out).mono ?_
  rintro e w1 ⟨rfl, hb1⟩
  obtain ⟨z7, ez7⟩ : ∃ y, w1.heap.size = y := ⟨_, rfl⟩
  obtain ⟨wa1, ew1⟩ : ∃ v, w1.alloc (.cells #[.int .u8 T.pr, .int .u32 T.sr, .int .u32 T.ds, .int .u16 T.sp, .int .u16 T.dp, .int .u32 S] 28) = v := ⟨_, rfl⟩
  have HK1 := Lib.hid (show wa1.heap[z7]? = some (.cells #[.int .u8 T.pr, .int .u32 T.sr, .int .u32 T.ds, .int .u16 T.sp, .int .u16 T.dp, .int .u32 S] 28 (0, 0)) by rw [← ew1, ← ez7]; exact heap_alloc_new w1 _)
  have hba : Below w1.heap.size w1 wa1 := by rw [← ew1]; exact (Below.refl _ _).alloc (Nat.le_refl _) _
  have HB1 := Lib.hid (show Below w0.heap.size w0 wa1 from below_trans hb1 hba)
  have HBx1 := Lib.hid hba
  have Ew1 := Lib.hid ew1
  have Ez1 := Lib.hid ez7
  clear ew1 ez7 hba hb1
  go_upto_region 2 with (fail)
  rw [Ew1.out]
  try rw [Ez1.out]
  clear Ew1 Ez1
  clear d0
  have d0 : wa1.cell? ⟨zb, 0, none⟩ = some (.slice A n c) := blk_cell (blk_on HD0.out HB1.out) 0
  by_cases hE : E = 0
  · have q0 : (E != 0) = false := by simpa using hE
    have He0 := Lib.hid (show errQ l = 0 by rw [HrE.out]; exact hE)
    have hok := errQ_ok He0.out
    have Hok := Lib.hid hok
    have hT : T = qTu l := by rw [← HrT.out]; unfold qT; rw [if_pos He0.out]
    have hS : S = qSeq l := by rw [← HrS.out]; unfold qS; rw [if_pos He0.out]
    have HT2 := Lib.hid hT
    have HS2 := Lib.hid hS
    have HTn := Lib.hid (show TuNum T by rw [hT]; exact qTu_num Hby.out)
    have HT9 := Lib.hid (show T.pr = l.getD 9 0 by rw [hT]; rfl)
    have hpr : T.pr = 6 ∨ T.pr = 17 ∨ T.pr = 1 := by rw [HT9.out]; rcases hok.2 with h | h | h; exact .inl h; exact .inr (.inl h); exact .inr (.inr h.1)
    have Hpr := Lib.hid hpr
    obtain ⟨N, eN⟩ : ∃ N : Nat, 2 * qH l = N := ⟨_, rfl⟩
    have hN60 : N ≤ 60 := by rw [← eN]; unfold qH; omega
    have hN8 : N + 8 ≤ n := by have := hok.1; have := Hlen.out; omega
    have hN20 : 20 ≤ N := by have := hok.1; omega
    have HN := Lib.hid eN
    clear hE hok hT hS hpr eN
    have hzt := blk_on HZ0.out HB1.out
    obtain ⟨j0, j1, j2, j3, j4⟩ := tu_at hzt
    obtain ⟨k0, k1, k2, k3, k4, k5⟩ := cells6 HK1.out
    have fz := fun i => blk_free hzt i
    have hz7 : z7 ≠ zb + 1 := fun e => by subst e; rw [HK1.out] at hzt; simp at hzt
    have Hz7 := Lib.hid hz7
    have hzb2 : zb ≠ zb + 1 := by omega
    obtain ⟨u, eu⟩ : ∃ u : Tu, (⟨T.pr, t.sr, t.ds, t.sp, if T.pr = 1 then 0 else t.dp⟩ : Tu) = u := ⟨_, rfl⟩
    have Hu := Lib.hid eu
    have HUn := Lib.hid (show TuNum u by
      rw [← eu]; refine ⟨HTn.out.pr, HT.out.sr, HT.out.ds, HT.out.sp, ?_⟩
      simp only; split
      · omega
      · exact HT.out.dp)
    have HUf := Lib.hid (show TuFits l u by rw [← eu]; exact ⟨HT9.out, fun h => by simp only; rw [if_pos (by rw [HT9.out]; exact h)]⟩)
    have hup : u.pr = T.pr := by rw [← eu]
    have Hup := Lib.hid hup
    obtain ⟨we, ewe⟩ : ∃ v, wa1.setCell ⟨zb + 1, 0, none⟩ (.int .u8 T.pr) = v := ⟨_, rfl⟩
    have hke : we.heap[zb + 1]? = some (.cells #[.int .u8 T.pr, .int .u32 t.sr, .int .u32 t.ds, .int .u16 t.sp, .int .u16 t.dp] 26 (0, 0)) := by rw [← ewe]; have := setCell_block (i := 0) hzt (.int .u8 T.pr); simpa using this
    have Hke := Lib.hid hke
    have HBe := Lib.hid (show Below w.heap.size wa1 we by rw [← ewe]; exact (Below.refl _ _).setCell (p := ⟨zb + 1, 0, none⟩) (by rw [Hzb.out]; show zb ≤ zb + 1; omega) _ |>.mono (Nat.le_refl _))
    have HKe := Lib.hid (show we.heap[z7]? = some (.cells #[.int .u8 T.pr, .int .u32 T.sr, .int .u32 T.ds, .int .u16 T.sp, .int .u16 T.dp, .int .u32 S] 28 (0, 0)) by rw [← ewe]; exact keep_blk HK1.out (fun e => hz7 e.symm) _)
    have HDe := Lib.hid (show we.heap[zb]? = some (.cells #[.slice A n c] 22 (0, 0)) by rw [← ewe]; exact keep_blk (blk_on HD0.out HB1.out) (by omega) _)
    have HBwe := Lib.hid (show Below w.heap.size w we from (HB0.out.trans (HB1.out.mono HB0.out.size)).trans HBe.out)
    have HRe := Lib.hid (show Rd we A n l from HRw.out.below HBwe.out)
    have Ewe := Lib.hid ewe
    clear eu hup ewe hke hz7
    go_upto_region 6 with (fail)
    rw [Ewe.out]
    clear j0 j1 j2 j3 j4 k0 k1 k2 k3 k4 k5 fz hzt d0 Ewe
    obtain ⟨j0, j1, j2, j3, j4⟩ := row5 Hke.out
    go_upto_if 57 with (fail)
    go_cut [57] from 55 (fun s57 wx => Hid (wx.heap[zb + 1]? = some (.cells #[.int .u8 u.pr, .int .u32 u.sr, .int .u32 u.ds, .int .u16 u.sp, .int .u16 u.dp] 26 (0, 0))) ∧ Hid (Below w.heap.size w wx) ∧ Hid (wx.heap[z7]? = some (.cells #[.int .u8 T.pr, .int .u32 T.sr, .int .u32 T.ds, .int .u16 T.sp, .int .u16 T.dp, .int .u32 S] 28 (0, 0))) ∧ Hid (wx.heap[zb]? = some (.cells #[.slice A n c] 22 (0, 0))) ∧ Hid (Rd wx A n l))
    case first =>
      have fz := fun i => blk_free Hke.out i
      by_cases hp1 : T.pr = 1
      · have p1 : (T.pr == 1) = true := by simpa using hp1
        have Hp1 := Lib.hid hp1
        clear hp1
        go_wp2_with fail
        go_meet
        refine ⟨Lib.hid ?_, Lib.hid ?_, Lib.hid ?_, Lib.hid ?_, Lib.hid ?_⟩
        · rw [← Hu.out, if_pos Hp1.out]; have := setCell_block (i := 4) Hke.out (.int .u16 0); simpa using this
        · exact HBwe.out.setCell (p := ⟨zb + 1, 4, none⟩) (by rw [Hzb.out]; show zb ≤ zb + 1; omega) _
        · exact keep_blk HKe.out (fun e => Hz7.out e.symm) _
        · exact keep_blk HDe.out (by omega) _
        · exact HRw.out.below (HBwe.out.setCell (p := ⟨zb + 1, 4, none⟩) (by rw [Hzb.out]; show zb ≤ zb + 1; omega) _)
      · have p1 : (T.pr == 1) = false := beq_false_of_ne hp1
        have Hp1 := Lib.hid hp1
        clear hp1
        go_wp2_with fail
        go_meet
        exact ⟨Lib.hid (by rw [← Hu.out, if_neg Hp1.out]; exact Hke.out), HBwe, HKe, HDe, HRe⟩
    case rest =>
    obtain ⟨HZu, HBw, HK7, HDb, HRd⟩ := hcut
    clear j0 j1 j2 j3 j4 Hke HBe HKe HDe HBwe HRe
    obtain ⟨j0, j1, j2, j3, j4⟩ := row5 HZu.out
    have d0 : wc.cell? ⟨zb, 0, none⟩ = some (.slice A n c) := blk_cell HDb.out 0
    obtain ⟨L, eL⟩ : ∃ L, rwQ l u sh = L := ⟨_, rfl⟩
    have HIs := Lib.hid (show RwIs l L u (seqQ l sh) by rw [← eL]; exact rwQ_is Hby.out He0.out HUn.out)
    have HLb := Lib.hid HIs.out.byte
    have HLn := Lib.hid (show L.length = n by rw [HIs.out.len]; exact Hlen.out)
    have HeR := Lib.hid (show errR l u = 0 by unfold errR; rw [if_neg (fun h => h He0.out), if_neg (fun h => h HUf.out.1)])
    have HL := Lib.hid (show rwR l u sh = L by unfold rwR; rw [if_pos HeR.out]; exact eL)
    have Hsq := Lib.hid (show 0 ≤ seqQ l sh ∧ seqQ l sh < 4294967296 by unfold seqQ; omega)
    obtain ⟨S2, eS2⟩ : ∃ S2, (if l.getD 9 0 = 6 then seqQ l sh else 0) = S2 := ⟨_, rfl⟩
    have HS2' := Lib.hid eS2
    have Hrd := Lib.hid (show errQ L = 0 ∧ qTu L = u ∧ qSeq L = S2 by rw [← eS2]; exact HIs.out.read Hby.out He0.out HUn.out HUf.out Hsq.out)
    clear eL eS2
    go_wp2_with fail
    refine (HRw'.out A n c l u sh _ L n 0 Hcc.out hn HRd.out HUn.out Hsh.out HL.out HLn.out HeR.out).mono ?_
    rintro e w3 ⟨A3, c3, rfl, ho3, hb3⟩
    have HO3 := Lib.hid ho3
    have Hc3 := Lib.hid (show n ≤ c3 ∧ c3 ≤ maxLen from ⟨ho3.cap, ho3.capMax⟩)
    have HR3 := Lib.hid (ho3.rd HLb.out)
    clear ho3
    obtain ⟨zx, ezx⟩ : ∃ y, w3.heap.size = y := ⟨_, rfl⟩
    obtain ⟨wa3, ew3⟩ : ∃ v, w3.alloc (.cells #[.slice A3 n c3] 22) = v := ⟨_, rfl⟩
    have HK3 := Lib.hid (show wa3.heap[zx]? = some (.cells #[.slice A3 n c3] 22 (0, 0)) by rw [← ew3, ← ezx]; exact heap_alloc_new w3 _)
    have hba : Below w3.heap.size w3 wa3 := by rw [← ew3]; exact (Below.refl _ _).alloc (Nat.le_refl _) _
    have HB3 := Lib.hid (show Below wc.heap.size wc wa3 from below_trans hb3 hba)
    have HBx3 := Lib.hid hba
    have Ew3 := Lib.hid ew3
    have Ez3 := Lib.hid ezx
    clear ew3 ezx hba hb3
    go_upto_region 9 with (fail)
    rw [Ew3.out]
    try rw [Ez3.out]
    clear Ew3 Ez3
    have HR3 := Lib.hid (HR3.out.below HBx3.out)
    clear j0 j1 j2 j3 j4 d0
    have d0 : wa3.cell? ⟨zb, 0, none⟩ = some (.slice A n c) := blk_cell (blk_on HDb.out HB3.out) 0
    have x0 : wa3.cell? ⟨zx, 0, none⟩ = some (.slice A3 n c3) := blk_cell HK3.out 0
    have h28 : ¬ (n : Int) < 28 := by omega
    go_wp2_with fail
    refine (HRead.out A3 n c3 L u S2 0 _ Hc3.out hn HR3.out (by unfold qT; rw [if_pos Hrd.out.1]; exact Hrd.out.2.1) (by unfold qS; rw [if_pos Hrd.out.1]; exact Hrd.out.2.2) Hrd.out.1).mono ?_
    rintro e w4 ⟨rfl, hb4⟩
    obtain ⟨z13, ez13⟩ : ∃ y, w4.heap.size = y := ⟨_, rfl⟩
    obtain ⟨wa4, ew4⟩ : ∃ v, w4.alloc (.cells #[.int .u8 u.pr, .int .u32 u.sr, .int .u32 u.ds, .int .u16 u.sp, .int .u16 u.dp, .int .u32 S2] 28) = v := ⟨_, rfl⟩
    have HK4 := Lib.hid (show wa4.heap[z13]? = some (.cells #[.int .u8 u.pr, .int .u32 u.sr, .int .u32 u.ds, .int .u16 u.sp, .int .u16 u.dp, .int .u32 S2] 28 (0, 0)) by rw [← ew4, ← ez13]; exact heap_alloc_new w4 _)
    have hba : Below w4.heap.size w4 wa4 := by rw [← ew4]; exact (Below.refl _ _).alloc (Nat.le_refl _) _
    have HB4 := Lib.hid (show Below wa3.heap.size wa3 wa4 from below_trans hb4 hba)
    have HBx4 := Lib.hid hba
    have Ew4 := Lib.hid ew4
    have Ez4 := Lib.hid ez13
    clear ew4 ez13 hba hb4
    go_upto_region 12 with (fail)
    rw [Ew4.out]
    try rw [Ez4.out]
    clear Ew4 Ez4
    have HB34 := Lib.hid (below_trans HB3.out HB4.out)
    clear d0 x0 h28
    obtain ⟨k0, k1, k2, k3, k4, k5⟩ := cells6 (blk_on HK7.out HB34.out)
    obtain ⟨j0, j1, j2, j3, j4⟩ := row5 (blk_on HZu.out HB34.out)
    go_upto_if 89 with (fail)
    go_cut [15] from 87 (fun s15 wx => s15 = .int .u32 S2 ∧ wx = wa4)
    case first =>
      by_cases hp6 : u.pr = 6
      · have p6 : (u.pr == 6) = true := by simpa using hp6
        have hw6 : IntKind.u32.wrap (S + sh) = S2 := by rw [IntKind.wrap_u32, HS2.out, ← HS2'.out, if_pos (by rw [← HUf.out.1]; exact hp6)]; unfold seqQ; rfl
        clear hp6
        go_wp2_with fail
        go_meet
        exact ⟨rfl, rfl⟩
      · have p6 : (u.pr == 6) = false := beq_false_of_ne hp6
        have hS0 : S = S2 := by rw [HS2.out, ← HS2'.out, if_neg (by rw [← HUf.out.1]; exact hp6)]; unfold qSeq; rw [if_neg (by rw [← HUf.out.1]; exact hp6)]
        have HS0 := Lib.hid hS0
        clear hp6 hS0
        go_wp2_with fail
        go_meet
        exact ⟨by rw [HS0.out], rfl⟩
    case rest =>
    obtain ⟨rfl, e15⟩ := hcut
    have e15 := e15.symm
    subst e15
    clear k5 k0 k1 k2 k3 k4 j0 j1 j2 j3 j4
    have HAll := Lib.hid (show ∀ w', Below wa4.heap.size wa4 w' → (w'.heap[zb]? = some (.cells #[.slice A n c] 22 (0, 0)) ∧ w'.heap[zx]? = some (.cells #[.slice A3 n c3] 22 (0, 0))) ∧ (w'.heap[z7]? = some (.cells #[.int .u8 T.pr, .int .u32 T.sr, .int .u32 T.ds, .int .u16 T.sp, .int .u16 T.dp, .int .u32 S] 28 (0, 0)) ∧ w'.heap[zb + 1]? = some (.cells #[.int .u8 u.pr, .int .u32 u.sr, .int .u32 u.ds, .int .u16 u.sp, .int .u16 u.dp] 26 (0, 0)) ∧ w'.heap[z13]? = some (.cells #[.int .u8 u.pr, .int .u32 u.sr, .int .u32 u.ds, .int .u16 u.sp, .int .u16 u.dp, .int .u32 S2] 28 (0, 0))) ∧ Rd w' A n l ∧ Rd w' A3 n L from
      fun w' hb => ⟨⟨blk_on (blk_on HDb.out HB34.out) hb, blk_on (blk_on HK3.out HB4.out) hb⟩, ⟨blk_on (blk_on HK7.out HB34.out) hb, blk_on (blk_on HZu.out HB34.out) hb, blk_on HK4.out hb⟩, (HRd.out.below HB34.out).below hb, (HR3.out.below HB4.out).below hb⟩)
    obtain ⟨shn, eshn⟩ : ∃ y, IntKind.u32.wrap (-sh) = y := ⟨_, rfl⟩
    have Hshn := Lib.hid (show (0 ≤ shn ∧ shn < 4294967296) ∧ shn = (-sh) % 4294967296 by rw [← eshn, IntKind.wrap_u32]; exact ⟨⟨by omega, by omega⟩, rfl⟩)
    obtain ⟨Y, eY⟩ : ∃ Y, rwQ L T shn = Y := ⟨_, rfl⟩
    have HIy := Lib.hid (show RwIs L Y T (seqQ L shn) by rw [← eY]; exact rwQ_is HLb.out Hrd.out.1 HTn.out)
    have HeY := Lib.hid (show errR L T = 0 by unfold errR; rw [if_neg (fun h => h Hrd.out.1), if_neg (fun h => h (by rw [(HIs.out.nine Hok.out.1.2.1).1]; exact HT9.out))])
    have HLY := Lib.hid (show rwR L T shn = Y by unfold rwR; rw [if_pos HeY.out]; exact eY)
    have HYn := Lib.hid (show Y.length = n by rw [HIy.out.len]; exact HLn.out)
    have HYb := Lib.hid HIy.out.byte
    have Hlk := Lib.hid (show likeQ Y l [5, qF (l.getD 9 0) (qH l)] = true by
      refine back_like Hby.out He0.out HIs.out (by rw [HT2.out] at HIy; exact HIy.out) (fun h6 => ?_)
      have h1 := Hrd.out.2.2
      have h2 := HS2'.out
      rw [if_pos h6] at h2
      unfold seqQ at h2 ⊢
      rw [h1, ← h2, Hshn.out.2]
      have hq : 0 ≤ qSeq l ∧ qSeq l < 4294967296 := by
        unfold qSeq; rw [if_pos h6]
        have a1 := wordL_bd Hby.out (qH l + 2); have a2 := wordL_bd Hby.out (qH l + 3)
        unfold U16 at a1 a2; omega
      have := Hsh.out
      omega)
    have x0 : wa4.cell? ⟨zx, 0, none⟩ = some (.slice A3 n c3) := blk_cell (HAll.out _ (Below.refl _ _)).1.2 0
    obtain ⟨k0, k1, k2, k3, k4, k5⟩ := cells6 (HAll.out _ (Below.refl _ _)).2.1.1
    clear eY
    go_wp2_with fail
    refine (HRw'.out A3 n c3 L T shn _ Y n 0 Hc3.out hn (HAll.out _ (Below.refl _ _)).2.2.2 HTn.out Hshn.out.1 HLY.out HYn.out HeY.out).mono ?_
    rintro e w5 ⟨A5, c5, rfl, ho5, hb5⟩
    have HR5 := Lib.hid (ho5.rd HYb.out)
    have HB5 := Lib.hid hb5
    clear ho5 hb5 x0 k0 k1 k2 k3 k4 k5
    have d0 : w5.cell? ⟨zb, 0, none⟩ = some (.slice A n c) := blk_cell (HAll.out _ HB5.out).1.1 0
    obtain ⟨q9, r0, c0, l0⟩ := (HAll.out _ HB5.out).2.2.1.index (c := c) (j := 0) (by omega)
    have r0 : ∀ W : World, (Instr.indexAt 22 (.slice A n c) (.int .i64 0)).run Try.prog W = .ok (.pointer (some q9)) W := r0
    have hx0 := getD_byteQ Hby.out 0
    obtain ⟨b0, eb0⟩ : ∃ y, l.getD 0 0 = y := ⟨_, rfl⟩
    rw [eb0] at c0 hx0
    have hand := and15Q b0 hx0
    have hNx : (N : Int) = 4 * (b0 % 16) := by have := HN.out; rw [← this, ← eb0]; unfold qH; have := getD_byteQ Hby.out 0; omega
    have m1 : IntKind.i64.wrap (4 * (b0 % 16)) = (N : Int) := by rw [IntWalk.i64_in _ (by omega)]; omega
    clear hNx eb0 hx0 l0
    go_upto_region 17 with (fail)
    clear r0 c0 m1 hand d0
    have hneq : ∀ W : World, (binOp .neq 26 (.agg #[.int .u8 u.pr, .int .u32 u.sr, .int .u32 u.ds, .int .u16 u.sp, .int .u16 u.dp]) (.agg #[.int .u8 u.pr, .int .u32 u.sr, .int .u32 u.ds, .int .u16 u.sp, .int .u16 u.dp])).run Try.prog W = .ok (.bool false) W := fun W => by
      rw [run_neq_struct, run_equalIn_struct W 9999 26 _ _ (by kernel_rfl) (by kernel_rfl)]
      go_simp
    have HSf := Lib.hid (show ∀ w', Below w5.heap.size w5 w' → w'.cell? ⟨zb, 0, none⟩ = some (.slice A n c) ∧ (w'.cell? ⟨zb + 1, 0, none⟩ = some (.int .u8 u.pr) ∧ w'.cell? ⟨zb + 1, 1, none⟩ = some (.int .u32 u.sr) ∧ w'.cell? ⟨zb + 1, 2, none⟩ = some (.int .u32 u.ds) ∧ w'.cell? ⟨zb + 1, 3, none⟩ = some (.int .u16 u.sp) ∧ w'.cell? ⟨zb + 1, 4, none⟩ = some (.int .u16 u.dp)) ∧ w'.cell? ⟨z13, 0, none⟩ = some (.int .u8 u.pr) ∧ w'.cell? ⟨z13, 1, none⟩ = some (.int .u32 u.sr) ∧ w'.cell? ⟨z13, 2, none⟩ = some (.int .u32 u.ds) ∧ w'.cell? ⟨z13, 3, none⟩ = some (.int .u16 u.sp) ∧ w'.cell? ⟨z13, 4, none⟩ = some (.int .u16 u.dp) ∧ w'.cell? ⟨z13, 5, none⟩ = some (.int .u32 S2) from
      fun w' hb => by
        have h := HAll.out _ (below_trans HB5.out hb)
        exact ⟨blk_cell h.1.1 0, row5 h.2.1.2.1, cells6 h.2.1.2.2⟩)
    obtain ⟨f, ef⟩ : ∃ f, qF (l.getD 9 0) (qH l) = f := ⟨_, rfl⟩
    have Hf := Lib.hid ef
    have HKb := Lib.hid (show ∀ g ∈ [5, f], g ≤ 1000000 by
      intro g hg
      simp only [List.mem_cons, List.not_mem_nil, or_false] at hg
      have h1 := HN.out
      rcases hg with rfl | rfl
      · omega
      · rw [← ef]; unfold qF; split
        · omega
        · split <;> omega)
    have Hpl := Lib.hid (fun W => places16_any u.pr N f W (by omega) (by rw [Hup.out]; exact Hpr.out) (by rw [← ef, HUf.out.1, ← HN.out]; unfold qF; split; omega; split <;> omega))
    rw [ef] at Hlk
    clear ef
    refine wp_region_held_drew (S := fun w' => w'.cell? ⟨zb, 0, none⟩ = some (.slice A n c) ∧ (w'.cell? ⟨zb + 1, 0, none⟩ = some (.int .u8 u.pr) ∧ w'.cell? ⟨zb + 1, 1, none⟩ = some (.int .u32 u.sr) ∧ w'.cell? ⟨zb + 1, 2, none⟩ = some (.int .u32 u.ds) ∧ w'.cell? ⟨zb + 1, 3, none⟩ = some (.int .u16 u.sp) ∧ w'.cell? ⟨zb + 1, 4, none⟩ = some (.int .u16 u.dp)) ∧ w'.cell? ⟨z13, 0, none⟩ = some (.int .u8 u.pr) ∧ w'.cell? ⟨z13, 1, none⟩ = some (.int .u32 u.sr) ∧ w'.cell? ⟨z13, 2, none⟩ = some (.int .u32 u.ds) ∧ w'.cell? ⟨z13, 3, none⟩ = some (.int .u16 u.sp) ∧ w'.cell? ⟨z13, 4, none⟩ = some (.int .u16 u.dp) ∧ w'.cell? ⟨z13, 5, none⟩ = some (.int .u32 S2)) (by kernel_rfl) (HSf.out _ (Below.refl _ _).drew) (fun hHeld => ?_)
    obtain ⟨wd, ewd⟩ : ∃ wd, w5.drew = wd := ⟨_, rfl⟩
    have HBd := Lib.hid (show Below w5.heap.size w5 wd by rw [← ewd]; exact (Below.refl _ _).drew)
    rw [ewd] at hHeld ⊢
    clear ewd
    refine tk 0 ?_ rfl ?_ ?_
    rotate_left
    · intro w' hSw; (go_simp <;> (with_reducible rfl))
    try simp only [Act.put, putL]
    refine tk 1 ?_ rfl ?_ ?_
    rotate_left
    · intro w' hSw; (go_simp <;> (with_reducible rfl))
    try simp only [Act.put, putL]
    refine tk 2 ?_ rfl ?_ ?_
    rotate_left
    · intro w' hSw; (go_simp <;> (with_reducible rfl))
    try simp only [Act.put, putL]
    refine tk 3 ?_ rfl ?_ ?_
    rotate_left
    · intro w' hSw; (go_simp <;> (with_reducible rfl))
    try simp only [Act.put, putL]
    refine tk 4 ?_ rfl ?_ ?_
    rotate_left
    · intro w' hSw; (go_simp <;> (with_reducible rfl))
    try simp only [Act.put, putL]
    refine tk 5 ?_ rfl ?_ ?_
    rotate_left
    · intro w' hSw; (go_simp <;> (with_reducible rfl))
    try simp only [Act.put, putL]
    refine tk 6 ?_ rfl ?_ ?_
    rotate_left
    · intro w' hSw; (go_simp <;> (with_reducible rfl))
    try simp only [Act.put, putL]
    refine tk 7 ?_ rfl ?_ ?_
    rotate_left
    · intro w' hSw; (go_simp <;> (with_reducible rfl))
    try simp only [Act.put, putL]
    refine tk 8 ?_ rfl ?_ ?_
    rotate_left
    · intro w' hSw; (go_simp <;> (with_reducible rfl))
    try simp only [Act.put, putL]
    refine tk 9 ?_ rfl ?_ ?_
    rotate_left
    · intro w' hSw; (go_simp <;> (with_reducible rfl))
    try simp only [Act.put, putL]
    refine tk 10 ?_ rfl ?_ ?_
    rotate_left
    · intro w' hSw; (go_simp <;> (with_reducible rfl))
    try simp only [Act.put, putL]
    refine tk 11 ?_ rfl ?_ ?_
    rotate_left
    · intro w' hSw; (go_simp <;> (with_reducible rfl))
    try simp only [Act.put, putL]
    refine tk 12 ?_ rfl ?_ ?_
    rotate_left
    · intro w' hSw; (go_simp <;> (with_reducible rfl))
    try simp only [Act.put, putL]
    refine tk 13 ?_ rfl ?_ ?_
    rotate_left
    · intro w' hSw; (go_simp <;> (with_reducible rfl))
    try simp only [Act.put, putL]
    refine tk 14 ?_ rfl ?_ ?_
    rotate_left
    · intro w' hSw; (go_simp <;> (with_reducible rfl))
    try simp only [Act.put, putL]
    refine tk 15 ?_ rfl ?_ ?_
    rotate_left
    · intro w' hSw; (go_simp <;> (with_reducible rfl))
    try simp only [Act.put, putL]
    refine tk 16 ?_ rfl ?_ ?_
    rotate_left
    · intro w' hSw; (go_simp <;> (with_reducible rfl))
    try simp only [Act.put, putL]
    refine tk 17 ?_ rfl ?_ ?_
    rotate_left
    · intro w' hSw; (go_simp <;> (with_reducible rfl))
    try simp only [Act.put, putL]
    refine tk 18 ?_ rfl ?_ ?_
    rotate_left
    · intro w' hSw; (go_simp <;> (with_reducible rfl))
    try simp only [Act.put, putL]
    refine tk 19 ?_ rfl ?_ ?_
    rotate_left
    · intro w' hSw; (go_simp <;> (with_reducible rfl))
    try simp only [Act.put, putL]
    refine tk 20 ?_ rfl ?_ ?_
    rotate_left
    · intro w' hSw; (go_simp <;> (with_reducible rfl))
    try simp only [Act.put, putL]
    refine tk 21 ?_ rfl ?_ ?_
    rotate_left
    · intro w' hSw; (go_simp <;> (with_reducible rfl))
    try simp only [Act.put, putL]
    refine tk 22 ?_ rfl ?_ ?_
    rotate_left
    · intro w' hSw; (go_simp <;> (with_reducible rfl))
    try simp only [Act.put, putL]
    refine tk 23 ?_ rfl ?_ ?_
    rotate_left
    · intro w' hSw; (go_simp <;> (with_reducible rfl))
    try simp only [Act.put, putL]
    refine tkC 24 rfl (fun K hK => ?_)
    go_simp
    (refine (Hpl.out _).mono ?_; rintro e w6 ⟨A6, rfl, hp6, hb6⟩; have HP6 := Lib.hid hp6; have HB6 := Lib.hid (below_trans HBd.out hb6); clear hp6 hb6)
    refine hK.out _ _ ?_ (fun hHeld => ?_)
    · exact HSf.out _ HB6.out
    clear hK K
    try simp only [Act.put, putL]
    refine tkC 25 rfl (fun K hK => ?_)
    go_simp
    (refine (rlike16_any A5 A n c5 n c Y l A6 2 2 [5, f] true _ hn hn (HR5.out.below HB6.out) (HAll.out _ (below_trans HB5.out HB6.out)).2.2.1 HP6.out rfl (by decide) HKb.out Hlk.out).mono ?_; rintro e w7 ⟨rfl, hb7⟩; have HB7 := Lib.hid (below_trans HB6.out hb7); clear hb7)
    refine hK.out _ _ ?_ (fun hHeld => ?_)
    · exact HSf.out _ HB7.out
    clear hK K
    try simp only [Act.put, putL]
    refine tk 26 ?_ rfl ?_ ?_
    rotate_left
    · intro w' hSw; (go_simp <;> (with_reducible rfl))
    try simp only [Act.put, putL]
    refine tk 27 ?_ rfl ?_ ?_
    rotate_left
    · intro w' hSw; (go_simp <;> (with_reducible rfl))
    try simp only [Act.put, putL]
    refine wpAnyH_done (by kernel_rfl) ?_ _
    clear hHeld hneq
    have hmf : ∀ (fn : Fn) (first cap : Array Value) (w : World), (Instr.makeFunc fn first cap).run Try.prog w = .ok (.func fn first cap) w := fun _ _ _ _ => rfl
    have HW := Lib.hid (show ∀ w', Below w7.heap.size w7 w' → (w'.cell? ⟨zb, 0, none⟩ = some (.slice A n c) ∧ w'.cell? ⟨zb + 1, 0, none⟩ = some (.int .u8 u.pr)) ∧ ∀ (lo hi : Nat) (loi hii : Int) (x : Bool), lo ≤ hi → hi ≤ n → loi = (lo : Int) → hii = (hi : Int) → decide ((L.take hi).drop lo = (l.take hi).drop lo) = x →
        Calls Try.prog 20 #[.int .i64 loi, .int .i64 hii, .pointer (some ⟨zx, 0, none⟩), .pointer (some ⟨zb, 0, none⟩)] w' (QuietIs16 x w') from
      fun w' hb => by
        have h := HAll.out _ (below_trans (below_trans HB5.out HB7.out) hb)
        refine ⟨⟨blk_cell h.1.1 0, (row5 h.2.1.2.1).1⟩, fun lo hi loi hii x hlo hhi el eh he => ?_⟩
        exact same16_any zx zb A3 A n c3 n c lo hi loi hii L l w' h.1.2 h.1.1 h.2.2.2 h.2.2.1 Hc3.out Hcc.out (by omega) rfl hlo hhi el eh x he)
    have Hll := Lib.hid (show L.length = l.length by rw [HLn.out]; exact Hlen.out.symm)
    have HF2 := Lib.hid (show 2 * f = N + (if u.pr = 6 then 16 else if u.pr = 17 then 6 else 2) by rw [← Hf.out, HUf.out.1, ← HN.out]; unfold qF; split; omega; split <;> omega)
    have hw8 : IntKind.i64.wrap ((N : Int) + 8) = (N : Int) + 8 := IntWalk.i64_in _ (by omega)
    have hw16 : IntKind.i64.wrap ((N : Int) + 16) = (N : Int) + 16 := IntWalk.i64_in _ (by omega)
    have hw18 : IntKind.i64.wrap ((N : Int) + 18) = (N : Int) + 18 := IntWalk.i64_in _ (by omega)
    obtain ⟨x0, ex0⟩ : ∃ x : Bool, decide ((L.take n).drop (N + 8) = (l.take n).drop (N + 8)) = x := ⟨_, rfl⟩
    have Hx0 := Lib.hid ex0
    have d0 := (HW.out _ (Below.refl _ _)).1.1
    clear ex0
    go_wp2_with fail
    refine ((HW.out _ (Below.refl _ _)).2 (N + 8) n ((N : Int) + 8) (n : Int) x0 (by omega) (Nat.le_refl _) (by simp) rfl Hx0.out).mono ?_
    rintro e w8 ⟨rfl, hb8⟩
    have HB8 := Lib.hid hb8
    clear hb8 d0 hmf
    obtain ⟨q, eq⟩ : ∃ q : Bool, (decide (u.pr = 6) && decide (N + 18 ≤ n)) = q := ⟨_, rfl⟩
    have Hq := Lib.hid eq
    clear eq
    have d0 := (HW.out _ HB8.out).1.1
    have t0 := (HW.out _ HB8.out).1.2
    go_upto_region 21 with (fail)
    go_cut [152] from 143 (fun s152 wx => s152 = .bool q ∧ wx = w8)
    case first =>
      by_cases hp6 : u.pr = 6
      · have p6 : (u.pr == 6) = true := by simpa using hp6
        by_cases h18 : N + 18 ≤ n
        · have h18i : (N : Int) + 18 ≤ (n : Int) := by omega
          have Hqt := Lib.hid (show true = q by rw [← Hq.out, decide_eq_true hp6, decide_eq_true h18]; rfl)
          clear hp6 h18
          go_wp2_with fail
          go_meet
          exact ⟨by rw [← Hqt.out], rfl⟩
        · have h18i : ¬ (N : Int) + 18 ≤ (n : Int) := by omega
          have Hqt := Lib.hid (show false = q by rw [← Hq.out, decide_eq_false h18, Bool.and_false])
          clear hp6 h18
          go_wp2_with fail
          go_meet
          exact ⟨by rw [← Hqt.out], rfl⟩
      · have p6 : (u.pr == 6) = false := beq_false_of_ne hp6
        have Hqt := Lib.hid (show false = q by rw [← Hq.out, decide_eq_false hp6, Bool.false_and])
        clear hp6
        go_wp2_with fail
        go_meet
        exact ⟨by rw [← Hqt.out], rfl⟩
    case rest =>
    obtain ⟨rfl, e152⟩ := hcut
    have e152 := e152.symm
    subst e152
    clear t0
    go_upto_if 152 with (fail)
    go_cut [20] from 153 (fun s20 wx => s20 = .bool true ∧ Hid (Below w7.heap.size w7 wx))
    case first =>
      cases q with
      | true =>
        have hq := Hq.out
        simp only [Bool.and_eq_true, decide_eq_true_eq] at hq
        have Hq6 := Lib.hid hq
        have hn18 : N + 18 ≤ n := hq.2
        have s1 := Lib.hid (show decide ((L.take (N + 16)).drop (N + 8) = (l.take (N + 16)).drop (N + 8)) = true from decide_eq_true (seg_eq Hll.out (fun i h1 h2 => by
          refine HIs.out.behind He0.out (by have := HN.out; omega) (fun hm => ?_)
          rcases part_cases l with h | ⟨h, _⟩
          · rw [h] at hm; cases hm
          · rw [h, Hf.out] at hm
            have := List.mem_singleton.1 hm
            have := HF2.out
            rw [if_pos Hq6.out.1] at this
            omega)))
        have s2 := Lib.hid (show decide ((L.take n).drop (N + 18) = (l.take n).drop (N + 18)) = true from decide_eq_true (seg_eq Hll.out (fun i h1 h2 => by
          refine HIs.out.behind He0.out (by have := HN.out; omega) (fun hm => ?_)
          rcases part_cases l with h | ⟨h, _⟩
          · rw [h] at hm; cases hm
          · rw [h, Hf.out] at hm
            have := List.mem_singleton.1 hm
            have := HF2.out
            rw [if_pos Hq6.out.1] at this
            omega)))
        clear hq
        go_wp2_with fail
        refine ((HW.out _ HB8.out).2 (N + 8) (N + 16) ((N : Int) + 8) ((N : Int) + 16) true (by omega) (by omega) (by simp) (by simp) s1.out).mono ?_
        rintro e w9 ⟨rfl, hb9⟩
        have HB9 := Lib.hid (below_trans HB8.out hb9)
        clear hb9 d0
        have d0 := (HW.out _ HB9.out).1.1
        go_wp2_with fail
        refine ((HW.out _ HB9.out).2 (N + 18) n ((N : Int) + 18) (n : Int) true hn18 (Nat.le_refl _) (by simp) rfl s2.out).mono ?_
        rintro e w10 ⟨rfl, hb10⟩
        have HB10 := Lib.hid (below_trans HB9.out hb10)
        clear hb10 d0
        go_wp2_with fail
        go_meet
        exact ⟨rfl, HB10⟩
      | false =>
        have Hx1 := Lib.hid (show true = x0 by
          rw [← Hx0.out]
          symm
          refine decide_eq_true (seg_eq Hll.out (fun i h1 h2 => HIs.out.behind He0.out (by have := HN.out; omega) (fun hm => ?_)))
          rcases part_cases l with h | ⟨h, hh⟩
          · rw [h] at hm; cases hm
          · rw [h, Hf.out] at hm
            rw [Hf.out] at hh
            have h3 := List.mem_singleton.1 hm
            have h4 := HF2.out
            have hq := Hq.out
            by_cases h6 : u.pr = 6
            · rw [if_pos h6] at h4
              rw [decide_eq_true h6, Bool.true_and, decide_eq_false_iff_not] at hq
              have := Hlen.out
              omega
            · rw [if_neg h6] at h4
              split at h4 <;> omega)
        clear d0
        go_wp2_with fail
        go_meet
        exact ⟨by rw [← Hx1.out], HB8⟩
    case rest =>
    obtain ⟨rfl, HB11⟩ := hcut
    clear d0
    have s3 := Lib.hid (show decide ((L.take 10).drop 0 = (l.take 10).drop 0) = true from decide_eq_true (seg_eq Hll.out (fun i h1 h2 => HIs.out.low Hok.out.1.2.1 (by have := HN.out; omega) (by omega) (by omega))))
    have s4 := Lib.hid (show decide ((L.take N).drop 20 = (l.take N).drop 20) = true from decide_eq_true (seg_eq Hll.out (fun i h1 h2 => HIs.out.low Hok.out.1.2.1 (by have := HN.out; omega) (by omega) (by omega))))
    go_wp2_with fail
    refine ((HW.out _ HB11.out).2 0 10 0 10 true (by omega) (by omega) rfl rfl s3.out).mono ?_
    rintro e w12 ⟨rfl, hb12⟩
    have HB12 := Lib.hid (below_trans HB11.out hb12)
    clear hb12
    go_wp2_with fail
    refine ((HW.out _ HB12.out).2 20 N 20 (N : Int) true (by omega) (by omega) rfl rfl s4.out).mono ?_
    rintro e w13 ⟨rfl, hb13⟩
    have HB13 := Lib.hid (below_trans HB12.out hb13)
    clear hb13
    go_wp2_with fail
    refine (HAw.out _).mono ?_
    rintro e wz ⟨rfl, hbz⟩
    have HBz := Lib.hid (show Below w.heap.size w wz from HBw.out.trans ((below_trans HB34.out (below_trans (below_trans HB5.out HB7.out) (below_trans HB13.out hbz))).mono HBw.out.size))
    go_wp2_with fail
    go_ret
    exact ⟨rfl, HBz.out⟩
  · have q0 : (E != 0) = true := by simpa using hE
    have hne : errQ l ≠ 0 := by rw [HrE.out]; exact hE
    have HL := Lib.hid (show rwR l t sh = [] by unfold rwR; rw [if_neg (by unfold errR; rw [if_pos hne]; exact hne)])
    have HX := Lib.hid (show errR l t = E by unfold errR; rw [if_pos hne]; exact HrE.out)
    have hTz : T = ⟨0, 0, 0, 0, 0⟩ := by rw [← HrT.out]; unfold qT; rw [if_neg hne]; rfl
    have hSz : S = 0 := by rw [← HrS.out]; unfold qS; rw [if_neg hne]
    subst hTz
    subst hSz
    obtain ⟨j0, j1, j2, j3, j4⟩ := tu_at (blk_on HZ0.out HB1.out)
    have heq : ∀ W : World, (binOp .eql 28 (.agg #[.int .u8 0, .int .u32 0, .int .u32 0, .int .u16 0, .int .u16 0, .int .u32 0]) (.agg #[.int .u8 0, .int .u32 0, .int .u32 0, .int .u16 0, .int .u16 0, .int .u32 0])).run Try.prog W = .ok (.bool true) W := fun W => by
      rw [run_eql_struct, run_equalIn_struct W 9999 28 _ _ (by kernel_rfl) (by kernel_rfl)]
      go_simp
    clear hE hne
    go_wp2_with fail
    refine (HRw'.out A n c l t sh _ [] 0 E Hcc.out hn (HR0.out.below HB1.out) HT.out Hsh.out HL.out rfl HX.out).mono ?_
    rintro e w3 ⟨A3, c3, rfl, -, hb3⟩
    have HB3 := Lib.hid (below_trans HB1.out hb3)
    obtain ⟨k0, k1, k2, k3, k4, k5⟩ := cells6 (blk_on HK1.out hb3)
    clear hb3 j0 j1 j2 j3 j4 d0
    go_wp2_with fail
    refine (HAw.out _).mono ?_
    rintro e wz ⟨rfl, hbz⟩
    have HBz := Lib.hid (below_trans HB0.out (below_trans HB3.out hbz))
    go_wp2_with fail
    go_ret
    exact ⟨rfl, HBz.out⟩
end Go.Proofs.Ytoegfgbalcholaa.innerBackW

/-
  The contract of culvertref06's Parse.
-/
namespace Go.Proofs.Ytoegfgbalcholaa
set_option maxRecDepth 10000
open Go.RowKit

/-- The rest of a row of bytes, s[lo:], as one run equation. -/
theorem Rd.rest {w : World} {A : Option Addr} {n c : Nat} {l : List Int} (h : Rd w A n l) (lo : Nat) (loi : Int) (h0 : 0 < n) (hlo : lo ≤ n) (hc : n ≤ c) (hcm : c ≤ maxLen) (el : loi = (lo : Int)) :
    ∃ A', (∀ W : World, (Instr.sliceAt 22 (.slice A n c) (some (.int .i64 loi)) none none).run Try.prog W = .ok (.slice A' (n - lo) (c - lo)) W) ∧ Rd w A' (n - lo) (l.drop lo) := by
  subst el
  obtain ⟨b, o, rfl, _, _⟩ := h.at_ h0
  unfold maxLen at hcm
  have i0 : (0 : Int) ≤ (lo : Int) := by omega
  have i1 : (lo : Int) ≤ (n : Int) := by omega
  have i2 : (n : Int) ≤ (c : Int) := by omega
  have i3 : lo ≤ c := by omega
  by_cases hl : lo = c
  · subst hl
    obtain rfl : n = lo := by omega
    refine ⟨some ⟨b, o, none⟩, fun W => by go_simp, ?_⟩
    rw [Nat.sub_self, List.drop_eq_nil_of_le (by rw [h.len]; omega)]
    exact Rd.nil _ _
  · have i4 : ¬ c = lo := fun e => hl e.symm
    refine ⟨some ⟨b, o + lo, none⟩, fun W => by go_simp, ?_⟩
    exact h.drop_ rfl (by omega)

/-- How many bytes it says stand ahead of the Data. -/
def offB (b : List Int) : Nat := (b.getD 12 0 / 16 * 4).toNat
/-- What is wrong with a segment's bytes. -/
def errSeg (src dst : Int) (b : List Int) : Int :=
  if 1480 < b.length then 3 else if b.length < 20 then 4 else if offB b < 20 then 5 else if b.length < offB b then 4
  else if sumL (pseudoL src dst 6 b.length ++ b) ≠ 65535 then 20 else if (parseO ((b.take (offB b)).drop 20)).2 ≠ 0 then 5 else 0
end Go.Proofs.Ytoegfgbalcholaa

/-
  The contract of culvertref06's Parse where nothing is wrong.
-/
namespace Go.Proofs.Ytoegfgbalcholaa
set_option maxRecDepth 10000
open Go.RowKit

end Go.Proofs.Ytoegfgbalcholaa
