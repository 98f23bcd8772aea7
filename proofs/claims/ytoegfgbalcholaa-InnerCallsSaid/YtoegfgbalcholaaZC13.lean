/-
  Texts laid together: InRefRwGo, Hd, Dg, PkVal.
-/
import Derived.Test.YtoegfgbalcholaaZC08
import Derived.Test.YtoegfgbalcholaaZC03
import Derived.Test.YtoegfgbalcholaaZC01
import Derived.Test.YtoegfgbalcholaaZC11
import Derived.Test.YtoegfgbalcholaaZC04
import Derived.Test.YtoegfgbalcholaaZC06

/-
  culvertref16's Rewrite, whole (stage 16, written ahead).
-/
namespace Go.Proofs.Ytoegfgbalcholaa
set_option maxRecDepth 10000
open Go.RowKit
set_option linter.unusedSimpArgs false
set_option linter.unusedVariables false

set_option maxHeartbeats 4000000 in
theorem rrw16_any (A : Option Addr) (n c : Nat) (b : List Int) (t : Tu) (sh : Int) (w : World) (L : List Int) (m : Nat) (x : Int) (hn : n ≤ 140737488351232) (h : Rd w A n b) (ht : TuNum t) (hsh : 0 ≤ sh ∧ sh < 4294967296) (hL : rwR b t sh = L) (hm : L.length = m) (hx : errR b t = x) :
    Calls Try.prog 10 #[.slice A n c, .agg #[.int .u8 t.pr, .int .u32 t.sr, .int .u32 t.ds, .int .u16 t.sp, .int .u16 t.dp], .int .u32 sh] w (OwnQ L m x w) := by
  have hby := h.byte
  have hlen := h.len
  obtain ⟨w0, ew⟩ : ∃ w0, w.alloc (.cells #[.int .u8 t.pr, .int .u32 t.sr, .int .u32 t.ds, .int .u16 t.sp, .int .u16 t.dp] 26) = w0 := ⟨_, rfl⟩
  obtain ⟨z0, hz⟩ : ∃ z, w.heap.size = z := ⟨_, rfl⟩
  have hb0 : Below w.heap.size w w0 := by rw [← ew]; exact (Below.refl _ _).alloc (Nat.le_refl _) _
  have hk0 : w0.heap[z0]? = some (.cells #[.int .u8 t.pr, .int .u32 t.sr, .int .u32 t.ds, .int .u16 t.sp, .int .u16 t.dp] 26 (0, 0)) := by rw [← ew, ← hz]; exact heap_alloc_new w _
  have HR0 := Lib.hid (h.below hb0)
  have HB0 := Lib.hid hb0
  have HZ0 := Lib.hid hk0
  have Ew := Lib.hid ew
  have Hz := Lib.hid hz
  have Hby := Lib.hid hby
  have Hlen := Lib.hid hlen
  have HT := Lib.hid ht
  have HL := Lib.hid hL
  have Hm := Lib.hid hm
  have Hx := Lib.hid hx
  have Hsh := Lib.hid hsh
  have hni : (n : Int) ≤ 140737488351232 := by omega
  obtain ⟨T, eT⟩ : ∃ T, qT b = T := ⟨_, rfl⟩
  obtain ⟨S, eS⟩ : ∃ S, qS b = S := ⟨_, rfl⟩
  obtain ⟨E, eE⟩ : ∃ E, errQ b = E := ⟨_, rfl⟩
  have HrT := Lib.hid eT
  have HrS := Lib.hid eS
  have HrE := Lib.hid eE
  clear hb0 hk0 ew hz h hby hlen ht hL hm hx hsh eT eS eE
  go_enter Try.func10, Try.ntmps10
  go_upto_region 1 with (fail)
  rw [Ew.out]
  try rw [Hz.out]
  clear Ew
  go_wp2_with fail
  refine (rread16_any A n c b T S E _ (Nat.le_trans hn (by decide)) HR0.out HrT.out HrS.out HrE.out).mono ?_
  rintro e w1 ⟨rfl, hb1⟩
  obtain ⟨y, ey⟩ : ∃ z, w1.heap.size = z := ⟨_, rfl⟩
  obtain ⟨w2, ew2⟩ : ∃ v, w1.alloc (.cells #[.int .u8 T.pr, .int .u32 T.sr, .int .u32 T.ds, .int .u16 T.sp, .int .u16 T.dp, .int .u32 S] 32) = v := ⟨_, rfl⟩
  have hba : Below w1.heap.size w1 w2 := by rw [← ew2]; exact (Below.refl _ _).alloc (Nat.le_refl _) _
  have HQ2 := Lib.hid (show w2.heap[y]? = some (.cells #[.int .u8 T.pr, .int .u32 T.sr, .int .u32 T.ds, .int .u16 T.sp, .int .u16 T.dp, .int .u32 S] 32 (0, 0)) by rw [← ew2, ← ey]; exact heap_alloc_new w1 _)
  have HZ2 := Lib.hid (blk_on HZ0.out (below_trans hb1 hba))
  have HB2 := Lib.hid (below_trans HB0.out (below_trans hb1 hba))
  have HR2 := Lib.hid (HR0.out.below (below_trans hb1 hba))
  have Ew2 := Lib.hid ew2
  have Ey := Lib.hid ey
  clear ew2 ey hba hb1
  go_upto_region 2 with (fail)
  rw [Ew2.out]
  try rw [Ey.out]
  clear Ew2 Ey
  by_cases hE : E = 0
  · have q0 : (E != 0) = false := by simpa using hE
    have He0 := Lib.hid (show errQ b = 0 by rw [HrE.out]; exact hE)
    have hT : T = qTu b := by rw [← HrT.out]; unfold qT; rw [if_pos He0.out]
    have hT9 : T.pr = b.getD 9 0 := by rw [hT]; rfl
    have hS : S = qSeq b := by rw [← HrS.out]; unfold qS; rw [if_pos He0.out]
    have HS := Lib.hid hS
    have HT9 := Lib.hid hT9
    have k0 := (cells6 HQ2.out).1
    obtain ⟨j0, j1, j2, j3, j4⟩ := tu_at HZ2.out
    clear hT hS hE hT9
    by_cases hpe : t.pr = T.pr
    · have q1 : (t.pr != T.pr) = false := by simpa using hpe
      have Ht9 := Lib.hid (show t.pr = b.getD 9 0 by rw [hpe]; exact HT9.out)
      have He := Lib.hid (show errR b t = 0 by unfold errR; rw [if_neg (fun h => h He0.out), if_neg (fun h => h Ht9.out)])
      have hlist := errQ_ok He0.out
      have Hlst := Lib.hid hlist
      obtain ⟨q9, r0, c0, l0⟩ := HR2.out.index (c := c) (j := 0) (by have := hlist.1; have := Hlen.out; omega)
      have r0 : ∀ W : World, (Instr.indexAt 22 (.slice A n c) (.int .i64 0)).run Try.prog W = .ok (.pointer (some q9)) W := r0
      have hx0 := getD_byteQ Hby.out 0
      obtain ⟨x0, ex0⟩ : ∃ y, b.getD 0 0 = y := ⟨_, rfl⟩
      rw [ex0] at c0 hx0
      obtain ⟨N, eN⟩ : ∃ N : Nat, 2 * qH b = N := ⟨_, rfl⟩
      have hNx : (N : Int) = 4 * (x0 % 16) := by rw [← eN, ← ex0]; unfold qH; have := getD_byteQ Hby.out 0; omega
      have hN60 : N ≤ 60 := by omega
      have hN8 : N + 8 ≤ n := by have := hlist.1; have := Hlen.out; omega
      have m1 : IntKind.i64.wrap (4 * (x0 % 16)) = (N : Int) := by rw [IntWalk.i64_in _ (by omega)]; omega
      have HN := Lib.hid eN
      obtain ⟨hx00, hx01⟩ := hx0
      clear hpe eN hNx ex0 hlist l0
      go_upto_region 7 with (fail)
      clear r0 c0 m1 q0 q1 k0
      rcases (show t.pr = 6 ∨ t.pr = 17 ∨ t.pr = 1 by rw [Ht9.out]; rcases Hlst.out.2 with h | h | h; exact .inl h; exact .inr (.inl h); exact .inr (.inr h.1)) with hpr | hpr | hpr
      · have p6 : (t.pr == 6) = true := by simpa using hpr
        have p17 : (t.pr == 17) = false := beq_false_of_ne (by omega)
        have p17n : (t.pr != 17) = true := by rw [bne, p17]; rfl
        have p1n : (t.pr != 1) = true := by rw [bne, show (t.pr == 1) = false from beq_false_of_ne (by omega)]; rfl
        have p1 : (t.pr == 1) = false := beq_false_of_ne (by omega)
        have p6n : (t.pr != 6) = false := by rw [bne, p6]; rfl
        have Hpr := Lib.hid (show b.getD 9 0 = 6 by rw [← Ht9.out]; exact hpr)
        have HF := Lib.hid (show 2 * qF (b.getD 9 0) (qH b) = N + 16 by rw [Hpr.out]; unfold qF; have := HN.out; simp; omega)
        have hw : IntKind.i64.wrap ((N : Int) + 16) = (N : Int) + 16 := IntWalk.i64_in _ (by omega)
        have hw2 : IntKind.i64.wrap ((N : Int) + 16 + 2) = (N : Int) + 16 + 2 := IntWalk.i64_in _ (by omega)
        have hwn2 : IntKind.i64.wrap ((N : Int) + 2) = (N : Int) + 2 := IntWalk.i64_in _ (by omega)
        have hwn4 : IntKind.i64.wrap ((N : Int) + 4) = (N : Int) + 4 := IntWalk.i64_in _ (by omega)
        have hwn6 : IntKind.i64.wrap ((N : Int) + 6) = (N : Int) + 6 := IntWalk.i64_in _ (by omega)
        have hwn1 : IntKind.i64.wrap ((N : Int) + 16 + 1) = (N : Int) + 16 + 1 := IntWalk.i64_in _ (by omega)
        obtain ⟨f, ef⟩ : ∃ f, qF (b.getD 9 0) (qH b) = f := ⟨_, rfl⟩
        have Hf := Lib.hid ef
        clear hpr ef
        go_upto_region 13 with (fail)
        obtain ⟨q, eq⟩ : ∃ q : Bool, decide (partQ b = [f]) = q := ⟨_, rfl⟩
        have Hq := Lib.hid eq
        clear eq
        go_cut [63] from 48 (fun s63 wx => s63 = .bool q ∧ wx = w2)
        case first =>
          by_cases hc : N + 18 ≤ n
          · have hci : (N : Int) + 16 + 2 ≤ (n : Int) := by omega
            have Hqt := Lib.hid (show q = true by rw [← Hq.out]; exact decide_eq_true (by unfold partQ; rw [if_pos ⟨(by have := HF.out; have := Hlen.out; omega), (fun h => by have := Hpr.out; omega)⟩, Hf.out]))
            go_wp2_with fail
            go_meet
            exact ⟨by rw [Hqt.out], rfl⟩
          · have hci : ¬ (N : Int) + 16 + 2 ≤ (n : Int) := by omega
            have Hqt := Lib.hid (show q = false by rw [← Hq.out]; exact decide_eq_false (by unfold partQ; rw [if_neg (fun h => by have := h.1; have := HF.out; have := Hlen.out; omega)]; simp))
            go_wp2_with fail
            go_meet
            exact ⟨by rw [Hqt.out], rfl⟩
        case rest =>
        obtain ⟨rfl, e63⟩ := hcut
        have e63 := e63.symm
        subst e63
        clear hw2
        go_upto_if 63 with (fail)
        go_cut [12] from 64 (fun s12 wx => ∃ (Ap : Option Addr) (mp cp : Nat), s12 = .slice Ap mp cp ∧ Hid (Sl wx 3 .i64 (.slice Ap mp cp) ((partQ b).map (fun f : Nat => 2 * (f : Int)))) ∧ Hid (Below w2.heap.size w2 wx))
        case first =>
          cases q with
          | true =>
            have Hpart := Lib.hid (show partQ b = [f] from of_decide_eq_true Hq.out)
            obtain ⟨A3, m3, c3, w3, hrun3, hs3, hm3, hb3, hg3⟩ := app_one w2 ((N : Int) + 16)
            have Hrun3 := Lib.hid hrun3
            have HS3 := Lib.hid hs3
            have HB3 := Lib.hid hb3
            clear hrun3 hs3 hm3 hb3 hg3
            go_wp2_with (at_builtin; refine wpList_appX rfl (.tmp 64) (.tmp 66) _ _ rfl rfl _ _ _ w3 rfl rfl Hrun3.out ?_)
            go_meet
            exact ⟨A3, m3, c3, rfl, Lib.hid (by
              have e : ((partQ b).map (fun g : Nat => 2 * (g : Int))) = [(N : Int) + 16] := by rw [Hpart.out]; simp only [List.map_cons, List.map_nil]; congr 1; have := HF.out; have := Hf.out; omega
              rw [e]; exact HS3.out), HB3⟩
          | false =>
            have Hpart := Lib.hid (show partQ b = [] by
              rcases part_cases b with h | ⟨h, _⟩
              · exact h
              · exact absurd (h.trans (by rw [Hf.out])) (of_decide_eq_false Hq.out))
            go_wp2_with fail
            go_meet
            exact ⟨none, 0, 0, rfl, Lib.hid (by rw [Hpart.out]; exact Sl.nil _ _ _), Lib.hid (Below.refl _ _)⟩
        case rest =>
          obtain ⟨Ap, mp, cp, rfl, HSp, HB3⟩ := hcut
          clear j0 j1 j2 j3 j4 hw
          obtain ⟨j0, j1, j2, j3, j4⟩ := tu_at (blk_on HZ2.out HB3.out)
          obtain ⟨A4, m4, c4, w4, hrun4, hs4, hm4, hb4, hg4⟩ := app_one wc 10
          have Hrun4 := Lib.hid hrun4
          have HS4 := Lib.hid hs4
          have HSp0 := Lib.hid (show ∀ g, (Value.slice Ap mp cp).ownBlock = some g → g < wc.heap.size from fun g hg => HSp.out.lt hg)
          have HSp := Lib.hid (show Sl w4 3 .i64 (.slice Ap mp cp) ((partQ b).map (fun f : Nat => 2 * (f : Int))) from HSp.out.but (S := fun _ => False) (But.of hb4) (fun _ _ h => h))
          have Hgp := Lib.hid (show ∀ g, (Value.slice Ap mp cp).ownBlock = some g → (Value.slice A4 m4 c4).ownBlock ≠ some g from fun g hg e => by have h1 := hg4 g e; have h2 := HSp0.out g hg; omega)
          have Hg4 := Lib.hid hg4
          have HB4 := Lib.hid (below_trans HB3.out hb4)
          have HB45 := Lib.hid hb4
          clear hrun4 hs4 hm4 hb4 hg4
          obtain ⟨j0, j1, j2, j3, j4⟩ := tu_at (blk_on HZ2.out HB4.out)
          obtain ⟨s1, es1⟩ : ∃ y, t.sr / 65536 = y := ⟨_, rfl⟩
          obtain ⟨s2, es2⟩ : ∃ y, t.sr % 65536 = y := ⟨_, rfl⟩
          obtain ⟨s3, es3⟩ : ∃ y, t.ds / 65536 = y := ⟨_, rfl⟩
          obtain ⟨s4, es4⟩ : ∃ y, t.ds % 65536 = y := ⟨_, rfl⟩
          have hsrb := HT.out.sr; have hdsb := HT.out.ds
          have HU := Lib.hid (show U16 s1 ∧ U16 s2 ∧ U16 s3 ∧ U16 s4 from ⟨⟨by omega, by omega⟩, ⟨by omega, by omega⟩, ⟨by omega, by omega⟩, ⟨by omega, by omega⟩⟩)
          have u1 : IntKind.u16.wrap (t.sr / 65536) = s1 := by rw [es1]; exact IntWalk.u16_in _ HU.out.1
          have u1' : IntKind.u16.wrap s1 = s1 := IntWalk.u16_in _ HU.out.1
          have u2 : IntKind.u16.wrap t.sr = s2 := by rw [wrap_u16]; exact es2
          have u3 : IntKind.u16.wrap (t.ds / 65536) = s3 := by rw [es3]; exact IntWalk.u16_in _ HU.out.2.2.1
          have u3' : IntKind.u16.wrap s3 = s3 := IntWalk.u16_in _ HU.out.2.2.1
          have u4 : IntKind.u16.wrap t.ds = s4 := by rw [wrap_u16]; exact es4
          obtain ⟨M1, eM1⟩ : ∃ M, chQ (bothQ b) b 6 s1 = M := ⟨_, rfl⟩
          obtain ⟨M2, eM2⟩ : ∃ M, chQ (bothQ b) M1 7 s2 = M := ⟨_, rfl⟩
          obtain ⟨M3, eM3⟩ : ∃ M, chQ (bothQ b) M2 8 s3 = M := ⟨_, rfl⟩
          obtain ⟨M4, eM4⟩ : ∃ M, chQ (bothQ b) M3 9 s4 = M := ⟨_, rfl⟩
          have HQ0 := Lib.hid (show StepQ b b from ⟨Hby.out, rfl⟩)
          have HQ1 := Lib.hid (HQ0.out.head He0.out (by decide) HU.out.1 eM1)
          have HQ2' := Lib.hid (HQ1.out.head He0.out (by decide) HU.out.2.1 eM2)
          have HQ3 := Lib.hid (HQ2'.out.head He0.out (by decide) HU.out.2.2.1 eM3)
          have HQ4 := Lib.hid (HQ3.out.head He0.out (by decide) HU.out.2.2.2 eM4)
          have HM4 := Lib.hid (show runQ (bothQ b) (headQ t) b = M4 by unfold headQ runQ; simp only [List.foldl_cons, List.foldl_nil]; rw [es1, es2, es3, es4, eM1, eM2, eM3, eM4])
          have EM1 := Lib.hid eM1; have EM2 := Lib.hid eM2; have EM3 := Lib.hid eM3; have EM4 := Lib.hid eM4
          have Hes3 := Lib.hid es3
          have Hes1 := Lib.hid es1
          clear es1 es2 es3 es4 eM1 eM2 eM3 eM4 hsrb hdsb
          obtain ⟨A5, m5, c5, w5, hrun5, hs5, hb5, hbt5⟩ := app_two w2.heap.size w4 A4 Ap m4 c4 mp cp [10] ((partQ b).map (fun f : Nat => 2 * (f : Int))) HS4.out HSp.out (by rcases part_cases b with h | ⟨h, _⟩ <;> rw [h] <;> simp) (fun g hg => Nat.le_trans HB3.out.size (Hg4.out g hg)) HB4.out.size
          have Hrun5 := Lib.hid hrun5
          have HBB := Lib.hid (HB4.out.trans hb5)
          have HFp := Lib.hid (RdI.of_sl (HSp.out.but hbt5 (fun g hg e => Hgp.out g hg e)))
          have HFb := Lib.hid (show RdI w5 A5 m5 ((bothQ b).map (fun f : Nat => 2 * (f : Int))) by
            have e : (bothQ b).map (fun f : Nat => 2 * (f : Int)) = [10] ++ (partQ b).map (fun f : Nat => 2 * (f : Int)) := by
              unfold bothQ; rw [if_neg (by have := Hpr.out; omega)]; rfl
            rw [e]; exact RdI.of_sl hs5)
          clear hrun5 hs5 hb5 hbt5
          obtain ⟨j0, j1, j2, j3, j4⟩ := tu_at (blk_on HZ2.out HBB.out)
          go_wp2_with (at_builtin; first | refine wpList_appX rfl (.tmp 68) (.tmp 69) _ _ rfl rfl _ _ _ w4 rfl rfl Hrun4.out ?_ | refine wpList_appX rfl (.tmp 74) (.tmp 75) _ _ rfl rfl _ _ _ w5 rfl rfl Hrun5.out ?_)
          have HRb := Lib.hid (HR2.out.below HBB.out)
          refine (chg_head A n c b b M1 6 12 s1 A5 m5 c5 w2 _ hn HRb.out rfl He0.out HQ0.out (by decide) HU.out.1 HFb.out HBB.out EM1.out).mono ?_
          rintro e w11 ⟨A1, c1, rfl, ho, hb, hbb⟩
          have HO1 := Lib.hid ho
          have HB1 := Lib.hid hb
          have HFb := Lib.hid (HFb.out.below hbb)
          have HFp := Lib.hid (HFp.out.below hbb)
          clear ho hb hbb j0 j1 j2 j3 j4
          obtain ⟨j0, j1, j2, j3, j4⟩ := tu_at (blk_on HZ2.out HB1.out)
          go_wp2_with fail
          refine (chg_head A1 n c1 b M1 M2 7 14 s2 A5 m5 c5 w2 _ hn (HQ1.out.rd HO1.out) rfl He0.out HQ1.out (by decide) HU.out.2.1 HFb.out HB1.out EM2.out).mono ?_
          rintro e w12 ⟨A2, c2, rfl, ho, hb, hbb⟩
          have HO2 := Lib.hid ho
          have HB2' := Lib.hid hb
          have HFb := Lib.hid (HFb.out.below hbb)
          have HFp := Lib.hid (HFp.out.below hbb)
          clear ho hb hbb j0 j1 j2 j3 j4
          obtain ⟨j0, j1, j2, j3, j4⟩ := tu_at (blk_on HZ2.out HB2'.out)
          go_wp2_with fail
          refine (chg_head A2 n c2 b M2 M3 8 16 s3 A5 m5 c5 w2 _ hn (HQ2'.out.rd HO2.out) rfl He0.out HQ2'.out (by decide) HU.out.2.2.1 HFb.out HB2'.out EM3.out).mono ?_
          rintro e w13 ⟨A3, c3, rfl, ho, hb, hbb⟩
          have HO3 := Lib.hid ho
          have HB3' := Lib.hid hb
          have HFb := Lib.hid (HFb.out.below hbb)
          have HFp := Lib.hid (HFp.out.below hbb)
          clear ho hb hbb j0 j1 j2 j3 j4
          obtain ⟨j0, j1, j2, j3, j4⟩ := tu_at (blk_on HZ2.out HB3'.out)
          go_wp2_with fail
          refine (chg_head A3 n c3 b M3 M4 9 18 s4 A5 m5 c5 w2 _ hn (HQ3.out.rd HO3.out) rfl He0.out HQ3.out (by decide) HU.out.2.2.2 HFb.out HB3'.out EM4.out).mono ?_
          rintro e w14 ⟨A4, c4, rfl, ho, hb, hbb⟩
          have HO4 := Lib.hid ho
          have HB4 := Lib.hid hb
          have HFb := Lib.hid (HFb.out.below hbb)
          have HFp := Lib.hid (HFp.out.below hbb)
          clear ho hb hbb j0 j1 j2 j3 j4
          obtain ⟨j0, j1, j2, j3, j4⟩ := tu_at (blk_on HZ2.out HB4.out)
          go_wp2_with fail
          have HUp := Lib.hid (show U16 t.sp from ⟨by have := HT.out.sp; omega, by have := HT.out.sp; omega⟩)
          have HUd := Lib.hid (show U16 t.dp from ⟨by have := HT.out.dp; omega, by have := HT.out.dp; omega⟩)
          have HFq := Lib.hid (show qH b + 3 ≤ qF (b.getD 9 0) (qH b) ∧ (qF (b.getD 9 0) (qH b) = qH b + 8) by rw [Hpr.out]; unfold qF; simp)
          obtain ⟨M5, eM5⟩ : ∃ M, chQ (partQ b) M4 (qH b) t.sp = M := ⟨_, rfl⟩
          obtain ⟨M6, eM6⟩ : ∃ M, chQ (partQ b) M5 (qH b + 1) t.dp = M := ⟨_, rfl⟩
          have HQ5 := Lib.hid (HQ4.out.port He0.out ⟨by omega, by omega, by have := HFq.out; omega⟩ HUp.out eM5)
          have HQ6 := Lib.hid (HQ5.out.port He0.out ⟨by omega, by omega, by have := HFq.out; omega⟩ HUd.out eM6)
          refine (chg_port A4 n c4 b M4 M5 (qH b) (N : Int) t.sp Ap mp cp w2 _ hn (HQ4.out.rd HO4.out) (by have := HN.out; omega) He0.out HQ4.out ⟨by omega, by omega, by have := HFq.out; omega⟩ HUp.out HFp.out HB4.out eM5).mono ?_
          rintro e w15 ⟨A5, c5, rfl, ho, hb, hbb⟩
          have HO5 := Lib.hid ho
          have HB5 := Lib.hid hb
          have HFb := Lib.hid (HFb.out.below hbb)
          have HFp := Lib.hid (HFp.out.below hbb)
          clear ho hb hbb j0 j1 j2 j3 j4
          obtain ⟨j0, j1, j2, j3, j4⟩ := tu_at (blk_on HZ2.out HB5.out)
          go_wp2_with fail
          refine (chg_port A5 n c5 b M5 M6 (qH b + 1) ((N : Int) + 2) t.dp Ap mp cp w2 _ hn (HQ5.out.rd HO5.out) (by have := HN.out; omega) He0.out HQ5.out ⟨by omega, by omega, by have := HFq.out; omega⟩ HUd.out HFp.out HB5.out eM6).mono ?_
          rintro e w16 ⟨A6, c6, rfl, ho, hb, hbb⟩
          have HO6 := Lib.hid ho
          have HB6 := Lib.hid hb
          have HFb := Lib.hid (HFb.out.below hbb)
          have HFp := Lib.hid (HFp.out.below hbb)
          clear ho hb hbb j0 j1 j2 j3 j4
          obtain ⟨j0, j1, j2, j3, j4⟩ := tu_at (blk_on HZ2.out HB6.out)
          obtain ⟨sq, esq⟩ : ∃ y, seqQ b sh = y := ⟨_, rfl⟩
          have hsqb : 0 ≤ sq ∧ sq < 4294967296 := by rw [← esq]; unfold seqQ; omega
          have u5 : IntKind.u32.wrap (S + sh) = sq := by rw [IntKind.wrap_u32, HS.out, ← esq]; unfold seqQ; rfl
          obtain ⟨sa, esa⟩ : ∃ y, sq / 65536 = y := ⟨_, rfl⟩
          obtain ⟨sb, esb⟩ : ∃ y, sq % 65536 = y := ⟨_, rfl⟩
          have HUa := Lib.hid (show U16 sa from ⟨by omega, by omega⟩)
          have HUb := Lib.hid (show U16 sb from ⟨by omega, by omega⟩)
          have u6 : IntKind.u16.wrap (sq / 65536) = sa := by rw [esa]; exact IntWalk.u16_in _ HUa.out
          have u6' : IntKind.u16.wrap sa = sa := IntWalk.u16_in _ HUa.out
          have u7 : IntKind.u16.wrap sq = sb := by rw [wrap_u16]; exact esb
          obtain ⟨M7, eM7⟩ : ∃ M, chQ (partQ b) M6 (qH b + 2) sa = M := ⟨_, rfl⟩
          obtain ⟨M8, eM8⟩ : ∃ M, chQ (partQ b) M7 (qH b + 3) sb = M := ⟨_, rfl⟩
          have HQ7 := Lib.hid (HQ6.out.port He0.out ⟨by omega, by omega, by have := HFq.out; omega⟩ HUa.out eM7)
          have HQ8 := Lib.hid (HQ7.out.port He0.out ⟨by omega, by omega, by have := HFq.out; omega⟩ HUb.out eM8)
          have HMp := Lib.hid (show runQ (partQ b) (portsQ b t (seqQ b sh)) M4 = M8 by unfold portsQ runQ; rw [if_neg (by have := Hpr.out; omega), if_pos Hpr.out, esq]; simp only [List.foldl_cons, List.foldl_nil, List.cons_append, List.nil_append]; rw [esa, esb, eM5, eM6, eM7, eM8])
          have k5 := (cells6 (blk_on HQ2.out HB6.out)).2.2.2.2.2
          have Hesa := Lib.hid esa
          have EM7 := Lib.hid eM7
          have EM8 := Lib.hid eM8
          clear esa esb esq eM5 eM6 eM7 eM8 hsqb
          go_wp2_with fail
          refine (chg_port A6 n c6 b M6 M7 (qH b + 2) ((N : Int) + 4) sa Ap mp cp w2 _ hn (HQ6.out.rd HO6.out) (by have := HN.out; omega) He0.out HQ6.out ⟨by omega, by omega, by have := HFq.out; omega⟩ HUa.out HFp.out HB6.out EM7.out).mono ?_
          rintro e w17 ⟨A7, c7, rfl, ho, hb, hbb⟩
          have HO7 := Lib.hid ho
          have HB7 := Lib.hid hb
          have HFb := Lib.hid (HFb.out.below hbb)
          have HFp := Lib.hid (HFp.out.below hbb)
          clear ho hb hbb j0 j1 j2 j3 j4
          obtain ⟨j0, j1, j2, j3, j4⟩ := tu_at (blk_on HZ2.out HB7.out)
          clear k5
          go_wp2_with fail
          refine (chg_port A7 n c7 b M7 M8 (qH b + 3) ((N : Int) + 6) sb Ap mp cp w2 _ hn (HQ7.out.rd HO7.out) (by have := HN.out; omega) He0.out HQ7.out ⟨by omega, by omega, by have := HFq.out; omega⟩ HUb.out HFp.out HB7.out EM8.out).mono ?_
          rintro e w18 ⟨A8, c8, rfl, ho, hb, hbb⟩
          have HO8 := Lib.hid ho
          have HB8 := Lib.hid hb
          have HFb := Lib.hid (HFb.out.below hbb)
          have HFp := Lib.hid (HFp.out.below hbb)
          clear ho hb hbb j0 j1 j2 j3 j4
          obtain ⟨j0, j1, j2, j3, j4⟩ := tu_at (blk_on HZ2.out HB8.out)
          have HLe := Lib.hid (show M8 = L by
            rw [← HL.out]; unfold rwR; rw [if_pos He.out]; unfold rwQ fixQ; rw [HM4.out, HMp.out, if_neg (fun h => h.1 Hpr.out)])
          have hlm : n = m := by rw [← Hm.out, ← HLe.out, ← Hlen.out]; exact HQ8.out.len.symm
          subst hlm
          go_wp2_with fail
          go_ret2
          refine ⟨A8, c8, ?_, by rw [← HLe.out]; exact HO8.out.mono HB2.out.size, HB2.out.trans (show Below w.heap.size w2 w18 from HB8.out.mono HB2.out.size)⟩
          show Ending.returned (.tuple #[.slice A8 n c8, .int .i64 0]) = _
          rw [← Hx.out, He.out]
      · have p6 : (t.pr == 6) = false := beq_false_of_ne (by omega)
        have p17 : (t.pr == 17) = true := by simpa using hpr
        have p17n : (t.pr != 17) = false := by rw [bne, p17]; rfl
        have p1n : (t.pr != 1) = true := by rw [bne, show (t.pr == 1) = false from beq_false_of_ne (by omega)]; rfl
        have p1 : (t.pr == 1) = false := beq_false_of_ne (by omega)
        have p6n : (t.pr != 6) = true := by rw [bne, p6]; rfl
        have Hpr := Lib.hid (show b.getD 9 0 = 17 by rw [← Ht9.out]; exact hpr)
        have HF := Lib.hid (show 2 * qF (b.getD 9 0) (qH b) = N + 6 by rw [Hpr.out]; unfold qF; have := HN.out; simp; omega)
        have hw : IntKind.i64.wrap ((N : Int) + 6) = (N : Int) + 6 := IntWalk.i64_in _ (by omega)
        have hw2 : IntKind.i64.wrap ((N : Int) + 6 + 2) = (N : Int) + 6 + 2 := IntWalk.i64_in _ (by omega)
        have hwn2 : IntKind.i64.wrap ((N : Int) + 2) = (N : Int) + 2 := IntWalk.i64_in _ (by omega)
        have hwn4 : IntKind.i64.wrap ((N : Int) + 4) = (N : Int) + 4 := IntWalk.i64_in _ (by omega)
        have hwn6 : IntKind.i64.wrap ((N : Int) + 6) = (N : Int) + 6 := IntWalk.i64_in _ (by omega)
        have hwn1 : IntKind.i64.wrap ((N : Int) + 6 + 1) = (N : Int) + 6 + 1 := IntWalk.i64_in _ (by omega)
        obtain ⟨f, ef⟩ : ∃ f, qF (b.getD 9 0) (qH b) = f := ⟨_, rfl⟩
        have Hf := Lib.hid ef
        clear hpr ef
        go_upto_region 13 with (fail)
        obtain ⟨q, eq⟩ : ∃ q : Bool, decide (partQ b = [f]) = q := ⟨_, rfl⟩
        have Hq := Lib.hid eq
        clear eq
        go_cut [63] from 48 (fun s63 wx => s63 = .bool q ∧ wx = w2)
        case first =>
          have hci : (N : Int) + 6 + 2 ≤ (n : Int) := by omega
          obtain ⟨v, ev⟩ : ∃ y, wordL b f = y := ⟨_, rfl⟩
          have Hnum := Lib.hid (num16_any A n c b ((N : Int) + 6) (N + 6) 2 v w2 (Nat.le_trans hn (by decide)) (by simp) (by decide) (by omega) HR2.out (by rw [← ev, show N + 6 = 2 * f by have := HF.out; have := Hf.out; omega]; exact nmQ_two b f))
          by_cases hv : v = 0
          · have hvb : (v != 0) = false := by simpa using hv
            have Hv := Lib.hid (show wordL b f = 0 by rw [ev]; exact hv)
            clear hv ev
            go_wp2_with fail
            refine Hnum.out.mono ?_
            rintro e w3 ⟨rfl, rfl⟩
            have Hqt := Lib.hid (show q = false by rw [← Hq.out]; exact decide_eq_false (by unfold partQ; rw [if_neg (fun h => h.2 ⟨Hpr.out, by rw [Hf.out]; exact Hv.out⟩)]; simp))
            go_wp2_with fail
            go_meet
            exact ⟨by rw [Hqt.out], rfl⟩
          · have hvb : (v != 0) = true := by simpa using hv
            have Hv := Lib.hid (show wordL b f ≠ 0 by rw [ev]; exact hv)
            clear hv ev
            go_wp2_with fail
            refine Hnum.out.mono ?_
            rintro e w3 ⟨rfl, rfl⟩
            have Hqt := Lib.hid (show q = true by rw [← Hq.out]; exact decide_eq_true (by unfold partQ; rw [if_pos ⟨(by have := HF.out; have := Hlen.out; omega), (fun h => Hv.out (by rw [← Hf.out]; exact h.2))⟩, Hf.out]))
            go_wp2_with fail
            go_meet
            exact ⟨by rw [Hqt.out], rfl⟩
        case rest =>
        obtain ⟨rfl, e63⟩ := hcut
        have e63 := e63.symm
        subst e63
        clear hw2
        go_upto_if 63 with (fail)
        go_cut [12] from 64 (fun s12 wx => ∃ (Ap : Option Addr) (mp cp : Nat), s12 = .slice Ap mp cp ∧ Hid (Sl wx 3 .i64 (.slice Ap mp cp) ((partQ b).map (fun f : Nat => 2 * (f : Int)))) ∧ Hid (Below w2.heap.size w2 wx))
        case first =>
          cases q with
          | true =>
            have Hpart := Lib.hid (show partQ b = [f] from of_decide_eq_true Hq.out)
            obtain ⟨A3, m3, c3, w3, hrun3, hs3, hm3, hb3, hg3⟩ := app_one w2 ((N : Int) + 6)
            have Hrun3 := Lib.hid hrun3
            have HS3 := Lib.hid hs3
            have HB3 := Lib.hid hb3
            clear hrun3 hs3 hm3 hb3 hg3
            go_wp2_with (at_builtin; refine wpList_appX rfl (.tmp 64) (.tmp 66) _ _ rfl rfl _ _ _ w3 rfl rfl Hrun3.out ?_)
            go_meet
            exact ⟨A3, m3, c3, rfl, Lib.hid (by
              have e : ((partQ b).map (fun g : Nat => 2 * (g : Int))) = [(N : Int) + 6] := by rw [Hpart.out]; simp only [List.map_cons, List.map_nil]; congr 1; have := HF.out; have := Hf.out; omega
              rw [e]; exact HS3.out), HB3⟩
          | false =>
            have Hpart := Lib.hid (show partQ b = [] by
              rcases part_cases b with h | ⟨h, _⟩
              · exact h
              · exact absurd (h.trans (by rw [Hf.out])) (of_decide_eq_false Hq.out))
            go_wp2_with fail
            go_meet
            exact ⟨none, 0, 0, rfl, Lib.hid (by rw [Hpart.out]; exact Sl.nil _ _ _), Lib.hid (Below.refl _ _)⟩
        case rest =>
          obtain ⟨Ap, mp, cp, rfl, HSp, HB3⟩ := hcut
          clear j0 j1 j2 j3 j4 hw
          obtain ⟨j0, j1, j2, j3, j4⟩ := tu_at (blk_on HZ2.out HB3.out)
          obtain ⟨A4, m4, c4, w4, hrun4, hs4, hm4, hb4, hg4⟩ := app_one wc 10
          have Hrun4 := Lib.hid hrun4
          have HS4 := Lib.hid hs4
          have HSp0 := Lib.hid (show ∀ g, (Value.slice Ap mp cp).ownBlock = some g → g < wc.heap.size from fun g hg => HSp.out.lt hg)
          have HSp := Lib.hid (show Sl w4 3 .i64 (.slice Ap mp cp) ((partQ b).map (fun f : Nat => 2 * (f : Int))) from HSp.out.but (S := fun _ => False) (But.of hb4) (fun _ _ h => h))
          have Hgp := Lib.hid (show ∀ g, (Value.slice Ap mp cp).ownBlock = some g → (Value.slice A4 m4 c4).ownBlock ≠ some g from fun g hg e => by have h1 := hg4 g e; have h2 := HSp0.out g hg; omega)
          have Hg4 := Lib.hid hg4
          have HB4 := Lib.hid (below_trans HB3.out hb4)
          have HB45 := Lib.hid hb4
          clear hrun4 hs4 hm4 hb4 hg4
          obtain ⟨j0, j1, j2, j3, j4⟩ := tu_at (blk_on HZ2.out HB4.out)
          obtain ⟨s1, es1⟩ : ∃ y, t.sr / 65536 = y := ⟨_, rfl⟩
          obtain ⟨s2, es2⟩ : ∃ y, t.sr % 65536 = y := ⟨_, rfl⟩
          obtain ⟨s3, es3⟩ : ∃ y, t.ds / 65536 = y := ⟨_, rfl⟩
          obtain ⟨s4, es4⟩ : ∃ y, t.ds % 65536 = y := ⟨_, rfl⟩
          have hsrb := HT.out.sr; have hdsb := HT.out.ds
          have HU := Lib.hid (show U16 s1 ∧ U16 s2 ∧ U16 s3 ∧ U16 s4 from ⟨⟨by omega, by omega⟩, ⟨by omega, by omega⟩, ⟨by omega, by omega⟩, ⟨by omega, by omega⟩⟩)
          have u1 : IntKind.u16.wrap (t.sr / 65536) = s1 := by rw [es1]; exact IntWalk.u16_in _ HU.out.1
          have u1' : IntKind.u16.wrap s1 = s1 := IntWalk.u16_in _ HU.out.1
          have u2 : IntKind.u16.wrap t.sr = s2 := by rw [wrap_u16]; exact es2
          have u3 : IntKind.u16.wrap (t.ds / 65536) = s3 := by rw [es3]; exact IntWalk.u16_in _ HU.out.2.2.1
          have u3' : IntKind.u16.wrap s3 = s3 := IntWalk.u16_in _ HU.out.2.2.1
          have u4 : IntKind.u16.wrap t.ds = s4 := by rw [wrap_u16]; exact es4
          obtain ⟨M1, eM1⟩ : ∃ M, chQ (bothQ b) b 6 s1 = M := ⟨_, rfl⟩
          obtain ⟨M2, eM2⟩ : ∃ M, chQ (bothQ b) M1 7 s2 = M := ⟨_, rfl⟩
          obtain ⟨M3, eM3⟩ : ∃ M, chQ (bothQ b) M2 8 s3 = M := ⟨_, rfl⟩
          obtain ⟨M4, eM4⟩ : ∃ M, chQ (bothQ b) M3 9 s4 = M := ⟨_, rfl⟩
          have HQ0 := Lib.hid (show StepQ b b from ⟨Hby.out, rfl⟩)
          have HQ1 := Lib.hid (HQ0.out.head He0.out (by decide) HU.out.1 eM1)
          have HQ2' := Lib.hid (HQ1.out.head He0.out (by decide) HU.out.2.1 eM2)
          have HQ3 := Lib.hid (HQ2'.out.head He0.out (by decide) HU.out.2.2.1 eM3)
          have HQ4 := Lib.hid (HQ3.out.head He0.out (by decide) HU.out.2.2.2 eM4)
          have HM4 := Lib.hid (show runQ (bothQ b) (headQ t) b = M4 by unfold headQ runQ; simp only [List.foldl_cons, List.foldl_nil]; rw [es1, es2, es3, es4, eM1, eM2, eM3, eM4])
          have EM1 := Lib.hid eM1; have EM2 := Lib.hid eM2; have EM3 := Lib.hid eM3; have EM4 := Lib.hid eM4
          have Hes3 := Lib.hid es3
          have Hes1 := Lib.hid es1
          clear es1 es2 es3 es4 eM1 eM2 eM3 eM4 hsrb hdsb
          obtain ⟨A5, m5, c5, w5, hrun5, hs5, hb5, hbt5⟩ := app_two w2.heap.size w4 A4 Ap m4 c4 mp cp [10] ((partQ b).map (fun f : Nat => 2 * (f : Int))) HS4.out HSp.out (by rcases part_cases b with h | ⟨h, _⟩ <;> rw [h] <;> simp) (fun g hg => Nat.le_trans HB3.out.size (Hg4.out g hg)) HB4.out.size
          have Hrun5 := Lib.hid hrun5
          have HBB := Lib.hid (HB4.out.trans hb5)
          have HFp := Lib.hid (RdI.of_sl (HSp.out.but hbt5 (fun g hg e => Hgp.out g hg e)))
          have HFb := Lib.hid (show RdI w5 A5 m5 ((bothQ b).map (fun f : Nat => 2 * (f : Int))) by
            have e : (bothQ b).map (fun f : Nat => 2 * (f : Int)) = [10] ++ (partQ b).map (fun f : Nat => 2 * (f : Int)) := by
              unfold bothQ; rw [if_neg (by have := Hpr.out; omega)]; rfl
            rw [e]; exact RdI.of_sl hs5)
          clear hrun5 hs5 hb5 hbt5
          obtain ⟨j0, j1, j2, j3, j4⟩ := tu_at (blk_on HZ2.out HBB.out)
          go_wp2_with (at_builtin; first | refine wpList_appX rfl (.tmp 68) (.tmp 69) _ _ rfl rfl _ _ _ w4 rfl rfl Hrun4.out ?_ | refine wpList_appX rfl (.tmp 74) (.tmp 75) _ _ rfl rfl _ _ _ w5 rfl rfl Hrun5.out ?_)
          have HRb := Lib.hid (HR2.out.below HBB.out)
          refine (chg_head A n c b b M1 6 12 s1 A5 m5 c5 w2 _ hn HRb.out rfl He0.out HQ0.out (by decide) HU.out.1 HFb.out HBB.out EM1.out).mono ?_
          rintro e w11 ⟨A1, c1, rfl, ho, hb, hbb⟩
          have HO1 := Lib.hid ho
          have HB1 := Lib.hid hb
          have HFb := Lib.hid (HFb.out.below hbb)
          have HFp := Lib.hid (HFp.out.below hbb)
          clear ho hb hbb j0 j1 j2 j3 j4
          obtain ⟨j0, j1, j2, j3, j4⟩ := tu_at (blk_on HZ2.out HB1.out)
          go_wp2_with fail
          refine (chg_head A1 n c1 b M1 M2 7 14 s2 A5 m5 c5 w2 _ hn (HQ1.out.rd HO1.out) rfl He0.out HQ1.out (by decide) HU.out.2.1 HFb.out HB1.out EM2.out).mono ?_
          rintro e w12 ⟨A2, c2, rfl, ho, hb, hbb⟩
          have HO2 := Lib.hid ho
          have HB2' := Lib.hid hb
          have HFb := Lib.hid (HFb.out.below hbb)
          have HFp := Lib.hid (HFp.out.below hbb)
          clear ho hb hbb j0 j1 j2 j3 j4
          obtain ⟨j0, j1, j2, j3, j4⟩ := tu_at (blk_on HZ2.out HB2'.out)
          go_wp2_with fail
          refine (chg_head A2 n c2 b M2 M3 8 16 s3 A5 m5 c5 w2 _ hn (HQ2'.out.rd HO2.out) rfl He0.out HQ2'.out (by decide) HU.out.2.2.1 HFb.out HB2'.out EM3.out).mono ?_
          rintro e w13 ⟨A3, c3, rfl, ho, hb, hbb⟩
          have HO3 := Lib.hid ho
          have HB3' := Lib.hid hb
          have HFb := Lib.hid (HFb.out.below hbb)
          have HFp := Lib.hid (HFp.out.below hbb)
          clear ho hb hbb j0 j1 j2 j3 j4
          obtain ⟨j0, j1, j2, j3, j4⟩ := tu_at (blk_on HZ2.out HB3'.out)
          go_wp2_with fail
          refine (chg_head A3 n c3 b M3 M4 9 18 s4 A5 m5 c5 w2 _ hn (HQ3.out.rd HO3.out) rfl He0.out HQ3.out (by decide) HU.out.2.2.2 HFb.out HB3'.out EM4.out).mono ?_
          rintro e w14 ⟨A4, c4, rfl, ho, hb, hbb⟩
          have HO4 := Lib.hid ho
          have HB4 := Lib.hid hb
          have HFb := Lib.hid (HFb.out.below hbb)
          have HFp := Lib.hid (HFp.out.below hbb)
          clear ho hb hbb j0 j1 j2 j3 j4
          obtain ⟨j0, j1, j2, j3, j4⟩ := tu_at (blk_on HZ2.out HB4.out)
          go_wp2_with fail
          have HUp := Lib.hid (show U16 t.sp from ⟨by have := HT.out.sp; omega, by have := HT.out.sp; omega⟩)
          have HUd := Lib.hid (show U16 t.dp from ⟨by have := HT.out.dp; omega, by have := HT.out.dp; omega⟩)
          have HFq := Lib.hid (show qH b + 3 ≤ qF (b.getD 9 0) (qH b) ∧ (qF (b.getD 9 0) (qH b) = qH b + 3) by rw [Hpr.out]; unfold qF; simp)
          obtain ⟨M5, eM5⟩ : ∃ M, chQ (partQ b) M4 (qH b) t.sp = M := ⟨_, rfl⟩
          obtain ⟨M6, eM6⟩ : ∃ M, chQ (partQ b) M5 (qH b + 1) t.dp = M := ⟨_, rfl⟩
          have HQ5 := Lib.hid (HQ4.out.port He0.out ⟨by omega, by omega, by have := HFq.out; omega⟩ HUp.out eM5)
          have HQ6 := Lib.hid (HQ5.out.port He0.out ⟨by omega, by omega, by have := HFq.out; omega⟩ HUd.out eM6)
          refine (chg_port A4 n c4 b M4 M5 (qH b) (N : Int) t.sp Ap mp cp w2 _ hn (HQ4.out.rd HO4.out) (by have := HN.out; omega) He0.out HQ4.out ⟨by omega, by omega, by have := HFq.out; omega⟩ HUp.out HFp.out HB4.out eM5).mono ?_
          rintro e w15 ⟨A5, c5, rfl, ho, hb, hbb⟩
          have HO5 := Lib.hid ho
          have HB5 := Lib.hid hb
          have HFb := Lib.hid (HFb.out.below hbb)
          have HFp := Lib.hid (HFp.out.below hbb)
          clear ho hb hbb j0 j1 j2 j3 j4
          obtain ⟨j0, j1, j2, j3, j4⟩ := tu_at (blk_on HZ2.out HB5.out)
          go_wp2_with fail
          refine (chg_port A5 n c5 b M5 M6 (qH b + 1) ((N : Int) + 2) t.dp Ap mp cp w2 _ hn (HQ5.out.rd HO5.out) (by have := HN.out; omega) He0.out HQ5.out ⟨by omega, by omega, by have := HFq.out; omega⟩ HUd.out HFp.out HB5.out eM6).mono ?_
          rintro e w16 ⟨A6, c6, rfl, ho, hb, hbb⟩
          have HO6 := Lib.hid ho
          have HB6 := Lib.hid hb
          have HFb := Lib.hid (HFb.out.below hbb)
          have HFp := Lib.hid (HFp.out.below hbb)
          clear ho hb hbb j0 j1 j2 j3 j4
          obtain ⟨j0, j1, j2, j3, j4⟩ := tu_at (blk_on HZ2.out HB6.out)
          have HMp := Lib.hid (show runQ (partQ b) (portsQ b t (seqQ b sh)) M4 = M6 by unfold portsQ runQ; rw [if_neg (by have := Hpr.out; omega), if_neg (by have := Hpr.out; omega)]; simp only [List.foldl_cons, List.foldl_nil, List.append_nil]; rw [eM5, eM6])
          clear eM5 eM6
          have HLf := Lib.hid (show fixQ b M6 = L by rw [← HL.out]; unfold rwR; rw [if_pos He.out]; unfold rwQ; rw [HM4.out, HMp.out])
          have hN30 : N + 6 + 1 < n ∨ partQ b = [] := by
            rcases part_cases b with h | ⟨h, h2⟩
            · exact .inr h
            · left; have := HF.out; have := Hlen.out; omega
          have HN30 := Lib.hid hN30
          clear hN30
          cases q with
          | true =>
            have Hpart := Lib.hid (show partQ b = [f] from of_decide_eq_true Hq.out)
            obtain rfl : mp = 1 := by have := HFp.out.len; rw [Hpart.out] at this; simpa using this.symm
            have HNl := Lib.hid (show N + 6 + 1 < n by rcases HN30.out with h | h; exact h; (rw [Hpart.out] at h; cases h))
            have hni2 : (N : Int) + 6 + 1 < (n : Int) := by have := HNl.out; omega
            have E2f := Lib.hid (show N + 6 = 2 * f by have := HF.out; have := Hf.out; omega)
            obtain ⟨v, ev⟩ : ∃ y, wordL M6 f = y := ⟨_, rfl⟩
            have Hnum := Lib.hid (num16_any A6 n c6 M6 ((N : Int) + 6) (N + 6) 2 v w16 (Nat.le_trans hn (by decide)) (by simp) (by decide) (by have := HNl.out; omega) (HQ6.out.rd HO6.out) (by rw [← ev, E2f.out]; exact nmQ_two _ f))
            by_cases hv : v = 0
            · have hvb : (v == 0) = true := by simpa using hv
              have Hv := Lib.hid (show wordL M6 f = 0 by rw [ev]; exact hv)
              have HLe := Lib.hid (show layL M6 f 65535 = L by
                rw [← HLf.out]; unfold fixQ
                rw [if_pos ⟨by have := Hpr.out; omega, by rw [Hpart.out]; simp, by rw [Hf.out]; exact Hv.out⟩, Hf.out])
              obtain ⟨g, eg, hgB, hgl⟩ := HO6.out.addr (by have := HNl.out; omega)
              subst eg
              have g1 := HO6.out.cell (N + 6) (by have := HNl.out; omega)
              have g2 := HO6.out.cell (N + 6 + 1) HNl.out
              have z1 : w16.frozen? ⟨g, N + 6, none⟩ = false := World.ownsRow.frozenAt HO6.out _
              have z2 : w16.frozen? ⟨g, N + 6 + 1, none⟩ = false := World.ownsRow.frozenAt HO6.out _
              obtain ⟨wz, ez⟩ : ∃ u, (w16.setCell ⟨g, N + 6, none⟩ (.int .u8 255)).setCell ⟨g, N + 6 + 1, none⟩ (.int .u8 255) = u := ⟨_, rfl⟩
              have HOz := Lib.hid (show OwnB wz w2.heap.size (some ⟨g, 0, none⟩) n c6 (layL M6 f 65535) by
                rw [← ez, E2f.out]; exact lay_two HO6.out f 65535)
              have HBz := Lib.hid (show Below w2.heap.size w2 wz by rw [← ez]; exact (HB6.out.setCell (p := ⟨g, N + 6, none⟩) hgB _).setCell (p := ⟨g, N + 6 + 1, none⟩) hgB _)
              have Ez := Lib.hid ez
              clear hv ev ez hgB hgl
              go_wp2_with fail
              refine Hnum.out.mono ?_
              rintro e w3 ⟨rfl, rfl⟩
              go_upto_region 33 with (fail)
              rw [Ez.out]
              clear g1 g2 z1 z2
              have hlm : n = m := by rw [← Hm.out, ← HLe.out, ← Hlen.out]; exact ((layL_len _ _ _).trans HQ6.out.len).symm
              subst hlm
              go_wp2_with fail
              go_ret2
              refine ⟨(some ⟨g, 0, none⟩), c6, ?_, by rw [← HLe.out]; exact HOz.out.mono HB2.out.size, HB2.out.trans (show Below w.heap.size w2 wz from HBz.out.mono HB2.out.size)⟩
              show Ending.returned (.tuple #[.slice (some ⟨g, 0, none⟩) n c6, .int .i64 0]) = _
              rw [← Hx.out, He.out]
            · have hvb : (v == 0) = false := by simpa using hv
              have Hv := Lib.hid (show wordL M6 f ≠ 0 by rw [ev]; exact hv)
              have HLe := Lib.hid (show M6 = L by
                rw [← HLf.out]; unfold fixQ
                rw [if_neg (fun h => Hv.out (by rw [← Hf.out]; exact h.2.2))])
              clear hv ev
              go_wp2_with fail
              refine Hnum.out.mono ?_
              rintro e w3 ⟨rfl, rfl⟩
              have hlm : n = m := by rw [← Hm.out, ← HLe.out, ← Hlen.out]; exact HQ6.out.len.symm
              subst hlm
              go_wp2_with fail
              go_ret2
              refine ⟨A6, c6, ?_, by rw [← HLe.out]; exact HO6.out.mono HB2.out.size, HB2.out.trans (show Below w.heap.size w2 w16 from HB6.out.mono HB2.out.size)⟩
              show Ending.returned (.tuple #[.slice A6 n c6, .int .i64 0]) = _
              rw [← Hx.out, He.out]
          | false =>
            have Hpart := Lib.hid (show partQ b = [] by
              rcases part_cases b with h | ⟨h, _⟩
              · exact h
              · exact absurd (h.trans (by rw [Hf.out])) (of_decide_eq_false Hq.out))
            obtain rfl : mp = 0 := by have := HFp.out.len; rw [Hpart.out] at this; simpa using this.symm
            have HLe := Lib.hid (show M6 = L by
              rw [← HLf.out]; unfold fixQ
              rw [if_neg (fun h => h.2.1 Hpart.out)])
            have hlm : n = m := by rw [← Hm.out, ← HLe.out, ← Hlen.out]; exact HQ6.out.len.symm
            subst hlm
            go_wp2_with fail
            go_ret2
            refine ⟨A6, c6, ?_, by rw [← HLe.out]; exact HO6.out.mono HB2.out.size, HB2.out.trans (show Below w.heap.size w2 w16 from HB6.out.mono HB2.out.size)⟩
            show Ending.returned (.tuple #[.slice A6 n c6, .int .i64 0]) = _
            rw [← Hx.out, He.out]
      · have p6 : (t.pr == 6) = false := beq_false_of_ne (by omega)
        have p17 : (t.pr == 17) = false := beq_false_of_ne (by omega)
        have p17n : (t.pr != 17) = true := by rw [bne, p17]; rfl
        have p1n : (t.pr != 1) = false := by rw [bne, show (t.pr == 1) = true by simpa using hpr]; rfl
        have p1 : (t.pr == 1) = true := by simpa using hpr
        have p6n : (t.pr != 6) = true := by rw [bne, p6]; rfl
        have Hpr := Lib.hid (show b.getD 9 0 = 1 by rw [← Ht9.out]; exact hpr)
        have HF := Lib.hid (show 2 * qF (b.getD 9 0) (qH b) = N + 2 by rw [Hpr.out]; unfold qF; have := HN.out; simp; omega)
        have hw : IntKind.i64.wrap ((N : Int) + 2) = (N : Int) + 2 := IntWalk.i64_in _ (by omega)
        have hw2 : IntKind.i64.wrap ((N : Int) + 2 + 2) = (N : Int) + 2 + 2 := IntWalk.i64_in _ (by omega)
        have hwn2 : IntKind.i64.wrap ((N : Int) + 2) = (N : Int) + 2 := IntWalk.i64_in _ (by omega)
        have hwn4 : IntKind.i64.wrap ((N : Int) + 4) = (N : Int) + 4 := IntWalk.i64_in _ (by omega)
        have hwn6 : IntKind.i64.wrap ((N : Int) + 6) = (N : Int) + 6 := IntWalk.i64_in _ (by omega)
        have hwn1 : IntKind.i64.wrap ((N : Int) + 2 + 1) = (N : Int) + 2 + 1 := IntWalk.i64_in _ (by omega)
        obtain ⟨f, ef⟩ : ∃ f, qF (b.getD 9 0) (qH b) = f := ⟨_, rfl⟩
        have Hf := Lib.hid ef
        clear hpr ef
        go_upto_region 13 with (fail)
        obtain ⟨q, eq⟩ : ∃ q : Bool, decide (partQ b = [f]) = q := ⟨_, rfl⟩
        have Hq := Lib.hid eq
        clear eq
        go_cut [63] from 48 (fun s63 wx => s63 = .bool q ∧ wx = w2)
        case first =>
          have hci : (N : Int) + 2 + 2 ≤ (n : Int) := by omega
          have Hqt := Lib.hid (show q = true by rw [← Hq.out]; exact decide_eq_true (by unfold partQ; rw [if_pos ⟨(by have := HF.out; have := Hlen.out; omega), (fun h => by have := Hpr.out; omega)⟩, Hf.out]))
          go_wp2_with fail
          go_meet
          exact ⟨by rw [Hqt.out], rfl⟩
        case rest =>
        obtain ⟨rfl, e63⟩ := hcut
        have e63 := e63.symm
        subst e63
        clear hw2
        go_upto_if 63 with (fail)
        go_cut [12] from 64 (fun s12 wx => ∃ (Ap : Option Addr) (mp cp : Nat), s12 = .slice Ap mp cp ∧ Hid (Sl wx 3 .i64 (.slice Ap mp cp) ((partQ b).map (fun f : Nat => 2 * (f : Int)))) ∧ Hid (Below w2.heap.size w2 wx))
        case first =>
          cases q with
          | true =>
            have Hpart := Lib.hid (show partQ b = [f] from of_decide_eq_true Hq.out)
            obtain ⟨A3, m3, c3, w3, hrun3, hs3, hm3, hb3, hg3⟩ := app_one w2 ((N : Int) + 2)
            have Hrun3 := Lib.hid hrun3
            have HS3 := Lib.hid hs3
            have HB3 := Lib.hid hb3
            clear hrun3 hs3 hm3 hb3 hg3
            go_wp2_with (at_builtin; refine wpList_appX rfl (.tmp 64) (.tmp 66) _ _ rfl rfl _ _ _ w3 rfl rfl Hrun3.out ?_)
            go_meet
            exact ⟨A3, m3, c3, rfl, Lib.hid (by
              have e : ((partQ b).map (fun g : Nat => 2 * (g : Int))) = [(N : Int) + 2] := by rw [Hpart.out]; simp only [List.map_cons, List.map_nil]; congr 1; have := HF.out; have := Hf.out; omega
              rw [e]; exact HS3.out), HB3⟩
          | false =>
            have Hpart := Lib.hid (show partQ b = [] by
              rcases part_cases b with h | ⟨h, _⟩
              · exact h
              · exact absurd (h.trans (by rw [Hf.out])) (of_decide_eq_false Hq.out))
            go_wp2_with fail
            go_meet
            exact ⟨none, 0, 0, rfl, Lib.hid (by rw [Hpart.out]; exact Sl.nil _ _ _), Lib.hid (Below.refl _ _)⟩
        case rest =>
          obtain ⟨Ap, mp, cp, rfl, HSp, HB3⟩ := hcut
          clear j0 j1 j2 j3 j4 hw
          obtain ⟨j0, j1, j2, j3, j4⟩ := tu_at (blk_on HZ2.out HB3.out)
          obtain ⟨A4, m4, c4, w4, hrun4, hs4, hm4, hb4, hg4⟩ := app_one wc 10
          have Hrun4 := Lib.hid hrun4
          have HS4 := Lib.hid hs4
          have HSp0 := Lib.hid (show ∀ g, (Value.slice Ap mp cp).ownBlock = some g → g < wc.heap.size from fun g hg => HSp.out.lt hg)
          have HSp := Lib.hid (show Sl w4 3 .i64 (.slice Ap mp cp) ((partQ b).map (fun f : Nat => 2 * (f : Int))) from HSp.out.but (S := fun _ => False) (But.of hb4) (fun _ _ h => h))
          have Hgp := Lib.hid (show ∀ g, (Value.slice Ap mp cp).ownBlock = some g → (Value.slice A4 m4 c4).ownBlock ≠ some g from fun g hg e => by have h1 := hg4 g e; have h2 := HSp0.out g hg; omega)
          have Hg4 := Lib.hid hg4
          have HB4 := Lib.hid (below_trans HB3.out hb4)
          have HB45 := Lib.hid hb4
          clear hrun4 hs4 hm4 hb4 hg4
          obtain ⟨j0, j1, j2, j3, j4⟩ := tu_at (blk_on HZ2.out HB4.out)
          obtain ⟨s1, es1⟩ : ∃ y, t.sr / 65536 = y := ⟨_, rfl⟩
          obtain ⟨s2, es2⟩ : ∃ y, t.sr % 65536 = y := ⟨_, rfl⟩
          obtain ⟨s3, es3⟩ : ∃ y, t.ds / 65536 = y := ⟨_, rfl⟩
          obtain ⟨s4, es4⟩ : ∃ y, t.ds % 65536 = y := ⟨_, rfl⟩
          have hsrb := HT.out.sr; have hdsb := HT.out.ds
          have HU := Lib.hid (show U16 s1 ∧ U16 s2 ∧ U16 s3 ∧ U16 s4 from ⟨⟨by omega, by omega⟩, ⟨by omega, by omega⟩, ⟨by omega, by omega⟩, ⟨by omega, by omega⟩⟩)
          have u1 : IntKind.u16.wrap (t.sr / 65536) = s1 := by rw [es1]; exact IntWalk.u16_in _ HU.out.1
          have u1' : IntKind.u16.wrap s1 = s1 := IntWalk.u16_in _ HU.out.1
          have u2 : IntKind.u16.wrap t.sr = s2 := by rw [wrap_u16]; exact es2
          have u3 : IntKind.u16.wrap (t.ds / 65536) = s3 := by rw [es3]; exact IntWalk.u16_in _ HU.out.2.2.1
          have u3' : IntKind.u16.wrap s3 = s3 := IntWalk.u16_in _ HU.out.2.2.1
          have u4 : IntKind.u16.wrap t.ds = s4 := by rw [wrap_u16]; exact es4
          obtain ⟨M1, eM1⟩ : ∃ M, chQ (bothQ b) b 6 s1 = M := ⟨_, rfl⟩
          obtain ⟨M2, eM2⟩ : ∃ M, chQ (bothQ b) M1 7 s2 = M := ⟨_, rfl⟩
          obtain ⟨M3, eM3⟩ : ∃ M, chQ (bothQ b) M2 8 s3 = M := ⟨_, rfl⟩
          obtain ⟨M4, eM4⟩ : ∃ M, chQ (bothQ b) M3 9 s4 = M := ⟨_, rfl⟩
          have HQ0 := Lib.hid (show StepQ b b from ⟨Hby.out, rfl⟩)
          have HQ1 := Lib.hid (HQ0.out.head He0.out (by decide) HU.out.1 eM1)
          have HQ2' := Lib.hid (HQ1.out.head He0.out (by decide) HU.out.2.1 eM2)
          have HQ3 := Lib.hid (HQ2'.out.head He0.out (by decide) HU.out.2.2.1 eM3)
          have HQ4 := Lib.hid (HQ3.out.head He0.out (by decide) HU.out.2.2.2 eM4)
          have HM4 := Lib.hid (show runQ (bothQ b) (headQ t) b = M4 by unfold headQ runQ; simp only [List.foldl_cons, List.foldl_nil]; rw [es1, es2, es3, es4, eM1, eM2, eM3, eM4])
          have EM1 := Lib.hid eM1; have EM2 := Lib.hid eM2; have EM3 := Lib.hid eM3; have EM4 := Lib.hid eM4
          have Hes3 := Lib.hid es3
          have Hes1 := Lib.hid es1
          clear es1 es2 es3 es4 eM1 eM2 eM3 eM4 hsrb hdsb
          have HBB := HB4
          have HFp := Lib.hid (RdI.of_sl HSp.out)
          have HFb := Lib.hid (show RdI w4 A4 m4 ((bothQ b).map (fun f : Nat => 2 * (f : Int))) by
            have e : (bothQ b).map (fun f : Nat => 2 * (f : Int)) = [10] := by
              unfold bothQ; rw [if_pos Hpr.out]; rfl
            rw [e]; exact RdI.of_sl HS4.out)
          go_wp2_with (at_builtin; refine wpList_appX rfl (.tmp 68) (.tmp 69) _ _ rfl rfl _ _ _ w4 rfl rfl Hrun4.out ?_)
          have HRb := Lib.hid (HR2.out.below HBB.out)
          refine (chg_head A n c b b M1 6 12 s1 A4 m4 c4 w2 _ hn HRb.out rfl He0.out HQ0.out (by decide) HU.out.1 HFb.out HBB.out EM1.out).mono ?_
          rintro e w11 ⟨A1, c1, rfl, ho, hb, hbb⟩
          have HO1 := Lib.hid ho
          have HB1 := Lib.hid hb
          have HFb := Lib.hid (HFb.out.below hbb)
          have HFp := Lib.hid (HFp.out.below hbb)
          clear ho hb hbb j0 j1 j2 j3 j4
          obtain ⟨j0, j1, j2, j3, j4⟩ := tu_at (blk_on HZ2.out HB1.out)
          go_wp2_with fail
          refine (chg_head A1 n c1 b M1 M2 7 14 s2 A4 m4 c4 w2 _ hn (HQ1.out.rd HO1.out) rfl He0.out HQ1.out (by decide) HU.out.2.1 HFb.out HB1.out EM2.out).mono ?_
          rintro e w12 ⟨A2, c2, rfl, ho, hb, hbb⟩
          have HO2 := Lib.hid ho
          have HB2' := Lib.hid hb
          have HFb := Lib.hid (HFb.out.below hbb)
          have HFp := Lib.hid (HFp.out.below hbb)
          clear ho hb hbb j0 j1 j2 j3 j4
          obtain ⟨j0, j1, j2, j3, j4⟩ := tu_at (blk_on HZ2.out HB2'.out)
          go_wp2_with fail
          refine (chg_head A2 n c2 b M2 M3 8 16 s3 A4 m4 c4 w2 _ hn (HQ2'.out.rd HO2.out) rfl He0.out HQ2'.out (by decide) HU.out.2.2.1 HFb.out HB2'.out EM3.out).mono ?_
          rintro e w13 ⟨A3, c3, rfl, ho, hb, hbb⟩
          have HO3 := Lib.hid ho
          have HB3' := Lib.hid hb
          have HFb := Lib.hid (HFb.out.below hbb)
          have HFp := Lib.hid (HFp.out.below hbb)
          clear ho hb hbb j0 j1 j2 j3 j4
          obtain ⟨j0, j1, j2, j3, j4⟩ := tu_at (blk_on HZ2.out HB3'.out)
          go_wp2_with fail
          refine (chg_head A3 n c3 b M3 M4 9 18 s4 A4 m4 c4 w2 _ hn (HQ3.out.rd HO3.out) rfl He0.out HQ3.out (by decide) HU.out.2.2.2 HFb.out HB3'.out EM4.out).mono ?_
          rintro e w14 ⟨A4, c4, rfl, ho, hb, hbb⟩
          have HO4 := Lib.hid ho
          have HB4 := Lib.hid hb
          have HFb := Lib.hid (HFb.out.below hbb)
          have HFp := Lib.hid (HFp.out.below hbb)
          clear ho hb hbb j0 j1 j2 j3 j4
          obtain ⟨j0, j1, j2, j3, j4⟩ := tu_at (blk_on HZ2.out HB4.out)
          go_wp2_with fail
          have HUp := Lib.hid (show U16 t.sp from ⟨by have := HT.out.sp; omega, by have := HT.out.sp; omega⟩)
          have HFq := Lib.hid (show qF (b.getD 9 0) (qH b) = qH b + 1 by rw [Hpr.out]; unfold qF; simp)
          obtain ⟨M5, eM5⟩ : ∃ M, chQ (partQ b) M4 (qH b + 2) t.sp = M := ⟨_, rfl⟩
          have HQ5 := Lib.hid (HQ4.out.port He0.out ⟨by omega, by omega, by have := HFq.out; omega⟩ HUp.out eM5)
          have HMp := Lib.hid (show runQ (partQ b) (portsQ b t (seqQ b sh)) M4 = M5 by unfold portsQ runQ; rw [if_pos Hpr.out]; simp only [List.foldl_cons, List.foldl_nil]; exact eM5)
          refine (chg_port A4 n c4 b M4 M5 (qH b + 2) ((N : Int) + 4) t.sp Ap mp cp w2 _ hn (HQ4.out.rd HO4.out) (by have := HN.out; omega) He0.out HQ4.out ⟨by omega, by omega, by have := HFq.out; omega⟩ HUp.out HFp.out HB4.out eM5).mono ?_
          rintro e w15 ⟨A5, c5, rfl, ho, hb, hbb⟩
          have HO5 := Lib.hid ho
          have HB5 := Lib.hid hb
          have HFb := Lib.hid (HFb.out.below hbb)
          have HFp := Lib.hid (HFp.out.below hbb)
          clear ho hb hbb j0 j1 j2 j3 j4
          obtain ⟨j0, j1, j2, j3, j4⟩ := tu_at (blk_on HZ2.out HB5.out)
          clear eM5
          have HLf := Lib.hid (show fixQ b M5 = L by rw [← HL.out]; unfold rwR; rw [if_pos He.out]; unfold rwQ; rw [HM4.out, HMp.out])
          have hN30 : N + 2 + 1 < n ∨ partQ b = [] := by
            rcases part_cases b with h | ⟨h, h2⟩
            · exact .inr h
            · left; have := HF.out; have := Hlen.out; omega
          have HN30 := Lib.hid hN30
          clear hN30
          cases q with
          | true =>
            have Hpart := Lib.hid (show partQ b = [f] from of_decide_eq_true Hq.out)
            obtain rfl : mp = 1 := by have := HFp.out.len; rw [Hpart.out] at this; simpa using this.symm
            have HNl := Lib.hid (show N + 2 + 1 < n by rcases HN30.out with h | h; exact h; (rw [Hpart.out] at h; cases h))
            have hni2 : (N : Int) + 2 + 1 < (n : Int) := by have := HNl.out; omega
            have E2f := Lib.hid (show N + 2 = 2 * f by have := HF.out; have := Hf.out; omega)
            obtain ⟨v, ev⟩ : ∃ y, wordL M5 f = y := ⟨_, rfl⟩
            have Hnum := Lib.hid (num16_any A5 n c5 M5 ((N : Int) + 2) (N + 2) 2 v w15 (Nat.le_trans hn (by decide)) (by simp) (by decide) (by have := HNl.out; omega) (HQ5.out.rd HO5.out) (by rw [← ev, E2f.out]; exact nmQ_two _ f))
            by_cases hv : v = 0
            · have hvb : (v == 0) = true := by simpa using hv
              have Hv := Lib.hid (show wordL M5 f = 0 by rw [ev]; exact hv)
              have HLe := Lib.hid (show layL M5 f 65535 = L by
                rw [← HLf.out]; unfold fixQ
                rw [if_pos ⟨by have := Hpr.out; omega, by rw [Hpart.out]; simp, by rw [Hf.out]; exact Hv.out⟩, Hf.out])
              obtain ⟨g, eg, hgB, hgl⟩ := HO5.out.addr (by have := HNl.out; omega)
              subst eg
              have g1 := HO5.out.cell (N + 2) (by have := HNl.out; omega)
              have g2 := HO5.out.cell (N + 2 + 1) HNl.out
              have z1 : w15.frozen? ⟨g, N + 2, none⟩ = false := World.ownsRow.frozenAt HO5.out _
              have z2 : w15.frozen? ⟨g, N + 2 + 1, none⟩ = false := World.ownsRow.frozenAt HO5.out _
              obtain ⟨wz, ez⟩ : ∃ u, (w15.setCell ⟨g, N + 2, none⟩ (.int .u8 255)).setCell ⟨g, N + 2 + 1, none⟩ (.int .u8 255) = u := ⟨_, rfl⟩
              have HOz := Lib.hid (show OwnB wz w2.heap.size (some ⟨g, 0, none⟩) n c5 (layL M5 f 65535) by
                rw [← ez, E2f.out]; exact lay_two HO5.out f 65535)
              have HBz := Lib.hid (show Below w2.heap.size w2 wz by rw [← ez]; exact (HB5.out.setCell (p := ⟨g, N + 2, none⟩) hgB _).setCell (p := ⟨g, N + 2 + 1, none⟩) hgB _)
              have Ez := Lib.hid ez
              clear hv ev ez hgB hgl
              go_wp2_with fail
              refine Hnum.out.mono ?_
              rintro e w3 ⟨rfl, rfl⟩
              go_upto_region 33 with (fail)
              rw [Ez.out]
              clear g1 g2 z1 z2
              have hlm : n = m := by rw [← Hm.out, ← HLe.out, ← Hlen.out]; exact ((layL_len _ _ _).trans HQ5.out.len).symm
              subst hlm
              go_wp2_with fail
              go_ret2
              refine ⟨(some ⟨g, 0, none⟩), c5, ?_, by rw [← HLe.out]; exact HOz.out.mono HB2.out.size, HB2.out.trans (show Below w.heap.size w2 wz from HBz.out.mono HB2.out.size)⟩
              show Ending.returned (.tuple #[.slice (some ⟨g, 0, none⟩) n c5, .int .i64 0]) = _
              rw [← Hx.out, He.out]
            · have hvb : (v == 0) = false := by simpa using hv
              have Hv := Lib.hid (show wordL M5 f ≠ 0 by rw [ev]; exact hv)
              have HLe := Lib.hid (show M5 = L by
                rw [← HLf.out]; unfold fixQ
                rw [if_neg (fun h => Hv.out (by rw [← Hf.out]; exact h.2.2))])
              clear hv ev
              go_wp2_with fail
              refine Hnum.out.mono ?_
              rintro e w3 ⟨rfl, rfl⟩
              have hlm : n = m := by rw [← Hm.out, ← HLe.out, ← Hlen.out]; exact HQ5.out.len.symm
              subst hlm
              go_wp2_with fail
              go_ret2
              refine ⟨A5, c5, ?_, by rw [← HLe.out]; exact HO5.out.mono HB2.out.size, HB2.out.trans (show Below w.heap.size w2 w15 from HB5.out.mono HB2.out.size)⟩
              show Ending.returned (.tuple #[.slice A5 n c5, .int .i64 0]) = _
              rw [← Hx.out, He.out]
          | false =>
            have Hpart := Lib.hid (show partQ b = [] by
              rcases part_cases b with h | ⟨h, _⟩
              · exact h
              · exact absurd (h.trans (by rw [Hf.out])) (of_decide_eq_false Hq.out))
            obtain rfl : mp = 0 := by have := HFp.out.len; rw [Hpart.out] at this; simpa using this.symm
            have HLe := Lib.hid (show M5 = L by
              rw [← HLf.out]; unfold fixQ
              rw [if_neg (fun h => h.2.1 Hpart.out)])
            have hlm : n = m := by rw [← Hm.out, ← HLe.out, ← Hlen.out]; exact HQ5.out.len.symm
            subst hlm
            go_wp2_with fail
            go_ret2
            refine ⟨A5, c5, ?_, by rw [← HLe.out]; exact HO5.out.mono HB2.out.size, HB2.out.trans (show Below w.heap.size w2 w15 from HB5.out.mono HB2.out.size)⟩
            show Ending.returned (.tuple #[.slice A5 n c5, .int .i64 0]) = _
            rw [← Hx.out, He.out]
    · have q1 : (t.pr != T.pr) = true := by simpa using hpe
      have He := Lib.hid (show errR b t = 1 by unfold errR; rw [if_neg (fun h => h He0.out), if_pos (by rw [← HT9.out]; exact hpe)])
      clear hpe
      go_wp2_with fail
      go_ret2
      obtain ⟨rfl, rfl, rfl⟩ := rwR_none HL.out Hm.out Hx.out He.out (by decide)
      exact ⟨none, 0, rfl, OwnB.nil _ _, HB2.out⟩
  · have q0 : (E != 0) = true := by simpa using hE
    have He := Lib.hid (show errR b t = E by unfold errR; rw [if_pos (by rw [HrE.out]; exact hE)]; exact HrE.out)
    have HE := Lib.hid hE
    clear hE
    go_wp2_with fail
    go_ret2
    obtain ⟨rfl, rfl, rfl⟩ := rwR_none HL.out Hm.out Hx.out He.out HE.out
    exact ⟨none, 0, rfl, OwnB.nil _ _, HB2.out⟩
end Go.Proofs.Ytoegfgbalcholaa

/-
  Heads of packets (api.Head) as numbers. No function of the program.
-/
namespace Go.Proofs.Ytoegfgbalcholaa
set_option maxRecDepth 10000
open Go.RowKit

structure Hd where
  «to» : Int
  id : Int
  df : Bool
  tt : Int
  pr : Int
  sr : Int
  ds : Int
  o : List Int
structure HdNum (h : Hd) : Prop where
  «to» : 0 ≤ h.to ∧ h.to < 256
  id : 0 ≤ h.id ∧ h.id < 65536
  tt : 0 ≤ h.tt ∧ h.tt < 256
  pr : 0 ≤ h.pr ∧ h.pr < 256
  sr : 0 ≤ h.sr ∧ h.sr < 4294967296
  ds : 0 ≤ h.ds ∧ h.ds < 4294967296
end Go.Proofs.Ytoegfgbalcholaa

/-
  Datagrams as numbers and a list.
-/
namespace Go.Proofs.Ytoegfgbalcholaa
set_option maxRecDepth 10000

/-- A datagram, plainly. -/
structure Dg where
  sp : Int
  dp : Int
  d : List Int
structure DgNum (s : Dg) : Prop where
  sp : 0 ≤ s.sp ∧ s.sp < 65536
  dp : 0 ≤ s.dp ∧ s.dp < 65536
end Go.Proofs.Ytoegfgbalcholaa

/-
  Packets (api.Packet) as values: a head, a segment, a datagram, a message, as numbers and lists; how they lie in memory. No function of the program.
-/
namespace Go.Proofs.Ytoegfgbalcholaa
set_option maxRecDepth 10000
open Go.RowKit

structure Pk where
  h : Hd
  s : Seg
  u : Dg
  m : Msg
/-- Where the parts' rows lie. -/
structure PkA where
  AH : Option Addr
  nH : Nat
  cH : Nat
  AO : Option Addr
  nO : Nat
  cO : Nat
  os : List OptV
  AD : Option Addr
  nD : Nat
  cD : Nat
  AU : Option Addr
  nU : Nat
  cU : Nat
  AM : Option Addr
  nM : Nat
  cM : Nat
def PkA.none_ : PkA := ⟨none, 0, 0, none, 0, 0, [], none, 0, 0, none, 0, 0, none, 0, 0⟩
structure PkRd (w : World) (p : Pk) (a : PkA) : Prop where
  hn : HdNum p.h
  hc : a.nH ≤ a.cH ∧ a.cH ≤ maxLen
  hr : Rd w a.AH a.nH p.h.o
  sr : SegRd w p.s a.AO a.nO a.cO a.os a.AD a.nD a.cD
  un : DgNum p.u
  uc : a.nU ≤ a.cU ∧ a.cU ≤ maxLen
  ur : Rd w a.AU a.nU p.u.d
  mn : MsgNum p.m
  mc : a.nM ≤ a.cM ∧ a.cM ≤ maxLen
  mr : Rd w a.AM a.nM p.m.d
theorem PkRd.below {w w' : World} {p : Pk} {a : PkA} (h : PkRd w p a) (hb : Below w.heap.size w w') : PkRd w' p a :=
  ⟨h.hn, h.hc, h.hr.below hb, h.sr.below hb, h.un, h.uc, h.ur.below hb, h.mn, h.mc, h.mr.below hb⟩
end Go.Proofs.Ytoegfgbalcholaa
