/-
  Texts laid together: InRw, InGo.
-/
import Derived.Test.YtoegfgbalcholaaGreatZT40
import Derived.Test.YtoegfgbalcholaaGreatZT41
import Derived.Test.YtoegfgbalcholaaGreatZT24
import Derived.Test.YtoegfgbalcholaaGreatZT10

/-
  Package inner's Rewrite does what the laws ask of it.
-/
namespace Go.Proofs.YtoegfgbalcholaaGreat
set_option maxRecDepth 10000
open Go.RowKit
set_option linter.unusedSimpArgs false
set_option linter.unusedVariables false

theorem thQ_is (b : List Int) : thL (b.getD 9 0) (qF (b.getD 9 0) (qH b)) b = thQ b := by
  unfold thL thQ partQ
  by_cases h : 2 * qF (b.getD 9 0) (qH b) + 2 ≤ b.length ∧ ¬ (b.getD 9 0 = 17 ∧ wordL b (qF (b.getD 9 0) (qH b)) = 0)
  · rw [if_pos h, decide_eq_true h]; simp
  · rw [if_neg h, decide_eq_false h]; simp
theorem thQ_in {b : List Int} (h : thQ b = true) : 2 * qF (b.getD 9 0) (qH b) + 2 ≤ b.length := by
  rw [← thQ_is] at h
  exact (of_decide_eq_true h).1
set_option maxHeartbeats 4000000 in
theorem rwf16 : RwF16 := by
  intro A n c b t sh w L m x hc hn hA hT hsh hL hm hx
  have hby := hA.byte
  have hlen := hA.len
  obtain ⟨w0, ew⟩ : ∃ w0, w.alloc (.cells #[.int .u8 t.pr, .int .u32 t.sr, .int .u32 t.ds, .int .u16 t.sp, .int .u16 t.dp] 37) = w0 := ⟨_, rfl⟩
  obtain ⟨z0, hz⟩ : ∃ z, w.heap.size = z := ⟨_, rfl⟩
  have hb0 : Below w.heap.size w w0 := by rw [← ew]; exact (Below.refl _ _).alloc (Nat.le_refl _) _
  have hk0 : w0.heap[z0]? = some (.cells #[.int .u8 t.pr, .int .u32 t.sr, .int .u32 t.ds, .int .u16 t.sp, .int .u16 t.dp] 37 (0, 0)) := by rw [← ew, ← hz]; exact heap_alloc_new w _
  obtain ⟨k, ek⟩ : ∃ k, errQ b = k := ⟨_, rfl⟩
  obtain ⟨N, eN⟩ : ∃ N, qA b = N := ⟨_, rfl⟩
  obtain ⟨u, eu⟩ : ∃ u, qT b = u := ⟨_, rfl⟩
  obtain ⟨s, es⟩ : ∃ u, qS b = u := ⟨_, rfl⟩
  have hqv : qVC b = #[.int .u8 u.pr, .int .u32 u.sr, .int .u32 u.ds, .int .u16 u.sp, .int .u16 u.dp, .int .u32 s] := by unfold qVC; rw [eu, es]
  have HRead := Lib.hid (read16_any A n c b N k w0 hn (hA.below hb0) eN ek)
  have HA := Lib.hid hA
  have HB0 := Lib.hid hb0
  have HZ0 := Lib.hid hk0
  have Ew := Lib.hid ew
  have Hz := Lib.hid hz
  have Hby := Lib.hid hby
  have Hlen := Lib.hid hlen
  have HT := Lib.hid hT
  have HL := Lib.hid hL
  have Hm := Lib.hid hm
  have Hx := Lib.hid hx
  have Hn := Lib.hid hn
  have Hsh := Lib.hid hsh
  have HU := Lib.hid (show U16 t.sp ∧ U16 t.dp by have := hT.sp; have := hT.dp; exact ⟨⟨by omega, by omega⟩, by omega, by omega⟩)
  have Hqv := Lib.hid hqv
  have Ek := Lib.hid ek
  have EN := Lib.hid eN
  have Eu := Lib.hid eu
  have Es := Lib.hid es
  clear hb0 hk0 ew hz hA hT hL hm hx hn hc hby hlen hsh hqv ek eN eu es
  go_enter Tryz.func13, Tryz.ntmps13
  go_upto_region 1 with (fail)
  rw [Ew.out]
  try rw [Hz.out]
  go_wp2_with fail
  refine HRead.out.mono ?_
  rintro e w1 ⟨rfl, hb1⟩
  rw [Hqv.out]
  obtain ⟨z1, ez1⟩ : ∃ z, w1.heap.size = z := ⟨_, rfl⟩
  obtain ⟨w2, ew2⟩ : ∃ v, w1.alloc (.cells #[.int .u8 u.pr, .int .u32 u.sr, .int .u32 u.ds, .int .u16 u.sp, .int .u16 u.dp, .int .u32 s] 54) = v := ⟨_, rfl⟩
  have hba : Below w1.heap.size w1 w2 := by rw [← ew2]; exact (Below.refl _ _).alloc (Nat.le_refl _) _
  have HK2 := Lib.hid (show w2.heap[z1]? = some (.cells #[.int .u8 u.pr, .int .u32 u.sr, .int .u32 u.ds, .int .u16 u.sp, .int .u16 u.dp, .int .u32 s] 54 (0, 0)) by rw [← ew2, ← ez1]; exact heap_alloc_new w1 _)
  have HZ2 := Lib.hid (blk_on (blk_on HZ0.out hb1) hba)
  have HB2 := Lib.hid (below_trans (below_trans HB0.out hb1) hba)
  have Ew2 := Lib.hid ew2
  have Ez1 := Lib.hid ez1
  clear hb1 hba ew2 ez1 HRead Ew
  go_upto_region 2 with (fail)
  rw [Ew2.out]
  try rw [Ez1.out]
  clear Ew2 Ez1
  by_cases hk0 : k = 0
  case neg =>
    have p0 : (k != 0) = true := by simpa using hk0
    have He := Lib.hid (show errR b t = k by unfold errR; rw [Ek.out, if_pos hk0])
    have Hk0 := Lib.hid hk0
    clear hk0
    go_wp2_with fail
    go_ret2
    obtain ⟨rfl, rfl, rfl⟩ := rwR_none HL.out Hm.out Hx.out He.out Hk0.out
    exact ⟨none, 0, rfl, OwnB.nil _ _, HB2.out⟩
  have p0 : (k != 0) = false := by simpa using hk0
  have he0 : errQ b = 0 := by rw [Ek.out]; exact hk0
  subst hk0
  obtain ⟨pr, epr⟩ : ∃ p, b.getD 9 0 = p := ⟨_, rfl⟩
  obtain ⟨H, eH⟩ : ∃ H, qH b = H := ⟨_, rfl⟩
  have hup : u.pr = pr := by rw [← Eu.out]; unfold qT; rw [if_pos he0]; unfold qTu; exact epr
  have hus : pr = 6 → s = qSeq b := fun _ => by rw [← Es.out]; unfold qS; rw [if_pos he0]
  have hNH : N = 2 * (H : Int) := by rw [← EN.out]; unfold qA; rw [if_pos he0, eH]
  have He0 := Lib.hid he0
  have Epr := Lib.hid epr
  have EH := Lib.hid eH
  have Hus := Lib.hid hus
  rw [hup] at HK2
  clear hup hus epr eH he0
  obtain ⟨u0, u1, u2, u3, u4, u5⟩ := cells6 HK2.out
  obtain ⟨j0, j1, j2, j3, j4⟩ := tu_at HZ2.out
  by_cases hpr : t.pr = pr
  case neg =>
    have p1 : (t.pr != pr) = true := by simpa using hpr
    have He := Lib.hid (show errR b t = 1 by unfold errR; rw [He0.out, if_neg (by simp), if_pos (by rw [Epr.out]; exact hpr)])
    clear hpr
    go_wp2_with fail
    go_ret2
    obtain ⟨rfl, rfl, rfl⟩ := rwR_none HL.out Hm.out Hx.out He.out (by decide)
    exact ⟨none, 0, rfl, OwnB.nil _ _, HB2.out⟩
  have p1 : (t.pr != pr) = false := by simpa using hpr
  have He := Lib.hid (show errR b t = 0 by unfold errR; rw [He0.out, if_neg (by simp), if_neg (by rw [Epr.out]; exact fun h => h hpr)])
  have Hpr := Lib.hid hpr
  clear hpr
  obtain ⟨⟨-, h10, hl8, -⟩, hp3⟩ := errQ_ok He0.out
  rw [EH.out] at h10 hl8
  rw [Epr.out] at hp3
  have hp : pr = 6 ∨ pr = 17 ∨ pr = 1 := by rcases hp3 with h | h | h; exact .inl h; exact .inr (.inl h); exact .inr (.inr h.1)
  have hHb : H ≤ 30 := by rw [← EH.out]; unfold qH; have := getD_byteQ Hby.out 0; omega
  obtain ⟨a0, rfl⟩ : ∃ a0, A = some a0 := by
    obtain ⟨b1, o1, e, _⟩ := HA.out.at_ (by have := Hlen.out; omega)
    exact ⟨_, e⟩
  obtain ⟨th, eth⟩ : ∃ th, thQ b = th := ⟨_, rfl⟩
  have hth : thL pr (qF pr H) b = th := by rw [← eth, ← thQ_is, Epr.out, EH.out]
  have HRb := Lib.hid (show RowQ pr H n th b from ⟨Hby.out, Hlen.out, by have := Hn.out; omega, fun h => by have := thQ_in (eth.trans h); rw [Epr.out, EH.out] at this; have := Hlen.out; omega, by have := Hlen.out; omega, by omega⟩)
  have Hown := Lib.hid (show ownR pr H th (headQ t ++ portsQ b t (seqQ b sh)) b = L by
    have h := own_is (sh := sh) Hby.out He0.out HT.out
    rw [Epr.out, EH.out, eth] at h
    rw [h, ← HL.out]; unfold rwR; rw [if_pos He.out])
  have Hh := Lib.hid (show 10 ≤ H ∧ H ≤ 30 ∧ 2 * H + 8 ≤ n by have := Hlen.out; exact ⟨h10, hHb, by omega⟩)
  have Hp := Lib.hid hp
  have Hth := Lib.hid hth
  clear h10 hl8 hp3 hp hHb eth hth
  subst hNH
  go_wp2_with fail
  refine (bclone_all (some a0) n c b _ (by have := Hn.out; omega) (HA.out.below HB2.out)).mono ?_
  rintro e w5 ⟨A5, c5, rfl, hc5, hcm, ho5, hb5⟩
  obtain ⟨g, rfl, hgB, hgl⟩ := ho5.addr (by have := Hh.out; omega)
  have Hg := Lib.hid (And.intro hgB hgl)
  have HO5 := Lib.hid ho5
  have HB5 := Lib.hid (below_trans HB2.out hb5)
  have HKt := Lib.hid (show ∀ w', But (fun k => k = g) w5 w' → w'.heap[z0]? = some (.cells #[.int .u8 t.pr, .int .u32 t.sr, .int .u32 t.ds, .int .u16 t.sp, .int .u16 t.dp] 37 (0, 0)) from fun w' hb => hb.blk (blk_on HZ2.out hb5) (by have := lt_of_block HZ2.out; omega))
  have HKq := Lib.hid (show ∀ w', But (fun k => k = g) w5 w' → w'.heap[z1]? = some (.cells #[.int .u8 pr, .int .u32 u.sr, .int .u32 u.ds, .int .u16 u.sp, .int .u16 u.dp, .int .u32 s] 54 (0, 0)) from fun w' hb => hb.blk (blk_on HK2.out hb5) (by have := lt_of_block HK2.out; omega))
  have Hn2 := Lib.hid (show w.heap.size ≤ w2.heap.size from HB2.out.size)
  have HBt := Lib.hid (But.refl (fun k => k = g) w5)
  clear hgB hgl ho5 hb5 hc5 hcm u0 u1 u2 u3 u4 u5 j0 j1 j2 j3 j4
  obtain ⟨j0, j1, j2, j3, j4⟩ := tu_at (HKt.out _ HBt.out)
  rw [Hpr.out] at j0
  go_wp2_with fail
  refine (changing16_any g n c5 H pr th b _ Hg.out.2 (HO5.out.rd Hby.out) (by have := Hn.out; omega) (by have := Hh.out; omega) Hp.out Hth.out).mono ?_
  rintro e w6 ⟨pb, pa, pt, pp, po, rfl, hch, hb6⟩
  have HC := Lib.hid hch
  have HBt := Lib.hid (But.of (S := fun k => k = g) hb6)
  have HO := Lib.hid (HO5.out.on hb6)
  clear hch hb6 j0 j1 j2 j3 j4
  obtain ⟨j0, j1, j2, j3, j4⟩ := tu_at (HKt.out _ HBt.out)
  rw [Hpr.out] at j0
  obtain ⟨s1, es1⟩ : ∃ y, t.sr / 65536 = y := ⟨_, rfl⟩
  obtain ⟨s2, es2⟩ : ∃ y, t.sr % 65536 = y := ⟨_, rfl⟩
  obtain ⟨s3, es3⟩ : ∃ y, t.ds / 65536 = y := ⟨_, rfl⟩
  obtain ⟨s4, es4⟩ : ∃ y, t.ds % 65536 = y := ⟨_, rfl⟩
  have HS := Lib.hid (show U16 s1 ∧ U16 s2 ∧ U16 s3 ∧ U16 s4 by have := HT.out.sr; have := HT.out.ds; exact ⟨⟨by omega, by omega⟩, ⟨by omega, by omega⟩, ⟨by omega, by omega⟩, ⟨by omega, by omega⟩⟩)
  obtain ⟨M1, eM⟩ : ∃ M, ownS pr H th b 6 s1 = M := ⟨_, rfl⟩
  have EM1 := Lib.hid eM
  have HRM1 := Lib.hid (show RowQ pr H n th M1 by rw [← eM]; exact HRb.out.step 6 HS.out.1)
  clear eM
  obtain ⟨M2, eM⟩ : ∃ M, ownS pr H th M1 7 s2 = M := ⟨_, rfl⟩
  have EM2 := Lib.hid eM
  have HRM2 := Lib.hid (show RowQ pr H n th M2 by rw [← eM]; exact HRM1.out.step 7 HS.out.2.1)
  clear eM
  obtain ⟨M3, eM⟩ : ∃ M, ownS pr H th M2 8 s3 = M := ⟨_, rfl⟩
  have EM3 := Lib.hid eM
  have HRM3 := Lib.hid (show RowQ pr H n th M3 by rw [← eM]; exact HRM2.out.step 8 HS.out.2.2.1)
  clear eM
  obtain ⟨M4, eM⟩ : ∃ M, ownS pr H th M3 9 s4 = M := ⟨_, rfl⟩
  have EM4 := Lib.hid eM
  have HRM4 := Lib.hid (show RowQ pr H n th M4 by rw [← eM]; exact HRM3.out.step 9 HS.out.2.2.2)
  clear eM
  have Hrest := Lib.hid (show ownR pr H th (portsQ b t (seqQ b sh)) M4 = L by
    rw [← Hown.out, ownR_app, ← EM4.out, ← EM3.out, ← EM2.out, ← EM1.out]
    unfold headQ
    rw [es1, es2, es3, es4]
    rfl)
  have ES := Lib.hid (show (t.sr / 65536 = s1 ∧ t.sr % 65536 = s2) ∧ t.ds / 65536 = s3 ∧ t.ds % 65536 = s4 from ⟨⟨es1, es2⟩, es3, es4⟩)
  clear es1 es2 es3 es4
  go_wp2_with fail
  refine (changelong16_any w2.heap.size g n c5 pb pa pt pp po H pr th b M1 M2 12 t.sr s1 s2 6 _ HC.out HRb.out HO.out rfl (by have := Hh.out; omega) HT.out.sr ES.out.1.1 ES.out.1.2 EM1.out EM2.out).mono ?_
  rintro e w7 ⟨rfl, ho, hb⟩
  have HC := Lib.hid (HC.out.but hb)
  have HO := Lib.hid ho
  have HBt := Lib.hid (HBt.out.trans hb)
  clear ho hb j0 j1 j2 j3 j4
  obtain ⟨j0, j1, j2, j3, j4⟩ := tu_at (HKt.out _ HBt.out)
  rw [Hpr.out] at j0
  go_wp2_with fail
  refine (changelong16_any w2.heap.size g n c5 pb pa pt pp po H pr th M2 M3 M4 16 t.ds s3 s4 8 _ HC.out HRM2.out HO.out rfl (by have := Hh.out; omega) HT.out.ds ES.out.2.1 ES.out.2.2 EM3.out EM4.out).mono ?_
  rintro e w8 ⟨rfl, ho, hb⟩
  have HC := Lib.hid (HC.out.but hb)
  have HO := Lib.hid ho
  have HBt := Lib.hid (HBt.out.trans hb)
  clear ho hb j0 j1 j2 j3 j4
  obtain ⟨j0, j1, j2, j3, j4⟩ := tu_at (HKt.out _ HBt.out)
  rw [Hpr.out] at j0
  have hH30 : (H : Int) ≤ 30 := by have := Hh.out; omega
  have hah0 : wrap64 (2 * (H : Int)) = 2 * (H : Int) := IntWalk.wrap64_in _ (by omega)
  have hah2 : wrap64 (2 * (H : Int) + 2) = 2 * (H : Int) + 2 := IntWalk.wrap64_in _ (by omega)
  have hah4 : wrap64 (2 * (H : Int) + 4) = 2 * (H : Int) + 4 := IntWalk.wrap64_in _ (by omega)
  by_cases h1 : pr = 1
  · have q1 : (pr == 1) = true := by simpa using h1
    have q6 : (pr == 6) = false := by simp; omega
    have H1 := Lib.hid h1
    clear h1
    obtain ⟨M5, eM⟩ : ∃ M, ownS pr H th M4 (H + 2) t.sp = M := ⟨_, rfl⟩
    have EM5 := Lib.hid eM
    have HRM5 := Lib.hid (show RowQ pr H n th M5 by rw [← eM]; exact HRM4.out.step (H + 2) HU.out.1)
    clear eM
    have HLe := Lib.hid (show M5 = L by
      rw [← Hrest.out, ← EM5.out]
      unfold portsQ
      rw [Epr.out, if_pos H1.out, EH.out]
      rfl)
    go_wp2_with fail
    refine (chgi_told w2.heap.size g n c5 pb pa pt pp po H pr th M4 M5 (2 * (H : Int) + 4) t.sp (H + 2) _ HC.out HRM4.out HO.out (by simp; omega) (by have := Hh.out; omega) HU.out.1 EM5.out).mono ?_
    rintro e w9 ⟨rfl, ho, hb⟩
    have HC := Lib.hid (HC.out.but hb)
    have HO := Lib.hid ho
    have HBt := Lib.hid (HBt.out.trans hb)
    clear ho hb j0 j1 j2 j3 j4
    obtain ⟨j0, j1, j2, j3, j4⟩ := tu_at (HKt.out _ HBt.out)
    rw [Hpr.out] at j0
    go_wp2_with fail
    go_ret2
    have hlm : n = m := by rw [← Hm.out, ← HLe.out]; exact HRM5.out.len.symm
    refine ⟨some ⟨g, 0, none⟩, c5, ?_, ?_, ?_⟩
    · show Ending.returned (.tuple #[.slice (some ⟨g, 0, none⟩) n c5, .int .i64 0]) = _
      rw [hlm, ← Hx.out, He.out]
    · rw [← hlm, ← HLe.out]; exact HO.out.mono Hn2.out
    · exact HB5.out.trans (HBt.out.below (fun k hk => by subst hk; have := Hg.out; have := Hn2.out; omega) HB5.out.size)
  · have q1 : (pr == 1) = false := by simpa using h1
    have H1 := Lib.hid h1
    clear h1
    obtain ⟨M5, eM⟩ : ∃ M, ownS pr H th M4 H t.sp = M := ⟨_, rfl⟩
    have EM5 := Lib.hid eM
    have HRM5 := Lib.hid (show RowQ pr H n th M5 by rw [← eM]; exact HRM4.out.step H HU.out.1)
    clear eM
    obtain ⟨M6, eM⟩ : ∃ M, ownS pr H th M5 (H + 1) t.dp = M := ⟨_, rfl⟩
    have EM6 := Lib.hid eM
    have HRM6 := Lib.hid (show RowQ pr H n th M6 by rw [← eM]; exact HRM5.out.step (H + 1) HU.out.2)
    clear eM
    have Hrest6 := Lib.hid (show ownR pr H th (if pr = 6 then [(H + 2, seqQ b sh / 65536), (H + 3, seqQ b sh % 65536)] else []) M6 = L by
      rw [← Hrest.out, ← EM6.out, ← EM5.out]
      unfold portsQ
      rw [Epr.out, if_neg H1.out, EH.out]
      rfl)
    go_wp2_with fail
    refine (chgi_told w2.heap.size g n c5 pb pa pt pp po H pr th M4 M5 (2 * (H : Int)) t.sp H _ HC.out HRM4.out HO.out rfl (by have := Hh.out; omega) HU.out.1 EM5.out).mono ?_
    rintro e w9 ⟨rfl, ho, hb⟩
    have HC := Lib.hid (HC.out.but hb)
    have HO := Lib.hid ho
    have HBt := Lib.hid (HBt.out.trans hb)
    clear ho hb j0 j1 j2 j3 j4
    obtain ⟨j0, j1, j2, j3, j4⟩ := tu_at (HKt.out _ HBt.out)
    rw [Hpr.out] at j0
    go_wp2_with fail
    refine (chgi_told w2.heap.size g n c5 pb pa pt pp po H pr th M5 M6 (2 * (H : Int) + 2) t.dp (H + 1) _ HC.out HRM5.out HO.out (by simp; omega) (by have := Hh.out; omega) HU.out.2 EM6.out).mono ?_
    rintro e w10 ⟨rfl, ho, hb⟩
    have HC := Lib.hid (HC.out.but hb)
    have HO := Lib.hid ho
    have HBt := Lib.hid (HBt.out.trans hb)
    clear ho hb j0 j1 j2 j3 j4
    obtain ⟨j0, j1, j2, j3, j4⟩ := tu_at (HKt.out _ HBt.out)
    rw [Hpr.out] at j0
    by_cases h6 : pr = 6
    · have q6 : (pr == 6) = true := by simpa using h6
      obtain ⟨sq, esq⟩ : ∃ y, seqQ b sh = y := ⟨_, rfl⟩
      have hsq : IntKind.u32.wrap (s + sh) = sq := by rw [← esq, Hus.out h6]; unfold seqQ; simp [IntKind.wrap, IntKind.bits, IntKind.signed]
      have Hsq := Lib.hid (show 0 ≤ sq ∧ sq < 4294967296 by rw [← esq]; unfold seqQ; omega)
      have H6 := Lib.hid h6
      have Esq := Lib.hid esq
      clear h6 esq
      obtain ⟨y1, ey1⟩ : ∃ y, sq / 65536 = y := ⟨_, rfl⟩
      obtain ⟨y2, ey2⟩ : ∃ y, sq % 65536 = y := ⟨_, rfl⟩
      have HY := Lib.hid (show U16 y1 ∧ U16 y2 by have := Hsq.out; exact ⟨⟨by omega, by omega⟩, ⟨by omega, by omega⟩⟩)
      obtain ⟨M7, eM⟩ : ∃ M, ownS pr H th M6 (H + 2) y1 = M := ⟨_, rfl⟩
      have EM7 := Lib.hid eM
      have HRM7 := Lib.hid (show RowQ pr H n th M7 by rw [← eM]; exact HRM6.out.step (H + 2) HY.out.1)
      clear eM
      obtain ⟨M8, eM⟩ : ∃ M, ownS pr H th M7 (H + 3) y2 = M := ⟨_, rfl⟩
      have EM8 := Lib.hid eM
      have HRM8 := Lib.hid (show RowQ pr H n th M8 by rw [← eM]; exact HRM7.out.step (H + 3) HY.out.2)
      clear eM
      have HLe := Lib.hid (show M8 = L by
        rw [← Hrest6.out, ← EM8.out, ← EM7.out, if_pos H6.out, Esq.out, ey1, ey2]
        rfl)
      have EY := Lib.hid (And.intro ey1 ey2)
      clear ey1 ey2
      obtain ⟨u0, u1, u2, u3, u4, u5⟩ := cells6 (HKq.out _ HBt.out)
      go_wp2_with fail
      refine (changelong16_any w2.heap.size g n c5 pb pa pt pp po H pr th M6 M7 M8 (2 * (H : Int) + 4) sq y1 y2 (H + 2) _ HC.out HRM6.out HO.out (by simp; omega) (by have := Hh.out; omega) Hsq.out EY.out.1 EY.out.2 EM7.out EM8.out).mono ?_
      clear u0 u1 u2 u3 u4 u5
      rintro e w11 ⟨rfl, ho, hb⟩
      have HC := Lib.hid (HC.out.but hb)
      have HO := Lib.hid ho
      have HBt := Lib.hid (HBt.out.trans hb)
      clear ho hb j0 j1 j2 j3 j4
      obtain ⟨j0, j1, j2, j3, j4⟩ := tu_at (HKt.out _ HBt.out)
      go_wp2_with fail
      go_ret2
      have hlm : n = m := by rw [← Hm.out, ← HLe.out]; exact HRM8.out.len.symm
      refine ⟨some ⟨g, 0, none⟩, c5, ?_, ?_, ?_⟩
      · show Ending.returned (.tuple #[.slice (some ⟨g, 0, none⟩) n c5, .int .i64 0]) = _
        rw [hlm, ← Hx.out, He.out]
      · rw [← hlm, ← HLe.out]; exact HO.out.mono Hn2.out
      · exact HB5.out.trans (HBt.out.below (fun k hk => by subst hk; have := Hg.out; have := Hn2.out; omega) HB5.out.size)
    · have q6 : (pr == 6) = false := by simpa using h6
      have HLe := Lib.hid (show M6 = L by rw [← Hrest6.out, if_neg h6]; rfl)
      clear h6
      go_wp2_with fail
      go_ret2
      have hlm : n = m := by rw [← Hm.out, ← HLe.out]; exact HRM6.out.len.symm
      refine ⟨some ⟨g, 0, none⟩, c5, ?_, ?_, ?_⟩
      · show Ending.returned (.tuple #[.slice (some ⟨g, 0, none⟩) n c5, .int .i64 0]) = _
        rw [hlm, ← Hx.out, He.out]
      · rw [← hlm, ← HLe.out]; exact HO.out.mono Hn2.out
      · exact HB5.out.trans (HBt.out.below (fun k hk => by subst hk; have := Hg.out; have := Hn2.out; omega) HB5.out.size)
end Go.Proofs.YtoegfgbalcholaaGreat

/-
  Package inner's Read and Of do what the laws ask of them.
-/
namespace Go.Proofs.YtoegfgbalcholaaGreat
set_option maxRecDepth 10000
open Go.RowKit
set_option linter.unusedSimpArgs false
set_option linter.unusedVariables false

set_option maxHeartbeats 1000000 in
theorem readf : ReadF16 := by
  intro A n c b t s x w hc hn hA ht hs hx
  obtain ⟨z, hz⟩ : ∃ z, w.heap.size = z := ⟨_, rfl⟩
  obtain ⟨w0, ew⟩ : ∃ v, w.alloc (.cells #[.int .u8 0, .int .u32 0, .int .u32 0, .int .u16 0, .int .u16 0, .int .u32 0] 54) = v := ⟨_, rfl⟩
  have hb0 : Below w.heap.size w w0 := by rw [← ew]; exact (Below.refl _ _).alloc (Nat.le_refl _) _
  have hk0 : w0.heap[z]? = some (.cells #[.int .u8 0, .int .u32 0, .int .u32 0, .int .u16 0, .int .u16 0, .int .u32 0] 54 (0, 0)) := by rw [← ew, ← hz]; exact heap_alloc_new w _
  have hq : qVC b = #[.int .u8 t.pr, .int .u32 t.sr, .int .u32 t.ds, .int .u16 t.sp, .int .u16 t.dp, .int .u32 s] := by unfold qVC; rw [ht, hs]
  obtain ⟨N, eN⟩ : ∃ N, qA b = N := ⟨_, rfl⟩
  have HR := Lib.hid (read16_any A n c b N x w0 hn (hA.below hb0) eN hx)
  have HK0 := Lib.hid hk0
  have Hb0 := Lib.hid hb0
  have Ew := Lib.hid ew
  have Hz := Lib.hid hz
  have Hq := Lib.hid hq
  clear hk0 hb0 ew hz hq eN hA ht hs hx hc hn
  go_enter Tryz.func15, Tryz.ntmps15
  go_upto_region 1 with (fail)
  rw [Ew.out]
  try rw [Hz.out]
  clear Ew
  go_wp2_with fail
  refine HR.out.mono ?_
  rintro e w1 ⟨rfl, hb1⟩
  rw [Hq.out]
  have HK0 := Lib.hid (blk_on HK0.out hb1)
  have HB1 := Lib.hid (below_trans Hb0.out hb1)
  clear hb1 HR Hb0
  obtain ⟨z1, hz1⟩ : ∃ z, w1.heap.size = z := ⟨_, rfl⟩
  obtain ⟨w2, ew2⟩ : ∃ v, w1.alloc (.cells #[.int .u8 t.pr, .int .u32 t.sr, .int .u32 t.ds, .int .u16 t.sp, .int .u16 t.dp, .int .u32 s] 54) = v := ⟨_, rfl⟩
  have hba : Below w1.heap.size w1 w2 := by rw [← ew2]; exact (Below.refl _ _).alloc (Nat.le_refl _) _
  have HK1 := Lib.hid (show w2.heap[z1]? = some (.cells #[.int .u8 t.pr, .int .u32 t.sr, .int .u32 t.ds, .int .u16 t.sp, .int .u16 t.dp, .int .u32 s] 54 (0, 0)) by rw [← ew2, ← hz1]; exact heap_alloc_new w1 _)
  have HB2 := Lib.hid (below_trans HB1.out hba)
  have HK2 := Lib.hid (blk_on HK0.out hba)
  have Ew2 := Lib.hid ew2
  have Hz1 := Lib.hid hz1
  have Hne := Lib.hid (show z < z1 by have := lt_of_block HK0.out; omega)
  clear hba ew2 hz1
  go_upto_region 2 with (fail)
  rw [Ew2.out]
  try rw [Hz1.out]
  clear Ew2
  obtain ⟨u0, u1, u2, u3, u4, u5⟩ := cells6 HK1.out
  obtain ⟨y0, y1, y2, y3, y4, y5⟩ := cells6 HK2.out
  have fz := fun i => blk_free HK2.out i
  go_wp2_with fail
  exact bodyPost_ret (v := .tuple #[.agg #[.int .u8 t.pr, .int .u32 t.sr, .int .u32 t.ds, .int .u16 t.sp, .int .u16 t.dp, .int .u32 s], .int .i64 x]) (results_row_tmp rfl _ _ z _ _ _ _ _ rfl rfl (set6_blk HK2.out _ _ _ _ _ _) Tryz.underlying54 rfl (by kernel_rfl)) rfl ⟨rfl, set6_below HB2.out (by rw [Hz.out]; exact Nat.le_refl _) _ _ _ _ _ _⟩

theorem Rd.upto16 {w : World} {A : Option Addr} {n c : Nat} {l : List Int} (h : Rd w A n l) (hi : Nat) (hii : Int) (h0 : 0 < n) (hhi : hi ≤ n) (hc : n ≤ c) (hcm : c ≤ maxLen) (eh : hii = (hi : Int)) :
    (∀ W : World, (Instr.sliceAt 24 (.slice A n c) none (some (.int .i64 hii)) none).run Tryz.prog W = .ok (.slice A hi c) W) ∧ Rd w A hi (l.take hi) := by
  subst eh
  obtain ⟨b, o, rfl, _, _⟩ := h.at_ h0
  unfold maxLen at hcm
  have i0 : (0 : Int) ≤ (hi : Int) := by omega
  have i2 : (hi : Int) ≤ (c : Int) := by omega
  exact ⟨fun W => by go_simp, h.take hhi⟩
set_option maxHeartbeats 1000000 in
theorem off16 : OfF16 := by
  intro A n c b many L K w hc hn hA hm hL hK
  have hlen := hA.len
  have hby := hA.byte
  have hk : ofN b many = K := by rw [← hK, ← hL, ofL_len]
  unfold ofN at hk
  unfold ofL ofN at hL
  have hni : (n : Int) ≤ 140737488351232 := by omega
  by_cases h20 : n < 20
  · rw [if_pos (by omega)] at hk hL
    have d1 : (n : Int) < 20 := by omega
    have d2 : decide ((n : Int) < 20) = true := by simp; omega
    subst hk
    have HL := Lib.hid hL
    clear h20 hL hlen hby hA hK hc hn
    go_enter Tryz.func14, Tryz.ntmps14
    go_wp2_with fail
    go_ret
    refine ⟨none, 0, rfl, Nat.le_refl _, by decide, ?_, Below.refl _ _⟩
    rw [← HL.out]
    exact OwnB.nil _ _
  have d1 : ¬ (n : Int) < 20 := by omega
  have d2 : decide ((n : Int) < 20) = false := by simp; omega
  rw [if_neg (by omega)] at hk hL
  have H20 := Lib.hid (show 20 ≤ n by omega)
  have HA := Lib.hid hA
  have Hc := Lib.hid hc
  have Hlen := Lib.hid hlen
  clear h20
  by_cases hm0 : many < 0
  · have d3 : decide (many < 0) = true := by simp; omega
    rw [if_pos hm0] at hk hL
    have hKn : K = n := by omega
    subst hKn
    have hLb : L = b := by rw [← hL, hlen, List.take_of_length_le (by omega)]
    rw [← hLb] at HA
    clear hk hL hlen hby hA hK hc hn hLb
    go_enter Tryz.func14, Tryz.ntmps14
    go_wp2_with fail
    refine (bclone_all A K c L _ (by have := H20.out; omega) HA.out).mono ?_
    rintro e w1 ⟨A1, c1, rfl, h1, h2, ho, hb⟩
    have HP := Lib.hid (show RowIs K L w (.returned (.slice A1 K c1)) w1 from ⟨A1, c1, rfl, h1, h2, ho, hb⟩)
    clear h1 h2 ho hb
    go_wp2_with fail
    go_ret
    exact HP.out
  · have d3 : decide (many < 0) = false := by simp; omega
    rw [if_neg hm0] at hk hL
    obtain ⟨H, eH⟩ : ∃ H, qH b = H := ⟨_, rfl⟩
    obtain ⟨x, ex⟩ : ∃ y, b.getD 0 0 = y := ⟨_, rfl⟩
    have hxb : 0 ≤ x ∧ x < 256 := by rw [← ex]; exact getD_byte hby 0
    have eH2 : x % 16 * 4 = 2 * (H : Int) := by rw [← eH]; unfold qH; rw [ex]; omega
    rw [eH] at hk hL
    obtain ⟨b1, o1, rfl, hbl, hcell⟩ := hA.at_ (by have := H20.out; omega)
    have hc0 := hcell 0 (by have := H20.out; omega)
    rw [ex, Nat.add_zero] at hc0
    have hHb : H ≤ 30 := by omega
    obtain ⟨D, eD⟩ : ∃ D, (n : Int) - 2 * (H : Int) = D := ⟨_, rfl⟩
    have hsub : wrap64 ((n : Int) - 2 * (H : Int)) = D := by rw [← eD]; exact IntWalk.wrap64_in _ (by omega)
    -- the least of both
    obtain ⟨mn, emn⟩ : ∃ mn, mn = (if D < many then D else many) := ⟨_, rfl⟩
    have hsum : wrap64 (2 * (H : Int) + mn) = (K : Int) := by
      rw [show 2 * (H : Int) + mn = (K : Int) by rw [emn]; split <;> omega]
      exact IntWalk.wrap64_in _ (by omega)
    have hKn : K ≤ n := by omega
    obtain ⟨hsl, hrd⟩ := HA.out.upto16 (c := c) K (K : Int) (by have := H20.out; omega) hKn Hc.out.1 Hc.out.2 rfl
    rw [show b.take K = L by rw [← hL, hk]] at hrd
    have HRd := Lib.hid hrd
    have Hx := Lib.hid hxb
    have EH2 := Lib.hid eH2
    have Hmn := Lib.hid emn
    have ED := Lib.hid eD
    have Hsub := Lib.hid hsub
    clear hsub
    have HKn := Lib.hid hKn
    clear hk hL hlen hby hA hK hc hcell hrd hxb eH2 ex eH hHb HA eD hKn hm hbl emn
    go_enter Tryz.func14, Tryz.ntmps14
    go_wp2_with fail
    refine (header16_any x (2 * (H : Int)) _ Hx.out EH2.out).mono ?_
    rintro e w1' ⟨rfl, rfl⟩
    have emn := Hmn.out
    go_upto_region 7 with (fail)
    rw [Hsub.out, ← emn]
    clear emn Hmn Hsub ED
    go_wp2_with fail
    refine (bclone_all (some ⟨b1, o1, none⟩) K c L _ (by have := HKn.out; omega) HRd.out).mono ?_
    rintro e w1 ⟨A1, c1, rfl, h1, h2, ho, hb⟩
    have HP := Lib.hid (show RowIs K L w (.returned (.slice A1 K c1)) w1 from ⟨A1, c1, rfl, h1, h2, ho, hb⟩)
    clear h1 h2 ho hb
    go_wp2_with fail
    go_ret
    exact HP.out
end Go.Proofs.YtoegfgbalcholaaGreat
