/-
  UdpParses holds: datagrams of bytes are the document's; what is handed in stays. For any two addresses, any bytes (the first 1600).
-/
import Derived.Test.YtoblllgefmajiaaUdpRefRead
import Derived.Test.YtoblllgefmajiaaUdpLaw
import Derived.Test.YtoblllgefmajiaaUdpOpen
import Derived.RegionTactic
import Derived.BigRegion
import Derived.Deep.CutRange
import Derived.Deep.RegionHeld3
import Derived.Laws.BitsLemmas
namespace Go.Proofs.Ytoblllgefmajiaa.udpParses
set_option maxRecDepth 10000
open Go.ChangeShapes Go.WideShapes Go.ChangeAt Go.RowKit
set_option linter.unusedVariables false
set_option linter.unusedSimpArgs false

/-- One byte's address in a row of the call's own. -/
theorem own_ix {w : World} {B g n c : Nat} {l : List Int} (h : OwnB w B (some ⟨g, 0, none⟩) n c l) (j : Nat) (ji : Int) (hj : j < n) (he : ji = (j : Int)) :
    (∀ W : World, (Instr.indexAt 25 (.slice (some ⟨g, 0, none⟩) n c) (.int .i64 ji)).run Try.prog W = .ok (.pointer (some ⟨g, j, none⟩)) W) ∧ w.cell? ⟨g, j, none⟩ = some (.int .u8 (l.getD j 0)) ∧ w.frozen? ⟨g, j, none⟩ = false := by
  subst he
  have h0 : (0 : Int) ≤ (j : Int) := by omega
  have h1 : (j : Int) < (n : Int) := by omega
  exact ⟨fun W => by go_simp, h.cell j hj, World.ownsRow.frozenAt h j⟩

set_option maxHeartbeats 8000000 in
theorem walk (w : World) (v : Value) (hv : EndsAt w v) (v1 : Value) (hv1 : BytesIn w v1) :
    Calls Try.prog 10 #[v, v1] w fun e w' => e = .returned (.bool true) ∧ Below w.heap.size w w' := by
  obtain ⟨src, dst, rfl, hs, hd⟩ := hv
  obtain ⟨A, N, c, D, rfl, hc, hr⟩ := hv1
  obtain ⟨n, hmin, hnN, hn1600⟩ := min_nat 1600 N (by omega)
  have hr := hr.take hnN
  obtain ⟨b, ed⟩ : ∃ d, D.take n = d := ⟨_, rfl⟩
  rw [ed] at hr
  have hni : (n : Int) ≤ (c : Int) := by omega
  have hn2 : n ≤ 1600 := by omega
  obtain ⟨z, hz⟩ : ∃ z, w.heap.size = z := ⟨_, rfl⟩
  have Hr := Lib.hid hr
  have Hc := Lib.hid (And.intro (show n ≤ c by omega) hc.2)
  clear ed hc
  obtain ⟨W0, eW0⟩ : ∃ W0, w.alloc (.cells #[.int .u32 src, .int .u32 dst] 55) = W0 := ⟨_, rfl⟩
  have hbW : Below w.heap.size w W0 := by rw [← eW0]; exact (Below.refl _ _).alloc (Nat.le_refl _) _
  have hk0 : W0.heap[z]? = some (.cells #[.int .u32 src, .int .u32 dst] 55 (0, 0)) := by rw [← eW0, ← hz]; exact heap_alloc_new w _
  have HK := Lib.hid (show ∀ w', Below W0.heap.size W0 w' → (w'.cell? ⟨z, 0, none⟩ = some (.int .u32 src) ∧ w'.cell? ⟨z, 1, none⟩ = some (.int .u32 dst)) from
    fun w' hb => ⟨by rw [blk_cell (blk_on hk0 hb)]; rfl, by rw [blk_cell (blk_on hk0 hb)]; rfl⟩)
  have HbW := Lib.hid hbW
  have HR0 := Lib.hid (show ∀ w', Below W0.heap.size W0 w' → Rd w' A n b from fun w' hb => (Hr.out.below hbW).below hb)
  have HeW := Lib.hid eW0
  have HdB := Lib.hid hr.byte
  clear hk0 hbW eW0 hr Hr
  obtain ⟨x, ex⟩ : ∃ x, errU src dst b = x := ⟨_, rfl⟩
  have Hx := Lib.hid ex
  clear ex
  go_enter Try.func10, Try.ntmps10
  go_upto_region 2 with (fail)
  rw [HeW.out]
  obtain ⟨f0, f1⟩ := HK.out _ (Below.refl _ _)
  have HE := Lib.hid (OwnB.made (w := W0.alloc (.cells #[] 5)) (B := W0.heap.size) (g := W0.heap.size) (cap := 0) (cur := #[]) (heap_alloc_new W0 _) (Nat.le_refl _) (by simp [maxLen]) rfl)
  have hbA : Below W0.heap.size W0 (W0.alloc (.cells #[] 5)) := (Below.refl _ _).alloc (Nat.le_refl _) _
  have HbA := Lib.hid hbA
  have HrA := Lib.hid (HR0.out _ hbA)
  have hsA : W0.heap.size ≤ (W0.alloc (.cells #[] 5)).heap.size := by simp
  clear hbA hmin
  go_upto_region 3 with (refine wpList_app rfl (.tmp 17) (.tmp 18) rfl W0.heap.size (some ⟨W0.heap.size, 0, none⟩) A 0 0 n c [] b rfl rfl HE.out HrA.out (by omega) hsA ?_; intro A7 c7 w2 ho2 hg2 hb2 hat2)
  have HO := Lib.hid (show OwnB w2 W0.heap.size A7 n c7 b by simpa using ho2)
  have Hb := Lib.hid (HbA.out.trans hb2)
  have Hc7 := Lib.hid (And.intro HO.out.cap HO.out.capMax)
  clear ho2 hg2 hb2 hat2 HE HbA HrA hsA f0 f1
  obtain ⟨f0, f1⟩ := HK.out _ Hb.out
  try simp only [Nat.zero_add]
  go_wp2_with fail
  by_cases h0 : x = 0
  case neg =>
    have hxx : (x == x) = true := by simp
    refine (uparse_err src dst A7 n c7 b x _ Hc7.out (HO.out.rd HdB.out) Hx.out h0).mono ?_
    rintro e w3 ⟨rfl, hb3⟩
    have hbd3 := below_trans hb3 ((Below.refl w3.heap.size w3).alloc (Nat.le_refl _) (.cells #[.int .u16 0, .int .u16 0, .slice none 0 0] 57))
    have Hb := Lib.hid (below_trans Hb.out hbd3)
    have HO := Lib.hid (HO.out.on hbd3)
    clear f0 f1
    obtain ⟨f0, f1⟩ := HK.out _ Hb.out
    have hq3 := heap_alloc_new w3 (.cells #[.int .u16 0, .int .u16 0, .slice none 0 0] 57)
    clear hb3 hbd3
    go_wp2_with fail
    obtain ⟨q3, eq3⟩ : ∃ q, w3.heap.size = q := ⟨_, rfl⟩
    rw [eq3] at hq3
    refine (ruparse_any src dst A n c b x _ Hc.out (HR0.out _ Hb.out) Hx.out).mono ?_
    intro e w4 h4
    rw [if_neg h0] at h4
    obtain ⟨rfl, hb4⟩ := h4
    have hq4 := blk_on (blk_on hq3 hb4) ((Below.refl w4.heap.size w4).alloc (Nat.le_refl _) (.cells #[.int .u16 0, .int .u16 0, .slice none 0 0] 57))
    obtain ⟨y0, y1, y2⟩ := cells3 hq4
    have hbd4 := below_trans hb4 ((Below.refl w4.heap.size w4).alloc (Nat.le_refl _) (.cells #[.int .u16 0, .int .u16 0, .slice none 0 0] 57))
    have Hb := Lib.hid (below_trans Hb.out hbd4)
    have HO := Lib.hid (HO.out.on hbd4)
    clear f0 f1
    obtain ⟨f0, f1⟩ := HK.out _ Hb.out
    clear hb4 hbd4 hq3
    try simp only [eq3]
    go_wp2_with fail
    refine (rusame_any ⟨0, 0, []⟩ ⟨0, 0, []⟩ none 0 0 none 0 0 _ true (Rd.nil _ _) (Rd.nil _ _) (dgSame_self _)).mono ?_
    rintro e w5 ⟨rfl, hb5⟩
    have hq5 := blk_on hq4 hb5
    clear y0 y1 y2
    obtain ⟨y0, y1, y2⟩ := cells3 hq5
    have Hb := Lib.hid (below_trans Hb.out hb5)
    have HO := Lib.hid (HO.out.on hb5)
    clear f0 f1 hb5 hq4 h0
    go_wp2_with fail
    go_loopg [44] 0 (fun gk i wr => i = .int .i64 0 ∧ w5 = wr)
    case atStart => exact ⟨rfl, rfl⟩
    case round =>
      obtain ⟨rfl, rfl⟩ := hrel
      go_wp2_with fail
      refine (uawake_any _).mono ?_
      rintro e w6 ⟨rfl, hb6⟩
      have Hb := Lib.hid (below_trans Hb.out hb6)
      have HO := Lib.hid (HO.out.on hb6)
      clear hb6
      go_wp2_with fail
      refine (bequal_any A7 A n n c7 c b b _ true (HO.out.rd HdB.out) (HR0.out _ Hb.out) (by simp)).mono ?_
      rintro e w7 ⟨rfl, rfl⟩
      have Hb := Lib.hid (below_trans HbW.out Hb.out)
      go_wp2_with fail
      go_ret
      exact ⟨rfl, Hb.out⟩
  case pos =>
    subst h0
    obtain ⟨sp, dp, d, eS⟩ : ∃ sp dp d, dgOf b = ⟨sp, dp, d⟩ := ⟨_, _, _, rfl⟩
    obtain ⟨m, em⟩ : ∃ m, d.length = m := ⟨_, rfl⟩
    have hn8 : m = n - 8 := by have h := HO.out.len; rw [← em, show d = (dgOf b).d by rw [eS]]; simp [dgOf, h]
    have hdB : ∀ x ∈ d, 0 ≤ x ∧ x < 256 := fun x hx => HdB.out x (by rw [show d = b.drop 8 by rw [show d = (dgOf b).d by rw [eS]]; rfl] at hx; exact List.mem_of_mem_drop hx)
    have HdD := Lib.hid hdB
    have hm2 : m ≤ 1600 := by omega
    have Hn8 := Lib.hid hn8
    clear hdB hn8
    refine (uparse_told src dst A7 n c7 m b sp dp d _ Hc7.out (HO.out.rd HdB.out) Hx.out eS em).mono ?_
    rintro e w3 ⟨AD, cD, rfl, kD, mD, hoD, hb3⟩
    obtain ⟨B8, eB8⟩ : ∃ B8, w2.heap.size = B8 := ⟨_, rfl⟩
    have HbP := Hb
    have HOP := HO
    have EB8 := Lib.hid eB8
    have HsB := Lib.hid (show ∀ w', Below B8 w2 w' → B8 ≤ w'.heap.size from fun w' hb => by have := hb.size; omega)
    rw [eB8] at hoD
    have Hlo3 := Lib.hid (show Below B8 w2 w3 by rw [← eB8]; exact hb3)
    have hbd3 := below_trans hb3 ((Below.refl w3.heap.size w3).alloc (Nat.le_refl _) (.cells #[.int .u16 sp, .int .u16 dp, .slice AD m cD] 57))
    have Hb := Lib.hid (below_trans Hb.out hbd3)
    have HO := Lib.hid (HO.out.on hbd3)
    clear f0 f1
    obtain ⟨f0, f1⟩ := HK.out _ Hb.out
    have hq3 := heap_alloc_new w3 (.cells #[.int .u16 sp, .int .u16 dp, .slice AD m cD] 57)
    have HD := Lib.hid (hoD.alloc (.cells #[.int .u16 sp, .int .u16 dp, .slice AD m cD] 57))
    have Hlo := Lib.hid (Hlo3.out.alloc (HsB.out _ Hlo3.out) (.cells #[.int .u16 sp, .int .u16 dp, .slice AD m cD] 57))
    obtain ⟨q3, eq3⟩ : ∃ q, w3.heap.size = q := ⟨_, rfl⟩
    have Hgq := Lib.hid (show ∀ g, AD = some ⟨g, 0, none⟩ → g ≠ q3 from fun g e => by have := (own_block hoD g (own_block2 hoD g e)).2; omega)
    have Hq8 := Lib.hid (show B8 ≤ q3 by rw [← eB8, ← eq3]; exact hb3.size)
    clear hb3 hbd3 hoD Hlo3
    go_wp2_with fail
    rw [eq3] at hq3
    refine (ruparse_any src dst A n c b 0 _ Hc.out (HR0.out _ Hb.out) Hx.out).mono ?_
    intro e w4 h4
    rw [if_pos rfl, eS, ← Hn8.out] at h4
    obtain ⟨A9, c9, rfl, k9, m9, ho9, hb4⟩ := h4
    have hba4 := (Below.refl w4.heap.size w4).alloc (Nat.le_refl _) (.cells #[.int .u16 sp, .int .u16 dp, .slice A9 m c9] 57)
    have hq4 := blk_on (blk_on hq3 hb4) hba4
    have Hr9 := Lib.hid ((ho9.rd HdD.out).below hba4)
    have HD := Lib.hid ((HD.out.on hb4).on hba4)
    have Hlo := Lib.hid (Hlo.out.trans ((below_trans hb4 hba4).mono (HsB.out _ Hlo.out)))
    obtain ⟨y0, y1, y2⟩ := cells3 hq4
    have hbd4 := below_trans hb4 ((Below.refl w4.heap.size w4).alloc (Nat.le_refl _) (.cells #[.int .u16 sp, .int .u16 dp, .slice A9 m c9] 57))
    have Hb := Lib.hid (below_trans Hb.out hbd4)
    have HO := Lib.hid (HO.out.on hbd4)
    clear f0 f1
    obtain ⟨f0, f1⟩ := HK.out _ Hb.out
    clear hb4 hbd4 hq3 hba4 ho9 k9 m9
    try simp only [eq3]
    go_wp2_with fail
    refine (rusame_any ⟨sp, dp, d⟩ ⟨sp, dp, d⟩ AD m cD A9 m c9 _ true (HD.out.rd HdD.out) Hr9.out (dgSame_self _)).mono ?_
    rintro e w5 ⟨rfl, hb5⟩
    have Hq5 := Lib.hid (blk_on hq4 hb5)
    have HD := Lib.hid (HD.out.on hb5)
    have Hlo := Lib.hid (Hlo.out.trans (hb5.mono (HsB.out _ Hlo.out)))
    clear y0 y1 y2 f0 f1 hb5 hq4 Hr9
    obtain ⟨y0, y1, y2⟩ := cells3 Hq5.out
    go_wp2_with fail
    clear y0 y1 y2
    go_loopg [44] m (fun gk i wr => ∃ j : Nat, Hid (gk + j = m) ∧ j ≤ m ∧ i = .int .i64 (j : Int) ∧ Hid (∃ l, OwnB wr B8 AD m cD l) ∧ Hid (Below B8 w2 wr) ∧ Hid (wr.heap[q3]? = some (.cells #[.int .u16 sp, .int .u16 dp, .slice AD m cD] 57 (0, 0))))
    case atStart => exact ⟨0, rfl, Nat.zero_le _, rfl, Lib.hid ⟨d, HD.out⟩, Hlo, Hq5⟩
    case round =>
      obtain ⟨j, hgk, hj, rfl, h8, hlo, hq⟩ := hrel
      by_cases hjn : j < m
      · obtain ⟨l, hl⟩ := h8.out
        obtain ⟨g8, eA, hg8, -⟩ := hl.addr (by omega)
        subst eA
        have hgq := Hgq.out g8 rfl
        obtain ⟨hix, hcj, hfj⟩ := own_ix hl j (j : Int) hjn rfl
        obtain ⟨y, ey⟩ : ∃ y, l.getD j 0 = y := ⟨_, rfl⟩
        rw [ey] at hcj
        obtain ⟨y0, y1, y2⟩ := cells3 hq.out
        have Hset := Lib.hid (fun v : Int => hl.set_ j v)
        have Hlo2 := Lib.hid (fun v : Value => hlo.out.setCell (p := ⟨g8, j, none⟩) hg8 v)
        have Hq2 := Lib.hid (fun v : Value => (Below.heap_setCell wr ⟨g8, j, none⟩ v q3 (Ne.symm hgq)).trans hq.out)
        have hji : (j : Int) < (m : Int) := by omega
        clear hl ey h8 hq hlo
        go_wp2_with fail
        go_roundg (gk - 1)
        case measure => have := hgk.out; omega
        case rel => exact ⟨j + 1, by have := hgk.out; show gk - 1 + (j + 1) = _; omega, by omega, by go_num, Lib.hid ⟨_, Hset.out _⟩, Lib.hid (Hlo2.out _), Lib.hid (Hq2.out _)⟩
      · obtain rfl : j = m := by omega
        have hlo2 := hlo.out
        rw [← EB8.out] at hlo2
        have Hb := Lib.hid (below_trans HbP.out hlo2)
        have HO := Lib.hid (HOP.out.on hlo2)
        clear h8 hlo2 hq
        go_wp2_with fail
        refine (uawake_any _).mono ?_
        rintro e w6 ⟨rfl, hb6⟩
        have Hb := Lib.hid (below_trans Hb.out hb6)
        have HO := Lib.hid (HO.out.on hb6)
        clear hb6
        go_wp2_with fail
        refine (bequal_any A7 A n n c7 c b b _ true (HO.out.rd HdB.out) (HR0.out _ Hb.out) (by simp)).mono ?_
        rintro e w7 ⟨rfl, rfl⟩
        have Hb := Lib.hid (below_trans HbW.out Hb.out)
        go_wp2_with fail
        go_ret
        exact ⟨rfl, Hb.out⟩
theorem own : ownKnob Try.prog.godebug = none := by kernel_rfl
theorem laidOut : laidOutB Try.prog = true := by kernel_rfl

set_option maxRecDepth 100000 in
theorem lifted (os : Os) (started : os.Started) (H : Type) (enc : TypeId × Value → H) :
    ReturnsInHanded {} Try.checked os 10 .any (Rows.udpParsesSpec.pre6 enc Try.prog Try.f10 Rows.udpParsesRow.domain false) (Rows.udpParsesSpec.post enc Try.prog Try.f10 false true false false) := by
  refine returnsInHanded_of_change (C := Try.checked) own started (by kernel_rfl) Try.func10
    (ChangeSpec.witness6 (enc := enc) (C := Try.checked) false ⟨#[], #[(.agg #[.int .u32 0, .int .u32 0]), (.slice none 0 0)], []⟩ 8 (by kernel_rfl) (by kernel_rfl) (by kernel_rfl) (by kernel_rfl)) ?_
  intro W base args ds gs before hval0 hW hcnd _
  have hval : ∀ (j : Nat) t v, Try.f10.params[j]? = some t → args[j]? = some v → Value.okWide Try.prog W .any base t v := hval0
  have hW' := hW
  obtain ⟨p, q, hA0, hV, rfl, hfz, hnd⟩ := hW
  have hA : DataW.TrodAll enc Try.prog W 0 (fun _ => true) true Try.f10.params.toList args.toList ds p := hA0
  rw [Try.params10] at hA hval
  obtain ⟨v0, vs0, d0, ds0, p0, q0, hargs, rfl, rfl, h0, r0⟩ := trodAll_cons hA
  obtain ⟨v1, vs1, d1, ds1, p1, q1, rfl, rfl, rfl, h1, r1⟩ := trodAll_cons r0
  obtain ⟨rfl, rfl, rfl⟩ := trodAll_nil r1
  obtain rfl : args = #[v0, v1] := by cases args; simp_all
  obtain ⟨rfl, rfl⟩ := trodVars_none hV
  have k0 := ends_open (hval 0 55 v0 rfl rfl) h0
  have lt0 : ∀ x ∈ p0, x.block < W.heap.size := by obtain ⟨m, hm⟩ := h0; exact DataW.trod_lt m _ _ _ hm
  have k1 := bytes_in (hval 1 25 v1 rfl rfl) h1
  have lt1 : ∀ x ∈ p1, x.block < W.heap.size := by obtain ⟨m, hm⟩ := h1; exact DataW.trod_lt m _ _ _ hm
  clear hA0 hval0
  refine (walk W v0 k0 v1 k1).mono fun e W' ⟨he, bel⟩ => ?_
  subst he
  exact ⟨_, rfl, _, _, _, [], _, [], hW', trodAll_mk1 (shut_bool Try.underlying4 _), (trodAll_cons_mk (Below.trod laidOut (by kernel_rfl) (of_decide_eq_true (by kernel_rfl)) h0 bel lt0) (trodAll_cons_mk (Below.trod laidOut (by kernel_rfl) (of_decide_eq_true (by kernel_rfl)) h1 bel lt1) trodAll_mk0)), rfl, bel.frame _, fun h => by cases h⟩

theorem over : Rows.udpParsesRow.holds Try.pinned (OpenSpec.ofChange Rows.udpParsesSpec) :=
  OpenClaim.holds_of_wide 10 Try.f10 rfl rfl rfl rfl rfl rfl rfl ⟨rfl, rfl, rfl, rfl, rfl⟩ rfl rfl rfl rfl rfl (by kernel_rfl) Try.func10 (by kernel_rfl)
    (of_decide_eq_true (by kernel_rfl)) (by unfold Func.isWrapper; first | (rw [if_pos (by decide +kernel)]; kernel_rfl) | (rw [if_neg (by decide +kernel)]; exact ⟨rfl, rfl⟩))
    (fun os started H enc _ => lifted os started H enc)

/-- The statement. -/
theorem proved : Rows.UdpParsesSaid := over
#print axioms proved
end Go.Proofs.Ytoblllgefmajiaa.udpParses
