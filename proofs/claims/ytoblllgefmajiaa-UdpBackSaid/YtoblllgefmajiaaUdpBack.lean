/-
  UdpBack holds: Parse of what Put tells is the datagram; with 0000 in the field's place, too; no field is 0000; with a word turned it is refused. For any two addresses, any datagram (of its data the first 1472 bytes), any word, any turning.
-/
import Derived.Test.YtoblllgefmajiaaUdpTurn
import Derived.Test.YtoblllgefmajiaaUdpLaw
import Derived.Test.YtoblllgefmajiaaUdpOpen
import Derived.RegionTactic
import Derived.BigRegion
import Derived.Deep.DeepCutAuto
import Derived.Deep.CutRange
import Derived.Deep.RegionHeld3
namespace Go.Proofs.Ytoblllgefmajiaa.udpBack
set_option maxRecDepth 10000
open Go.ChangeShapes Go.WideShapes Go.ChangeAt Go.RowKit
set_option linter.unusedVariables false
set_option linter.unusedSimpArgs false

/-- One byte's address in a row of the call's own. -/
theorem own_ix {w : World} {B g n c : Nat} {l : List Int} (h : OwnB w B (some ⟨g, 0, none⟩) n c l) (j : Nat) (ji : Int) (hj : j < n) (he : ji = (j : Int)) :
    (∀ W : World, (Instr.indexAt 25 (.slice (some ⟨g, 0, none⟩) n c) (.int .i64 ji)).run Try.prog W = .ok (.pointer (some ⟨g, j, none⟩)) W) ∧ w.cell? ⟨g, j, none⟩ = some (.int .u8 (l.getD j 0)) ∧ w.frozen? ⟨g, j, none⟩ = false := by
  subst he
  have h0 : (0 : Int) ≤ (j : Int) := by omega
  have h1 : (j : Int) < (n : Int) := by omega
  exact ⟨fun W => by go_simp, h.cell j hj, World.ownsRow.frozenAt h j⟩

set_option maxHeartbeats 8000000 in
theorem walk (w : World) (v : Value) (hv : EndsAt w v) (v1 : Value) (hv1 : DgAt w v1) (v2 : Value) (hv2 : TurnAt w v2) :
    Calls Try.prog 11 #[v, v1, v2] w fun e w' => e = .returned (.bool true) ∧ Below w.heap.size w w' := by
  obtain ⟨src, dst, rfl, hs, hd⟩ := hv
  obtain ⟨⟨sp, dp, D⟩, A, N, c, rfl, hnum, hc, hr⟩ := hv1
  obtain ⟨at_, by_, rfl, hat, hby⟩ := hv2
  simp only at hr ⊢
  obtain ⟨n, hmin, hnN, hn1472⟩ := min_nat 1472 N (by omega)
  have hr := hr.take hnN
  obtain ⟨d, ed⟩ : ∃ d, D.take n = d := ⟨_, rfl⟩
  rw [ed] at hr
  have hni : (n : Int) ≤ (c : Int) := by omega
  have hn2 : n ≤ 1472 := by omega
  obtain ⟨z, hz⟩ : ∃ z, w.heap.size = z := ⟨_, rfl⟩
  have Hr := Lib.hid hr
  have Hc := Lib.hid (And.intro (show n ≤ c by omega) hc.2)
  clear ed hc
  obtain ⟨W0, eW0⟩ : ∃ W0, ((w.alloc (.cells #[.int .u32 src, .int .u32 dst] 55)).alloc (.cells #[.int .u16 sp, .int .u16 dp, .slice A n c] 57)).alloc (.cells #[.int .u16 at_, .int .u16 by_] 69) = W0 := ⟨_, rfl⟩
  have hbW : Below w.heap.size w W0 := by rw [← eW0]; exact (((Below.refl _ _).alloc (Nat.le_refl _) _).alloc (by simp) _).alloc (by simp; omega) _
  have hk0 : W0.heap[z]? = some (.cells #[.int .u32 src, .int .u32 dst] 55 (0, 0)) := by
    rw [← eW0, Below.heap_alloc _ _ _ (by simp [hz]; omega), Below.heap_alloc _ _ _ (by simp [hz]), ← hz]; exact heap_alloc_new w _
  have hk1 : W0.heap[z + 1]? = some (.cells #[.int .u16 sp, .int .u16 dp, .slice A n c] 57 (0, 0)) := by
    rw [← eW0, Below.heap_alloc _ _ _ (by simp [hz]), ← hz]; simpa using heap_alloc_new (w.alloc (.cells #[.int .u32 src, .int .u32 dst] 55)) (.cells #[.int .u16 sp, .int .u16 dp, .slice A n c] 57)
  have hk2 : W0.heap[z + 2]? = some (.cells #[.int .u16 at_, .int .u16 by_] 69 (0, 0)) := by
    rw [← eW0, ← hz]; simpa using heap_alloc_new ((w.alloc (.cells #[.int .u32 src, .int .u32 dst] 55)).alloc (.cells #[.int .u16 sp, .int .u16 dp, .slice A n c] 57)) (.cells #[.int .u16 at_, .int .u16 by_] 69)
  have HK := Lib.hid (show ∀ w', Below W0.heap.size W0 w' → (w'.cell? ⟨z, 0, none⟩ = some (.int .u32 src) ∧ w'.cell? ⟨z, 1, none⟩ = some (.int .u32 dst)) ∧ (w'.cell? ⟨z + 1, 0, none⟩ = some (.int .u16 sp) ∧ w'.cell? ⟨z + 1, 1, none⟩ = some (.int .u16 dp) ∧ w'.cell? ⟨z + 1, 2, none⟩ = some (.slice A n c)) ∧ (w'.cell? ⟨z + 2, 0, none⟩ = some (.int .u16 at_) ∧ w'.cell? ⟨z + 2, 1, none⟩ = some (.int .u16 by_)) from
    fun w' hb => ⟨⟨by rw [blk_cell (blk_on hk0 hb)]; rfl, by rw [blk_cell (blk_on hk0 hb)]; rfl⟩, cells3 (blk_on hk1 hb), ⟨by rw [blk_cell (blk_on hk2 hb)]; rfl, by rw [blk_cell (blk_on hk2 hb)]; rfl⟩⟩)
  have HsW := Lib.hid (show z + 1 + 1 < W0.heap.size by rw [← eW0, ← hz]; simp)
  have HbW := Lib.hid hbW
  have HR0 := Lib.hid (show ∀ w', Below W0.heap.size W0 w' → Rd w' A n d from fun w' hb => (Hr.out.below hbW).below hb)
  have HeW := Lib.hid eW0
  clear hk0 hk1 hk2 hbW eW0 hr Hr
  have hrd := HR0.out _ (Below.refl _ _)
  have hld : d.length = n := hrd.len
  have hl2 : d.length ≤ 1472 := by omega
  have hrn := restU_nn (s := ⟨sp, dp, d⟩) ⟨hnum.sp, hnum.dp⟩ hl2 hrd.byte
  have E1 := Lib.hid (show errU src dst (dgB src dst ⟨sp, dp, d⟩) = 0 by rw [err_dgB src dst src dst _ hs hd hs hd hl2 hrn, if_pos (by omega)])
  have E2 := Lib.hid (show errU src dst (layL (dgB src dst ⟨sp, dp, d⟩) 3 0) = 0 by rw [(lay_ok src dst ⟨sp, dp, d⟩).1, if_neg (by simp only; omega)])
  have E3 := Lib.hid (dgOf_dgB src dst ⟨sp, dp, d⟩)
  have E4 := Lib.hid (lay_ok src dst ⟨sp, dp, d⟩).2
  have hbL := dgB_bytes src dst (s := ⟨sp, dp, d⟩) ⟨hnum.sp, hnum.dp⟩ hl2 hrd.byte
  have E5 := Lib.hid (show ∀ (j : Nat) (x : Int), 0 ≤ x → 2 * j + 1 < 8 + n → j ≠ 2 → (j = 3 → x ≠ 0) → (x - wordL (dgB src dst ⟨sp, dp, d⟩) j) % 65535 ≠ 0 → errU src dst (layL (dgB src dst ⟨sp, dp, d⟩) j x) = 20 from
    fun j x h0 hj h2 h3 hne => lay_bad src dst ⟨sp, dp, d⟩ j x hs hd hl2 hrn h0 (by simp only [hld]; exact hj) h2 h3 hbL hne)
  have hlL : (dgB src dst ⟨sp, dp, d⟩).length = 8 + n := by rw [dgB_len]; simp only [hld]
  have E6 := Lib.hid (show (sumL ([pseudoL src dst 17 (8 + (n : Int)), dgB src dst ⟨sp, dp, d⟩] : List (List Int)).flatten == 65535) = true by
    have h0 := E1.out
    unfold errU at h0
    rw [if_neg (by rw [hlL]; omega), if_neg (by rw [hlL]; omega), if_neg (by rw [n16_len, hlL]; simp only [hld]; omega)] at h0
    have hf : n16 (dgB src dst ⟨sp, dp, d⟩) 6 ≠ 0 := by
      rw [n16_field]
      have : 0 < fieldU src dst ⟨sp, dp, d⟩ ∧ fieldU src dst ⟨sp, dp, d⟩ < 65536 := fldU_bd _
      omega
    by_cases h : sumL (pseudoL src dst 17 (dgB src dst ⟨sp, dp, d⟩).length ++ dgB src dst ⟨sp, dp, d⟩) = 65535
    · rw [hlL, show ((8 + n : Nat) : Int) = 8 + (n : Int) by omega] at h
      simpa using h
    · rw [if_pos ⟨hf, h⟩] at h0
      exact absurd h0 (by decide))
  have E7 := Lib.hid (show (dgB src dst ⟨sp, dp, d⟩).getD 6 0 * 256 + (dgB src dst ⟨sp, dp, d⟩).getD 7 0 ≠ 0 by
    have h1 : (dgB src dst ⟨sp, dp, d⟩).getD 6 0 * 256 + (dgB src dst ⟨sp, dp, d⟩).getD 7 0 = fieldU src dst ⟨sp, dp, d⟩ := n16_field src dst ⟨sp, dp, d⟩
    have : 0 < fieldU src dst ⟨sp, dp, d⟩ ∧ fieldU src dst ⟨sp, dp, d⟩ < 65536 := fldU_bd _
    omega)
  obtain ⟨L, eL⟩ : ∃ L, dgB src dst ⟨sp, dp, d⟩ = L := ⟨_, rfl⟩
  rw [eL] at E1 E2 E3 E4 E5 E6 E7 hbL hlL
  have HbL := Lib.hid hbL
  have HeL := Lib.hid eL
  have Hld := Lib.hid hld
  have HlL := Lib.hid hlL
  have Hnum := Lib.hid (show DgNum ⟨sp, dp, d⟩ from ⟨hnum.sp, hnum.dp⟩)
  have Hat := Lib.hid hat
  have Hby := Lib.hid hby
  have Hn2 := Lib.hid hn2
  clear hld hl2 hrn hbL eL hrd hnum hlL hat hby hn2 hn1472
  go_enter Try.func11, Try.ntmps11
  go_wp2_with fail
  rw [HeW.out]
  refine (uput_told src dst sp dp d A n c (8 + n) L _ Hnum.out Hc.out (HR0.out _ (Below.refl _ _)) Hn2.out rfl HeL.out).mono ?_
  rintro e w3 ⟨A3, c3, rfl, k3, m3, ho3, hb3⟩
  obtain ⟨g3, rfl, hg3, hg3'⟩ := ho3.addr (by omega)
  have Hb := Lib.hid hb3
  have Ho := Lib.hid ho3
  have Hcl := Lib.hid (And.intro k3 m3)
  have k3i : 8 + (n : Int) ≤ (c3 : Int) := by omega
  have Hg3 := Lib.hid hg3
  obtain ⟨⟨f0, f1⟩, ⟨q0, q1, q2⟩, p0, p1⟩ := HK.out _ Hb.out
  clear ho3 hb3 m3 k3 hg3 hg3'
  go_wp2_with fail
  refine (uparse_told src dst (some ⟨g3, 0, none⟩) (8 + n) c3 n L sp dp d _ Hcl.out (Ho.out.rd HbL.out) E1.out E3.out Hld.out).mono ?_
  rintro e w4 ⟨A4, c4, rfl, k4, m4, ho4, hb4⟩
  have hba := (Below.refl w4.heap.size w4).alloc (Nat.le_refl _) (.cells #[.int .u16 sp, .int .u16 dp, .slice A4 n c4] 57)
  have Hr4 := Lib.hid ((ho4.rd (HR0.out _ (Below.refl _ _)).byte).below hba)
  have Hb := Lib.hid (below_trans Hb.out (below_trans hb4 hba))
  have Ho := Lib.hid ((Ho.out.on hb4).on hba)
  clear f0 f1 q0 q1 q2 p0 p1 ho4 hb4 hba
  obtain ⟨⟨f0, f1⟩, ⟨q0, q1, q2⟩, p0, p1⟩ := HK.out _ Hb.out
  go_upto_region 4 with (fail)
  go_cut [89] (fun s89 wx => s89 = .bool false ∧ Hid (Below W0.heap.size W0 wx) ∧ Hid (OwnB wx W0.heap.size (some ⟨g3, 0, none⟩) (8 + n) c3 L))
  case first =>
    go_wp2_with fail
    refine (usame_any ⟨sp, dp, d⟩ ⟨sp, dp, d⟩ A n c A4 n c4 _ true (HR0.out _ Hb.out) Hr4.out (dgSame_self _)).mono ?_
    rintro e w5 ⟨rfl, hb5⟩
    have Hb := Lib.hid (below_trans Hb.out hb5)
    have Ho := Lib.hid (Ho.out.on hb5)
    clear f0 f1 q0 q1 q2 p0 p1 hb5 Hr4
    obtain ⟨⟨f0, f1⟩, ⟨q0, q1, q2⟩, p0, p1⟩ := HK.out _ Hb.out
    have x6 := Ho.out.cell 6 (by omega)
    have x7 := Ho.out.cell 7 (by omega)
    go_wp2_with fail
    refine (pseudo_any src dst 17 (8 + (n : Int)) _ (by omega)).mono ?_
    rintro e w6 ⟨A6, c6, rfl, k6, m6, ho6, hb6⟩
    have Hr6 := Lib.hid (ho6.rd (pseudo_byte _ _ _ _ (by omega)))
    have Hb := Lib.hid (below_trans Hb.out hb6)
    have Ho := Lib.hid (Ho.out.on hb6)
    clear f0 f1 q0 q1 q2 p0 p1 x6 x7 ho6 hb6
    go_wp2_with fail
    refine (right_told _ 2 2 [pseudoL src dst 17 (8 + (n : Int)), L] _ true (by omega) (RdL.twoW w6 _ A6 (some ⟨g3, 0, none⟩) 12 c6 (8 + n) c3 _ _ ⟨k6, m6⟩ Hcl.out Hr6.out (Ho.out.rd HbL.out)) E6.out).mono ?_
    rintro e w7 ⟨rfl, hb7⟩
    have Hb := Lib.hid (below_trans Hb.out (on_alloc hb7))
    have Ho := Lib.hid (Ho.out.on (on_alloc hb7))
    clear hb7 Hr6 k6 m6 E6
    have x6 := Ho.out.cell 6 (by omega)
    have x7 := Ho.out.cell 7 (by omega)
    obtain ⟨y6, e6⟩ : ∃ y, L.getD 6 0 = y := ⟨_, rfl⟩
    obtain ⟨y7, e7⟩ : ∃ y, L.getD 7 0 = y := ⟨_, rfl⟩
    have h67 := E7.out
    rw [e6] at x6 h67
    rw [e7] at x7 h67
    have i6 : (6 : Int) < 8 + (n : Int) := by omega
    have i7 : (7 : Int) < 8 + (n : Int) := by omega
    clear e6 e7 E7
    by_cases h6 : y6 = 0
    · have b6 : (y6 == 0) = true := by simpa using h6
      have b7 : (y7 == 0) = false := by simp; omega
      clear h6 h67
      go_wp2_with fail
      go_meet
      exact ⟨rfl, Hb, Ho⟩
    · have b6 : (y6 == 0) = false := by simpa using h6
      clear h6 h67
      go_wp2_with fail
      go_meet
      exact ⟨rfl, Hb, Ho⟩
  case rest =>
  obtain ⟨rfl, Hb, Ho⟩ := hcut
  clear f0 f1 q0 q1 q2 p0 p1
  obtain ⟨⟨f0, f1⟩, ⟨q0, q1, q2⟩, p0, p1⟩ := HK.out _ Hb.out
  have hbA : Below wc.heap.size wc (wc.alloc (.cells #[] 5)) := (Below.refl _ _).alloc (Nat.le_refl _) _
  have HE := Lib.hid (OwnB.made (w := wc.alloc (.cells #[] 5)) (B := wc.heap.size) (g := wc.heap.size) (cap := 0) (cur := #[]) (heap_alloc_new wc _) (Nat.le_refl _) (by simp [maxLen]) rfl)
  have HrA := Lib.hid ((Ho.out.rd HbL.out).below hbA)
  have HbA := Lib.hid hbA
  have hsA : wc.heap.size ≤ (wc.alloc (.cells #[] 5)).heap.size := by simp
  clear hbA
  go_upto_region 7 with (refine wpList_app rfl (.tmp 90) (.tmp 91) rfl wc.heap.size (some ⟨wc.heap.size, 0, none⟩) (some ⟨g3, 0, none⟩) 0 0 (8 + n) c3 [] L rfl rfl HE.out HrA.out (by omega) hsA ?_; intro A8 c8 w8 ho8 hg8 hb8 hat8)
  obtain ⟨g8, rfl, hg8', -⟩ := ho8.addr (by omega)
  have HO := Lib.hid (show OwnB w8 wc.heap.size (some ⟨g8, 0, none⟩) (8 + n) c8 L by simpa using ho8)
  have HB := Lib.hid (HbA.out.trans hb8)
  have hc8 := HO.out.cap
  have Hc8 := Lib.hid (And.intro HO.out.cap HO.out.capMax)
  have c80 := hc8
  try simp only [Nat.zero_add]
  have y0 : ∀ j, w8.frozen? ⟨g8, j, none⟩ = false := fun j => World.ownsRow.frozenAt HO.out j
  have c86 := HO.out.cell 6 (by omega)
  have c87 := HO.out.cell 7 (by omega)
  obtain ⟨z6, ez6⟩ : ∃ y, L.getD 6 0 = y := ⟨_, rfl⟩
  obtain ⟨z7, ez7⟩ : ∃ y, L.getD 7 0 = y := ⟨_, rfl⟩
  rw [ez6] at c86
  rw [ez7] at c87
  have i6 : (6 : Int) < 8 + (n : Int) := by omega
  have i7 : (7 : Int) < 8 + (n : Int) := by omega
  clear ez6 ez7 hg8 hb8 hat8 ho8 HE HrA HbA hsA
  go_upto_region 8 with (fail)
  have HO := Lib.hid (show OwnB ((w8.setCell ⟨g8, 6, none⟩ (.int .u8 0)).setCell ⟨g8, 7, none⟩ (.int .u8 0)) wc.heap.size (some ⟨g8, 0, none⟩) (8 + n) c8 (layL L 3 0) from (HO.out.set_ 6 0).set_ 7 0)
  have HB := Lib.hid ((HB.out.setCell (p := ⟨g8, 6, none⟩) hg8' (.int .u8 0)).setCell (p := ⟨g8, 7, none⟩) hg8' (.int .u8 0))
  clear c86 c87 y0 hc8 c80 f0 f1 q0 q1 q2 p0 p1
  generalize (w8.setCell ⟨g8, 6, none⟩ (.int .u8 0)).setCell ⟨g8, 7, none⟩ (.int .u8 0) = w9 at HO HB ⊢
  have Hb := Lib.hid (below_trans Hb.out HB.out)
  have Ho := Lib.hid (Ho.out.on HB.out)
  obtain ⟨⟨f0, f1⟩, ⟨q0, q1, q2⟩, p0, p1⟩ := HK.out _ Hb.out
  have HLz := Lib.hid (show ∀ x ∈ layL L 3 0, 0 ≤ x ∧ x < 256 from layL_byte HbL.out 3 (show U16 0 by unfold U16; omega))
  go_wp2_with fail
  refine (uparse_told src dst (some ⟨g8, 0, none⟩) (8 + n) c8 n (layL L 3 0) sp dp d _ Hc8.out (HO.out.rd HLz.out) E2.out E4.out Hld.out).mono ?_
  rintro e w10 ⟨A10, c10, rfl, k10, m10, ho10, hb10⟩
  have hba := (Below.refl w10.heap.size w10).alloc (Nat.le_refl _) (.cells #[.int .u16 sp, .int .u16 dp, .slice A10 n c10] 57)
  have Hr10 := Lib.hid ((ho10.rd (HR0.out _ (Below.refl _ _)).byte).below hba)
  have Hb := Lib.hid (below_trans Hb.out (below_trans hb10 hba))
  have Ho := Lib.hid ((Ho.out.on hb10).on hba)
  clear f0 f1 q0 q1 q2 p0 p1 ho10 hb10 hba HO HB Hc8 E1 E2 E3 E4 k10 m10
  obtain ⟨⟨f0, f1⟩, ⟨q0, q1, q2⟩, p0, p1⟩ := HK.out _ Hb.out
  go_wp2_with fail
  refine (usame_any ⟨sp, dp, d⟩ ⟨sp, dp, d⟩ A n c A10 n c10 _ true (HR0.out _ Hb.out) Hr10.out (dgSame_self _)).mono ?_
  rintro e w11 ⟨rfl, hb11⟩
  have Hb := Lib.hid (below_trans Hb.out hb11)
  have Ho := Lib.hid (Ho.out.on hb11)
  clear f0 f1 q0 q1 q2 p0 p1 hb11 Hr10
  obtain ⟨⟨f0, f1⟩, ⟨q0, q1, q2⟩, p0, p1⟩ := HK.out _ Hb.out
  obtain ⟨j, hj⟩ : ∃ j : Nat, at_.tmod ((8 + (n : Int)) / 2) = (j : Int) := ⟨(at_ % ((8 + (n : Int)) / 2)).toNat, by rw [Int.tmod_eq_emod_of_nonneg Hat.out.1]; have := Int.emod_nonneg at_ (show (8 + (n : Int)) / 2 ≠ 0 by omega); omega⟩
  have hj2 : 2 * j + 1 < 8 + n := by
    have h1 := Int.emod_lt_of_pos at_ (show (0 : Int) < (8 + (n : Int)) / 2 by omega)
    rw [Int.tmod_eq_emod_of_nonneg Hat.out.1] at hj
    omega
  have hwat : wrap64 at_ = at_ := IntWalk.wrap64_in _ (by have := Hat.out; omega)
  have hdz : ((8 + (n : Int)) / 2 == 0) = false := by simp; omega
  obtain ⟨K, eK⟩ : ∃ K, 2 * j = K := ⟨_, rfl⟩
  have hwK : wrap64 ((j : Int) * 2) = (K : Int) := by rw [IntWalk.wrap64_in _ (by omega)]; omega
  have hKn : K + 1 < 8 + n := by omega
  have EK := Lib.hid eK
  have Hj2 := Lib.hid hj2
  clear eK hj2
  obtain ⟨hix0, hc0, hf0⟩ := own_ix Ho.out K (K : Int) (by omega) rfl
  obtain ⟨hix1, hc1, hf1⟩ := own_ix Ho.out (K + 1) ((K : Int) + 1) (by omega) (by omega)
  obtain ⟨x, ex⟩ : ∃ x, L.getD K 0 = x := ⟨_, rfl⟩
  obtain ⟨y, ey⟩ : ∃ y, L.getD (K + 1) 0 = y := ⟨_, rfl⟩
  rw [ex] at hc0
  rw [ey] at hc1
  have hxb := getD_byte HbL.out K
  have hyb := getD_byte HbL.out (K + 1)
  rw [ex] at hxb
  rw [ey] at hyb
  have Hw := Lib.hid (show wordL L j = x * 256 + y by unfold wordL; rw [EK.out, ex, ey])
  have Hxy := Lib.hid (And.intro ex ey)
  clear ex ey
  obtain ⟨hx0, hx1⟩ := hxb
  obtain ⟨hy0, hy1⟩ := hyb
  have hor := or16 x y ⟨hx0, hx1⟩ ⟨hy0, hy1⟩
  go_upto_region 12 with (fail)
  go_region
  go_upto_region 13 with (fail)
  simp only [hwK]
  have hsg : IntKind.u16.signed = false := rfl
  have hnot := not16 (x * 256 + y) (by omega)
  have hnot2 : bits .xor .u16 (if IntKind.u16.signed = true then -1 else IntKind.u16.max) (x * 256 + y) = 65535 - (x * 256 + y) := hnot
  obtain ⟨nw, hx16, hnb, hhi, hlo, hiff⟩ := xor16 (x * 256 + y) by_ (by omega) Hby.out
  rw [show (x * 256 + y) / 256 = x by omega] at hhi
  rw [show (x * 256 + y) % 256 = y by omega] at hlo
  obtain ⟨hnw0, hnw1⟩ := hnb
  have hb8 : IntKind.u8.wrap (by_ / 256) = by_ / 256 := wraps_u8' _ (by have := Hby.out; omega) (by have := Hby.out; omega)
  have hb8' : IntKind.u8.wrap by_ = by_ % 256 := by simp [IntKind.wrap, IntKind.bits, IntKind.signed]
  have Hb := Lib.hid (below_trans Hb.out (Below.drew (Below.refl w11.heap.size w11)))
  have Ho := Lib.hid (Ho.out.on (Below.drew (Below.refl w11.heap.size w11)))
  have Hbf := Lib.hid (show Below w.heap.size w w11.drew from below_trans HbW.out Hb.out)
  obtain ⟨wE, eE⟩ : ∃ wE, w11.drew = wE := ⟨_, rfl⟩
  rw [eE] at Hb Ho Hbf ⊢
  clear f0 f1 q0 q1 q2 p0 p1 eE hwK hwat hdz hj hor hc0 hc1 hf0 hf1 hix0 hix1
  obtain ⟨⟨f0, f1⟩, ⟨q0, q1, q2⟩, p0, p1⟩ := HK.out _ Hb.out
  by_cases h1 : by_ = 0
  · have b1 : (by_ == 0) = true := by simpa using h1
    clear h1
    go_wp2_with fail
    refine (uawake_any _).mono ?_
    rintro e w12 ⟨rfl, hb12⟩
    have Hbf := Lib.hid (below_trans Hbf.out hb12)
    clear hb12
    go_wp2_with fail
    go_ret
    exact ⟨rfl, Hbf.out⟩
  have b1 : (by_ == 0) = false := by simpa using h1
  by_cases h2 : nw = 65535 - (x * 256 + y)
  · have b2 : (nw == 65535 - (x * 256 + y)) = true := by simpa using h2
    clear h1 h2
    go_wp2_with fail
    refine (uawake_any _).mono ?_
    rintro e w12 ⟨rfl, hb12⟩
    have Hbf := Lib.hid (below_trans Hbf.out hb12)
    clear hb12
    go_wp2_with fail
    go_ret
    exact ⟨rfl, Hbf.out⟩
  have b2 : (nw == 65535 - (x * 256 + y)) = false := by simpa using h2
  by_cases h3 : K = 4
  · have b3 : ((K : Int) == 4) = true := by simp; omega
    clear h1 h2 h3
    go_wp2_with fail
    refine (uawake_any _).mono ?_
    rintro e w12 ⟨rfl, hb12⟩
    have Hbf := Lib.hid (below_trans Hbf.out hb12)
    clear hb12
    go_wp2_with fail
    go_ret
    exact ⟨rfl, Hbf.out⟩
  have b3 : ((K : Int) == 4) = false := by simp; omega
  have hne : nw ≠ x * 256 + y := fun h => h1 (hiff.1 h)
  have hmod : (nw - (x * 256 + y)) % 65535 ≠ 0 := by omega
  have E20 := Lib.hid (show (K = 6 → nw ≠ 0) → errU src dst (layL L j nw) = 20 from fun h6 => E5.out j nw hnw0 Hj2.out (by have := EK.out; omega) (fun h => h6 (by have := EK.out; omega)) (by rw [Hw.out]; exact hmod))
  clear hne hmod hiff h1 h2 h3 E5
  by_cases h4 : K = 6
  · have b4 : ((K : Int) == 6) = true := by simp; omega
    by_cases h5 : nw = 0
    · have b5 : (nw == 0) = true := by simpa using h5
      clear h4 h5 E20
      go_wp2_with fail
      refine (uawake_any _).mono ?_
      rintro e w12 ⟨rfl, hb12⟩
      have Hbf := Lib.hid (below_trans Hbf.out hb12)
      clear hb12
      go_wp2_with fail
      go_ret
      exact ⟨rfl, Hbf.out⟩
    · have b5 : (nw == 0) = false := by simpa using h5
      have E20 := Lib.hid (E20.out (fun _ => h5))
      clear h4 h5
      obtain ⟨hix0, hc0, hf0⟩ := own_ix Ho.out K (K : Int) (by omega) rfl
      obtain ⟨hix1, hc1, hf1⟩ := own_ix Ho.out (K + 1) ((K : Int) + 1) (by omega) (by omega)
      obtain ⟨x', ex⟩ : ∃ x, L.getD K 0 = x := ⟨_, rfl⟩
      obtain ⟨y', ey⟩ : ∃ y, L.getD (K + 1) 0 = y := ⟨_, rfl⟩
      obtain ⟨rfl, rfl⟩ : x' = x ∧ y' = y := by rw [← ex, ← ey]; exact Hxy.out
      rw [ex] at hc0
      rw [ey] at hc1
      clear ex ey
      have hgz : ¬ g3 = z + 1 + 1 := by have := HsW.out; have := Hg3.out; omega
      have hgz' : ¬ z + 1 + 1 = g3 := by omega
      have hp1 : ∀ v, (wE.setCell ⟨g3, K, none⟩ v).cell? ⟨z + 1 + 1, 1, none⟩ = some (.int .u16 by_) := fun v => by rw [World.cell?_of_block (w := wE) (Below.heap_setCell _ _ _ _ hgz')]; exact p1
      go_upto_region 15 with (fail)
      go_region
      have HO := Lib.hid (show OwnB (((wE.setCell ⟨g3, K, none⟩ (.int .u8 (nw / 256))).setCell ⟨g3, K + 1, none⟩ (.int .u8 (nw % 256))).drew) W0.heap.size (some ⟨g3, 0, none⟩) (8 + n) c3 (layL L j nw) from by unfold layL; rw [EK.out]; exact (Ho.out.set_ K (nw / 256)).set_ (K + 1) (nw % 256))
      have HB := Lib.hid (Below.drew ((Hb.out.setCell (p := ⟨g3, K, none⟩) Hg3.out (.int .u8 (nw / 256))).setCell (p := ⟨g3, K + 1, none⟩) Hg3.out (.int .u8 (nw % 256))))
      clear hix0 hix1 hc0 hc1 hf0 hf1 hp1 f0 f1 q0 q1 q2 p0 p1
      generalize ((wE.setCell ⟨g3, K, none⟩ (.int .u8 (nw / 256))).setCell ⟨g3, K + 1, none⟩ (.int .u8 (nw % 256))).drew = wF at HO HB ⊢
      obtain ⟨⟨f0, f1⟩, ⟨q0, q1, q2⟩, p0, p1⟩ := HK.out _ HB.out
      have HLz := Lib.hid (show ∀ x ∈ layL L j nw, 0 ≤ x ∧ x < 256 from layL_byte HbL.out j (show U16 nw by unfold U16; omega))
      go_wp2_with fail
      refine (uparse_x src dst (some ⟨g3, 0, none⟩) (8 + n) c3 (layL L j nw) 20 _ Hcl.out (HO.out.rd HLz.out) E20.out).mono ?_
      rintro e w13 ⟨a13, b13, A13, n13, m13, rfl, hb13⟩
      have Hbf := Lib.hid (below_trans HbW.out (below_trans HB.out (below_trans hb13 ((Below.refl w13.heap.size w13).alloc (Nat.le_refl _) (.cells #[.int .u16 a13, .int .u16 b13, .slice A13 n13 m13] 57)))))
      clear hb13
      go_wp2_with fail
      refine (uawake_any _).mono ?_
      rintro e w12 ⟨rfl, hb12⟩
      have Hbf := Lib.hid (below_trans Hbf.out hb12)
      clear hb12
      go_wp2_with fail
      go_ret
      exact ⟨rfl, Hbf.out⟩
  · have b4 : ((K : Int) == 6) = false := by simp; omega
    have E20 := Lib.hid (E20.out (fun h => absurd h h4))
    clear h4
    obtain ⟨hix0, hc0, hf0⟩ := own_ix Ho.out K (K : Int) (by omega) rfl
    obtain ⟨hix1, hc1, hf1⟩ := own_ix Ho.out (K + 1) ((K : Int) + 1) (by omega) (by omega)
    obtain ⟨x', ex⟩ : ∃ x, L.getD K 0 = x := ⟨_, rfl⟩
    obtain ⟨y', ey⟩ : ∃ y, L.getD (K + 1) 0 = y := ⟨_, rfl⟩
    obtain ⟨rfl, rfl⟩ : x' = x ∧ y' = y := by rw [← ex, ← ey]; exact Hxy.out
    rw [ex] at hc0
    rw [ey] at hc1
    clear ex ey
    have hgz : ¬ g3 = z + 1 + 1 := by have := HsW.out; have := Hg3.out; omega
    have hgz' : ¬ z + 1 + 1 = g3 := by omega
    have hp1 : ∀ v, (wE.setCell ⟨g3, K, none⟩ v).cell? ⟨z + 1 + 1, 1, none⟩ = some (.int .u16 by_) := fun v => by rw [World.cell?_of_block (w := wE) (Below.heap_setCell _ _ _ _ hgz')]; exact p1
    go_upto_region 15 with (fail)
    go_region
    have HO := Lib.hid (show OwnB (((wE.setCell ⟨g3, K, none⟩ (.int .u8 (nw / 256))).setCell ⟨g3, K + 1, none⟩ (.int .u8 (nw % 256))).drew) W0.heap.size (some ⟨g3, 0, none⟩) (8 + n) c3 (layL L j nw) from by unfold layL; rw [EK.out]; exact (Ho.out.set_ K (nw / 256)).set_ (K + 1) (nw % 256))
    have HB := Lib.hid (Below.drew ((Hb.out.setCell (p := ⟨g3, K, none⟩) Hg3.out (.int .u8 (nw / 256))).setCell (p := ⟨g3, K + 1, none⟩) Hg3.out (.int .u8 (nw % 256))))
    clear hix0 hix1 hc0 hc1 hf0 hf1 hp1 f0 f1 q0 q1 q2 p0 p1
    generalize ((wE.setCell ⟨g3, K, none⟩ (.int .u8 (nw / 256))).setCell ⟨g3, K + 1, none⟩ (.int .u8 (nw % 256))).drew = wF at HO HB ⊢
    obtain ⟨⟨f0, f1⟩, ⟨q0, q1, q2⟩, p0, p1⟩ := HK.out _ HB.out
    have HLz := Lib.hid (show ∀ x ∈ layL L j nw, 0 ≤ x ∧ x < 256 from layL_byte HbL.out j (show U16 nw by unfold U16; omega))
    go_wp2_with fail
    refine (uparse_x src dst (some ⟨g3, 0, none⟩) (8 + n) c3 (layL L j nw) 20 _ Hcl.out (HO.out.rd HLz.out) E20.out).mono ?_
    rintro e w13 ⟨a13, b13, A13, n13, m13, rfl, hb13⟩
    have Hbf := Lib.hid (below_trans HbW.out (below_trans HB.out (below_trans hb13 ((Below.refl w13.heap.size w13).alloc (Nat.le_refl _) (.cells #[.int .u16 a13, .int .u16 b13, .slice A13 n13 m13] 57)))))
    clear hb13
    go_wp2_with fail
    refine (uawake_any _).mono ?_
    rintro e w12 ⟨rfl, hb12⟩
    have Hbf := Lib.hid (below_trans Hbf.out hb12)
    clear hb12
    go_wp2_with fail
    go_ret
    exact ⟨rfl, Hbf.out⟩
theorem own : ownKnob Try.prog.godebug = none := by kernel_rfl
theorem laidOut : laidOutB Try.prog = true := by kernel_rfl

set_option maxRecDepth 100000 in
theorem lifted (os : Os) (started : os.Started) (H : Type) (enc : TypeId × Value → H) :
    ReturnsInHanded {} Try.checked os 11 .any (Rows.udpBackSpec.pre6 enc Try.prog Try.f11 Rows.udpBackRow.domain false) (Rows.udpBackSpec.post enc Try.prog Try.f11 false true false false) := by
  refine returnsInHanded_of_change (C := Try.checked) own started (by kernel_rfl) Try.func11
    (ChangeSpec.witness6 (enc := enc) (C := Try.checked) false ⟨#[], #[(.agg #[.int .u32 0, .int .u32 0]), (.agg #[.int .u16 0, .int .u16 0, .slice none 0 0]), (.agg #[.int .u16 0, .int .u16 0])], []⟩ 8 (by kernel_rfl) (by kernel_rfl) (by kernel_rfl) (by kernel_rfl)) ?_
  intro W base args ds gs before hval0 hW hcnd _
  have hval : ∀ (j : Nat) t v, Try.f11.params[j]? = some t → args[j]? = some v → Value.okWide Try.prog W .any base t v := hval0
  have hW' := hW
  obtain ⟨p, q, hA0, hV, rfl, hfz, hnd⟩ := hW
  have hA : DataW.TrodAll enc Try.prog W 0 (fun _ => true) true Try.f11.params.toList args.toList ds p := hA0
  rw [Try.params11] at hA hval
  obtain ⟨v0, vs0, d0, ds0, p0, q0, hargs, rfl, rfl, h0, r0⟩ := trodAll_cons hA
  obtain ⟨v1, vs1, d1, ds1, p1, q1, rfl, rfl, rfl, h1, r1⟩ := trodAll_cons r0
  obtain ⟨v2, vs2, d2, ds2, p2, q2, rfl, rfl, rfl, h2, r2⟩ := trodAll_cons r1
  obtain ⟨rfl, rfl, rfl⟩ := trodAll_nil r2
  obtain rfl : args = #[v0, v1, v2] := by cases args; simp_all
  obtain ⟨rfl, rfl⟩ := trodVars_none hV
  have k0 := ends_open (hval 0 55 v0 rfl rfl) h0
  have lt0 : ∀ x ∈ p0, x.block < W.heap.size := by obtain ⟨m, hm⟩ := h0; exact DataW.trod_lt m _ _ _ hm
  have k1 := dg_open (hval 1 57 v1 rfl rfl) h1
  have lt1 : ∀ x ∈ p1, x.block < W.heap.size := by obtain ⟨m, hm⟩ := h1; exact DataW.trod_lt m _ _ _ hm
  have k2 := turn_open (hval 2 69 v2 rfl rfl) h2
  have lt2 : ∀ x ∈ p2, x.block < W.heap.size := by obtain ⟨m, hm⟩ := h2; exact DataW.trod_lt m _ _ _ hm
  clear hA0 hval0
  refine (walk W v0 k0 v1 k1 v2 k2).mono fun e W' ⟨he, bel⟩ => ?_
  subst he
  exact ⟨_, rfl, _, _, _, [], _, [], hW', trodAll_mk1 (shut_bool Try.underlying4 _), (trodAll_cons_mk (Below.trod laidOut (by kernel_rfl) (of_decide_eq_true (by kernel_rfl)) h0 bel lt0) (trodAll_cons_mk (Below.trod laidOut (by kernel_rfl) (of_decide_eq_true (by kernel_rfl)) h1 bel lt1) (trodAll_cons_mk (Below.trod laidOut (by kernel_rfl) (of_decide_eq_true (by kernel_rfl)) h2 bel lt2) trodAll_mk0))), rfl, bel.frame _, fun h => by cases h⟩

theorem over : Rows.udpBackRow.holds Try.pinned (OpenSpec.ofChange Rows.udpBackSpec) :=
  OpenClaim.holds_of_wide 11 Try.f11 rfl rfl rfl rfl rfl rfl rfl ⟨rfl, rfl, rfl, rfl, rfl⟩ rfl rfl rfl rfl rfl (by kernel_rfl) Try.func11 (by kernel_rfl)
    (of_decide_eq_true (by kernel_rfl)) (by unfold Func.isWrapper; first | (rw [if_pos (by decide +kernel)]; kernel_rfl) | (rw [if_neg (by decide +kernel)]; exact ⟨rfl, rfl⟩))
    (fun os started H enc _ => lifted os started H enc)

/-- The statement. -/
theorem proved : Rows.UdpBackSaid := over
#print axioms proved
end Go.Proofs.Ytoblllgefmajiaa.udpBack
