/-
  UdpEnds holds: a datagram's field hangs on its two addresses as a sum does. For any two addresses, any datagram (of its data the first 1472 bytes), any word.
-/
import Derived.Test.YtoblllgefmajiaaUdpPlain
import Derived.Test.YtoblllgefmajiaaUdpLaw
import Derived.Test.YtoblllgefmajiaaUdpOpen
import Derived.RegionTactic
import Derived.BigRegion
namespace Go.Proofs.Ytoblllgefmajiaa.udpEnds
set_option maxRecDepth 10000
open Go.ChangeShapes Go.WideShapes Go.ChangeAt Go.RowKit
set_option linter.unusedVariables false
set_option linter.unusedSimpArgs false

theorem nat_high (a : Nat) (h : a < 4294967296) : a &&& 4294901760 = a / 65536 * 65536 := by
  have h0 : (a &&& 4294901760) % 2 ^ 16 = 0 := by rw [Nat.and_mod_two_pow]; simp
  have h1 : (a &&& 4294901760) / 2 ^ 16 = a / 2 ^ 16 := by
    rw [Nat.and_div_two_pow, show 4294901760 / 2 ^ 16 = 2 ^ 16 - 1 by decide, Nat.and_two_pow_sub_one_eq_mod]
    exact Nat.mod_eq_of_lt (by omega)
  have := Nat.div_add_mod (a &&& 4294901760) (2 ^ 16)
  rw [h0, h1] at this
  omega
theorem and_high (x : Int) (h : 0 ≤ x ∧ x < 4294967296) : bits .and .u32 x 4294901760 = x / 65536 * 65536 := by
  obtain ⟨a, rfl⟩ := Int.eq_ofNat_of_zero_le h.1
  have := (bits_nat .u32 32 (by decide) wraps_u32 a 4294901760 (by omega) (by omega)).1
  rw [show (4294901760 : Int) = ((4294901760 : Nat) : Int) by simp, this, nat_high a (by omega)]
  omega
theorem or_low (x y : Int) (hx : 0 ≤ x ∧ x < 65536) (hy : 0 ≤ y ∧ y < 65536) : bits .or .u32 (x * 65536) y = x * 65536 + y :=
  bits_join .u32 32 (by decide) wraps_u32 16 (x * 65536) y (by omega) (by omega) (by omega) (by omega) (by omega) (by omega)

set_option maxHeartbeats 4000000 in
theorem walk (w : World) (v : Value) (hv : EndsAt w v) (v1 : Value) (hv1 : DgAt w v1) (word : Int) (w2 : (Lit.int .u16 word).wf = true) :
    Calls Try.prog 12 #[v, v1, .int .u16 word] w fun e w' => e = .returned (.bool true) ∧ Below w.heap.size w w' := by
  obtain ⟨src, dst, rfl, hs, hd⟩ := hv
  obtain ⟨⟨sp, dp, D⟩, A, N, c, rfl, hnum, hc, hr⟩ := hv1
  simp only at hr ⊢
  obtain ⟨wd0, wd1⟩ := bounds_u16 w2
  obtain ⟨n, hmin, hnN, hn1472⟩ := min_nat 1472 N (by omega)
  have hr := hr.take hnN
  obtain ⟨d, ed⟩ : ∃ d, D.take n = d := ⟨_, rfl⟩
  rw [ed] at hr
  have hni : (n : Int) ≤ (c : Int) := by omega
  obtain ⟨z, hz⟩ : ∃ z, w.heap.size = z := ⟨_, rfl⟩
  have Hr := Lib.hid hr
  have Hc := Lib.hid (And.intro (show n ≤ c by omega) hc.2)
  have Hcm := Lib.hid hc.2
  clear ed hc w2
  go_enter Try.func12, Try.ntmps12
  go_wp2_with fail
  have hbW : Below w.heap.size w ((w.alloc (.cells #[.int .u32 src, .int .u32 dst] 55)).alloc (.cells #[.int .u16 sp, .int .u16 dp, .slice A n c] 57)) := ((Below.refl _ _).alloc (Nat.le_refl _) _).alloc (by simp) _
  have hk0 : ((w.alloc (.cells #[.int .u32 src, .int .u32 dst] 55)).alloc (.cells #[.int .u16 sp, .int .u16 dp, .slice A n c] 57)).heap[z]? = some (.cells #[.int .u32 src, .int .u32 dst] 55 (0, 0)) := by
    rw [Below.heap_alloc _ _ _ (by simp [hz]), ← hz]; exact heap_alloc_new w _
  have hk1 : ((w.alloc (.cells #[.int .u32 src, .int .u32 dst] 55)).alloc (.cells #[.int .u16 sp, .int .u16 dp, .slice A n c] 57)).heap[z + 1]? = some (.cells #[.int .u16 sp, .int .u16 dp, .slice A n c] 57 (0, 0)) := by
    rw [← hz]; simpa using heap_alloc_new (w.alloc (.cells #[.int .u32 src, .int .u32 dst] 55)) (.cells #[.int .u16 sp, .int .u16 dp, .slice A n c] 57)
  obtain ⟨W1, eW⟩ : ∃ W1, (w.alloc (.cells #[.int .u32 src, .int .u32 dst] 55)).alloc (.cells #[.int .u16 sp, .int .u16 dp, .slice A n c] 57) = W1 := ⟨_, rfl⟩
  rw [eW] at hbW hk0 hk1 ⊢
  have HK := Lib.hid (show ∀ w', Below W1.heap.size W1 w' → (w'.cell? ⟨z, 0, none⟩ = some (.int .u32 src) ∧ w'.cell? ⟨z, 1, none⟩ = some (.int .u32 dst)) ∧ (w'.cell? ⟨z + 1, 0, none⟩ = some (.int .u16 sp) ∧ w'.cell? ⟨z + 1, 1, none⟩ = some (.int .u16 dp) ∧ w'.cell? ⟨z + 1, 2, none⟩ = some (.slice A n c)) from
    fun w' hb => ⟨⟨by rw [blk_cell (blk_on hk0 hb)]; rfl, by rw [blk_cell (blk_on hk0 hb)]; rfl⟩, cells3 (blk_on hk1 hb)⟩)
  have HbW := Lib.hid hbW
  have Hr := Lib.hid (Hr.out.below hbW)
  have hld : d.length = n := Hr.out.len
  have hl2 : d.length ≤ 1472 := by omega
  have hrn := restU_nn (s := ⟨sp, dp, d⟩) ⟨hnum.sp, hnum.dp⟩ hl2 Hr.out.byte
  have E1 := Lib.hid (show errU dst src (dgB src dst ⟨sp, dp, d⟩) = 0 by rw [err_dgB src dst dst src _ hs hd hd hs hl2 hrn, if_pos (by omega)])
  have E2 := Lib.hid (show errU (src / 65536 * 65536 + word) dst (dgB src dst ⟨sp, dp, d⟩) = if (src % 65536 - word) % 65535 = 0 then 0 else 20 by
    rw [err_dgB src dst (src / 65536 * 65536 + word) dst _ hs hd (by omega) hd hl2 hrn]
    have e : (src / 65536 + src % 65536 + (dst / 65536 + dst % 65536) - ((src / 65536 * 65536 + word) / 65536 + (src / 65536 * 65536 + word) % 65536 + (dst / 65536 + dst % 65536))) % 65535 = (src % 65536 - word) % 65535 := by congr 1; omega
    rw [e])
  have E3 := Lib.hid (dgOf_dgB src dst ⟨sp, dp, d⟩)
  have hbL := dgB_bytes src dst (s := ⟨sp, dp, d⟩) ⟨hnum.sp, hnum.dp⟩ hl2 Hr.out.byte
  obtain ⟨L, eL⟩ : ∃ L, dgB src dst ⟨sp, dp, d⟩ = L := ⟨_, rfl⟩
  rw [eL] at E1 E2 E3 hbL
  have HbL := Lib.hid hbL
  have Hld := Lib.hid hld
  have HeL := Lib.hid eL
  have Hn1 := Lib.hid hn1472
  have Hnum := Lib.hid (show DgNum ⟨sp, dp, d⟩ from ⟨hnum.sp, hnum.dp⟩)
  have hand := and_high src hs
  have hor := or_low (src / 65536) word (by omega) (by omega)
  have hwr := wrap_u16 src
  clear hbW hk0 hk1 eW hld hl2 hrn hbL eL hnum hn1472 hmin
  refine (uput_told src dst sp dp d A n c (8 + n) L _ Hnum.out Hc.out Hr.out (by have := Hn1.out; omega) rfl HeL.out).mono ?_
  rintro e w3 ⟨A3, c3, rfl, k3, m3, ho3, hb3⟩
  have Hb := Lib.hid hb3
  have Hrl := Lib.hid (ho3.rd HbL.out)
  have Hcl := Lib.hid (And.intro k3 m3)
  have Hr := Lib.hid (Hr.out.below hb3)
  obtain ⟨⟨f0, f1⟩, q0, q1, q2⟩ := HK.out _ Hb.out
  clear ho3 hb3 k3 m3
  go_wp2_with fail
  refine (uparse_told dst src A3 (8 + n) c3 n L sp dp d _ Hcl.out Hrl.out E1.out E3.out Hld.out).mono ?_
  rintro e w4 ⟨A4, c4, rfl, k4, m4, ho4, hb4⟩
  have Hr4 := Lib.hid (ho4.rd Hr.out.byte)
  have Hb := Lib.hid (below_trans Hb.out hb4)
  have Hrl := Lib.hid (Hrl.out.below hb4)
  have Hr := Lib.hid (Hr.out.below hb4)
  clear f0 f1 q0 q1 q2 ho4 hb4
  have hba := (Below.refl w4.heap.size w4).alloc (Nat.le_refl _) (.cells #[.int .u16 sp, .int .u16 dp, .slice A4 n c4] 57)
  have Hb := Lib.hid (below_trans Hb.out hba)
  have Hrl := Lib.hid (Hrl.out.below hba)
  have Hr := Lib.hid (Hr.out.below hba)
  have Hr4 := Lib.hid (Hr4.out.below hba)
  obtain ⟨⟨f0, f1⟩, q0, q1, q2⟩ := HK.out _ Hb.out
  clear hba
  go_wp2_with fail
  refine (usame_any ⟨sp, dp, d⟩ ⟨sp, dp, d⟩ A n c A4 n c4 _ true Hr.out Hr4.out (dgSame_self _)).mono ?_
  rintro e w5 ⟨rfl, hb5⟩
  have Hb := Lib.hid (below_trans Hb.out hb5)
  have Hrl := Lib.hid (Hrl.out.below hb5)
  clear f0 f1 q0 q1 q2 hb5 Hr Hr4 E1 E3
  obtain ⟨⟨f0, f1⟩, q0, q1, q2⟩ := HK.out _ Hb.out
  go_wp2_with fail
  obtain ⟨was, ewas⟩ : ∃ was, src % 65536 = was := ⟨_, rfl⟩
  have hwas : 0 ≤ was ∧ was < 65536 := by omega
  rw [ewas] at E2 hwr
  obtain ⟨hwas0, hwas1⟩ := hwas
  clear ewas hand hor HeL Hnum Hld HbL Hn1
  by_cases h1 : was = word
  · have b1 : (was == word) = true := by simpa using h1
    have E2 := Lib.hid (show errU (src / 65536 * 65536 + word) dst L = 0 by rw [E2.out]; split <;> omega)
    clear h1
    refine (uparse_x (src / 65536 * 65536 + word) dst A3 (8 + n) c3 L 0 _ Hcl.out Hrl.out E2.out).mono ?_
    rintro e w6 ⟨a6, b6, A6, n6, m6, rfl, hb6⟩
    have Hb := Lib.hid (below_trans Hb.out (below_trans hb6 ((Below.refl w6.heap.size w6).alloc (Nat.le_refl _) (.cells #[.int .u16 a6, .int .u16 b6, .slice A6 n6 m6] 57))))
    clear f0 f1 q0 q1 q2 hb6 Hrl Hcl E2
    obtain ⟨⟨f0, f1⟩, q0, q1, q2⟩ := HK.out _ Hb.out
    go_wp2_with fail
    refine (uawake_any _).mono ?_
    rintro e w7 ⟨rfl, hb7⟩
    have Hb := Lib.hid (below_trans HbW.out (below_trans Hb.out hb7))
    clear hb7
    go_wp2_with fail
    go_ret
    exact ⟨rfl, Hb.out⟩
  have b1 : (was == word) = false := by simpa using h1
  by_cases h2 : was = 0
  · have b2 : (was == 0) = true := by simpa using h2
    by_cases h3 : word = 65535
    · have b3 : (word == 65535) = true := by simpa using h3
      have E2 := Lib.hid (show errU (src / 65536 * 65536 + word) dst L = 0 by rw [E2.out]; split <;> omega)
      clear h1 h2 h3
      refine (uparse_x (src / 65536 * 65536 + word) dst A3 (8 + n) c3 L 0 _ Hcl.out Hrl.out E2.out).mono ?_
      rintro e w6 ⟨a6, b6, A6, n6, m6, rfl, hb6⟩
      have Hb := Lib.hid (below_trans Hb.out (below_trans hb6 ((Below.refl w6.heap.size w6).alloc (Nat.le_refl _) (.cells #[.int .u16 a6, .int .u16 b6, .slice A6 n6 m6] 57))))
      clear f0 f1 q0 q1 q2 hb6 Hrl Hcl E2
      obtain ⟨⟨f0, f1⟩, q0, q1, q2⟩ := HK.out _ Hb.out
      go_wp2_with fail
      refine (uawake_any _).mono ?_
      rintro e w7 ⟨rfl, hb7⟩
      have Hb := Lib.hid (below_trans HbW.out (below_trans Hb.out hb7))
      clear hb7
      go_wp2_with fail
      go_ret
      exact ⟨rfl, Hb.out⟩
    · have b3 : (word == 65535) = false := by simpa using h3
      have b4 : (was == 65535) = false := by simp; omega
      have E2 := Lib.hid (show errU (src / 65536 * 65536 + word) dst L = 20 by rw [E2.out]; split <;> omega)
      clear h1 h2 h3
      refine (uparse_x (src / 65536 * 65536 + word) dst A3 (8 + n) c3 L 20 _ Hcl.out Hrl.out E2.out).mono ?_
      rintro e w6 ⟨a6, b6, A6, n6, m6, rfl, hb6⟩
      have Hb := Lib.hid (below_trans Hb.out (below_trans hb6 ((Below.refl w6.heap.size w6).alloc (Nat.le_refl _) (.cells #[.int .u16 a6, .int .u16 b6, .slice A6 n6 m6] 57))))
      clear f0 f1 q0 q1 q2 hb6 Hrl Hcl E2
      obtain ⟨⟨f0, f1⟩, q0, q1, q2⟩ := HK.out _ Hb.out
      go_wp2_with fail
      refine (uawake_any _).mono ?_
      rintro e w7 ⟨rfl, hb7⟩
      have Hb := Lib.hid (below_trans HbW.out (below_trans Hb.out hb7))
      clear hb7
      go_wp2_with fail
      go_ret
      exact ⟨rfl, Hb.out⟩
  have b2 : (was == 0) = false := by simpa using h2
  by_cases h4 : was = 65535
  · have b4 : (was == 65535) = true := by simpa using h4
    by_cases h5 : word = 0
    · have b5 : (word == 0) = true := by simpa using h5
      have E2 := Lib.hid (show errU (src / 65536 * 65536 + word) dst L = 0 by rw [E2.out]; split <;> omega)
      clear h1 h2 h4 h5
      refine (uparse_x (src / 65536 * 65536 + word) dst A3 (8 + n) c3 L 0 _ Hcl.out Hrl.out E2.out).mono ?_
      rintro e w6 ⟨a6, b6, A6, n6, m6, rfl, hb6⟩
      have Hb := Lib.hid (below_trans Hb.out (below_trans hb6 ((Below.refl w6.heap.size w6).alloc (Nat.le_refl _) (.cells #[.int .u16 a6, .int .u16 b6, .slice A6 n6 m6] 57))))
      clear f0 f1 q0 q1 q2 hb6 Hrl Hcl E2
      obtain ⟨⟨f0, f1⟩, q0, q1, q2⟩ := HK.out _ Hb.out
      go_wp2_with fail
      refine (uawake_any _).mono ?_
      rintro e w7 ⟨rfl, hb7⟩
      have Hb := Lib.hid (below_trans HbW.out (below_trans Hb.out hb7))
      clear hb7
      go_wp2_with fail
      go_ret
      exact ⟨rfl, Hb.out⟩
    · have b5 : (word == 0) = false := by simpa using h5
      have E2 := Lib.hid (show errU (src / 65536 * 65536 + word) dst L = 20 by rw [E2.out]; split <;> omega)
      clear h1 h2 h4 h5
      refine (uparse_x (src / 65536 * 65536 + word) dst A3 (8 + n) c3 L 20 _ Hcl.out Hrl.out E2.out).mono ?_
      rintro e w6 ⟨a6, b6, A6, n6, m6, rfl, hb6⟩
      have Hb := Lib.hid (below_trans Hb.out (below_trans hb6 ((Below.refl w6.heap.size w6).alloc (Nat.le_refl _) (.cells #[.int .u16 a6, .int .u16 b6, .slice A6 n6 m6] 57))))
      clear f0 f1 q0 q1 q2 hb6 Hrl Hcl E2
      obtain ⟨⟨f0, f1⟩, q0, q1, q2⟩ := HK.out _ Hb.out
      go_wp2_with fail
      refine (uawake_any _).mono ?_
      rintro e w7 ⟨rfl, hb7⟩
      have Hb := Lib.hid (below_trans HbW.out (below_trans Hb.out hb7))
      clear hb7
      go_wp2_with fail
      go_ret
      exact ⟨rfl, Hb.out⟩
  · have b4 : (was == 65535) = false := by simpa using h4
    have E2 := Lib.hid (show errU (src / 65536 * 65536 + word) dst L = 20 by rw [E2.out]; split <;> omega)
    clear h1 h2 h4
    refine (uparse_x (src / 65536 * 65536 + word) dst A3 (8 + n) c3 L 20 _ Hcl.out Hrl.out E2.out).mono ?_
    rintro e w6 ⟨a6, b6, A6, n6, m6, rfl, hb6⟩
    have Hb := Lib.hid (below_trans Hb.out (below_trans hb6 ((Below.refl w6.heap.size w6).alloc (Nat.le_refl _) (.cells #[.int .u16 a6, .int .u16 b6, .slice A6 n6 m6] 57))))
    clear f0 f1 q0 q1 q2 hb6 Hrl Hcl E2
    obtain ⟨⟨f0, f1⟩, q0, q1, q2⟩ := HK.out _ Hb.out
    go_wp2_with fail
    refine (uawake_any _).mono ?_
    rintro e w7 ⟨rfl, hb7⟩
    have Hb := Lib.hid (below_trans HbW.out (below_trans Hb.out hb7))
    clear hb7
    go_wp2_with fail
    go_ret
    exact ⟨rfl, Hb.out⟩
theorem own : ownKnob Try.prog.godebug = none := by kernel_rfl
theorem laidOut : laidOutB Try.prog = true := by kernel_rfl

set_option maxRecDepth 100000 in
theorem lifted (os : Os) (started : os.Started) (H : Type) (enc : TypeId × Value → H) :
    ReturnsInHanded {} Try.checked os 12 .any (Rows.udpEndsSpec.pre6 enc Try.prog Try.f12 Rows.udpEndsRow.domain false) (Rows.udpEndsSpec.post enc Try.prog Try.f12 false true false false) := by
  refine returnsInHanded_of_change (C := Try.checked) own started (by kernel_rfl) Try.func12
    (ChangeSpec.witness6 (enc := enc) (C := Try.checked) false ⟨#[], #[(.agg #[.int .u32 0, .int .u32 0]), (.agg #[.int .u16 0, .int .u16 0, .slice none 0 0]), .int .u16 0], []⟩ 8 (by kernel_rfl) (by kernel_rfl) (by kernel_rfl) (by kernel_rfl)) ?_
  intro W base args ds gs before hval0 hW hcnd _
  have hval : ∀ (j : Nat) t v, Try.f12.params[j]? = some t → args[j]? = some v → Value.okWide Try.prog W .any base t v := hval0
  have hW' := hW
  obtain ⟨p, q, hA0, hV, rfl, hfz, hnd⟩ := hW
  have hA : DataW.TrodAll enc Try.prog W 0 (fun _ => true) true Try.f12.params.toList args.toList ds p := hA0
  rw [Try.params12] at hA hval
  obtain ⟨v0, vs0, d0, ds0, p0, q0, hargs, rfl, rfl, h0, r0⟩ := trodAll_cons hA
  obtain ⟨v1, vs1, d1, ds1, p1, q1, rfl, rfl, rfl, h1, r1⟩ := trodAll_cons r0
  obtain ⟨v2, vs2, d2, ds2, p2, q2, rfl, rfl, rfl, h2, r2⟩ := trodAll_cons r1
  obtain ⟨rfl, rfl, rfl⟩ := trodAll_nil r2
  obtain rfl : args = #[v0, v1, v2] := by cases args; simp_all
  obtain ⟨rfl, rfl⟩ := trodVars_none hV
  have k0 := ends_open (hval 0 55 v0 rfl rfl) h0
  have lt0 : ∀ x ∈ p0, x.block < W.heap.size := by obtain ⟨m, hm⟩ := h0; exact DataW.trod_lt m _ _ _ hm
  have k1 := dg_open (hval 1 57 v1 rfl rfl) h1
  have lt1 : ∀ x ∈ p1, x.block < W.heap.size := by obtain ⟨m, hm⟩ := h1; exact DataW.trod_lt m _ _ _ hm
  obtain ⟨a2, rfl, rfl, rfl, w2⟩ := open_int Try.underlying23 (hval 2 23 v2 rfl rfl) h2
  clear hA0 hval0
  refine (walk W v0 k0 v1 k1 a2 w2).mono fun e W' ⟨he, bel⟩ => ?_
  subst he
  exact ⟨_, rfl, _, _, _, [], _, [], hW', trodAll_mk1 (shut_bool Try.underlying4 _), (trodAll_cons_mk (Below.trod laidOut (by kernel_rfl) (of_decide_eq_true (by kernel_rfl)) h0 bel lt0) (trodAll_cons_mk (Below.trod laidOut (by kernel_rfl) (of_decide_eq_true (by kernel_rfl)) h1 bel lt1) (trodAll_cons_mk (shut_int Try.underlying23 w2) trodAll_mk0))), rfl, bel.frame _, fun h => by cases h⟩

theorem over : Rows.udpEndsRow.holds Try.pinned (OpenSpec.ofChange Rows.udpEndsSpec) :=
  OpenClaim.holds_of_wide 12 Try.f12 rfl rfl rfl rfl rfl rfl rfl ⟨rfl, rfl, rfl, rfl, rfl⟩ rfl rfl rfl rfl rfl (by kernel_rfl) Try.func12 (by kernel_rfl)
    (of_decide_eq_true (by kernel_rfl)) (by unfold Func.isWrapper; first | (rw [if_pos (by decide +kernel)]; kernel_rfl) | (rw [if_neg (by decide +kernel)]; exact ⟨rfl, rfl⟩))
    (fun os started H enc _ => lifted os started H enc)

/-- The statement. -/
theorem proved : Rows.UdpEndsSaid := over
#print axioms proved
end Go.Proofs.Ytoblllgefmajiaa.udpEnds
