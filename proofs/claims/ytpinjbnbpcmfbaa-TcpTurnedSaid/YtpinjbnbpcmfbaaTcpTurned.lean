/-
  TcpTurned holds: with one bit turned, a segment's bytes are no segment.
-/
import Derived.Test.YtpinjbnbpcmfbaaTcpPlain
import Derived.Test.YtpinjbnbpcmfbaaTcpWakes
import Derived.Test.YtpinjbnbpcmfbaaTcpOpen
import Derived.RegionTactic
import Derived.BigRegion
namespace Go.Proofs.Ytpinjbnbpcmfbaa.tcpTurned
set_option maxRecDepth 10000
open Go.ChangeShapes Go.WideShapes Go.ChangeAt Go.RowKit
set_option linter.unusedVariables false
set_option linter.unusedSimpArgs false

theorem xor_ne (x p : Int) (hx : 0 ≤ x ∧ x < 256) (hp : 0 < p ∧ p < 256) : bits .xor .u8 x p ≠ x := by
  obtain ⟨a, rfl⟩ := Int.eq_ofNat_of_zero_le hx.1
  obtain ⟨b, rfl⟩ := Int.eq_ofNat_of_zero_le (Int.le_of_lt hp.1)
  have ha : (BitVec.ofInt 8 (a : Int)).toNat = a := by rw [BitVec.ofInt_natCast, BitVec.toNat_ofNat]; exact Nat.mod_eq_of_lt (by omega)
  have hb : (BitVec.ofInt 8 (b : Int)).toNat = b := by rw [BitVec.ofInt_natCast, BitVec.toNat_ofNat]; exact Nat.mod_eq_of_lt (by omega)
  show IntKind.u8.wrap ((BitVec.ofInt 8 (a : Int) ^^^ BitVec.ofInt 8 (b : Int)).toNat : Int) ≠ _
  have hlt : (BitVec.ofInt 8 (a : Int) ^^^ BitVec.ofInt 8 (b : Int)).toNat < 256 := (BitVec.ofInt 8 (a : Int) ^^^ BitVec.ofInt 8 (b : Int)).isLt
  have hwr : ∀ n : Nat, n < 256 → IntKind.u8.wrap (n : Int) = (n : Int) := fun n hn => by simp [IntKind.wrap, IntKind.bits, IntKind.signed]; omega
  rw [show IntKind.u8.wrap ((BitVec.ofInt 8 (a : Int) ^^^ BitVec.ofInt 8 (b : Int)).toNat : Int) = ((BitVec.ofInt 8 (a : Int) ^^^ BitVec.ofInt 8 (b : Int)).toNat : Int) from hwr _ hlt]
  rw [BitVec.toNat_xor, ha, hb]
  intro h
  have h2 : a ^^^ b = a := by exact_mod_cast h
  have h3 : a ^^^ (a ^^^ b) = a ^^^ a := by rw [h2]
  rw [← Nat.xor_assoc, Nat.xor_self, Nat.zero_xor] at h3
  omega

theorem zero_rd (w : World) : SegRd w zeroSeg none 0 0 [] none 0 0 := ⟨⟨by decide, by decide, by decide, by decide, by decide, by decide, by decide⟩, ⟨Nat.le_refl _, by simp [maxLen]⟩, ⟨Nat.le_refl _, by simp [maxLen]⟩, RdO.nil _ _, trivial, Rd.nil _ _⟩

set_option maxHeartbeats 4000000 in
theorem walk (w : World) (src : Int) (w0 : (Lit.int .u32 src).wf = true) (dst : Int) (w1 : (Lit.int .u32 dst).wf = true) (v : Value) (hv : SegAt 140737488355328 140737488355328 w v) (bit : Int) (w2 : (Lit.int .u16 bit).wf = true) :
    Calls Try.prog 5 #[.int .u32 src, .int .u32 dst, v, .int .u16 bit] w fun e w' => e = .returned (.bool true) ∧ Below w.heap.size w w' := by
  obtain ⟨s, AO, nO, cO, oss, AD, nD, cD, rfl, hs, hnO, hnD⟩ := hv
  obtain ⟨hb0, hb1⟩ := bounds_u16 w2
  have hba : Below w.heap.size w (w.alloc (.cells #[.int .u16 s.sp, .int .u16 s.dp, .int .u32 s.sq, .int .u32 s.ak, .int .u8 s.fl, .int .u16 s.wn, .int .u16 s.ug, .slice AO nO cO, .slice AD nD cD] 27)) := (Below.refl _ _).alloc (Nat.le_refl _) _
  have Hba := Lib.hid hba
  have Hs := Lib.hid (hs.below hba)
  clear hs hba w0 w1 w2
  by_cases h0 : errS s = 0
  case neg =>
    obtain ⟨x, ex⟩ : ∃ x, errS s = x := ⟨_, rfl⟩
    have Hp := Lib.hid (put6_err src dst s AO nO cO oss AD nD cD _ x hnO hnD Hs.out ex (by omega))
    have hx : (x == 0) = false := by simp; omega
    have hx2 : (x != 0) = true := by simp; omega
    obtain ⟨sp, dp, sq, ak, fl, wn, ug, os, d⟩ := s
    simp only at Hp Hba ⊢
    clear h0 ex hb0 hb1
    go_enter Try.func5, Try.ntmps5
    go_wp2_with fail
    refine Hp.out.mono ?_
    rintro e w1 ⟨rfl, hb1⟩
    have Hb1 := Lib.hid (below_trans Hba.out hb1)
    clear hb1
    go_wp2_with fail
    refine (wakes_any _).mono ?_
    rintro e w2 ⟨rfl, hb2⟩
    have Hb2 := Lib.hid (below_trans Hb1.out hb2)
    clear hb2
    go_wp2_with fail
    go_ret
    exact ⟨rfl, Hb2.out⟩
  have hg : Good s := ⟨Hs.out.num, Hs.out.os.byte, Hs.out.d.byte, h0⟩
  obtain ⟨L, eL⟩ : ∃ L, segB src dst s = L := ⟨_, rfl⟩
  obtain ⟨m, em⟩ : ∃ m, lenB s = m := ⟨_, rfl⟩
  have Hp := Lib.hid (put6_told src dst s AO nO cO oss AD nD cD _ L m hnO hnD Hs.out h0 em eL)
  have hbL := hg.bytes src dst
  have hsum := hg.sum src dst
  have hlen := segB_len src dst s
  rw [eL] at hbL hsum hlen
  rw [em] at hsum hlen
  rw [← hlen] at hsum
  have hm20 : 20 ≤ m := by rw [← em]; unfold lenB; omega
  have hm1480 : m ≤ 1480 := by rw [← em]; exact hg.may.2.2
  obtain ⟨K, hK⟩ : ∃ K : Nat, bit % (8 * (m : Int)) = (K : Int) := ⟨(bit % (8 * (m : Int))).toNat, by have := Int.emod_nonneg bit (show 8 * (m : Int) ≠ 0 by omega); omega⟩
  have hKm : K < 8 * m := by have := Int.emod_lt_of_pos bit (show (0 : Int) < 8 * (m : Int) by omega); omega
  obtain ⟨j, ej⟩ : ∃ j : Nat, (K : Int) / 8 = (j : Int) := ⟨K / 8, by omega⟩
  have hj : j < m := by omega
  have hji : (j : Int) < (m : Int) := by omega
  obtain ⟨i, ei⟩ : ∃ i : Nat, (K : Int) % 8 = (i : Int) := ⟨K % 8, by omega⟩
  have hi : i < 8 := by omega
  have HbL := Lib.hid hbL
  have Hsum := Lib.hid hsum
  have Hlen := Lib.hid hlen
  have hmi : 8 * (m : Int) ≤ 11840 := by omega
  have hm0 : 0 < (m : Int) := by omega
  have hmz : ((m : Int) == 0) = false := by simp; omega
  have HK := Lib.hid hK
  have Ej := Lib.hid ej
  have Ei := Lib.hid ei
  obtain ⟨sp, dp, sq, ak, fl, wn, ug, os, d⟩ := s
  simp only at Hp Hba ⊢
  clear h0 hg eL em hbL hsum hlen hKm hK ej ei
  go_enter Try.func5, Try.ntmps5
  go_wp2_with fail
  refine Hp.out.mono ?_
  rintro e w1 ⟨A1, c1, rfl, k1, m1, ho1, hb1⟩
  obtain ⟨g1, rfl, hg1, hg2⟩ := ho1.addr (by omega)
  have Ho1 := Lib.hid ho1
  have Hb1 := Lib.hid (below_trans Hba.out hb1)
  have Hg1 := Lib.hid hg1
  have hKb := HK.out
  clear ho1 hb1 hg1
  go_wp2_with fail
  clear hKb
  simp only [HK.out]
  have hq1 : (K : Int).tdiv 8 = (j : Int) := by rw [Int.tdiv_eq_ediv_of_nonneg (by omega)]; exact Ej.out
  have hq2 : (K : Int).tmod 8 = (i : Int) := by rw [Int.tmod_eq_emod_of_nonneg (by omega)]; exact Ei.out
  obtain ⟨x, ex⟩ : ∃ x, L.getD j 0 = x := ⟨_, rfl⟩
  obtain ⟨hix, hcx, hfx⟩ := own_index Ho1.out j (j : Int) hj rfl
  have hx := getD_byte HbL.out j
  rw [ex] at hcx hx
  have Ex := Lib.hid ex
  have hx0 := hx.1
  have hx1 := hx.2
  clear ex hx
  have hii : (i : Int) < 8 := by omega
  have hp128 : 0 < (128 : Int) / 2 ^ i ∧ (128 : Int) / 2 ^ i < 256 := by
    have : i = 0 ∨ i = 1 ∨ i = 2 ∨ i = 3 ∨ i = 4 ∨ i = 5 ∨ i = 6 ∨ i = 7 := by omega
    rcases this with rfl | rfl | rfl | rfl | rfl | rfl | rfl | rfl <;> decide
  have Hy := Lib.hid (And.intro (And.intro (bits_lo_u8 .xor x (128 / 2 ^ i)) (show bits .xor .u8 x (128 / 2 ^ i) < 256 by have := bits_hi_u8 .xor x (128 / 2 ^ i); omega)) (xor_ne x (128 / 2 ^ i) ⟨hx0, hx1⟩ hp128))
  clear hp128
  go_region
  obtain ⟨y, ey⟩ : ∃ y, bits .xor .u8 x (128 / 2 ^ i) = y := ⟨_, rfl⟩
  rw [ey] at Hy
  simp only [ey]
  have hset : OwnB (w1.setCell ⟨g1, j, none⟩ (.int .u8 y)) (w.alloc (.cells #[.int .u16 sp, .int .u16 dp, .int .u32 sq, .int .u32 ak, .int .u8 fl, .int .u16 wn, .int .u16 ug, .slice AO nO cO, .slice AD nD cD] 27)).heap.size (some ⟨g1, 0, none⟩) m c1 (L.set j y) := Ho1.out.set_ j y
  have hby : ∀ x ∈ L.set j y, 0 ≤ x ∧ x < 256 := fun x hx => by
    rcases List.mem_or_eq_of_mem_set hx with h1 | rfl
    · exact HbL.out x h1
    · exact Hy.out.1
  obtain ⟨er, eer⟩ : ∃ er, errSeg src dst (L.set j y) = er := ⟨_, rfl⟩
  have hne : er ≠ 0 := by
    rw [← eer]
    exact turned_err HbL.out Hsum.out j (by rw [Hlen.out]; exact hj) y Hy.out.1 (by rw [Ex.out]; exact Hy.out.2)
  have Hrd := Lib.hid ((hset.rd hby).below (Below.drew (Below.refl _ _)))
  have Hb2 := Lib.hid (show Below w.heap.size w (w1.setCell ⟨g1, j, none⟩ (.int .u8 y)).drew from Below.drew (Hb1.out.setCell (by have h1 := Hg1.out; simp at h1; show w.heap.size ≤ g1; omega) _))
  have hne1 : (er == 0) = false := by simpa using hne
  have hne2 : (er != 0) = true := by simpa using hne
  have Hne := Lib.hid hne
  have Eer := Lib.hid eer
  have Hc1 := Lib.hid (And.intro k1 m1)
  clear hset hby ey eer hne hcx hfx hix hq1 hq2 Hb1 Ho1 Hp hx0 hx1
  go_wp2_with fail
  refine (tparse_err src dst (some ⟨g1, 0, none⟩) m c1 (L.set j y) er _ Hc1.out Hrd.out Eer.out Hne.out).mono ?_
  rintro e w3 ⟨rfl, hb3⟩
  have Hb3 := Lib.hid (below_trans Hb2.out hb3)
  clear hb3
  go_wp2_with fail
  refine (same6_any zeroSeg zeroSeg none none 0 0 0 0 [] [] none none 0 0 0 0 _ (by omega) ?_ ?_).mono ?_
  · exact zero_rd _
  · exact zero_rd _
  rw [show segSame zeroSeg zeroSeg = true by decide +kernel]
  rintro e w4 ⟨rfl, hb4⟩
  have Hb4 := Lib.hid (below_trans Hb3.out (below_trans ((Below.refl _ _).alloc (Nat.le_refl _) _) hb4))
  clear hb4
  go_wp2_with fail
  refine (wakes_any _).mono ?_
  rintro e w5 ⟨rfl, hb5⟩
  have Hb5 := Lib.hid (below_trans Hb4.out hb5)
  clear hb5
  go_wp2_with fail
  go_ret
  exact ⟨rfl, Hb5.out⟩
theorem own : ownKnob Try.prog.godebug = none := by kernel_rfl
theorem laidOut : laidOutB Try.prog = true := by kernel_rfl

set_option maxRecDepth 100000 in
theorem lifted (os : Os) (started : os.Started) (H : Type) (enc : TypeId × Value → H) :
    ReturnsInHanded {} Try.checked os 5 .any (Rows.tcpTurnedSpec.pre6 enc Try.prog Try.f5 Rows.tcpTurnedRow.domain false) (Rows.tcpTurnedSpec.post enc Try.prog Try.f5 false true false false) := by
  refine returnsInHanded_of_change_sized (C := Try.checked) own started (by kernel_rfl) Try.func5
    (ChangeSpec.witness6 (enc := enc) (C := Try.checked) false ⟨#[], #[.int .u32 0, .int .u32 0, (.agg #[.int .u16 0, .int .u16 0, .int .u32 0, .int .u32 0, .int .u8 0, .int .u16 0, .int .u16 0, .slice none 0 0, .slice none 0 0]), .int .u16 0], []⟩ 8 (by kernel_rfl) (by kernel_rfl) (by kernel_rfl) (by kernel_rfl)) ?_
  intro W base args ds gs before hval0 hW hcnd hsz0 _
  have hsz : (DataW.weightsEach Try.prog (Try.f5.params.toList ++ Rows.tcpTurnedSpec.plain.varTypes Try.prog) (ds ++ gs)).all (· ≤ reachBytes) = true := hsz0
  have hval : ∀ (j : Nat) t v, Try.f5.params[j]? = some t → args[j]? = some v → Value.okWide Try.prog W .any base t v := hval0
  have hW' := hW
  obtain ⟨p, q, hA0, hV, rfl, hfz, hnd⟩ := hW
  have hA : DataW.TrodAll enc Try.prog W 0 (fun _ => true) true Try.f5.params.toList args.toList ds p := hA0
  rw [Try.params5] at hA hval hsz
  obtain ⟨v0, vs0, d0, ds0, p0, q0, hargs, rfl, rfl, h0, r0⟩ := trodAll_cons hA
  obtain ⟨v1, vs1, d1, ds1, p1, q1, rfl, rfl, rfl, h1, r1⟩ := trodAll_cons r0
  obtain ⟨v2, vs2, d2, ds2, p2, q2, rfl, rfl, rfl, h2, r2⟩ := trodAll_cons r1
  obtain ⟨v3, vs3, d3, ds3, p3, q3, rfl, rfl, rfl, h3, r3⟩ := trodAll_cons r2
  obtain ⟨rfl, rfl, rfl⟩ := trodAll_nil r3
  obtain rfl : args = #[v0, v1, v2, v3] := by cases args; simp_all
  obtain ⟨rfl, rfl⟩ := trodVars_none hV
  obtain ⟨a0, rfl, rfl, rfl, w0⟩ := open_int Try.underlying22 (hval 0 22 v0 rfl rfl) h0
  obtain ⟨a1, rfl, rfl, rfl, w1⟩ := open_int Try.underlying22 (hval 1 22 v1 rfl rfl) h1
  have k2 := seg_open (hval 2 27 v2 rfl rfl) h2 (fun k hk => by have := List.all_eq_true.1 hsz k (DataW.weights_mem_each (j := 2) (t := 27) rfl rfl k hk); simpa using this)
  have lt2 : ∀ x ∈ p2, x.block < W.heap.size := by obtain ⟨m, hm⟩ := h2; exact DataW.trod_lt m _ _ _ hm
  obtain ⟨a3, rfl, rfl, rfl, w3⟩ := open_int Try.underlying23 (hval 3 23 v3 rfl rfl) h3
  clear hA0 hval0
  refine (walk W a0 w0 a1 w1 v2 k2 a3 w3).mono fun e W' ⟨he, bel⟩ => ?_
  subst he
  exact ⟨_, rfl, _, _, _, [], _, [], hW', trodAll_mk1 (shut_bool Try.underlying4 _), (trodAll_cons_mk (shut_int Try.underlying22 w0) (trodAll_cons_mk (shut_int Try.underlying22 w1) (trodAll_cons_mk (Below.trod laidOut (by kernel_rfl) (of_decide_eq_true (by kernel_rfl)) h2 bel lt2) (trodAll_cons_mk (shut_int Try.underlying23 w3) trodAll_mk0)))), rfl, bel.frame _, fun h => by cases h⟩

theorem over : Rows.tcpTurnedRow.holds Try.pinned (OpenSpec.ofChange Rows.tcpTurnedSpec) :=
  OpenClaim.holds_of_wide 5 Try.f5 rfl rfl rfl rfl rfl rfl rfl ⟨rfl, rfl, rfl, rfl, rfl⟩ rfl rfl rfl rfl rfl (by kernel_rfl) Try.func5 (by kernel_rfl)
    (of_decide_eq_true (by kernel_rfl)) (by unfold Func.isWrapper; first | (rw [if_pos (by decide +kernel)]; kernel_rfl) | (rw [if_neg (by decide +kernel)]; exact ⟨rfl, rfl⟩))
    (fun os started H enc _ => lifted os started H enc)

/-- The statement. -/
theorem proved : Rows.TcpTurnedSaid := over
#print axioms proved
end Go.Proofs.Ytpinjbnbpcmfbaa.tcpTurned
