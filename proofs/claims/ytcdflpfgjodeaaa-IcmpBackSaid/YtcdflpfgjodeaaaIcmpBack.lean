/-
  IcmpBack holds: a message goes as bytes and comes back, and they are right; bytes that are a message are that one's, but for the field; with one bit turned they are none. For any message, any bytes, any bit.
-/
import Derived.Test.YtcdflpfgjodeaaaIcmpLaw
import Derived.Test.YtcdflpfgjodeaaaIcmpOpen
import Derived.RegionTactic
import Derived.BigRegion
import Derived.Deep.CutRange
import Derived.Deep.RegionHeld3
import Derived.Laws.BitsLemmas
namespace Go.Proofs.Ytcdflpfgjodeaaa.icmpBack
set_option maxRecDepth 10000
open Go.ChangeShapes Go.WideShapes Go.ChangeAt Go.RowKit
set_option linter.unusedVariables false
set_option linter.unusedSimpArgs false

theorem xor_ne (x p : Int) (hx : 0 ≤ x ∧ x < 256) (hp : 0 < p ∧ p < 256) : bits .xor .u8 x p ≠ x := by
  obtain ⟨a, rfl⟩ := Int.eq_ofNat_of_zero_le hx.1
  obtain ⟨b, rfl⟩ := Int.eq_ofNat_of_zero_le (Int.le_of_lt hp.1)
  have ha : (BitVec.ofInt 8 (a : Int)).toNat = a := by rw [BitVec.ofInt_natCast, BitVec.toNat_ofNat]; exact Nat.mod_eq_of_lt (by omega)
  have hb : (BitVec.ofInt 8 (b : Int)).toNat = b := by rw [BitVec.ofInt_natCast, BitVec.toNat_ofNat]; exact Nat.mod_eq_of_lt (by omega)
  show IntKind.u8.wrap ((BitVec.ofInt 8 (a : Int) ^^^ BitVec.ofInt 8 (b : Int)).toNat : Int) ≠ _
  have hlt : (BitVec.ofInt 8 (a : Int) ^^^ BitVec.ofInt 8 (b : Int)).toNat < 256 := (BitVec.ofInt 8 (a : Int) ^^^ BitVec.ofInt 8 (b : Int)).isLt
  have hwr : ∀ n : Nat, n < 256 → IntKind.u8.wrap (n : Int) = (n : Int) := fun n hn => by simp [IntKind.wrap, IntKind.bits, IntKind.signed]; omega
  rw [show IntKind.u8.wrap ((BitVec.ofInt 8 (a : Int) ^^^ BitVec.ofInt 8 (b : Int)).toNat : Int) = ((BitVec.ofInt 8 (a : Int) ^^^ BitVec.ofInt 8 (b : Int)).toNat : Int) from hwr _ hlt]
  rw [BitVec.toNat_xor, ha, hb]
  intro h
  have h2 : a ^^^ b = a := by exact_mod_cast h
  have h3 : a ^^^ (a ^^^ b) = a ^^^ a := by rw [h2]
  rw [← Nat.xor_assoc, Nat.xor_self, Nat.zero_xor] at h3
  omega

set_option maxHeartbeats 8000000 in
theorem walk (w : World) (v : Value) (hv : MsgAt w v) (v1 : Value) (hv1 : BytesIn w v1) (bit : Int) (w2 : (Lit.int .u16 bit).wf = true) :
    Calls Try.prog 4 #[v, v1, .int .u16 bit] w fun e w' => e = .returned (.bool true) ∧ Below w.heap.size w w' := by
  obtain ⟨s, A, n, c, rfl, hnum, hc, hr⟩ := hv
  obtain ⟨A', n', c', b, rfl, hc', hr'⟩ := hv1
  obtain ⟨hbit0, hbit1⟩ := bounds_u16 w2
  have hnum' := hnum
  have hdl := hr.len
  obtain ⟨ty, cd, rs, d⟩ := s
  simp only at hr hdl ⊢
  obtain ⟨z, hz⟩ : ∃ z, w.heap.size = z := ⟨_, rfl⟩
  obtain ⟨W0, eW0⟩ : ∃ W0, w.alloc (.cells #[.int .u8 ty, .int .u8 cd, .int .u32 rs, .slice A n c] 25) = W0 := ⟨_, rfl⟩
  have hbW : Below w.heap.size w W0 := by rw [← eW0]; exact (Below.refl _ _).alloc (Nat.le_refl _) _
  have hk0 : W0.heap[z]? = some (.cells #[.int .u8 ty, .int .u8 cd, .int .u32 rs, .slice A n c] 25 (0, 0)) := by rw [← eW0, ← hz]; exact heap_alloc_new w _
  have HK := Lib.hid (show ∀ w', Below W0.heap.size W0 w' → (w'.cell? ⟨z, 0, none⟩ = some (.int .u8 ty) ∧ w'.cell? ⟨z, 1, none⟩ = some (.int .u8 cd) ∧ w'.cell? ⟨z, 2, none⟩ = some (.int .u32 rs) ∧ w'.cell? ⟨z, 3, none⟩ = some (.slice A n c)) ∧ Rd w' A n d ∧ Rd w' A' n' b from
    fun w' hb => ⟨cells4 (blk_on hk0 hb), (hr.below hbW).below hb, (hr'.below hbW).below hb⟩)
  have HbW := Lib.hid hbW
  have HeW := Lib.hid eW0
  have Hnum := Lib.hid hnum
  have Hc := Lib.hid hc
  have Hc' := Lib.hid hc'
  have HdB := Lib.hid hr.byte
  have HbB := Lib.hid hr'.byte
  have Hbl := Lib.hid hr'.len
  have Hdl := Lib.hid hdl
  have Hbit := Lib.hid (And.intro hbit0 hbit1)
  clear hk0 hbW eW0 hr hr' hnum hnum' hc hc' hdl w2
  by_cases hn : 1472 < n
  case pos =>
    have hni : ¬ (n : Int) ≤ 1472 := by omega
    go_enter Try.func4, Try.ntmps4
    go_upto_region 1 with (fail)
    rw [HeW.out]
    obtain ⟨c0, c1, c2, c3⟩ := (HK.out _ (Below.refl _ _)).1
    go_wp2_with fail
    refine (put8_bad ty cd rs A n c _ hn).mono ?_
    rintro e w1 ⟨A1, c1', rfl, k1, m1, ho1, hb1⟩
    have Hb := Lib.hid hb1
    clear c0 c1 c2 c3 hb1 ho1
    obtain ⟨c0, c1, c2, c3⟩ := (HK.out _ Hb.out).1
    go_wp2_with fail
    clear c0 c1 c2 c3
    obtain ⟨x, ex⟩ : ∃ x, errM b = x := ⟨_, rfl⟩
    have Hx := Lib.hid ex
    clear ex
    by_cases h0 : x = 0
    case neg =>
      have hx2 : (x != 0) = true := by simpa using h0
      refine (parse8_err A' n' c' b x _ Hc'.out (HK.out _ Hb.out).2.2 Hx.out h0).mono ?_
      rintro e w8 ⟨rfl, hb8⟩
      have Hb8 := Lib.hid (below_trans Hb.out hb8)
      clear hb8
      go_wp2_with fail
      refine (same8_any zeroM zeroM none 0 0 none 0 0 _ true (Rd.nil _ _) (Rd.nil _ _) (msgSame_self _)).mono ?_
      rintro e w9 ⟨rfl, hb9⟩
      have Hb9 := Lib.hid (below_trans Hb8.out (on_alloc hb9))
      clear hb9
      go_wp2_with fail
      refine (wakes_any _).mono ?_
      rintro e w10 ⟨rfl, hb10⟩
      have Hb10 := Lib.hid (below_trans HbW.out (below_trans Hb9.out hb10))
      clear hb10
      go_wp2_with fail
      go_ret
      exact ⟨rfl, Hb10.out⟩
    subst h0
    have he0 := errM_zero Hx.out
    have hn8 : 8 ≤ n' := by have := Hbl.out; omega
    have hn1480 : n' ≤ 1480 := by have := Hbl.out; omega
    obtain ⟨hbk1, hbk2, hbk3, hbk4, hbk5⟩ := backM HbB.out Hx.out
    obtain ⟨hmn, hmd⟩ := msgOf_num HbB.out he0.2.1
    obtain ⟨ty2, cd2, rs2, d2, eS⟩ : ∃ ty cd rs d, msgOf b = ⟨ty, cd, rs, d⟩ := ⟨_, _, _, _, rfl⟩
    have hd2 : d2.length = n' - 8 := by rw [show d2 = (msgOf b).d by rw [eS]]; simp [msgOf, Hbl.out]
    obtain ⟨m, em⟩ : ∃ m, n' - 8 = m := ⟨_, rfl⟩
    rw [em] at hd2
    refine (parse8_told A' n' c' m b ty2 cd2 rs2 d2 _ Hc'.out (HK.out _ Hb.out).2.2 Hx.out eS hd2).mono ?_
    rintro e w8 ⟨AD, cD, rfl, kD, mD, hoD, hb8⟩
    rw [eS] at hbk1 hbk2 hbk3 hbk4 hbk5 hmn hmd
    obtain ⟨L2, eL2⟩ : ∃ L, msgB ⟨ty2, cd2, rs2, d2⟩ = L := ⟨_, rfl⟩
    have hL2b := msgB_by hmn hmd
    rw [eL2] at hbk1 hbk2 hbk3 hbk4 hL2b
    rw [← hbk4] at hbk5
    have hba := (Below.refl w8.heap.size w8).alloc (Nat.le_refl _) (.cells #[.int .u8 ty2, .int .u8 cd2, .int .u32 rs2, .slice AD m cD] 25)
    have HRD := Lib.hid ((hoD.rd hmd).below hba)
    have Hkc := Lib.hid (And.intro kD mD)
    have Hb8 := Lib.hid (below_trans (below_trans Hb.out hb8) hba)
    have hk8 := heap_alloc_new w8 (.cells #[.int .u8 ty2, .int .u8 cd2, .int .u32 rs2, .slice AD m cD] 25)
    obtain ⟨z8, ez8⟩ : ∃ z, w8.heap.size = z := ⟨_, rfl⟩
    rw [ez8] at hk8
    have HK8 := Lib.hid hk8
    have Hmn := Lib.hid hmn
    have HL2b := Lib.hid hL2b
    have HL2 := Lib.hid eL2
    have Hd2 := Lib.hid hd2
    have B1 := Lib.hid hbk1
    have B2 := Lib.hid hbk2
    have B3 := Lib.hid hbk3
    have B5 := Lib.hid hbk5
    clear hb8 hba kD mD hoD hmn hmd hL2b eL2 hbk1 hbk2 hbk3 hbk4 hbk5 hk8 he0 eS hd2
    go_upto_region 16 with (fail)
    obtain ⟨v8, ev8⟩ : ∃ v, w8.alloc (.cells #[.int .u8 ty2, .int .u8 cd2, .int .u32 rs2, .slice AD m cD] 25) = v := ⟨_, rfl⟩
    try rw [ev8]
    rw [ev8] at HRD Hb8 HK8
    try simp only [ez8]
    clear ev8 ez8
    obtain ⟨y0, y1, y2, y3⟩ := cells4 HK8.out
    go_wp2_with fail
    have hm1472 : ¬ 1472 < m := by omega
    refine (put8_any ⟨ty2, cd2, rs2, d2⟩ AD m cD _ L2 n' 0 Hmn.out Hkc.out HRD.out (by unfold errP; rw [if_neg (by have := Hd2.out; simp only; omega)]) (by unfold toldM; rw [if_neg (by have := Hd2.out; simp only; omega)]; exact HL2.out) (by rw [B3.out, Hbl.out])).mono ?_
    rintro e w9 ⟨A9, c9, rfl, k9, m9, ho9, hb9⟩
    have Hb9 := Lib.hid (below_trans Hb8.out hb9)
    have hR9 := ho9.rd HL2b.out
    have hRb := (HK.out _ Hb9.out).2.2
    have HR9 := Lib.hid hR9
    have HRb := Lib.hid hRb
    have hn8i : ¬ (n' : Int) < 8 := by omega
    clear hb9 ho9 y0 y1 y2 y3 hR9 hRb HK8 HRD
    go_wp2_with fail
    have hdr := Below.drew (Below.refl w9.heap.size w9)
    have Hb9 := Lib.hid (below_trans Hb9.out hdr)
    have HR9 := Lib.hid (HR9.out.below hdr)
    have HRb := Lib.hid (HRb.out.below hdr)
    obtain ⟨p2, hi2, hc2, hp2⟩ := HR9.out.index (c := c9) (j := 2) (by omega)
    obtain ⟨p3, hi3, hc3, hp3⟩ := HR9.out.index (c := c9) (j := 3) (by omega)
    obtain ⟨q2, hj2, hd2', hq2⟩ := HRb.out.index (c := c') (j := 2) (by omega)
    obtain ⟨q3, hj3, hd3', hq3⟩ := HRb.out.index (c := c') (j := 3) (by omega)
    have hi2 : ∀ W : World, (Instr.indexAt 23 (.slice A9 n' c9) (.int .i64 2)).run Try.prog W = .ok (.pointer (some p2)) W := hi2
    have hi3 : ∀ W : World, (Instr.indexAt 23 (.slice A9 n' c9) (.int .i64 3)).run Try.prog W = .ok (.pointer (some p3)) W := hi3
    have hj2 : ∀ W : World, (Instr.indexAt 23 (.slice A' n' c') (.int .i64 2)).run Try.prog W = .ok (.pointer (some q2)) W := hj2
    have hj3 : ∀ W : World, (Instr.indexAt 23 (.slice A' n' c') (.int .i64 3)).run Try.prog W = .ok (.pointer (some q3)) W := hj3
    obtain ⟨A10, hs10, hr10⟩ := HR9.out.restM (c := c9) 4 4 (by omega) (by omega) k9 m9 rfl
    obtain ⟨A11, hs11, hr11⟩ := HRb.out.restM (c := c') 4 4 (by omega) (by omega) Hc'.out.1 Hc'.out.2 rfl
    rw [B2.out] at hr10
    have ht9 := HR9.out.take (k := 2) (by omega)
    have htb := HRb.out.take (k := 2) (by omega)
    rw [B1.out] at ht9
    have hx2b := getD_byte HL2b.out 2
    have hx3b := getD_byte HL2b.out 3
    have hy2b := getD_byte HbB.out 2
    have hy3b := getD_byte HbB.out 3
    have b5 := B5.out
    unfold m16 at b5
    obtain ⟨x2, ex2⟩ : ∃ x, L2.getD 2 0 = x := ⟨_, rfl⟩
    obtain ⟨x3, ex3⟩ : ∃ x, L2.getD 3 0 = x := ⟨_, rfl⟩
    obtain ⟨y2, ey2⟩ : ∃ x, b.getD 2 0 = x := ⟨_, rfl⟩
    obtain ⟨y3, ey3⟩ : ∃ x, b.getD 3 0 = x := ⟨_, rfl⟩
    rw [ex2] at hc2 hx2b b5
    rw [show (2 : Nat) + 1 = 3 from rfl, ex3, ey3] at b5
    rw [ex3] at hc3 hx3b
    rw [ey2] at hd2' hy2b b5
    rw [ey3] at hd3' hy3b
    have B6 := Lib.hid b5
    have hv0 := or16 x2 x3 hx2b hx3b
    have hv1 := or16 y2 y3 hy2b hy3b
    have hv2 : IntKind.u16.wrap x2 = x2 := by rw [wrap_u16]; omega
    have hv3 : IntKind.u16.wrap x3 = x3 := by rw [wrap_u16]; omega
    have hv4 : IntKind.u16.wrap y2 = y2 := by rw [wrap_u16]; omega
    have hv5 : IntKind.u16.wrap y3 = y3 := by rw [wrap_u16]; omega
    have hv6 : IntKind.u16.wrap (x2 * 256) = x2 * 256 := by rw [wrap_u16]; omega
    have hv7 : IntKind.u16.wrap (y2 * 256) = y2 * 256 := by rw [wrap_u16]; omega
    have hc2i : (2 : Int) ≤ (c' : Int) := by have := Hc'.out.1; omega
    have hc9i : (2 : Int) ≤ (c9 : Int) := by omega
    have HS := Lib.hid (show ∀ w', Below w9.drew.heap.size w9.drew w' → ((convert 23 9 (.slice A9 2 c9)).run Try.prog w' = .ok (.string (strOfNums (b.take 2))) w' ∧ (convert 23 9 (.slice A' 2 c')).run Try.prog w' = .ok (.string (strOfNums (b.take 2))) w' ∧
        (convert 23 9 (.slice A10 (n' - 4) (c9 - 4))).run Try.prog w' = .ok (.string (strOfNums (b.drop 4))) w' ∧ (convert 23 9 (.slice A11 (n' - 4) (c' - 4))).run Try.prog w' = .ok (.string (strOfNums (b.drop 4))) w' ∧
        w'.cell? p2 = some (.int .u8 x2) ∧ w'.cell? p3 = some (.int .u8 x3) ∧ w'.cell? q2 = some (.int .u8 y2) ∧ w'.cell? q3 = some (.int .u8 y3)) from
      fun w' hb => ⟨conv_rd (ht9.below hb) _, conv_rd (htb.below hb) _, conv_rd (hr10.below hb) _, conv_rd (hr11.below hb) _, (hb.cell hp2).trans hc2, (hb.cell hp3).trans hc3, (hb.cell hq2).trans hd2', (hb.cell hq3).trans hd3'⟩)
    clear hc2 hc3 hd2' hd3' hp2 hp3 hq2 hq3 hr10 hr11 ht9 htb hdr b5 ex2 ex3 ey2 ey3 hx2b hx3b hy2b hy3b HRb HR9
    refine wp_region_held_drew (S := fun w' => ((convert 23 9 (.slice A9 2 c9)).run Try.prog w' = .ok (.string (strOfNums (b.take 2))) w' ∧ (convert 23 9 (.slice A' 2 c')).run Try.prog w' = .ok (.string (strOfNums (b.take 2))) w' ∧
        (convert 23 9 (.slice A10 (n' - 4) (c9 - 4))).run Try.prog w' = .ok (.string (strOfNums (b.drop 4))) w' ∧ (convert 23 9 (.slice A11 (n' - 4) (c' - 4))).run Try.prog w' = .ok (.string (strOfNums (b.drop 4))) w' ∧
        w'.cell? p2 = some (.int .u8 x2) ∧ w'.cell? p3 = some (.int .u8 x3) ∧ w'.cell? q2 = some (.int .u8 y2) ∧ w'.cell? q3 = some (.int .u8 y3))) (by kernel_rfl) (HS.out _ (Below.refl _ _)) (fun hHeld => ?_)
    obtain ⟨wd, ewd⟩ : ∃ wd, w9.drew = wd := ⟨_, rfl⟩
    rw [ewd] at HS Hb9 hHeld ⊢
    clear ewd
    refine wpAnyH_take (i := 0) (oi := { dst := some 122, op := Go.Op.move (Go.Operand.tmp 14), type := 23, pos := "outright.go:38", after := #[], guard := none }) (v := ?_) rfl (by kernel_rfl) (by kernel_rfl) (by kernel_rfl) (fun _ _ _ h => h) (Or.inl ⟨by rfl, ?_⟩) (by assumption) ?_
    rotate_left 1
    · intro w' hSw; (go_simp <;> (with_reducible rfl))
    (try simp only [Act.put, List.setIfInBounds_toArray, List.set_cons_zero, List.set_cons_succ])
    refine wpAnyH_take (i := 1) (oi := { dst := some 123, op := Go.Op.slice 23 (Go.Operand.tmp 122) none (some (Go.Operand.const (Go.Value.int Go.IntKind.i64 2))) none, type := 23, pos := "outright.go:38", after := #[{ on := 0, ground := Go.Ground.data }], guard := none }) (v := ?_) rfl (by kernel_rfl) (by kernel_rfl) (by kernel_rfl) (fun _ _ _ h => h) (Or.inl ⟨by rfl, ?_⟩) (by assumption) ?_
    rotate_left 1
    · intro w' hSw; (go_simp <;> (with_reducible rfl))
    (try simp only [Act.put, List.setIfInBounds_toArray, List.set_cons_zero, List.set_cons_succ])
    refine wpAnyH_take (i := 2) (oi := { dst := some 124, op := Go.Op.convert 23 9 (Go.Operand.tmp 123), type := 9, pos := "outright.go:38", after := #[{ on := 1, ground := Go.Ground.data }], guard := none }) (v := ?_) rfl (by kernel_rfl) (by kernel_rfl) (by kernel_rfl) (fun _ _ _ h => h) (Or.inl ⟨by rfl, ?_⟩) (by assumption) ?_
    rotate_left 1
    · intro w' hSw; (go_simp <;> (with_reducible rfl))
    (try simp only [Act.put, List.setIfInBounds_toArray, List.set_cons_zero, List.set_cons_succ])
    refine wpAnyH_take (i := 3) (oi := { dst := some 125, op := Go.Op.move (Go.Operand.tmp 1), type := 23, pos := "outright.go:38", after := #[], guard := none }) (v := ?_) rfl (by kernel_rfl) (by kernel_rfl) (by kernel_rfl) (fun _ _ _ h => h) (Or.inl ⟨by rfl, ?_⟩) (by assumption) ?_
    rotate_left 1
    · intro w' hSw; (go_simp <;> (with_reducible rfl))
    (try simp only [Act.put, List.setIfInBounds_toArray, List.set_cons_zero, List.set_cons_succ])
    refine wpAnyH_take (i := 4) (oi := { dst := some 126, op := Go.Op.slice 23 (Go.Operand.tmp 125) none (some (Go.Operand.const (Go.Value.int Go.IntKind.i64 2))) none, type := 23, pos := "outright.go:38", after := #[{ on := 3, ground := Go.Ground.data }], guard := none }) (v := ?_) rfl (by kernel_rfl) (by kernel_rfl) (by kernel_rfl) (fun _ _ _ h => h) (Or.inl ⟨by rfl, ?_⟩) (by assumption) ?_
    rotate_left 1
    · intro w' hSw; (go_simp <;> (with_reducible rfl))
    (try simp only [Act.put, List.setIfInBounds_toArray, List.set_cons_zero, List.set_cons_succ])
    refine wpAnyH_take (i := 5) (oi := { dst := some 127, op := Go.Op.convert 23 9 (Go.Operand.tmp 126), type := 9, pos := "outright.go:38", after := #[{ on := 4, ground := Go.Ground.data }], guard := none }) (v := ?_) rfl (by kernel_rfl) (by kernel_rfl) (by kernel_rfl) (fun _ _ _ h => h) (Or.inl ⟨by rfl, ?_⟩) (by assumption) ?_
    rotate_left 1
    · intro w' hSw; (go_simp <;> (with_reducible rfl))
    (try simp only [Act.put, List.setIfInBounds_toArray, List.set_cons_zero, List.set_cons_succ])
    refine wpAnyH_take (i := 6) (oi := { dst := some 128, op := Go.Op.binOp Go.BinOp.eql 9 (Go.Operand.tmp 124) (Go.Operand.tmp 127) 9, type := 4, pos := "outright.go:38", after := #[{ on := 2, ground := Go.Ground.data }, { on := 5, ground := Go.Ground.data }], guard := none }) (v := ?_) rfl (by kernel_rfl) (by kernel_rfl) (by kernel_rfl) (fun _ _ _ h => h) (Or.inl ⟨by rfl, ?_⟩) (by assumption) ?_
    rotate_left 1
    · intro w' hSw; (go_simp <;> (with_reducible rfl))
    (try simp only [Act.put, List.setIfInBounds_toArray, List.set_cons_zero, List.set_cons_succ])
    refine wpAnyH_take (i := 7) (oi := { dst := some 129, op := Go.Op.move (Go.Operand.tmp 128), type := 4, pos := "outright.go:38", after := #[{ on := 6, ground := Go.Ground.data }], guard := none }) (v := ?_) rfl (by kernel_rfl) (by kernel_rfl) (by kernel_rfl) (fun _ _ _ h => h) (Or.inl ⟨by rfl, ?_⟩) (by assumption) ?_
    rotate_left 1
    · intro w' hSw; (go_simp <;> (with_reducible rfl))
    (try simp only [Act.put, List.setIfInBounds_toArray, List.set_cons_zero, List.set_cons_succ])
    refine wpAnyH_take (i := 8) (oi := { dst := some 130, op := Go.Op.move (Go.Operand.tmp 14), type := 23, pos := "outright.go:38", after := #[{ on := 7, ground := Go.Ground.guard }], guard := some (7, true) }) (v := ?_) rfl (by kernel_rfl) (by kernel_rfl) (by kernel_rfl) (fun _ _ _ h => h) (Or.inl ⟨by rfl, ?_⟩) (by assumption) ?_
    rotate_left 1
    · intro w' hSw; (go_simp <;> (with_reducible rfl))
    (try simp only [Act.put, List.setIfInBounds_toArray, List.set_cons_zero, List.set_cons_succ])
    refine wpAnyH_take (i := 9) (oi := { dst := some 131, op := Go.Op.slice 23 (Go.Operand.tmp 130) (some (Go.Operand.const (Go.Value.int Go.IntKind.i64 4))) none none, type := 23, pos := "outright.go:38", after := #[{ on := 8, ground := Go.Ground.data }, { on := 7, ground := Go.Ground.guard }], guard := some (7, true) }) (v := ?_) rfl (by kernel_rfl) (by kernel_rfl) (by kernel_rfl) (fun _ _ _ h => h) (Or.inl ⟨by rfl, ?_⟩) (by assumption) ?_
    rotate_left 1
    · intro w' hSw; (go_simp <;> (with_reducible rfl))
    (try simp only [Act.put, List.setIfInBounds_toArray, List.set_cons_zero, List.set_cons_succ])
    refine wpAnyH_take (i := 10) (oi := { dst := some 132, op := Go.Op.convert 23 9 (Go.Operand.tmp 131), type := 9, pos := "outright.go:38", after := #[{ on := 9, ground := Go.Ground.data }, { on := 7, ground := Go.Ground.guard }], guard := some (7, true) }) (v := ?_) rfl (by kernel_rfl) (by kernel_rfl) (by kernel_rfl) (fun _ _ _ h => h) (Or.inl ⟨by rfl, ?_⟩) (by assumption) ?_
    rotate_left 1
    · intro w' hSw; (go_simp <;> (with_reducible rfl))
    (try simp only [Act.put, List.setIfInBounds_toArray, List.set_cons_zero, List.set_cons_succ])
    refine wpAnyH_take (i := 11) (oi := { dst := some 133, op := Go.Op.move (Go.Operand.tmp 1), type := 23, pos := "outright.go:38", after := #[{ on := 7, ground := Go.Ground.guard }], guard := some (7, true) }) (v := ?_) rfl (by kernel_rfl) (by kernel_rfl) (by kernel_rfl) (fun _ _ _ h => h) (Or.inl ⟨by rfl, ?_⟩) (by assumption) ?_
    rotate_left 1
    · intro w' hSw; (go_simp <;> (with_reducible rfl))
    (try simp only [Act.put, List.setIfInBounds_toArray, List.set_cons_zero, List.set_cons_succ])
    refine wpAnyH_take (i := 12) (oi := { dst := some 134, op := Go.Op.slice 23 (Go.Operand.tmp 133) (some (Go.Operand.const (Go.Value.int Go.IntKind.i64 4))) none none, type := 23, pos := "outright.go:38", after := #[{ on := 11, ground := Go.Ground.data }, { on := 7, ground := Go.Ground.guard }], guard := some (7, true) }) (v := ?_) rfl (by kernel_rfl) (by kernel_rfl) (by kernel_rfl) (fun _ _ _ h => h) (Or.inl ⟨by rfl, ?_⟩) (by assumption) ?_
    rotate_left 1
    · intro w' hSw; (go_simp <;> (with_reducible rfl))
    (try simp only [Act.put, List.setIfInBounds_toArray, List.set_cons_zero, List.set_cons_succ])
    refine wpAnyH_take (i := 13) (oi := { dst := some 135, op := Go.Op.convert 23 9 (Go.Operand.tmp 134), type := 9, pos := "outright.go:38", after := #[{ on := 12, ground := Go.Ground.data }, { on := 7, ground := Go.Ground.guard }], guard := some (7, true) }) (v := ?_) rfl (by kernel_rfl) (by kernel_rfl) (by kernel_rfl) (fun _ _ _ h => h) (Or.inl ⟨by rfl, ?_⟩) (by assumption) ?_
    rotate_left 1
    · intro w' hSw; (go_simp <;> (with_reducible rfl))
    (try simp only [Act.put, List.setIfInBounds_toArray, List.set_cons_zero, List.set_cons_succ])
    refine wpAnyH_take (i := 14) (oi := { dst := some 136, op := Go.Op.binOp Go.BinOp.eql 9 (Go.Operand.tmp 132) (Go.Operand.tmp 135) 9, type := 4, pos := "outright.go:38", after := #[{ on := 10, ground := Go.Ground.data }, { on := 13, ground := Go.Ground.data }, { on := 7, ground := Go.Ground.guard }], guard := some (7, true) }) (v := ?_) rfl (by kernel_rfl) (by kernel_rfl) (by kernel_rfl) (fun _ _ _ h => h) (Or.inl ⟨by rfl, ?_⟩) (by assumption) ?_
    rotate_left 1
    · intro w' hSw; (go_simp <;> (with_reducible rfl))
    (try simp only [Act.put, List.setIfInBounds_toArray, List.set_cons_zero, List.set_cons_succ])
    refine wpAnyH_take (i := 15) (oi := { dst := some 137, op := Go.Op.pick (Go.Operand.tmp 129) (Go.Operand.tmp 136) (Go.Operand.const (Go.Value.bool false)), type := 4, pos := "outright.go:38", after := #[{ on := 7, ground := Go.Ground.data }, { on := 14, ground := Go.Ground.data }], guard := none }) (v := ?_) rfl (by kernel_rfl) (by kernel_rfl) (by kernel_rfl) (fun _ _ _ h => h) (Or.inl ⟨by rfl, ?_⟩) (by assumption) ?_
    rotate_left 1
    · intro w' hSw; (go_simp <;> (with_reducible rfl))
    (try simp only [Act.put, List.setIfInBounds_toArray, List.set_cons_zero, List.set_cons_succ])
    refine wpAnyH_take (i := 16) (oi := { dst := some 138, op := Go.Op.move (Go.Operand.tmp 137), type := 4, pos := "outright.go:38", after := #[{ on := 15, ground := Go.Ground.data }, { on := 7, ground := Go.Ground.chain }], guard := none }) (v := ?_) rfl (by kernel_rfl) (by kernel_rfl) (by kernel_rfl) (fun _ _ _ h => h) (Or.inl ⟨by rfl, ?_⟩) (by assumption) ?_
    rotate_left 1
    · intro w' hSw; (go_simp <;> (with_reducible rfl))
    (try simp only [Act.put, List.setIfInBounds_toArray, List.set_cons_zero, List.set_cons_succ])
    refine wpAnyH_take (i := 17) (oi := { dst := some 139, op := Go.Op.move (Go.Operand.tmp 14), type := 23, pos := "outright.go:38", after := #[{ on := 16, ground := Go.Ground.guard }], guard := some (16, true) }) (v := ?_) rfl (by kernel_rfl) (by kernel_rfl) (by kernel_rfl) (fun _ _ _ h => h) (Or.inl ⟨by rfl, ?_⟩) (by assumption) ?_
    rotate_left 1
    · intro w' hSw; (go_simp <;> (with_reducible rfl))
    (try simp only [Act.put, List.setIfInBounds_toArray, List.set_cons_zero, List.set_cons_succ])
    refine wpAnyH_take (i := 18) (oi := { dst := some 140, op := Go.Op.indexAddr 23 (Go.Operand.tmp 139) (Go.Operand.const (Go.Value.int Go.IntKind.i64 2)), type := 0, pos := "outright.go:38", after := #[{ on := 17, ground := Go.Ground.data }, { on := 16, ground := Go.Ground.guard }], guard := some (16, true) }) (v := ?_) rfl (by kernel_rfl) (by kernel_rfl) (by kernel_rfl) (fun _ _ _ h => h) (Or.inl ⟨by rfl, ?_⟩) (by assumption) ?_
    rotate_left 1
    · intro w' hSw; (go_simp <;> (with_reducible rfl))
    (try simp only [Act.put, List.setIfInBounds_toArray, List.set_cons_zero, List.set_cons_succ])
    refine wpAnyH_take (i := 19) (oi := { dst := some 141, op := Go.Op.load 5 (Go.Operand.tmp 140), type := 5, pos := "outright.go:38", after := #[{ on := 18, ground := Go.Ground.data }, { on := 16, ground := Go.Ground.guard }], guard := some (16, true) }) (v := ?_) rfl (by kernel_rfl) (by kernel_rfl) (by kernel_rfl) (fun _ _ _ h => h) (Or.inl ⟨by rfl, ?_⟩) (by assumption) ?_
    rotate_left 1
    · intro w' hSw; (go_simp <;> (with_reducible rfl))
    (try simp only [Act.put, List.setIfInBounds_toArray, List.set_cons_zero, List.set_cons_succ])
    refine wpAnyH_take (i := 20) (oi := { dst := some 142, op := Go.Op.convert 5 26 (Go.Operand.tmp 141), type := 26, pos := "outright.go:38", after := #[{ on := 19, ground := Go.Ground.data }, { on := 16, ground := Go.Ground.guard }], guard := some (16, true) }) (v := ?_) rfl (by kernel_rfl) (by kernel_rfl) (by kernel_rfl) (fun _ _ _ h => h) (Or.inl ⟨by rfl, ?_⟩) (by assumption) ?_
    rotate_left 1
    · intro w' hSw; (go_simp <;> (with_reducible rfl))
    (try simp only [Act.put, List.setIfInBounds_toArray, List.set_cons_zero, List.set_cons_succ])
    refine wpAnyH_take (i := 21) (oi := { dst := some 143, op := Go.Op.binOp Go.BinOp.shl 26 (Go.Operand.tmp 142) (Go.Operand.const (Go.Value.int Go.IntKind.u64 8)) 47, type := 26, pos := "outright.go:38", after := #[{ on := 20, ground := Go.Ground.data }, { on := 16, ground := Go.Ground.guard }], guard := some (16, true) }) (v := ?_) rfl (by kernel_rfl) (by kernel_rfl) (by kernel_rfl) (fun _ _ _ h => h) (Or.inl ⟨by rfl, ?_⟩) (by assumption) ?_
    rotate_left 1
    · intro w' hSw; (go_simp <;> (with_reducible rfl))
    (try simp only [Act.put, List.setIfInBounds_toArray, List.set_cons_zero, List.set_cons_succ])
    refine wpAnyH_take (i := 22) (oi := { dst := some 144, op := Go.Op.move (Go.Operand.tmp 14), type := 23, pos := "outright.go:38", after := #[{ on := 16, ground := Go.Ground.guard }], guard := some (16, true) }) (v := ?_) rfl (by kernel_rfl) (by kernel_rfl) (by kernel_rfl) (fun _ _ _ h => h) (Or.inl ⟨by rfl, ?_⟩) (by assumption) ?_
    rotate_left 1
    · intro w' hSw; (go_simp <;> (with_reducible rfl))
    (try simp only [Act.put, List.setIfInBounds_toArray, List.set_cons_zero, List.set_cons_succ])
    refine wpAnyH_take (i := 23) (oi := { dst := some 145, op := Go.Op.indexAddr 23 (Go.Operand.tmp 144) (Go.Operand.const (Go.Value.int Go.IntKind.i64 3)), type := 0, pos := "outright.go:38", after := #[{ on := 22, ground := Go.Ground.data }, { on := 16, ground := Go.Ground.guard }], guard := some (16, true) }) (v := ?_) rfl (by kernel_rfl) (by kernel_rfl) (by kernel_rfl) (fun _ _ _ h => h) (Or.inl ⟨by rfl, ?_⟩) (by assumption) ?_
    rotate_left 1
    · intro w' hSw; (go_simp <;> (with_reducible rfl))
    (try simp only [Act.put, List.setIfInBounds_toArray, List.set_cons_zero, List.set_cons_succ])
    refine wpAnyH_take (i := 24) (oi := { dst := some 146, op := Go.Op.load 5 (Go.Operand.tmp 145), type := 5, pos := "outright.go:38", after := #[{ on := 23, ground := Go.Ground.data }, { on := 16, ground := Go.Ground.guard }], guard := some (16, true) }) (v := ?_) rfl (by kernel_rfl) (by kernel_rfl) (by kernel_rfl) (fun _ _ _ h => h) (Or.inl ⟨by rfl, ?_⟩) (by assumption) ?_
    rotate_left 1
    · intro w' hSw; (go_simp <;> (with_reducible rfl))
    (try simp only [Act.put, List.setIfInBounds_toArray, List.set_cons_zero, List.set_cons_succ])
    refine wpAnyH_take (i := 25) (oi := { dst := some 147, op := Go.Op.convert 5 26 (Go.Operand.tmp 146), type := 26, pos := "outright.go:38", after := #[{ on := 24, ground := Go.Ground.data }, { on := 16, ground := Go.Ground.guard }], guard := some (16, true) }) (v := ?_) rfl (by kernel_rfl) (by kernel_rfl) (by kernel_rfl) (fun _ _ _ h => h) (Or.inl ⟨by rfl, ?_⟩) (by assumption) ?_
    rotate_left 1
    · intro w' hSw; (go_simp <;> (with_reducible rfl))
    (try simp only [Act.put, List.setIfInBounds_toArray, List.set_cons_zero, List.set_cons_succ])
    refine wpAnyH_take (i := 26) (oi := { dst := some 148, op := Go.Op.binOp Go.BinOp.or 26 (Go.Operand.tmp 143) (Go.Operand.tmp 147) 26, type := 26, pos := "outright.go:38", after := #[{ on := 21, ground := Go.Ground.data }, { on := 25, ground := Go.Ground.data }, { on := 16, ground := Go.Ground.guard }], guard := some (16, true) }) (v := ?_) rfl (by kernel_rfl) (by kernel_rfl) (by kernel_rfl) (fun _ _ _ h => h) (Or.inl ⟨by rfl, ?_⟩) (by assumption) ?_
    rotate_left 1
    · intro w' hSw; (go_simp <;> (with_reducible rfl))
    (try simp only [Act.put, List.setIfInBounds_toArray, List.set_cons_zero, List.set_cons_succ])
    refine wpAnyH_take (i := 27) (oi := { dst := some 149, op := Go.Op.move (Go.Operand.tmp 1), type := 23, pos := "outright.go:38", after := #[{ on := 16, ground := Go.Ground.guard }], guard := some (16, true) }) (v := ?_) rfl (by kernel_rfl) (by kernel_rfl) (by kernel_rfl) (fun _ _ _ h => h) (Or.inl ⟨by rfl, ?_⟩) (by assumption) ?_
    rotate_left 1
    · intro w' hSw; (go_simp <;> (with_reducible rfl))
    (try simp only [Act.put, List.setIfInBounds_toArray, List.set_cons_zero, List.set_cons_succ])
    refine wpAnyH_take (i := 28) (oi := { dst := some 150, op := Go.Op.indexAddr 23 (Go.Operand.tmp 149) (Go.Operand.const (Go.Value.int Go.IntKind.i64 2)), type := 0, pos := "outright.go:38", after := #[{ on := 27, ground := Go.Ground.data }, { on := 16, ground := Go.Ground.guard }], guard := some (16, true) }) (v := ?_) rfl (by kernel_rfl) (by kernel_rfl) (by kernel_rfl) (fun _ _ _ h => h) (Or.inl ⟨by rfl, ?_⟩) (by assumption) ?_
    rotate_left 1
    · intro w' hSw; (go_simp <;> (with_reducible rfl))
    (try simp only [Act.put, List.setIfInBounds_toArray, List.set_cons_zero, List.set_cons_succ])
    refine wpAnyH_take (i := 29) (oi := { dst := some 151, op := Go.Op.load 5 (Go.Operand.tmp 150), type := 5, pos := "outright.go:38", after := #[{ on := 28, ground := Go.Ground.data }, { on := 16, ground := Go.Ground.guard }], guard := some (16, true) }) (v := ?_) rfl (by kernel_rfl) (by kernel_rfl) (by kernel_rfl) (fun _ _ _ h => h) (Or.inl ⟨by rfl, ?_⟩) (by assumption) ?_
    rotate_left 1
    · intro w' hSw; (go_simp <;> (with_reducible rfl))
    (try simp only [Act.put, List.setIfInBounds_toArray, List.set_cons_zero, List.set_cons_succ])
    refine wpAnyH_take (i := 30) (oi := { dst := some 152, op := Go.Op.convert 5 26 (Go.Operand.tmp 151), type := 26, pos := "outright.go:38", after := #[{ on := 29, ground := Go.Ground.data }, { on := 16, ground := Go.Ground.guard }], guard := some (16, true) }) (v := ?_) rfl (by kernel_rfl) (by kernel_rfl) (by kernel_rfl) (fun _ _ _ h => h) (Or.inl ⟨by rfl, ?_⟩) (by assumption) ?_
    rotate_left 1
    · intro w' hSw; (go_simp <;> (with_reducible rfl))
    (try simp only [Act.put, List.setIfInBounds_toArray, List.set_cons_zero, List.set_cons_succ])
    refine wpAnyH_take (i := 31) (oi := { dst := some 153, op := Go.Op.binOp Go.BinOp.shl 26 (Go.Operand.tmp 152) (Go.Operand.const (Go.Value.int Go.IntKind.u64 8)) 47, type := 26, pos := "outright.go:38", after := #[{ on := 30, ground := Go.Ground.data }, { on := 16, ground := Go.Ground.guard }], guard := some (16, true) }) (v := ?_) rfl (by kernel_rfl) (by kernel_rfl) (by kernel_rfl) (fun _ _ _ h => h) (Or.inl ⟨by rfl, ?_⟩) (by assumption) ?_
    rotate_left 1
    · intro w' hSw; (go_simp <;> (with_reducible rfl))
    (try simp only [Act.put, List.setIfInBounds_toArray, List.set_cons_zero, List.set_cons_succ])
    refine wpAnyH_take (i := 32) (oi := { dst := some 154, op := Go.Op.move (Go.Operand.tmp 1), type := 23, pos := "outright.go:38", after := #[{ on := 16, ground := Go.Ground.guard }], guard := some (16, true) }) (v := ?_) rfl (by kernel_rfl) (by kernel_rfl) (by kernel_rfl) (fun _ _ _ h => h) (Or.inl ⟨by rfl, ?_⟩) (by assumption) ?_
    rotate_left 1
    · intro w' hSw; (go_simp <;> (with_reducible rfl))
    (try simp only [Act.put, List.setIfInBounds_toArray, List.set_cons_zero, List.set_cons_succ])
    refine wpAnyH_take (i := 33) (oi := { dst := some 155, op := Go.Op.indexAddr 23 (Go.Operand.tmp 154) (Go.Operand.const (Go.Value.int Go.IntKind.i64 3)), type := 0, pos := "outright.go:38", after := #[{ on := 32, ground := Go.Ground.data }, { on := 16, ground := Go.Ground.guard }], guard := some (16, true) }) (v := ?_) rfl (by kernel_rfl) (by kernel_rfl) (by kernel_rfl) (fun _ _ _ h => h) (Or.inl ⟨by rfl, ?_⟩) (by assumption) ?_
    rotate_left 1
    · intro w' hSw; (go_simp <;> (with_reducible rfl))
    (try simp only [Act.put, List.setIfInBounds_toArray, List.set_cons_zero, List.set_cons_succ])
    refine wpAnyH_take (i := 34) (oi := { dst := some 156, op := Go.Op.load 5 (Go.Operand.tmp 155), type := 5, pos := "outright.go:38", after := #[{ on := 33, ground := Go.Ground.data }, { on := 16, ground := Go.Ground.guard }], guard := some (16, true) }) (v := ?_) rfl (by kernel_rfl) (by kernel_rfl) (by kernel_rfl) (fun _ _ _ h => h) (Or.inl ⟨by rfl, ?_⟩) (by assumption) ?_
    rotate_left 1
    · intro w' hSw; (go_simp <;> (with_reducible rfl))
    (try simp only [Act.put, List.setIfInBounds_toArray, List.set_cons_zero, List.set_cons_succ])
    refine wpAnyH_take (i := 35) (oi := { dst := some 157, op := Go.Op.convert 5 26 (Go.Operand.tmp 156), type := 26, pos := "outright.go:38", after := #[{ on := 34, ground := Go.Ground.data }, { on := 16, ground := Go.Ground.guard }], guard := some (16, true) }) (v := ?_) rfl (by kernel_rfl) (by kernel_rfl) (by kernel_rfl) (fun _ _ _ h => h) (Or.inl ⟨by rfl, ?_⟩) (by assumption) ?_
    rotate_left 1
    · intro w' hSw; (go_simp <;> (with_reducible rfl))
    (try simp only [Act.put, List.setIfInBounds_toArray, List.set_cons_zero, List.set_cons_succ])
    refine wpAnyH_take (i := 36) (oi := { dst := some 158, op := Go.Op.binOp Go.BinOp.or 26 (Go.Operand.tmp 153) (Go.Operand.tmp 157) 26, type := 26, pos := "outright.go:38", after := #[{ on := 31, ground := Go.Ground.data }, { on := 35, ground := Go.Ground.data }, { on := 16, ground := Go.Ground.guard }], guard := some (16, true) }) (v := ?_) rfl (by kernel_rfl) (by kernel_rfl) (by kernel_rfl) (fun _ _ _ h => h) (Or.inl ⟨by rfl, ?_⟩) (by assumption) ?_
    rotate_left 1
    · intro w' hSw; (go_simp <;> (with_reducible rfl))
    (try simp only [Act.put, List.setIfInBounds_toArray, List.set_cons_zero, List.set_cons_succ])
    refine wpAnyH_ready (rs := [37]) (by kernel_rfl) (by simp) ?_
    refine AllReadyH.cons (o := { dst := some 159, op := Go.Op.call { callee := Go.Callee.value (Go.Operand.func 23), args := #[Go.Operand.tmp 148, Go.Operand.tmp 158], argTypes := #[26, 26] }, type := 4, pos := "outright.go:38", after := #[{ on := 26, ground := Go.Ground.data }, { on := 36, ground := Go.Ground.data }, { on := 16, ground := Go.Ground.chain }, { on := 16, ground := Go.Ground.guard }], guard := some (16, true) }) rfl (fun K hK => ?_) AllReadyH.nil
    go_simp
    (refine (like_any _ _ _).mono ?_; rw [B6.out]; rintro e w' ⟨rfl, rfl⟩)
    refine hK.out _ _ ?_ (fun hHeld => ?_)
    · exact HS.out _ (Below.refl _ _)
    clear hK K
    (try simp only [Act.put, List.setIfInBounds_toArray, List.set_cons_zero, List.set_cons_succ])
    refine wpAnyH_take (i := 38) (oi := { dst := some 160, op := Go.Op.pick (Go.Operand.tmp 138) (Go.Operand.tmp 159) (Go.Operand.const (Go.Value.bool false)), type := 4, pos := "outright.go:38", after := #[{ on := 16, ground := Go.Ground.data }, { on := 37, ground := Go.Ground.data }], guard := none }) (v := ?_) rfl (by kernel_rfl) (by kernel_rfl) (by kernel_rfl) (fun _ _ _ h => h) (Or.inl ⟨by rfl, ?_⟩) (by assumption) ?_
    rotate_left 1
    · intro w' hSw; (go_simp <;> (with_reducible rfl))
    (try simp only [Act.put, List.setIfInBounds_toArray, List.set_cons_zero, List.set_cons_succ])
    refine wpAnyH_take (i := 39) (oi := { dst := some 161, op := Go.Op.move (Go.Operand.tmp 160), type := 4, pos := "outright.go:38", after := #[{ on := 38, ground := Go.Ground.data }, { on := 37, ground := Go.Ground.chain }], guard := none }) (v := ?_) rfl (by kernel_rfl) (by kernel_rfl) (by kernel_rfl) (fun _ _ _ h => h) (Or.inl ⟨by rfl, ?_⟩) (by assumption) ?_
    rotate_left 1
    · intro w' hSw; (go_simp <;> (with_reducible rfl))
    (try simp only [Act.put, List.setIfInBounds_toArray, List.set_cons_zero, List.set_cons_succ])
    refine wpAnyH_ready (rs := [40]) (by kernel_rfl) (by simp) ?_
    refine AllReadyH.cons (o := { dst := some 162, op := Go.Op.call { callee := Go.Callee.value (Go.Operand.func 21), args := #[], argTypes := #[] }, type := 4, pos := "outright.go:38", after := #[{ on := 39, ground := Go.Ground.chain }, { on := 39, ground := Go.Ground.guard }], guard := some (39, true) }) rfl (fun K hK => ?_) AllReadyH.nil
    go_simp
    (refine (wakes_any _).mono ?_; rintro e w10 ⟨rfl, hb10⟩; have Hb10 := Lib.hid hb10; clear hb10)
    refine hK.out _ _ ?_ (fun hHeld => ?_)
    · exact HS.out _ Hb10.out
    clear hK K
    (try simp only [Act.put, List.setIfInBounds_toArray, List.set_cons_zero, List.set_cons_succ])
    refine wpAnyH_take (i := 41) (oi := { dst := some 163, op := Go.Op.pick (Go.Operand.tmp 161) (Go.Operand.tmp 162) (Go.Operand.const (Go.Value.bool false)), type := 4, pos := "outright.go:38", after := #[{ on := 39, ground := Go.Ground.data }, { on := 40, ground := Go.Ground.data }], guard := none }) (v := ?_) rfl (by kernel_rfl) (by kernel_rfl) (by kernel_rfl) (fun _ _ _ h => h) (Or.inl ⟨by rfl, ?_⟩) (by assumption) ?_
    rotate_left 1
    · intro w' hSw; (go_simp <;> (with_reducible rfl))
    (try simp only [Act.put, List.setIfInBounds_toArray, List.set_cons_zero, List.set_cons_succ])
    refine wpAnyH_take (i := 42) (oi := { dst := some 6, op := Go.Op.assign (Go.Operand.tmp 163), type := 4, pos := "outright.go:38", after := #[{ on := 41, ground := Go.Ground.data }, { on := 40, ground := Go.Ground.chain }, { on := 0, ground := Go.Ground.phase }, { on := 1, ground := Go.Ground.phase }, { on := 2, ground := Go.Ground.phase }, { on := 3, ground := Go.Ground.phase }, { on := 4, ground := Go.Ground.phase }, { on := 5, ground := Go.Ground.phase }, { on := 6, ground := Go.Ground.phase }, { on := 7, ground := Go.Ground.phase }, { on := 8, ground := Go.Ground.phase }, { on := 9, ground := Go.Ground.phase }, { on := 10, ground := Go.Ground.phase }, { on := 11, ground := Go.Ground.phase }, { on := 12, ground := Go.Ground.phase }, { on := 13, ground := Go.Ground.phase }, { on := 14, ground := Go.Ground.phase }, { on := 15, ground := Go.Ground.phase }, { on := 16, ground := Go.Ground.phase }, { on := 17, ground := Go.Ground.phase }, { on := 18, ground := Go.Ground.phase }, { on := 19, ground := Go.Ground.phase }, { on := 20, ground := Go.Ground.phase }, { on := 21, ground := Go.Ground.phase }, { on := 22, ground := Go.Ground.phase }, { on := 23, ground := Go.Ground.phase }, { on := 24, ground := Go.Ground.phase }, { on := 25, ground := Go.Ground.phase }, { on := 26, ground := Go.Ground.phase }, { on := 27, ground := Go.Ground.phase }, { on := 28, ground := Go.Ground.phase }, { on := 29, ground := Go.Ground.phase }, { on := 30, ground := Go.Ground.phase }, { on := 31, ground := Go.Ground.phase }, { on := 32, ground := Go.Ground.phase }, { on := 33, ground := Go.Ground.phase }, { on := 34, ground := Go.Ground.phase }, { on := 35, ground := Go.Ground.phase }, { on := 36, ground := Go.Ground.phase }, { on := 37, ground := Go.Ground.phase }, { on := 38, ground := Go.Ground.phase }, { on := 39, ground := Go.Ground.phase }, { on := 40, ground := Go.Ground.phase }, { on := 41, ground := Go.Ground.phase }], guard := none }) (v := ?_) rfl (by kernel_rfl) (by kernel_rfl) (by kernel_rfl) (fun _ _ _ h => h) (Or.inl ⟨by rfl, ?_⟩) (by assumption) ?_
    rotate_left 1
    · intro w' hSw; (go_simp <;> (with_reducible rfl))
    (try simp only [Act.put, List.setIfInBounds_toArray, List.set_cons_zero, List.set_cons_succ])
    refine wpAnyH_done (by kernel_rfl) ?_ _
    have Hbb := Lib.hid (below_trans HbW.out (below_trans Hb9.out Hb10.out))
    clear hHeld HS
    go_wp2_with fail
    go_ret
    exact ⟨rfl, Hbb.out⟩
  have hni : (n : Int) ≤ 1472 := by omega
  have hn2 : n ≤ 1472 := by omega
  obtain ⟨L, eL⟩ : ∃ L, msgB ⟨ty, cd, rs, d⟩ = L := ⟨_, rfl⟩
  obtain ⟨M, eM⟩ : ∃ M, 8 + n = M := ⟨_, rfl⟩
  have hLlen := msgB_len ⟨ty, cd, rs, d⟩
  have hLb := msgB_by Hnum.out HdB.out
  have hLe := err_msgB Hnum.out HdB.out (by rw [Hdl.out]; exact hn2)
  have hLo := msgOf_msgB Hnum.out
  have hLs := sum_msgB Hnum.out HdB.out
  rw [eL] at hLlen hLb hLe hLo hLs
  simp only at hLlen
  rw [Hdl.out, eM] at hLlen
  have HLlen := Lib.hid hLlen
  have HLb := Lib.hid hLb
  have HLe := Lib.hid hLe
  have HLo := Lib.hid hLo
  have HLs := Lib.hid hLs
  have EL := Lib.hid eL
  have EM := Lib.hid eM
  have hM8 : 8 ≤ M := by omega
  have hMi : (M : Int) = 8 + (n : Int) := by omega
  have hM1480 : M ≤ 1480 := by omega
  obtain ⟨K, hK⟩ : ∃ K : Nat, bit % (8 * (M : Int)) = (K : Int) := ⟨(bit % (8 * (M : Int))).toNat, by have := Int.emod_nonneg bit (show 8 * (M : Int) ≠ 0 by omega); omega⟩
  have hKm : K < 8 * M := by have := Int.emod_lt_of_pos bit (show (0 : Int) < 8 * (M : Int) by omega); omega
  have HK0 := Lib.hid hK
  obtain ⟨j, ej⟩ : ∃ j : Nat, (K : Int) / 8 = (j : Int) := ⟨K / 8, by omega⟩
  have hj : j < M := by omega
  have hji : (j : Int) < (M : Int) := by omega
  obtain ⟨i, ei⟩ : ∃ i : Nat, (K : Int) % 8 = (i : Int) := ⟨K % 8, by omega⟩
  have hi : i < 8 := by omega
  have Ej := Lib.hid ej
  have Ei := Lib.hid ei
  have HMi := Lib.hid hMi
  clear eL hLlen hLb hLe hLo hLs hK hKm ej ei hn hMi eM
  go_enter Try.func4, Try.ntmps4
  go_upto_region 1 with (fail)
  rw [HeW.out]
  obtain ⟨c0, c1, c2, c3⟩ := (HK.out _ (Below.refl _ _)).1
  go_wp2_with fail
  refine (put8_any ⟨ty, cd, rs, d⟩ A n c _ L M 0 Hnum.out Hc.out (HK.out _ (Below.refl _ _)).2.1 (by unfold errP; rw [if_neg (by have := Hdl.out; simp only; omega)]) (by unfold toldM; rw [if_neg (by have := Hdl.out; simp only; omega)]; exact EL.out) HLlen.out).mono ?_
  rintro e w1 ⟨A1, c1', rfl, k1, m1, ho1, hb1⟩
  obtain ⟨g1, rfl, hg1, -⟩ := ho1.addr (by omega)
  have Hb := Lib.hid hb1
  have HO := Lib.hid ho1
  have Hg1 := Lib.hid hg1
  have Hk1 := Lib.hid (And.intro k1 m1)
  clear c0 c1 c2 c3 hb1 ho1 hg1 m1
  obtain ⟨c0, c1, c2, c3⟩ := (HK.out _ Hb.out).1
  have hM0 : ¬ (M : Int) ≤ 0 := by omega
  go_wp2_with fail
  refine (parse8_told (some ⟨g1, 0, none⟩) M c1' n L ty cd rs d _ Hk1.out (HO.out.rd HLb.out) HLe.out HLo.out Hdl.out).mono ?_
  rintro e w3 ⟨AD, cD, rfl, kD, mD, hoD, hb3⟩
  have hb3 := hb3.alloc hb3.size (.cells #[.int .u8 ty, .int .u8 cd, .int .u32 rs, .slice AD n cD] 25)
  have HD := Lib.hid ((hoD.rd HdB.out).below ((Below.refl _ _).alloc (Nat.le_refl _) (.cells #[.int .u8 ty, .int .u8 cd, .int .u32 rs, .slice AD n cD] 25)))
  have Hb := Lib.hid (below_trans Hb.out hb3)
  have HO := Lib.hid (HO.out.on hb3)
  clear c0 c1 c2 c3 hb3 hoD kD mD
  obtain ⟨c0, c1, c2, c3⟩ := (HK.out _ Hb.out).1
  go_wp2_with fail
  refine (same8_any ⟨ty, cd, rs, d⟩ ⟨ty, cd, rs, d⟩ A n c AD n cD _ true (HK.out _ Hb.out).2.1 HD.out (msgSame_self _)).mono ?_
  rintro e w4 ⟨rfl, hb4⟩
  have Hb := Lib.hid (below_trans Hb.out hb4)
  have HO := Lib.hid (HO.out.on hb4)
  clear c0 c1 c2 c3 hb4 HD
  obtain ⟨c0, c1, c2, c3⟩ := (HK.out _ Hb.out).1
  have hMn : (M : Int) = 8 + (n : Int) := HMi.out
  have hMd : ((M : Int) != 8 + (n : Int)) = false := by simp [hMn]
  have hMe : (8 + (n : Int) != 8 + (n : Int)) = false := by simp
  go_wp2_with fail
  refine (right_told (some ⟨w4.heap.size, 0, none⟩) 1 1 [L] _ true (by omega) (RdL.one w4 _ rfl 23 (0, 0) (some ⟨g1, 0, none⟩) M c1' L (HO.out.rd HLb.out) k1 Hk1.out.2) (by simp [HLs.out])).mono ?_
  rintro e w5 ⟨rfl, hb5⟩
  have hb5 := on_alloc hb5
  have Hb := Lib.hid (below_trans Hb.out hb5)
  have HO := Lib.hid (HO.out.on hb5)
  clear c0 c1 c2 c3 hb5 hMn hMd hMe
  have hmz : (8 * (M : Int) == 0) = false := by simp; omega
  have hm8 : 8 * (M : Int) ≤ 11840 := by omega
  have hm0 : (0 : Int) < (M : Int) := by omega
  have hKb := HK0.out
  go_wp2_with fail
  clear hKb
  try simp only [HK0.out]
  have hq1 : (K : Int).tdiv 8 = (j : Int) := by rw [Int.tdiv_eq_ediv_of_nonneg (by omega)]; exact Ej.out
  have hq2 : (K : Int).tmod 8 = (i : Int) := by rw [Int.tmod_eq_emod_of_nonneg (by omega)]; exact Ei.out
  obtain ⟨y, ey⟩ : ∃ y, L.getD j 0 = y := ⟨_, rfl⟩
  obtain ⟨hix, hcx, hfx⟩ := ownM_ix HO.out j (j : Int) hj rfl
  have hy := getD_byte HLb.out j
  rw [ey] at hcx hy
  have Ey := Lib.hid ey
  have hy0 := hy.1
  have hy1 := hy.2
  clear ey hy
  have hii : (i : Int) < 8 := by omega
  have hp : 0 < (2 : Int) ^ i ∧ (2 : Int) ^ i < 256 := by
    have : i = 0 ∨ i = 1 ∨ i = 2 ∨ i = 3 ∨ i = 4 ∨ i = 5 ∨ i = 6 ∨ i = 7 := by omega
    rcases this with rfl | rfl | rfl | rfl | rfl | rfl | rfl | rfl <;> decide
  have hwp : IntKind.u8.wrap ((2 : Int) ^ i) = 2 ^ i := by simp [IntKind.wrap, IntKind.bits, IntKind.signed]; omega
  have Hy := Lib.hid (And.intro (And.intro (bits_lo_u8 .xor y (2 ^ i)) (show bits .xor .u8 y (2 ^ i) < 256 by have := bits_hi_u8 .xor y (2 ^ i); omega)) (xor_ne y (2 ^ i) ⟨hy0, hy1⟩ hp))
  clear hp
  go_region
  obtain ⟨x, ex⟩ : ∃ x, bits .xor .u8 y (2 ^ i) = x := ⟨_, rfl⟩
  rw [ex] at Hy
  try simp only [ex]
  have hset := HO.out.set_ j x
  have hby := set_by HLb.out (i := j) Hy.out.1
  have hsl : (L.set j x).length = M := by rw [List.length_set]; exact HLlen.out
  have he20 : errM (L.set j x) = 20 := turnedM HLb.out HLe.out j (by rw [HLlen.out]; exact hj) x Hy.out.1 (by rw [Ey.out]; exact Hy.out.2)
  have hbs : Below W0.heap.size W0 (w5.setCell ⟨g1, j, none⟩ (.int .u8 x)).drew := Below.drew (Hb.out.setCell (by have := Hg1.out; simp; omega) _)
  have HR2 := Lib.hid ((hset.rd hby).below (Below.drew (Below.refl _ _)))
  have Hb := Lib.hid hbs
  have He20 := Lib.hid he20
  obtain ⟨w6, ew6⟩ : ∃ w6, (w5.setCell ⟨g1, j, none⟩ (.int .u8 x)).drew = w6 := ⟨_, rfl⟩
  rw [ew6] at HR2 Hb ⊢
  clear hset hby hsl he20 hbs ew6 ex hcx hfx hix hq1 hq2 hwp hy0 hy1 HO Hy
  go_wp2_with fail
  refine (parse8_x (some ⟨g1, 0, none⟩) M c1' (L.set j x) 20 _ Hk1.out HR2.out He20.out).mono ?_
  rintro e w7 ⟨t7, c7, r7, A7, n7, m7, rfl, hb7⟩
  have Hb := Lib.hid (below_trans Hb.out hb7)
  clear hb7 HR2
  go_wp2_with fail
  obtain ⟨x, ex⟩ : ∃ x, errM b = x := ⟨_, rfl⟩
  have Hx := Lib.hid ex
  clear ex
  by_cases h0 : x = 0
  case neg =>
    have hx2 : (x != 0) = true := by simpa using h0
    refine (parse8_err A' n' c' b x _ Hc'.out (HK.out _ Hb.out).2.2 Hx.out h0).mono ?_
    rintro e w8 ⟨rfl, hb8⟩
    have Hb8 := Lib.hid (below_trans Hb.out hb8)
    clear hb8
    go_wp2_with fail
    refine (same8_any zeroM zeroM none 0 0 none 0 0 _ true (Rd.nil _ _) (Rd.nil _ _) (msgSame_self _)).mono ?_
    rintro e w9 ⟨rfl, hb9⟩
    have Hb9 := Lib.hid (below_trans Hb8.out (on_alloc hb9))
    clear hb9
    go_wp2_with fail
    refine (wakes_any _).mono ?_
    rintro e w10 ⟨rfl, hb10⟩
    have Hb10 := Lib.hid (below_trans HbW.out (below_trans Hb9.out hb10))
    clear hb10
    go_wp2_with fail
    go_ret
    exact ⟨rfl, Hb10.out⟩
  subst h0
  have he0 := errM_zero Hx.out
  have hn8 : 8 ≤ n' := by have := Hbl.out; omega
  have hn1480 : n' ≤ 1480 := by have := Hbl.out; omega
  obtain ⟨hbk1, hbk2, hbk3, hbk4, hbk5⟩ := backM HbB.out Hx.out
  obtain ⟨hmn, hmd⟩ := msgOf_num HbB.out he0.2.1
  obtain ⟨ty2, cd2, rs2, d2, eS⟩ : ∃ ty cd rs d, msgOf b = ⟨ty, cd, rs, d⟩ := ⟨_, _, _, _, rfl⟩
  have hd2 : d2.length = n' - 8 := by rw [show d2 = (msgOf b).d by rw [eS]]; simp [msgOf, Hbl.out]
  obtain ⟨m, em⟩ : ∃ m, n' - 8 = m := ⟨_, rfl⟩
  rw [em] at hd2
  refine (parse8_told A' n' c' m b ty2 cd2 rs2 d2 _ Hc'.out (HK.out _ Hb.out).2.2 Hx.out eS hd2).mono ?_
  rintro e w8 ⟨AD, cD, rfl, kD, mD, hoD, hb8⟩
  rw [eS] at hbk1 hbk2 hbk3 hbk4 hbk5 hmn hmd
  obtain ⟨L2, eL2⟩ : ∃ L, msgB ⟨ty2, cd2, rs2, d2⟩ = L := ⟨_, rfl⟩
  have hL2b := msgB_by hmn hmd
  rw [eL2] at hbk1 hbk2 hbk3 hbk4 hL2b
  rw [← hbk4] at hbk5
  have hba := (Below.refl w8.heap.size w8).alloc (Nat.le_refl _) (.cells #[.int .u8 ty2, .int .u8 cd2, .int .u32 rs2, .slice AD m cD] 25)
  have HRD := Lib.hid ((hoD.rd hmd).below hba)
  have Hkc := Lib.hid (And.intro kD mD)
  have Hb8 := Lib.hid (below_trans (below_trans Hb.out hb8) hba)
  have hk8 := heap_alloc_new w8 (.cells #[.int .u8 ty2, .int .u8 cd2, .int .u32 rs2, .slice AD m cD] 25)
  obtain ⟨z8, ez8⟩ : ∃ z, w8.heap.size = z := ⟨_, rfl⟩
  rw [ez8] at hk8
  have HK8 := Lib.hid hk8
  have Hmn := Lib.hid hmn
  have HL2b := Lib.hid hL2b
  have HL2 := Lib.hid eL2
  have Hd2 := Lib.hid hd2
  have B1 := Lib.hid hbk1
  have B2 := Lib.hid hbk2
  have B3 := Lib.hid hbk3
  have B5 := Lib.hid hbk5
  clear hb8 hba kD mD hoD hmn hmd hL2b eL2 hbk1 hbk2 hbk3 hbk4 hbk5 hk8 he0 eS hd2
  go_upto_region 16 with (fail)
  obtain ⟨v8, ev8⟩ : ∃ v, w8.alloc (.cells #[.int .u8 ty2, .int .u8 cd2, .int .u32 rs2, .slice AD m cD] 25) = v := ⟨_, rfl⟩
  try rw [ev8]
  rw [ev8] at HRD Hb8 HK8
  try simp only [ez8]
  clear ev8 ez8
  obtain ⟨y0, y1, y2, y3⟩ := cells4 HK8.out
  go_wp2_with fail
  have hm1472 : ¬ 1472 < m := by omega
  refine (put8_any ⟨ty2, cd2, rs2, d2⟩ AD m cD _ L2 n' 0 Hmn.out Hkc.out HRD.out (by unfold errP; rw [if_neg (by have := Hd2.out; simp only; omega)]) (by unfold toldM; rw [if_neg (by have := Hd2.out; simp only; omega)]; exact HL2.out) (by rw [B3.out, Hbl.out])).mono ?_
  rintro e w9 ⟨A9, c9, rfl, k9, m9, ho9, hb9⟩
  have Hb9 := Lib.hid (below_trans Hb8.out hb9)
  have hR9 := ho9.rd HL2b.out
  have hRb := (HK.out _ Hb9.out).2.2
  have HR9 := Lib.hid hR9
  have HRb := Lib.hid hRb
  have hn8i : ¬ (n' : Int) < 8 := by omega
  clear hb9 ho9 y0 y1 y2 y3 hR9 hRb HK8 HRD
  go_wp2_with fail
  have hdr := Below.drew (Below.refl w9.heap.size w9)
  have Hb9 := Lib.hid (below_trans Hb9.out hdr)
  have HR9 := Lib.hid (HR9.out.below hdr)
  have HRb := Lib.hid (HRb.out.below hdr)
  obtain ⟨p2, hi2, hc2, hp2⟩ := HR9.out.index (c := c9) (j := 2) (by omega)
  obtain ⟨p3, hi3, hc3, hp3⟩ := HR9.out.index (c := c9) (j := 3) (by omega)
  obtain ⟨q2, hj2, hd2', hq2⟩ := HRb.out.index (c := c') (j := 2) (by omega)
  obtain ⟨q3, hj3, hd3', hq3⟩ := HRb.out.index (c := c') (j := 3) (by omega)
  have hi2 : ∀ W : World, (Instr.indexAt 23 (.slice A9 n' c9) (.int .i64 2)).run Try.prog W = .ok (.pointer (some p2)) W := hi2
  have hi3 : ∀ W : World, (Instr.indexAt 23 (.slice A9 n' c9) (.int .i64 3)).run Try.prog W = .ok (.pointer (some p3)) W := hi3
  have hj2 : ∀ W : World, (Instr.indexAt 23 (.slice A' n' c') (.int .i64 2)).run Try.prog W = .ok (.pointer (some q2)) W := hj2
  have hj3 : ∀ W : World, (Instr.indexAt 23 (.slice A' n' c') (.int .i64 3)).run Try.prog W = .ok (.pointer (some q3)) W := hj3
  obtain ⟨A10, hs10, hr10⟩ := HR9.out.restM (c := c9) 4 4 (by omega) (by omega) k9 m9 rfl
  obtain ⟨A11, hs11, hr11⟩ := HRb.out.restM (c := c') 4 4 (by omega) (by omega) Hc'.out.1 Hc'.out.2 rfl
  rw [B2.out] at hr10
  have ht9 := HR9.out.take (k := 2) (by omega)
  have htb := HRb.out.take (k := 2) (by omega)
  rw [B1.out] at ht9
  have hx2b := getD_byte HL2b.out 2
  have hx3b := getD_byte HL2b.out 3
  have hy2b := getD_byte HbB.out 2
  have hy3b := getD_byte HbB.out 3
  have b5 := B5.out
  unfold m16 at b5
  obtain ⟨x2, ex2⟩ : ∃ x, L2.getD 2 0 = x := ⟨_, rfl⟩
  obtain ⟨x3, ex3⟩ : ∃ x, L2.getD 3 0 = x := ⟨_, rfl⟩
  obtain ⟨y2, ey2⟩ : ∃ x, b.getD 2 0 = x := ⟨_, rfl⟩
  obtain ⟨y3, ey3⟩ : ∃ x, b.getD 3 0 = x := ⟨_, rfl⟩
  rw [ex2] at hc2 hx2b b5
  rw [show (2 : Nat) + 1 = 3 from rfl, ex3, ey3] at b5
  rw [ex3] at hc3 hx3b
  rw [ey2] at hd2' hy2b b5
  rw [ey3] at hd3' hy3b
  have B6 := Lib.hid b5
  have hv0 := or16 x2 x3 hx2b hx3b
  have hv1 := or16 y2 y3 hy2b hy3b
  have hv2 : IntKind.u16.wrap x2 = x2 := by rw [wrap_u16]; omega
  have hv3 : IntKind.u16.wrap x3 = x3 := by rw [wrap_u16]; omega
  have hv4 : IntKind.u16.wrap y2 = y2 := by rw [wrap_u16]; omega
  have hv5 : IntKind.u16.wrap y3 = y3 := by rw [wrap_u16]; omega
  have hv6 : IntKind.u16.wrap (x2 * 256) = x2 * 256 := by rw [wrap_u16]; omega
  have hv7 : IntKind.u16.wrap (y2 * 256) = y2 * 256 := by rw [wrap_u16]; omega
  have hc2i : (2 : Int) ≤ (c' : Int) := by have := Hc'.out.1; omega
  have hc9i : (2 : Int) ≤ (c9 : Int) := by omega
  have HS := Lib.hid (show ∀ w', Below w9.drew.heap.size w9.drew w' → ((convert 23 9 (.slice A9 2 c9)).run Try.prog w' = .ok (.string (strOfNums (b.take 2))) w' ∧ (convert 23 9 (.slice A' 2 c')).run Try.prog w' = .ok (.string (strOfNums (b.take 2))) w' ∧
      (convert 23 9 (.slice A10 (n' - 4) (c9 - 4))).run Try.prog w' = .ok (.string (strOfNums (b.drop 4))) w' ∧ (convert 23 9 (.slice A11 (n' - 4) (c' - 4))).run Try.prog w' = .ok (.string (strOfNums (b.drop 4))) w' ∧
      w'.cell? p2 = some (.int .u8 x2) ∧ w'.cell? p3 = some (.int .u8 x3) ∧ w'.cell? q2 = some (.int .u8 y2) ∧ w'.cell? q3 = some (.int .u8 y3)) from
    fun w' hb => ⟨conv_rd (ht9.below hb) _, conv_rd (htb.below hb) _, conv_rd (hr10.below hb) _, conv_rd (hr11.below hb) _, (hb.cell hp2).trans hc2, (hb.cell hp3).trans hc3, (hb.cell hq2).trans hd2', (hb.cell hq3).trans hd3'⟩)
  clear hc2 hc3 hd2' hd3' hp2 hp3 hq2 hq3 hr10 hr11 ht9 htb hdr b5 ex2 ex3 ey2 ey3 hx2b hx3b hy2b hy3b HRb HR9
  refine wp_region_held_drew (S := fun w' => ((convert 23 9 (.slice A9 2 c9)).run Try.prog w' = .ok (.string (strOfNums (b.take 2))) w' ∧ (convert 23 9 (.slice A' 2 c')).run Try.prog w' = .ok (.string (strOfNums (b.take 2))) w' ∧
      (convert 23 9 (.slice A10 (n' - 4) (c9 - 4))).run Try.prog w' = .ok (.string (strOfNums (b.drop 4))) w' ∧ (convert 23 9 (.slice A11 (n' - 4) (c' - 4))).run Try.prog w' = .ok (.string (strOfNums (b.drop 4))) w' ∧
      w'.cell? p2 = some (.int .u8 x2) ∧ w'.cell? p3 = some (.int .u8 x3) ∧ w'.cell? q2 = some (.int .u8 y2) ∧ w'.cell? q3 = some (.int .u8 y3))) (by kernel_rfl) (HS.out _ (Below.refl _ _)) (fun hHeld => ?_)
  obtain ⟨wd, ewd⟩ : ∃ wd, w9.drew = wd := ⟨_, rfl⟩
  rw [ewd] at HS Hb9 hHeld ⊢
  clear ewd
  refine wpAnyH_take (i := 0) (oi := { dst := some 122, op := Go.Op.move (Go.Operand.tmp 14), type := 23, pos := "outright.go:38", after := #[], guard := none }) (v := ?_) rfl (by kernel_rfl) (by kernel_rfl) (by kernel_rfl) (fun _ _ _ h => h) (Or.inl ⟨by rfl, ?_⟩) (by assumption) ?_
  rotate_left 1
  · intro w' hSw; (go_simp <;> (with_reducible rfl))
  (try simp only [Act.put, List.setIfInBounds_toArray, List.set_cons_zero, List.set_cons_succ])
  refine wpAnyH_take (i := 1) (oi := { dst := some 123, op := Go.Op.slice 23 (Go.Operand.tmp 122) none (some (Go.Operand.const (Go.Value.int Go.IntKind.i64 2))) none, type := 23, pos := "outright.go:38", after := #[{ on := 0, ground := Go.Ground.data }], guard := none }) (v := ?_) rfl (by kernel_rfl) (by kernel_rfl) (by kernel_rfl) (fun _ _ _ h => h) (Or.inl ⟨by rfl, ?_⟩) (by assumption) ?_
  rotate_left 1
  · intro w' hSw; (go_simp <;> (with_reducible rfl))
  (try simp only [Act.put, List.setIfInBounds_toArray, List.set_cons_zero, List.set_cons_succ])
  refine wpAnyH_take (i := 2) (oi := { dst := some 124, op := Go.Op.convert 23 9 (Go.Operand.tmp 123), type := 9, pos := "outright.go:38", after := #[{ on := 1, ground := Go.Ground.data }], guard := none }) (v := ?_) rfl (by kernel_rfl) (by kernel_rfl) (by kernel_rfl) (fun _ _ _ h => h) (Or.inl ⟨by rfl, ?_⟩) (by assumption) ?_
  rotate_left 1
  · intro w' hSw; (go_simp <;> (with_reducible rfl))
  (try simp only [Act.put, List.setIfInBounds_toArray, List.set_cons_zero, List.set_cons_succ])
  refine wpAnyH_take (i := 3) (oi := { dst := some 125, op := Go.Op.move (Go.Operand.tmp 1), type := 23, pos := "outright.go:38", after := #[], guard := none }) (v := ?_) rfl (by kernel_rfl) (by kernel_rfl) (by kernel_rfl) (fun _ _ _ h => h) (Or.inl ⟨by rfl, ?_⟩) (by assumption) ?_
  rotate_left 1
  · intro w' hSw; (go_simp <;> (with_reducible rfl))
  (try simp only [Act.put, List.setIfInBounds_toArray, List.set_cons_zero, List.set_cons_succ])
  refine wpAnyH_take (i := 4) (oi := { dst := some 126, op := Go.Op.slice 23 (Go.Operand.tmp 125) none (some (Go.Operand.const (Go.Value.int Go.IntKind.i64 2))) none, type := 23, pos := "outright.go:38", after := #[{ on := 3, ground := Go.Ground.data }], guard := none }) (v := ?_) rfl (by kernel_rfl) (by kernel_rfl) (by kernel_rfl) (fun _ _ _ h => h) (Or.inl ⟨by rfl, ?_⟩) (by assumption) ?_
  rotate_left 1
  · intro w' hSw; (go_simp <;> (with_reducible rfl))
  (try simp only [Act.put, List.setIfInBounds_toArray, List.set_cons_zero, List.set_cons_succ])
  refine wpAnyH_take (i := 5) (oi := { dst := some 127, op := Go.Op.convert 23 9 (Go.Operand.tmp 126), type := 9, pos := "outright.go:38", after := #[{ on := 4, ground := Go.Ground.data }], guard := none }) (v := ?_) rfl (by kernel_rfl) (by kernel_rfl) (by kernel_rfl) (fun _ _ _ h => h) (Or.inl ⟨by rfl, ?_⟩) (by assumption) ?_
  rotate_left 1
  · intro w' hSw; (go_simp <;> (with_reducible rfl))
  (try simp only [Act.put, List.setIfInBounds_toArray, List.set_cons_zero, List.set_cons_succ])
  refine wpAnyH_take (i := 6) (oi := { dst := some 128, op := Go.Op.binOp Go.BinOp.eql 9 (Go.Operand.tmp 124) (Go.Operand.tmp 127) 9, type := 4, pos := "outright.go:38", after := #[{ on := 2, ground := Go.Ground.data }, { on := 5, ground := Go.Ground.data }], guard := none }) (v := ?_) rfl (by kernel_rfl) (by kernel_rfl) (by kernel_rfl) (fun _ _ _ h => h) (Or.inl ⟨by rfl, ?_⟩) (by assumption) ?_
  rotate_left 1
  · intro w' hSw; (go_simp <;> (with_reducible rfl))
  (try simp only [Act.put, List.setIfInBounds_toArray, List.set_cons_zero, List.set_cons_succ])
  refine wpAnyH_take (i := 7) (oi := { dst := some 129, op := Go.Op.move (Go.Operand.tmp 128), type := 4, pos := "outright.go:38", after := #[{ on := 6, ground := Go.Ground.data }], guard := none }) (v := ?_) rfl (by kernel_rfl) (by kernel_rfl) (by kernel_rfl) (fun _ _ _ h => h) (Or.inl ⟨by rfl, ?_⟩) (by assumption) ?_
  rotate_left 1
  · intro w' hSw; (go_simp <;> (with_reducible rfl))
  (try simp only [Act.put, List.setIfInBounds_toArray, List.set_cons_zero, List.set_cons_succ])
  refine wpAnyH_take (i := 8) (oi := { dst := some 130, op := Go.Op.move (Go.Operand.tmp 14), type := 23, pos := "outright.go:38", after := #[{ on := 7, ground := Go.Ground.guard }], guard := some (7, true) }) (v := ?_) rfl (by kernel_rfl) (by kernel_rfl) (by kernel_rfl) (fun _ _ _ h => h) (Or.inl ⟨by rfl, ?_⟩) (by assumption) ?_
  rotate_left 1
  · intro w' hSw; (go_simp <;> (with_reducible rfl))
  (try simp only [Act.put, List.setIfInBounds_toArray, List.set_cons_zero, List.set_cons_succ])
  refine wpAnyH_take (i := 9) (oi := { dst := some 131, op := Go.Op.slice 23 (Go.Operand.tmp 130) (some (Go.Operand.const (Go.Value.int Go.IntKind.i64 4))) none none, type := 23, pos := "outright.go:38", after := #[{ on := 8, ground := Go.Ground.data }, { on := 7, ground := Go.Ground.guard }], guard := some (7, true) }) (v := ?_) rfl (by kernel_rfl) (by kernel_rfl) (by kernel_rfl) (fun _ _ _ h => h) (Or.inl ⟨by rfl, ?_⟩) (by assumption) ?_
  rotate_left 1
  · intro w' hSw; (go_simp <;> (with_reducible rfl))
  (try simp only [Act.put, List.setIfInBounds_toArray, List.set_cons_zero, List.set_cons_succ])
  refine wpAnyH_take (i := 10) (oi := { dst := some 132, op := Go.Op.convert 23 9 (Go.Operand.tmp 131), type := 9, pos := "outright.go:38", after := #[{ on := 9, ground := Go.Ground.data }, { on := 7, ground := Go.Ground.guard }], guard := some (7, true) }) (v := ?_) rfl (by kernel_rfl) (by kernel_rfl) (by kernel_rfl) (fun _ _ _ h => h) (Or.inl ⟨by rfl, ?_⟩) (by assumption) ?_
  rotate_left 1
  · intro w' hSw; (go_simp <;> (with_reducible rfl))
  (try simp only [Act.put, List.setIfInBounds_toArray, List.set_cons_zero, List.set_cons_succ])
  refine wpAnyH_take (i := 11) (oi := { dst := some 133, op := Go.Op.move (Go.Operand.tmp 1), type := 23, pos := "outright.go:38", after := #[{ on := 7, ground := Go.Ground.guard }], guard := some (7, true) }) (v := ?_) rfl (by kernel_rfl) (by kernel_rfl) (by kernel_rfl) (fun _ _ _ h => h) (Or.inl ⟨by rfl, ?_⟩) (by assumption) ?_
  rotate_left 1
  · intro w' hSw; (go_simp <;> (with_reducible rfl))
  (try simp only [Act.put, List.setIfInBounds_toArray, List.set_cons_zero, List.set_cons_succ])
  refine wpAnyH_take (i := 12) (oi := { dst := some 134, op := Go.Op.slice 23 (Go.Operand.tmp 133) (some (Go.Operand.const (Go.Value.int Go.IntKind.i64 4))) none none, type := 23, pos := "outright.go:38", after := #[{ on := 11, ground := Go.Ground.data }, { on := 7, ground := Go.Ground.guard }], guard := some (7, true) }) (v := ?_) rfl (by kernel_rfl) (by kernel_rfl) (by kernel_rfl) (fun _ _ _ h => h) (Or.inl ⟨by rfl, ?_⟩) (by assumption) ?_
  rotate_left 1
  · intro w' hSw; (go_simp <;> (with_reducible rfl))
  (try simp only [Act.put, List.setIfInBounds_toArray, List.set_cons_zero, List.set_cons_succ])
  refine wpAnyH_take (i := 13) (oi := { dst := some 135, op := Go.Op.convert 23 9 (Go.Operand.tmp 134), type := 9, pos := "outright.go:38", after := #[{ on := 12, ground := Go.Ground.data }, { on := 7, ground := Go.Ground.guard }], guard := some (7, true) }) (v := ?_) rfl (by kernel_rfl) (by kernel_rfl) (by kernel_rfl) (fun _ _ _ h => h) (Or.inl ⟨by rfl, ?_⟩) (by assumption) ?_
  rotate_left 1
  · intro w' hSw; (go_simp <;> (with_reducible rfl))
  (try simp only [Act.put, List.setIfInBounds_toArray, List.set_cons_zero, List.set_cons_succ])
  refine wpAnyH_take (i := 14) (oi := { dst := some 136, op := Go.Op.binOp Go.BinOp.eql 9 (Go.Operand.tmp 132) (Go.Operand.tmp 135) 9, type := 4, pos := "outright.go:38", after := #[{ on := 10, ground := Go.Ground.data }, { on := 13, ground := Go.Ground.data }, { on := 7, ground := Go.Ground.guard }], guard := some (7, true) }) (v := ?_) rfl (by kernel_rfl) (by kernel_rfl) (by kernel_rfl) (fun _ _ _ h => h) (Or.inl ⟨by rfl, ?_⟩) (by assumption) ?_
  rotate_left 1
  · intro w' hSw; (go_simp <;> (with_reducible rfl))
  (try simp only [Act.put, List.setIfInBounds_toArray, List.set_cons_zero, List.set_cons_succ])
  refine wpAnyH_take (i := 15) (oi := { dst := some 137, op := Go.Op.pick (Go.Operand.tmp 129) (Go.Operand.tmp 136) (Go.Operand.const (Go.Value.bool false)), type := 4, pos := "outright.go:38", after := #[{ on := 7, ground := Go.Ground.data }, { on := 14, ground := Go.Ground.data }], guard := none }) (v := ?_) rfl (by kernel_rfl) (by kernel_rfl) (by kernel_rfl) (fun _ _ _ h => h) (Or.inl ⟨by rfl, ?_⟩) (by assumption) ?_
  rotate_left 1
  · intro w' hSw; (go_simp <;> (with_reducible rfl))
  (try simp only [Act.put, List.setIfInBounds_toArray, List.set_cons_zero, List.set_cons_succ])
  refine wpAnyH_take (i := 16) (oi := { dst := some 138, op := Go.Op.move (Go.Operand.tmp 137), type := 4, pos := "outright.go:38", after := #[{ on := 15, ground := Go.Ground.data }, { on := 7, ground := Go.Ground.chain }], guard := none }) (v := ?_) rfl (by kernel_rfl) (by kernel_rfl) (by kernel_rfl) (fun _ _ _ h => h) (Or.inl ⟨by rfl, ?_⟩) (by assumption) ?_
  rotate_left 1
  · intro w' hSw; (go_simp <;> (with_reducible rfl))
  (try simp only [Act.put, List.setIfInBounds_toArray, List.set_cons_zero, List.set_cons_succ])
  refine wpAnyH_take (i := 17) (oi := { dst := some 139, op := Go.Op.move (Go.Operand.tmp 14), type := 23, pos := "outright.go:38", after := #[{ on := 16, ground := Go.Ground.guard }], guard := some (16, true) }) (v := ?_) rfl (by kernel_rfl) (by kernel_rfl) (by kernel_rfl) (fun _ _ _ h => h) (Or.inl ⟨by rfl, ?_⟩) (by assumption) ?_
  rotate_left 1
  · intro w' hSw; (go_simp <;> (with_reducible rfl))
  (try simp only [Act.put, List.setIfInBounds_toArray, List.set_cons_zero, List.set_cons_succ])
  refine wpAnyH_take (i := 18) (oi := { dst := some 140, op := Go.Op.indexAddr 23 (Go.Operand.tmp 139) (Go.Operand.const (Go.Value.int Go.IntKind.i64 2)), type := 0, pos := "outright.go:38", after := #[{ on := 17, ground := Go.Ground.data }, { on := 16, ground := Go.Ground.guard }], guard := some (16, true) }) (v := ?_) rfl (by kernel_rfl) (by kernel_rfl) (by kernel_rfl) (fun _ _ _ h => h) (Or.inl ⟨by rfl, ?_⟩) (by assumption) ?_
  rotate_left 1
  · intro w' hSw; (go_simp <;> (with_reducible rfl))
  (try simp only [Act.put, List.setIfInBounds_toArray, List.set_cons_zero, List.set_cons_succ])
  refine wpAnyH_take (i := 19) (oi := { dst := some 141, op := Go.Op.load 5 (Go.Operand.tmp 140), type := 5, pos := "outright.go:38", after := #[{ on := 18, ground := Go.Ground.data }, { on := 16, ground := Go.Ground.guard }], guard := some (16, true) }) (v := ?_) rfl (by kernel_rfl) (by kernel_rfl) (by kernel_rfl) (fun _ _ _ h => h) (Or.inl ⟨by rfl, ?_⟩) (by assumption) ?_
  rotate_left 1
  · intro w' hSw; (go_simp <;> (with_reducible rfl))
  (try simp only [Act.put, List.setIfInBounds_toArray, List.set_cons_zero, List.set_cons_succ])
  refine wpAnyH_take (i := 20) (oi := { dst := some 142, op := Go.Op.convert 5 26 (Go.Operand.tmp 141), type := 26, pos := "outright.go:38", after := #[{ on := 19, ground := Go.Ground.data }, { on := 16, ground := Go.Ground.guard }], guard := some (16, true) }) (v := ?_) rfl (by kernel_rfl) (by kernel_rfl) (by kernel_rfl) (fun _ _ _ h => h) (Or.inl ⟨by rfl, ?_⟩) (by assumption) ?_
  rotate_left 1
  · intro w' hSw; (go_simp <;> (with_reducible rfl))
  (try simp only [Act.put, List.setIfInBounds_toArray, List.set_cons_zero, List.set_cons_succ])
  refine wpAnyH_take (i := 21) (oi := { dst := some 143, op := Go.Op.binOp Go.BinOp.shl 26 (Go.Operand.tmp 142) (Go.Operand.const (Go.Value.int Go.IntKind.u64 8)) 47, type := 26, pos := "outright.go:38", after := #[{ on := 20, ground := Go.Ground.data }, { on := 16, ground := Go.Ground.guard }], guard := some (16, true) }) (v := ?_) rfl (by kernel_rfl) (by kernel_rfl) (by kernel_rfl) (fun _ _ _ h => h) (Or.inl ⟨by rfl, ?_⟩) (by assumption) ?_
  rotate_left 1
  · intro w' hSw; (go_simp <;> (with_reducible rfl))
  (try simp only [Act.put, List.setIfInBounds_toArray, List.set_cons_zero, List.set_cons_succ])
  refine wpAnyH_take (i := 22) (oi := { dst := some 144, op := Go.Op.move (Go.Operand.tmp 14), type := 23, pos := "outright.go:38", after := #[{ on := 16, ground := Go.Ground.guard }], guard := some (16, true) }) (v := ?_) rfl (by kernel_rfl) (by kernel_rfl) (by kernel_rfl) (fun _ _ _ h => h) (Or.inl ⟨by rfl, ?_⟩) (by assumption) ?_
  rotate_left 1
  · intro w' hSw; (go_simp <;> (with_reducible rfl))
  (try simp only [Act.put, List.setIfInBounds_toArray, List.set_cons_zero, List.set_cons_succ])
  refine wpAnyH_take (i := 23) (oi := { dst := some 145, op := Go.Op.indexAddr 23 (Go.Operand.tmp 144) (Go.Operand.const (Go.Value.int Go.IntKind.i64 3)), type := 0, pos := "outright.go:38", after := #[{ on := 22, ground := Go.Ground.data }, { on := 16, ground := Go.Ground.guard }], guard := some (16, true) }) (v := ?_) rfl (by kernel_rfl) (by kernel_rfl) (by kernel_rfl) (fun _ _ _ h => h) (Or.inl ⟨by rfl, ?_⟩) (by assumption) ?_
  rotate_left 1
  · intro w' hSw; (go_simp <;> (with_reducible rfl))
  (try simp only [Act.put, List.setIfInBounds_toArray, List.set_cons_zero, List.set_cons_succ])
  refine wpAnyH_take (i := 24) (oi := { dst := some 146, op := Go.Op.load 5 (Go.Operand.tmp 145), type := 5, pos := "outright.go:38", after := #[{ on := 23, ground := Go.Ground.data }, { on := 16, ground := Go.Ground.guard }], guard := some (16, true) }) (v := ?_) rfl (by kernel_rfl) (by kernel_rfl) (by kernel_rfl) (fun _ _ _ h => h) (Or.inl ⟨by rfl, ?_⟩) (by assumption) ?_
  rotate_left 1
  · intro w' hSw; (go_simp <;> (with_reducible rfl))
  (try simp only [Act.put, List.setIfInBounds_toArray, List.set_cons_zero, List.set_cons_succ])
  refine wpAnyH_take (i := 25) (oi := { dst := some 147, op := Go.Op.convert 5 26 (Go.Operand.tmp 146), type := 26, pos := "outright.go:38", after := #[{ on := 24, ground := Go.Ground.data }, { on := 16, ground := Go.Ground.guard }], guard := some (16, true) }) (v := ?_) rfl (by kernel_rfl) (by kernel_rfl) (by kernel_rfl) (fun _ _ _ h => h) (Or.inl ⟨by rfl, ?_⟩) (by assumption) ?_
  rotate_left 1
  · intro w' hSw; (go_simp <;> (with_reducible rfl))
  (try simp only [Act.put, List.setIfInBounds_toArray, List.set_cons_zero, List.set_cons_succ])
  refine wpAnyH_take (i := 26) (oi := { dst := some 148, op := Go.Op.binOp Go.BinOp.or 26 (Go.Operand.tmp 143) (Go.Operand.tmp 147) 26, type := 26, pos := "outright.go:38", after := #[{ on := 21, ground := Go.Ground.data }, { on := 25, ground := Go.Ground.data }, { on := 16, ground := Go.Ground.guard }], guard := some (16, true) }) (v := ?_) rfl (by kernel_rfl) (by kernel_rfl) (by kernel_rfl) (fun _ _ _ h => h) (Or.inl ⟨by rfl, ?_⟩) (by assumption) ?_
  rotate_left 1
  · intro w' hSw; (go_simp <;> (with_reducible rfl))
  (try simp only [Act.put, List.setIfInBounds_toArray, List.set_cons_zero, List.set_cons_succ])
  refine wpAnyH_take (i := 27) (oi := { dst := some 149, op := Go.Op.move (Go.Operand.tmp 1), type := 23, pos := "outright.go:38", after := #[{ on := 16, ground := Go.Ground.guard }], guard := some (16, true) }) (v := ?_) rfl (by kernel_rfl) (by kernel_rfl) (by kernel_rfl) (fun _ _ _ h => h) (Or.inl ⟨by rfl, ?_⟩) (by assumption) ?_
  rotate_left 1
  · intro w' hSw; (go_simp <;> (with_reducible rfl))
  (try simp only [Act.put, List.setIfInBounds_toArray, List.set_cons_zero, List.set_cons_succ])
  refine wpAnyH_take (i := 28) (oi := { dst := some 150, op := Go.Op.indexAddr 23 (Go.Operand.tmp 149) (Go.Operand.const (Go.Value.int Go.IntKind.i64 2)), type := 0, pos := "outright.go:38", after := #[{ on := 27, ground := Go.Ground.data }, { on := 16, ground := Go.Ground.guard }], guard := some (16, true) }) (v := ?_) rfl (by kernel_rfl) (by kernel_rfl) (by kernel_rfl) (fun _ _ _ h => h) (Or.inl ⟨by rfl, ?_⟩) (by assumption) ?_
  rotate_left 1
  · intro w' hSw; (go_simp <;> (with_reducible rfl))
  (try simp only [Act.put, List.setIfInBounds_toArray, List.set_cons_zero, List.set_cons_succ])
  refine wpAnyH_take (i := 29) (oi := { dst := some 151, op := Go.Op.load 5 (Go.Operand.tmp 150), type := 5, pos := "outright.go:38", after := #[{ on := 28, ground := Go.Ground.data }, { on := 16, ground := Go.Ground.guard }], guard := some (16, true) }) (v := ?_) rfl (by kernel_rfl) (by kernel_rfl) (by kernel_rfl) (fun _ _ _ h => h) (Or.inl ⟨by rfl, ?_⟩) (by assumption) ?_
  rotate_left 1
  · intro w' hSw; (go_simp <;> (with_reducible rfl))
  (try simp only [Act.put, List.setIfInBounds_toArray, List.set_cons_zero, List.set_cons_succ])
  refine wpAnyH_take (i := 30) (oi := { dst := some 152, op := Go.Op.convert 5 26 (Go.Operand.tmp 151), type := 26, pos := "outright.go:38", after := #[{ on := 29, ground := Go.Ground.data }, { on := 16, ground := Go.Ground.guard }], guard := some (16, true) }) (v := ?_) rfl (by kernel_rfl) (by kernel_rfl) (by kernel_rfl) (fun _ _ _ h => h) (Or.inl ⟨by rfl, ?_⟩) (by assumption) ?_
  rotate_left 1
  · intro w' hSw; (go_simp <;> (with_reducible rfl))
  (try simp only [Act.put, List.setIfInBounds_toArray, List.set_cons_zero, List.set_cons_succ])
  refine wpAnyH_take (i := 31) (oi := { dst := some 153, op := Go.Op.binOp Go.BinOp.shl 26 (Go.Operand.tmp 152) (Go.Operand.const (Go.Value.int Go.IntKind.u64 8)) 47, type := 26, pos := "outright.go:38", after := #[{ on := 30, ground := Go.Ground.data }, { on := 16, ground := Go.Ground.guard }], guard := some (16, true) }) (v := ?_) rfl (by kernel_rfl) (by kernel_rfl) (by kernel_rfl) (fun _ _ _ h => h) (Or.inl ⟨by rfl, ?_⟩) (by assumption) ?_
  rotate_left 1
  · intro w' hSw; (go_simp <;> (with_reducible rfl))
  (try simp only [Act.put, List.setIfInBounds_toArray, List.set_cons_zero, List.set_cons_succ])
  refine wpAnyH_take (i := 32) (oi := { dst := some 154, op := Go.Op.move (Go.Operand.tmp 1), type := 23, pos := "outright.go:38", after := #[{ on := 16, ground := Go.Ground.guard }], guard := some (16, true) }) (v := ?_) rfl (by kernel_rfl) (by kernel_rfl) (by kernel_rfl) (fun _ _ _ h => h) (Or.inl ⟨by rfl, ?_⟩) (by assumption) ?_
  rotate_left 1
  · intro w' hSw; (go_simp <;> (with_reducible rfl))
  (try simp only [Act.put, List.setIfInBounds_toArray, List.set_cons_zero, List.set_cons_succ])
  refine wpAnyH_take (i := 33) (oi := { dst := some 155, op := Go.Op.indexAddr 23 (Go.Operand.tmp 154) (Go.Operand.const (Go.Value.int Go.IntKind.i64 3)), type := 0, pos := "outright.go:38", after := #[{ on := 32, ground := Go.Ground.data }, { on := 16, ground := Go.Ground.guard }], guard := some (16, true) }) (v := ?_) rfl (by kernel_rfl) (by kernel_rfl) (by kernel_rfl) (fun _ _ _ h => h) (Or.inl ⟨by rfl, ?_⟩) (by assumption) ?_
  rotate_left 1
  · intro w' hSw; (go_simp <;> (with_reducible rfl))
  (try simp only [Act.put, List.setIfInBounds_toArray, List.set_cons_zero, List.set_cons_succ])
  refine wpAnyH_take (i := 34) (oi := { dst := some 156, op := Go.Op.load 5 (Go.Operand.tmp 155), type := 5, pos := "outright.go:38", after := #[{ on := 33, ground := Go.Ground.data }, { on := 16, ground := Go.Ground.guard }], guard := some (16, true) }) (v := ?_) rfl (by kernel_rfl) (by kernel_rfl) (by kernel_rfl) (fun _ _ _ h => h) (Or.inl ⟨by rfl, ?_⟩) (by assumption) ?_
  rotate_left 1
  · intro w' hSw; (go_simp <;> (with_reducible rfl))
  (try simp only [Act.put, List.setIfInBounds_toArray, List.set_cons_zero, List.set_cons_succ])
  refine wpAnyH_take (i := 35) (oi := { dst := some 157, op := Go.Op.convert 5 26 (Go.Operand.tmp 156), type := 26, pos := "outright.go:38", after := #[{ on := 34, ground := Go.Ground.data }, { on := 16, ground := Go.Ground.guard }], guard := some (16, true) }) (v := ?_) rfl (by kernel_rfl) (by kernel_rfl) (by kernel_rfl) (fun _ _ _ h => h) (Or.inl ⟨by rfl, ?_⟩) (by assumption) ?_
  rotate_left 1
  · intro w' hSw; (go_simp <;> (with_reducible rfl))
  (try simp only [Act.put, List.setIfInBounds_toArray, List.set_cons_zero, List.set_cons_succ])
  refine wpAnyH_take (i := 36) (oi := { dst := some 158, op := Go.Op.binOp Go.BinOp.or 26 (Go.Operand.tmp 153) (Go.Operand.tmp 157) 26, type := 26, pos := "outright.go:38", after := #[{ on := 31, ground := Go.Ground.data }, { on := 35, ground := Go.Ground.data }, { on := 16, ground := Go.Ground.guard }], guard := some (16, true) }) (v := ?_) rfl (by kernel_rfl) (by kernel_rfl) (by kernel_rfl) (fun _ _ _ h => h) (Or.inl ⟨by rfl, ?_⟩) (by assumption) ?_
  rotate_left 1
  · intro w' hSw; (go_simp <;> (with_reducible rfl))
  (try simp only [Act.put, List.setIfInBounds_toArray, List.set_cons_zero, List.set_cons_succ])
  refine wpAnyH_ready (rs := [37]) (by kernel_rfl) (by simp) ?_
  refine AllReadyH.cons (o := { dst := some 159, op := Go.Op.call { callee := Go.Callee.value (Go.Operand.func 23), args := #[Go.Operand.tmp 148, Go.Operand.tmp 158], argTypes := #[26, 26] }, type := 4, pos := "outright.go:38", after := #[{ on := 26, ground := Go.Ground.data }, { on := 36, ground := Go.Ground.data }, { on := 16, ground := Go.Ground.chain }, { on := 16, ground := Go.Ground.guard }], guard := some (16, true) }) rfl (fun K hK => ?_) AllReadyH.nil
  go_simp
  (refine (like_any _ _ _).mono ?_; rw [B6.out]; rintro e w' ⟨rfl, rfl⟩)
  refine hK.out _ _ ?_ (fun hHeld => ?_)
  · exact HS.out _ (Below.refl _ _)
  clear hK K
  (try simp only [Act.put, List.setIfInBounds_toArray, List.set_cons_zero, List.set_cons_succ])
  refine wpAnyH_take (i := 38) (oi := { dst := some 160, op := Go.Op.pick (Go.Operand.tmp 138) (Go.Operand.tmp 159) (Go.Operand.const (Go.Value.bool false)), type := 4, pos := "outright.go:38", after := #[{ on := 16, ground := Go.Ground.data }, { on := 37, ground := Go.Ground.data }], guard := none }) (v := ?_) rfl (by kernel_rfl) (by kernel_rfl) (by kernel_rfl) (fun _ _ _ h => h) (Or.inl ⟨by rfl, ?_⟩) (by assumption) ?_
  rotate_left 1
  · intro w' hSw; (go_simp <;> (with_reducible rfl))
  (try simp only [Act.put, List.setIfInBounds_toArray, List.set_cons_zero, List.set_cons_succ])
  refine wpAnyH_take (i := 39) (oi := { dst := some 161, op := Go.Op.move (Go.Operand.tmp 160), type := 4, pos := "outright.go:38", after := #[{ on := 38, ground := Go.Ground.data }, { on := 37, ground := Go.Ground.chain }], guard := none }) (v := ?_) rfl (by kernel_rfl) (by kernel_rfl) (by kernel_rfl) (fun _ _ _ h => h) (Or.inl ⟨by rfl, ?_⟩) (by assumption) ?_
  rotate_left 1
  · intro w' hSw; (go_simp <;> (with_reducible rfl))
  (try simp only [Act.put, List.setIfInBounds_toArray, List.set_cons_zero, List.set_cons_succ])
  refine wpAnyH_ready (rs := [40]) (by kernel_rfl) (by simp) ?_
  refine AllReadyH.cons (o := { dst := some 162, op := Go.Op.call { callee := Go.Callee.value (Go.Operand.func 21), args := #[], argTypes := #[] }, type := 4, pos := "outright.go:38", after := #[{ on := 39, ground := Go.Ground.chain }, { on := 39, ground := Go.Ground.guard }], guard := some (39, true) }) rfl (fun K hK => ?_) AllReadyH.nil
  go_simp
  (refine (wakes_any _).mono ?_; rintro e w10 ⟨rfl, hb10⟩; have Hb10 := Lib.hid hb10; clear hb10)
  refine hK.out _ _ ?_ (fun hHeld => ?_)
  · exact HS.out _ Hb10.out
  clear hK K
  (try simp only [Act.put, List.setIfInBounds_toArray, List.set_cons_zero, List.set_cons_succ])
  refine wpAnyH_take (i := 41) (oi := { dst := some 163, op := Go.Op.pick (Go.Operand.tmp 161) (Go.Operand.tmp 162) (Go.Operand.const (Go.Value.bool false)), type := 4, pos := "outright.go:38", after := #[{ on := 39, ground := Go.Ground.data }, { on := 40, ground := Go.Ground.data }], guard := none }) (v := ?_) rfl (by kernel_rfl) (by kernel_rfl) (by kernel_rfl) (fun _ _ _ h => h) (Or.inl ⟨by rfl, ?_⟩) (by assumption) ?_
  rotate_left 1
  · intro w' hSw; (go_simp <;> (with_reducible rfl))
  (try simp only [Act.put, List.setIfInBounds_toArray, List.set_cons_zero, List.set_cons_succ])
  refine wpAnyH_take (i := 42) (oi := { dst := some 6, op := Go.Op.assign (Go.Operand.tmp 163), type := 4, pos := "outright.go:38", after := #[{ on := 41, ground := Go.Ground.data }, { on := 40, ground := Go.Ground.chain }, { on := 0, ground := Go.Ground.phase }, { on := 1, ground := Go.Ground.phase }, { on := 2, ground := Go.Ground.phase }, { on := 3, ground := Go.Ground.phase }, { on := 4, ground := Go.Ground.phase }, { on := 5, ground := Go.Ground.phase }, { on := 6, ground := Go.Ground.phase }, { on := 7, ground := Go.Ground.phase }, { on := 8, ground := Go.Ground.phase }, { on := 9, ground := Go.Ground.phase }, { on := 10, ground := Go.Ground.phase }, { on := 11, ground := Go.Ground.phase }, { on := 12, ground := Go.Ground.phase }, { on := 13, ground := Go.Ground.phase }, { on := 14, ground := Go.Ground.phase }, { on := 15, ground := Go.Ground.phase }, { on := 16, ground := Go.Ground.phase }, { on := 17, ground := Go.Ground.phase }, { on := 18, ground := Go.Ground.phase }, { on := 19, ground := Go.Ground.phase }, { on := 20, ground := Go.Ground.phase }, { on := 21, ground := Go.Ground.phase }, { on := 22, ground := Go.Ground.phase }, { on := 23, ground := Go.Ground.phase }, { on := 24, ground := Go.Ground.phase }, { on := 25, ground := Go.Ground.phase }, { on := 26, ground := Go.Ground.phase }, { on := 27, ground := Go.Ground.phase }, { on := 28, ground := Go.Ground.phase }, { on := 29, ground := Go.Ground.phase }, { on := 30, ground := Go.Ground.phase }, { on := 31, ground := Go.Ground.phase }, { on := 32, ground := Go.Ground.phase }, { on := 33, ground := Go.Ground.phase }, { on := 34, ground := Go.Ground.phase }, { on := 35, ground := Go.Ground.phase }, { on := 36, ground := Go.Ground.phase }, { on := 37, ground := Go.Ground.phase }, { on := 38, ground := Go.Ground.phase }, { on := 39, ground := Go.Ground.phase }, { on := 40, ground := Go.Ground.phase }, { on := 41, ground := Go.Ground.phase }], guard := none }) (v := ?_) rfl (by kernel_rfl) (by kernel_rfl) (by kernel_rfl) (fun _ _ _ h => h) (Or.inl ⟨by rfl, ?_⟩) (by assumption) ?_
  rotate_left 1
  · intro w' hSw; (go_simp <;> (with_reducible rfl))
  (try simp only [Act.put, List.setIfInBounds_toArray, List.set_cons_zero, List.set_cons_succ])
  refine wpAnyH_done (by kernel_rfl) ?_ _
  have Hbb := Lib.hid (below_trans HbW.out (below_trans Hb9.out Hb10.out))
  clear hHeld HS
  go_wp2_with fail
  go_ret
  exact ⟨rfl, Hbb.out⟩
theorem own : ownKnob Try.prog.godebug = none := by kernel_rfl
theorem laidOut : laidOutB Try.prog = true := by kernel_rfl

set_option maxRecDepth 100000 in
theorem lifted (os : Os) (started : os.Started) (H : Type) (enc : TypeId × Value → H) :
    ReturnsInHanded {} Try.checked os 4 .any (Rows.icmpBackSpec.pre6 enc Try.prog Try.f4 Rows.icmpBackRow.domain false) (Rows.icmpBackSpec.post enc Try.prog Try.f4 false true false false) := by
  refine returnsInHanded_of_change (C := Try.checked) own started (by kernel_rfl) Try.func4
    (ChangeSpec.witness6 (enc := enc) (C := Try.checked) false ⟨#[], #[(.agg #[.int .u8 0, .int .u8 0, .int .u32 0, .slice none 0 0]), (.slice none 0 0), .int .u16 0], []⟩ 8 (by kernel_rfl) (by kernel_rfl) (by kernel_rfl) (by kernel_rfl)) ?_
  intro W base args ds gs before hval0 hW hcnd _
  have hval : ∀ (j : Nat) t v, Try.f4.params[j]? = some t → args[j]? = some v → Value.okWide Try.prog W .any base t v := hval0
  have hW' := hW
  obtain ⟨p, q, hA0, hV, rfl, hfz, hnd⟩ := hW
  have hA : DataW.TrodAll enc Try.prog W 0 (fun _ => true) true Try.f4.params.toList args.toList ds p := hA0
  rw [Try.params4] at hA hval
  obtain ⟨v0, vs0, d0, ds0, p0, q0, hargs, rfl, rfl, h0, r0⟩ := trodAll_cons hA
  obtain ⟨v1, vs1, d1, ds1, p1, q1, rfl, rfl, rfl, h1, r1⟩ := trodAll_cons r0
  obtain ⟨v2, vs2, d2, ds2, p2, q2, rfl, rfl, rfl, h2, r2⟩ := trodAll_cons r1
  obtain ⟨rfl, rfl, rfl⟩ := trodAll_nil r2
  obtain rfl : args = #[v0, v1, v2] := by cases args; simp_all
  obtain ⟨rfl, rfl⟩ := trodVars_none hV
  have k0 := msg_open (hval 0 25 v0 rfl rfl) h0
  have lt0 : ∀ x ∈ p0, x.block < W.heap.size := by obtain ⟨m, hm⟩ := h0; exact DataW.trod_lt m _ _ _ hm
  have k1 := bytes_in (hval 1 23 v1 rfl rfl) h1
  have lt1 : ∀ x ∈ p1, x.block < W.heap.size := by obtain ⟨m, hm⟩ := h1; exact DataW.trod_lt m _ _ _ hm
  obtain ⟨a2, rfl, rfl, rfl, w2⟩ := open_int Try.underlying26 (hval 2 26 v2 rfl rfl) h2
  clear hA0 hval0
  refine (walk W v0 k0 v1 k1 a2 w2).mono fun e W' ⟨he, bel⟩ => ?_
  subst he
  exact ⟨_, rfl, _, _, _, [], _, [], hW', trodAll_mk1 (shut_bool Try.underlying4 _), (trodAll_cons_mk (Below.trod laidOut (by kernel_rfl) (of_decide_eq_true (by kernel_rfl)) h0 bel lt0) (trodAll_cons_mk (Below.trod laidOut (by kernel_rfl) (of_decide_eq_true (by kernel_rfl)) h1 bel lt1) (trodAll_cons_mk (shut_int Try.underlying26 w2) trodAll_mk0))), rfl, bel.frame _, fun h => by cases h⟩

theorem over : Rows.icmpBackRow.holds Try.pinned (OpenSpec.ofChange Rows.icmpBackSpec) :=
  OpenClaim.holds_of_wide 4 Try.f4 rfl rfl rfl rfl rfl rfl rfl ⟨rfl, rfl, rfl, rfl, rfl⟩ rfl rfl rfl rfl rfl (by kernel_rfl) Try.func4 (by kernel_rfl)
    (of_decide_eq_true (by kernel_rfl)) (by unfold Func.isWrapper; first | (rw [if_pos (by decide +kernel)]; kernel_rfl) | (rw [if_neg (by decide +kernel)]; exact ⟨rfl, rfl⟩))
    (fun os started H enc _ => lifted os started H enc)

/-- The statement. -/
theorem proved : Rows.IcmpBackSaid := over
#print axioms proved
end Go.Proofs.Ytcdflpfgjodeaaa.icmpBack
