/-
  OptsBack holds: Parse of what Put tells is the options, and that has at most 40 bytes, a multiple of 4; Put of what Parse tells, parsed again, is the same.
-/
import Derived.Test.YtikfklbgncdbnaaOptLaw
namespace Go.Proofs.Ytikfklbgncdbnaa.optsBack
set_option maxRecDepth 10000
open Go.ChangeShapes Go.WideShapes Go.ChangeAt Go.RowKit
set_option linter.unusedVariables false
set_option linter.unusedSimpArgs false

theorem fewL_300 (ls : List (Int × List Int)) : ∀ l ∈ fewL ls, l.2.length ≤ 300 := by
  intro l hl
  obtain ⟨l', _, rfl⟩ := List.mem_map.1 hl
  simp only [List.length_take]
  omega
theorem any_snoc {ls : List (Int × List Int)} {j : Nat} (h : j < ls.length) : (!(ls.take (j + 1)).any badB) = ((!(ls.take j).any badB) && !badB (ls.getD j (0, []))) := by
  rw [take_snoc_ ls j (0, []) h, List.any_append]; simp

set_option maxHeartbeats 4000000 in
theorem walk (w : World) (v0 : Value) (h0 : OptsAt w v0) (v1 : Value) (h1 : BytesAt w v1) :
    Calls Try.prog 6 #[v0, v1] w fun e w' => e = .returned (.bool true) ∧ Below w.heap.size w w' := by
  obtain ⟨A0, n0, c0, os0, ls0, rfl, hn0, hc0, hr0, hs0⟩ := h0
  obtain ⟨A, n, c, l, rfl, hnc, hcm, hr⟩ := h1
  obtain ⟨k, hk, hkn, hk60⟩ := min_nat 60 n (by omega)
  have hkc : (k : Int) ≤ (c : Int) := by omega
  have hk0 : (0 : Int) ≤ (k : Int) := by omega
  have hkc2 : k ≤ c := by omega
  obtain ⟨b, eb⟩ : ∃ b, l.take k = b := ⟨_, rfl⟩
  have hrb := hr.take (k := k) hkn
  rw [eb] at hrb
  have Hrb := Lib.hid hrb
  have Hr0 := Lib.hid hr0
  have Hs0 := Lib.hid hs0
  have Hc0 := Lib.hid (And.intro hn0 hc0)
  clear hr hrb eb hr0 hs0 hn0 hc0
  go_enter Try.func6, Try.ntmps6
  go_wp2_with fail
  refine wp_region_held_drew (S := fun _ => True) (by kernel_rfl) trivial (fun hHeld => ?_)
  refine wpAnyH_take (i := 0) (oi := { dst := some 19, op := Go.Op.move (Go.Operand.tmp 0), type := 23, pos := "outright.go:14", after := #[], guard := none }) (v := ?_) rfl (by kernel_rfl) (by kernel_rfl) (by kernel_rfl) (fun _ _ _ h => h) (Or.inl ⟨by rfl, ?_⟩) (by assumption) ?_
  rotate_left 1
  · intro w' hSw; (go_simp <;> (with_reducible rfl))
  (try simp only [Act.put, List.setIfInBounds_toArray, List.set_cons_zero, List.set_cons_succ])
  refine wpAnyH_take (i := 2) (oi := { dst := some 21, op := Go.Op.move (Go.Operand.tmp 1), type := 22, pos := "outright.go:14", after := #[], guard := none }) (v := ?_) rfl (by kernel_rfl) (by kernel_rfl) (by kernel_rfl) (fun _ _ _ h => h) (Or.inl ⟨by rfl, ?_⟩) (by assumption) ?_
  rotate_left 1
  · intro w' hSw; (go_simp <;> (with_reducible rfl))
  (try simp only [Act.put, List.setIfInBounds_toArray, List.set_cons_zero, List.set_cons_succ])
  refine wpAnyH_take (i := 3) (oi := { dst := some 22, op := Go.Op.move (Go.Operand.tmp 1), type := 22, pos := "outright.go:14", after := #[], guard := none }) (v := ?_) rfl (by kernel_rfl) (by kernel_rfl) (by kernel_rfl) (fun _ _ _ h => h) (Or.inl ⟨by rfl, ?_⟩) (by assumption) ?_
  rotate_left 1
  · intro w' hSw; (go_simp <;> (with_reducible rfl))
  (try simp only [Act.put, List.setIfInBounds_toArray, List.set_cons_zero, List.set_cons_succ])
  refine wpAnyH_take (i := 4) (oi := { dst := some 23, op := Go.Op.call { callee := Go.Callee.builtin Go.Builtin.len, args := #[Go.Operand.tmp 22], argTypes := #[22] }, type := 3, pos := "outright.go:14", after := #[{ on := 3, ground := Go.Ground.data }], guard := none }) (v := ?_) rfl (by kernel_rfl) (by kernel_rfl) (by kernel_rfl) (fun _ _ _ h => h) (Or.inl ⟨by rfl, ?_⟩) (by assumption) ?_
  rotate_left 1
  · intro w' hSw; (go_simp <;> (with_reducible rfl))
  (try simp only [Act.put, List.setIfInBounds_toArray, List.set_cons_zero, List.set_cons_succ])
  refine wpAnyH_take (i := 5) (oi := { dst := some 24, op := Go.Op.call { callee := Go.Callee.builtin Go.Builtin.min, args := #[Go.Operand.tmp 23, Go.Operand.const (Go.Value.int Go.IntKind.i64 60)], argTypes := #[3, 3] }, type := 3, pos := "outright.go:14", after := #[{ on := 4, ground := Go.Ground.data }], guard := none }) (v := ?_) rfl (by kernel_rfl) (by kernel_rfl) (by kernel_rfl) (fun _ _ _ h => h) (Or.inl ⟨by rfl, ?_⟩) (by assumption) ?_
  rotate_left 1
  · intro w' hSw; (go_simp <;> (with_reducible rfl))
  (try simp only [Act.put, List.setIfInBounds_toArray, List.set_cons_zero, List.set_cons_succ])
  refine wpAnyH_take (i := 6) (oi := { dst := some 25, op := Go.Op.slice 22 (Go.Operand.tmp 21) none (some (Go.Operand.tmp 24)) none, type := 22, pos := "outright.go:14", after := #[{ on := 2, ground := Go.Ground.data }, { on := 5, ground := Go.Ground.data }], guard := none }) (v := ?_) rfl (by kernel_rfl) (by kernel_rfl) (by kernel_rfl) (fun _ _ _ h => h) (Or.inl ⟨by rfl, ?_⟩) (by assumption) ?_
  rotate_left 1
  · intro w' hSw; (go_simp <;> (with_reducible rfl))
  (try simp only [Act.put, List.setIfInBounds_toArray, List.set_cons_zero, List.set_cons_succ])
  refine wpAnyH_ready (rs := [1]) (by kernel_rfl) (by simp) ?_
  refine AllReadyH.cons (o := { dst := some 20, op := Go.Op.call { callee := Go.Callee.value (Go.Operand.func 15), args := #[Go.Operand.tmp 19], argTypes := #[23] }, type := 23, pos := "outright.go:14", after := #[{ on := 0, ground := Go.Ground.data }], guard := none }) rfl (fun K hK => ?_) AllReadyH.nil
  go_simp
  (go_at_call 15; refine (few_any A0 n0 c0 os0 ls0 _ Hc0.out (Hr0.out.below (Below.drew (Below.refl _ _))) (Hs0.out.below (Below.drew (Below.refl _ _)))).mono ?_; rintro e w1 ⟨A2, c2, os2, rfl, ho2, hs2, hb1⟩; have Hb1 := Lib.hid (show Below w.heap.size w w1 from (Below.drew (Below.refl _ _)).trans hb1))
  refine hK.out _ _ ?_ (fun hHeld => ?_)
  · exact trivial
  clear hK K
  (try simp only [Act.put, List.setIfInBounds_toArray, List.set_cons_zero, List.set_cons_succ])
  refine wpAnyH_take (i := 7) (oi := { dst := some 0, op := Go.Op.assign (Go.Operand.tmp 20), type := 23, pos := "outright.go:14", after := #[{ on := 1, ground := Go.Ground.data }, { on := 1, ground := Go.Ground.chain }, { on := 0, ground := Go.Ground.phase }, { on := 1, ground := Go.Ground.phase }, { on := 2, ground := Go.Ground.textOnly Go.Departure.lateStores }, { on := 3, ground := Go.Ground.textOnly Go.Departure.lateStores }, { on := 4, ground := Go.Ground.textOnly Go.Departure.lateStoresUnsure }, { on := 5, ground := Go.Ground.textOnly Go.Departure.lateStoresUnsure }, { on := 6, ground := Go.Ground.textOnly Go.Departure.lateStoresUnsure }], guard := none }) (v := ?_) rfl (by kernel_rfl) (by kernel_rfl) (by kernel_rfl) (fun _ _ _ h => h) (Or.inl ⟨by rfl, ?_⟩) (by assumption) ?_
  rotate_left 1
  · intro w' hSw; (go_simp <;> (with_reducible rfl))
  (try simp only [Act.put, List.setIfInBounds_toArray, List.set_cons_zero, List.set_cons_succ])
  refine wpAnyH_take (i := 8) (oi := { dst := some 1, op := Go.Op.assign (Go.Operand.tmp 25), type := 22, pos := "outright.go:14", after := #[{ on := 6, ground := Go.Ground.data }, { on := 7, ground := Go.Ground.chain }, { on := 0, ground := Go.Ground.phase }, { on := 1, ground := Go.Ground.phase }, { on := 2, ground := Go.Ground.phase }, { on := 3, ground := Go.Ground.phase }, { on := 4, ground := Go.Ground.phase }, { on := 5, ground := Go.Ground.phase }, { on := 6, ground := Go.Ground.phase }, { on := 7, ground := Go.Ground.phase }], guard := none }) (v := ?_) rfl (by kernel_rfl) (by kernel_rfl) (by kernel_rfl) (fun _ _ _ h => h) (Or.inl ⟨by rfl, ?_⟩) (by assumption) ?_
  rotate_left 1
  · intro w' hSw; (go_simp <;> (with_reducible rfl))
  (try simp only [Act.put, List.setIfInBounds_toArray, List.set_cons_zero, List.set_cons_succ])
  refine wpAnyH_done (by kernel_rfl) ?_ _
  have hm0 : min n0 20 ≤ 20 := Nat.min_le_right _ _
  have HL1 := Lib.hid (LO.mk ho2.rd hs2)
  obtain ⟨f, ef⟩ : ∃ f, fewL ls0 = f := ⟨_, rfl⟩
  have H300 := Lib.hid (fewL_300 ls0)
  rw [ef] at HL1 H300
  obtain ⟨m0, em0⟩ : ∃ m, min n0 20 = m := ⟨_, rfl⟩
  rw [em0] at HL1 hm0
  simp only [em0]
  clear ho2 hs2 hb1 Hr0 Hs0 Hc0 ef em0 hHeld
  have Hlen := Lib.hid (show f.length = m0 by rw [← HL1.out.2.len, HL1.out.1.len])
  by_cases hany : f.any badB = true
  · have Hany := Lib.hid hany
    have Hput := Lib.hid (put_arg A2 m0 c2 os2 f w1 (by omega) HL1.out hany)
    clear hany
    go_wp2_with fail
    refine Hput.out.mono ?_
    rintro e w3 ⟨rfl, hb3⟩
    have Hbl := Lib.hid hb3
    clear hb3 Hput
    have Hlw := Lib.hid (HL1.out.on Hbl.out)
    have hbz : Below w3.heap.size w3 w3 := Below.refl _ _
    go_wp2_with fail
    go_loopg [7, 8, 33] m0 (fun gk may nn i wr => ∃ (j m2 : Nat), Hid (gk + j = m0) ∧ j ≤ m0 ∧ m2 ≤ 400 * j ∧ may = .bool (!(f.take j).any badB) ∧ nn = .int .i64 (m2 : Int) ∧ i = .int .i64 (j : Int) ∧ Hid ((bytesO (f.take j)).length = m2) ∧ Below w3.heap.size w3 wr)
    case atStart => exact ⟨0, 0, rfl, Nat.zero_le _, Nat.le_refl _, rfl, rfl, rfl, Lib.hid (by simp [bytesO]), hbz⟩
    case round =>
      clear hbz
      obtain ⟨j, m2, hgk, hj, hmj, rfl, rfl, rfl, hm2, hb⟩ := hrel
      by_cases hjn : j < m0
      · obtain ⟨b1, p1, hrun1, hb1, hk0, hd0⟩ := Hlw.out.1.index (c := c2) hjn
        have o1 := Hlw.out.2.get j (by rw [Hlw.out.1.len]; exact hjn)
        have h300 := H300.out (f.getD j (0, [])) (by have := Hlen.out; simp only [List.getD, List.getElem?_eq_getElem (show j < f.length by omega), Option.getD_some]; exact List.getElem_mem _)
        have Hsn := Lib.hid (any_snoc (ls := f) (j := j) (by rw [Hlen.out]; exact hjn))
        have Hsb := Lib.hid (take_snoc_ f j (0, []) (by rw [Hlen.out]; exact hjn))
        obtain ⟨v1, ev1⟩ : ∃ v, os2.getD j .none = v := ⟨_, rfl⟩
        obtain ⟨l1, el1⟩ : ∃ v, f.getD j (0, []) = v := ⟨_, rfl⟩
        rw [ev1] at hk0 hd0 o1
        rw [el1] at o1 h300 Hsn Hsb
        obtain ⟨kd1, A1, n1, c1⟩ := v1
        obtain ⟨t1, d1⟩ := l1
        obtain ⟨rfl, hkb, hnc1, hcm1, r1⟩ := o1
        simp only at hk0 hd0 hkb hnc1 hcm1 r1 h300
        have hk1 := (hb.cell (p := ⟨b1, p1, none⟩) hb1).trans hk0
        have hd1 := (hb.cell (p := ⟨b1, p1 + 1, none⟩) hb1).trans hd0
        have hl1 := r1.len
        have hn300 : n1 ≤ 300 := by omega
        have hw1 : IntKind.i64.wrap (2 + (n1 : Int)) = 2 + (n1 : Int) := IntWalk.i64_in _ (by omega)
        have hw2 : IntKind.i64.wrap ((m2 : Int) + (2 + (n1 : Int))) = (m2 : Int) + (2 + (n1 : Int)) := IntWalk.i64_in _ (by omega)
        have Hm2' := Lib.hid (show (bytesO (f.take (j + 1))).length = m2 + (2 + n1) by
          rw [Hsb.out, bytesO_snoc, List.length_append, hm2.out]; simp [bytesOne, hl1]; omega)
        have Hbx := Lib.hid (hb.alloc hb.size (.cells #[.int .u8 kd1, .slice A1 n1 c1] 31))
        have Hbad := Lib.hid (show badB (kd1, d1) = (decide (kd1 < 2) || decide (38 < n1)) by unfold badB; simp only [hl1])
        obtain ⟨may, emay⟩ : ∃ may, (!(f.take j).any badB) = may := ⟨_, rfl⟩
        rw [emay, Hbad.out] at Hsn
        rw [emay]
        clear hk0 hd0 ev1 el1 r1 h300 emay hb
        cases may with
        | false =>
          have Hsn2 := Lib.hid (show (!(f.take (j + 1)).any badB) = false by rw [Hsn.out]; rfl)
          go_wp2_with fail
          go_roundg (gk - 1)
          case measure => have := hgk.out; omega
          case rel => exact ⟨j + 1, m2 + (2 + n1), by have := hgk.out; show gk - 1 + (j + 1) = _; omega, by omega, by omega, by rw [Hsn2.out], by go_num, by go_num, Hm2', Hbx.out⟩
        | true =>
          by_cases hg : 1 < kd1
          · have Hsn2 := Lib.hid (show (!(f.take (j + 1)).any badB) = decide ((n1 : Int) ≤ 38) by
              rw [Hsn.out, decide_eq_false (show ¬ kd1 < 2 by omega)]
              by_cases h : 38 < n1
              · rw [decide_eq_true h, decide_eq_false (show ¬ (n1 : Int) ≤ 38 by omega)]; rfl
              · rw [decide_eq_false h, decide_eq_true (show (n1 : Int) ≤ 38 by omega)]; rfl)
            go_wp2_with fail
            go_roundg (gk - 1)
            case measure => have := hgk.out; omega
            case rel => exact ⟨j + 1, m2 + (2 + n1), by have := hgk.out; show gk - 1 + (j + 1) = _; omega, by omega, by omega, by rw [Hsn2.out], by go_num, by go_num, Hm2', Hbx.out⟩
          · have hg2 : kd1 ≤ 1 := by omega
            have Hsn2 := Lib.hid (show (!(f.take (j + 1)).any badB) = false by
              rw [Hsn.out, decide_eq_true (show kd1 < 2 by omega)]; rfl)
            go_wp2_with fail
            go_roundg (gk - 1)
            case measure => have := hgk.out; omega
            case rel => exact ⟨j + 1, m2 + (2 + n1), by have := hgk.out; show gk - 1 + (j + 1) = _; omega, by omega, by omega, by rw [Hsn2.out], by go_num, by go_num, Hm2', Hbx.out⟩
      · obtain rfl : m0 = j := by omega
        have htk : f.take m0 = f := List.take_of_length_le (by rw [Hlen.out]; omega)
        have hm2' := hm2.out
        rw [htk] at hm2'
        rw [htk]
        have Hbw := Lib.hid (Hb1.out.trans ((Hbl.out.trans (hb.mono (B' := w1.heap.size) Hbl.out.size)).mono (B' := w.heap.size) Hb1.out.size))
        have hbK := hb
        have Hm2' := Lib.hid hm2'
        clear htk hb hm2
        rw [Hany.out]
        clear hm2' hbK
        go_wp2_with fail
        obtain ⟨ls2, x2, hp2⟩ : ∃ ls2 x2, parseO b = (ls2, x2) := ⟨_, _, rfl⟩
        have Hp2 := Lib.hid hp2
        refine (parse_got A k c b ls2 x2 wr hp2 (by omega) (Hrb.out.below Hbw.out)).mono ?_
        rintro e w5 ⟨A5, m5, c5, os5, hm5, hm5b, rfl, hL5, hb5⟩
        have HL5 := Lib.hid hL5
        have Hb5 := Lib.hid (below_trans Hbw.out hb5)
        have Hm5 := Lib.hid hm5
        clear hp2 hL5 hb5 hm5
        by_cases hx2 : x2 = 0
        · subst hx2
          have Hfit := Lib.hid (parseO_fits Hrb.out.byte)
          have Hback := Lib.hid (parseO_back Hrb.out.byte)
          rw [Hp2.out] at Hfit Hback
          obtain ⟨y, ey⟩ : ∃ y, padTo4 (bytesO ls2) = y := ⟨_, rfl⟩
          have hy40 : y.length ≤ 50 := by have h1 := (padTo4_len (bytesO ls2)).2.2; have h2 := Hfit.out.2; rw [ey] at h1; simp only at h2; omega
          simp only [ey] at Hback
          have Ey := Lib.hid ey
          clear ey
          go_wp2_with fail
          refine (put_got A5 m5 c5 y.length os5 ls2 y w5 hm5b HL5.out Hfit.out.1 Hfit.out.2 Ey.out rfl).mono ?_
          rintro e w6 ⟨A6, c6, rfl, hr6, hb6⟩
          have HL6 := Lib.hid (HL5.out.on hb6)
          have Hr6 := Lib.hid hr6
          have Hb6 := Lib.hid (below_trans Hb5.out hb6)
          clear hr6 hb6 HL5 Hb5
          go_wp2_with fail
          refine (parse_got A6 y.length c6 y ls2 0 w6 Hback.out (by omega) Hr6.out).mono ?_
          rintro e w7 ⟨A7, m7, c7, os7, hm7, hm7b, rfl, hL7, hb7⟩
          have HL7 := Lib.hid hL7
          have HL7' := Lib.hid (HL6.out.on hb7)
          have Hb7 := Lib.hid (below_trans Hb6.out hb7)
          clear hL7 hb7 HL6 Hb6 Hr6 hm7
          go_wp2_with fail
          refine (awake_any w7).mono ?_
          rintro e w8 ⟨rfl, hb8⟩
          have Hsm := Lib.hid (same_any A5 A7 m5 c5 m7 c7 os5 os7 ls2 ls2 w8 hm5b (HL7'.out.on hb8).1 (HL7'.out.on hb8).2 (HL7.out.on hb8).1 (HL7.out.on hb8).2)
          rw [decide_eq_true (rfl : ls2 = ls2)] at Hsm
          have Hb8 := Lib.hid (below_trans Hb7.out hb8)
          clear hb8 HL7 HL7' Hb7
          go_wp2_with fail
          refine Hsm.out.mono ?_
          rintro e w9 ⟨rfl, hb9⟩
          have Hb9 := Lib.hid (below_trans Hb8.out hb9)
          clear hb9
          go_wp2_with fail
          go_ret
          exact ⟨rfl, Hb9.out⟩
        · have hx2' : (x2 == 0) = false := by simpa using hx2
          have hx2n : (x2 != 0) = true := by simpa using hx2
          have hm0' : m5 = 0 := by
            have h1 := parseO_err (b := b) (by rw [Hp2.out]; exact hx2)
            rw [Hp2.out] at h1
            rw [Hm5.out]
            simp only at h1
            rw [h1]
            rfl
          subst hm0'
          clear hx2
          go_wp2_with fail
          refine (awake_any w5).mono ?_
          rintro e w8 ⟨rfl, hb8⟩
          have Hb8 := Lib.hid (below_trans Hb5.out hb8)
          clear hb8
          go_wp2_with fail
          go_ret
          exact ⟨rfl, Hb8.out⟩
  · have hany' : f.any badB = false := by simpa using hany
    have Hany := Lib.hid hany'
    by_cases hlong : 40 < (bytesO f).length
    · have Hput := Lib.hid (put_long A2 m0 c2 os2 f w1 (by omega) HL1.out hany' hlong)
      have Hlong := Lib.hid hlong
      clear hany hany' hlong
      go_wp2_with fail
      refine Hput.out.mono ?_
      rintro e w3 ⟨rfl, hb3⟩
      have Hbl := Lib.hid hb3
      clear hb3 Hput
      have Hlw := Lib.hid (HL1.out.on Hbl.out)
      have hbz : Below w3.heap.size w3 w3 := Below.refl _ _
      go_wp2_with fail
      go_loopg [7, 8, 33] m0 (fun gk may nn i wr => ∃ (j m2 : Nat), Hid (gk + j = m0) ∧ j ≤ m0 ∧ m2 ≤ 400 * j ∧ may = .bool (!(f.take j).any badB) ∧ nn = .int .i64 (m2 : Int) ∧ i = .int .i64 (j : Int) ∧ Hid ((bytesO (f.take j)).length = m2) ∧ Below w3.heap.size w3 wr)
      case atStart => exact ⟨0, 0, rfl, Nat.zero_le _, Nat.le_refl _, rfl, rfl, rfl, Lib.hid (by simp [bytesO]), hbz⟩
      case round =>
        clear hbz
        obtain ⟨j, m2, hgk, hj, hmj, rfl, rfl, rfl, hm2, hb⟩ := hrel
        by_cases hjn : j < m0
        · obtain ⟨b1, p1, hrun1, hb1, hk0, hd0⟩ := Hlw.out.1.index (c := c2) hjn
          have o1 := Hlw.out.2.get j (by rw [Hlw.out.1.len]; exact hjn)
          have h300 := H300.out (f.getD j (0, [])) (by have := Hlen.out; simp only [List.getD, List.getElem?_eq_getElem (show j < f.length by omega), Option.getD_some]; exact List.getElem_mem _)
          have Hsn := Lib.hid (any_snoc (ls := f) (j := j) (by rw [Hlen.out]; exact hjn))
          have Hsb := Lib.hid (take_snoc_ f j (0, []) (by rw [Hlen.out]; exact hjn))
          obtain ⟨v1, ev1⟩ : ∃ v, os2.getD j .none = v := ⟨_, rfl⟩
          obtain ⟨l1, el1⟩ : ∃ v, f.getD j (0, []) = v := ⟨_, rfl⟩
          rw [ev1] at hk0 hd0 o1
          rw [el1] at o1 h300 Hsn Hsb
          obtain ⟨kd1, A1, n1, c1⟩ := v1
          obtain ⟨t1, d1⟩ := l1
          obtain ⟨rfl, hkb, hnc1, hcm1, r1⟩ := o1
          simp only at hk0 hd0 hkb hnc1 hcm1 r1 h300
          have hk1 := (hb.cell (p := ⟨b1, p1, none⟩) hb1).trans hk0
          have hd1 := (hb.cell (p := ⟨b1, p1 + 1, none⟩) hb1).trans hd0
          have hl1 := r1.len
          have hn300 : n1 ≤ 300 := by omega
          have hw1 : IntKind.i64.wrap (2 + (n1 : Int)) = 2 + (n1 : Int) := IntWalk.i64_in _ (by omega)
          have hw2 : IntKind.i64.wrap ((m2 : Int) + (2 + (n1 : Int))) = (m2 : Int) + (2 + (n1 : Int)) := IntWalk.i64_in _ (by omega)
          have Hm2' := Lib.hid (show (bytesO (f.take (j + 1))).length = m2 + (2 + n1) by
            rw [Hsb.out, bytesO_snoc, List.length_append, hm2.out]; simp [bytesOne, hl1]; omega)
          have Hbx := Lib.hid (hb.alloc hb.size (.cells #[.int .u8 kd1, .slice A1 n1 c1] 31))
          have Hbad := Lib.hid (show badB (kd1, d1) = (decide (kd1 < 2) || decide (38 < n1)) by unfold badB; simp only [hl1])
          obtain ⟨may, emay⟩ : ∃ may, (!(f.take j).any badB) = may := ⟨_, rfl⟩
          rw [emay, Hbad.out] at Hsn
          rw [emay]
          clear hk0 hd0 ev1 el1 r1 h300 emay hb
          cases may with
          | false =>
            have Hsn2 := Lib.hid (show (!(f.take (j + 1)).any badB) = false by rw [Hsn.out]; rfl)
            go_wp2_with fail
            go_roundg (gk - 1)
            case measure => have := hgk.out; omega
            case rel => exact ⟨j + 1, m2 + (2 + n1), by have := hgk.out; show gk - 1 + (j + 1) = _; omega, by omega, by omega, by rw [Hsn2.out], by go_num, by go_num, Hm2', Hbx.out⟩
          | true =>
            by_cases hg : 1 < kd1
            · have Hsn2 := Lib.hid (show (!(f.take (j + 1)).any badB) = decide ((n1 : Int) ≤ 38) by
                rw [Hsn.out, decide_eq_false (show ¬ kd1 < 2 by omega)]
                by_cases h : 38 < n1
                · rw [decide_eq_true h, decide_eq_false (show ¬ (n1 : Int) ≤ 38 by omega)]; rfl
                · rw [decide_eq_false h, decide_eq_true (show (n1 : Int) ≤ 38 by omega)]; rfl)
              go_wp2_with fail
              go_roundg (gk - 1)
              case measure => have := hgk.out; omega
              case rel => exact ⟨j + 1, m2 + (2 + n1), by have := hgk.out; show gk - 1 + (j + 1) = _; omega, by omega, by omega, by rw [Hsn2.out], by go_num, by go_num, Hm2', Hbx.out⟩
            · have hg2 : kd1 ≤ 1 := by omega
              have Hsn2 := Lib.hid (show (!(f.take (j + 1)).any badB) = false by
                rw [Hsn.out, decide_eq_true (show kd1 < 2 by omega)]; rfl)
              go_wp2_with fail
              go_roundg (gk - 1)
              case measure => have := hgk.out; omega
              case rel => exact ⟨j + 1, m2 + (2 + n1), by have := hgk.out; show gk - 1 + (j + 1) = _; omega, by omega, by omega, by rw [Hsn2.out], by go_num, by go_num, Hm2', Hbx.out⟩
        · obtain rfl : m0 = j := by omega
          have htk : f.take m0 = f := List.take_of_length_le (by rw [Hlen.out]; omega)
          have hm2' := hm2.out
          rw [htk] at hm2'
          rw [htk]
          have Hbw := Lib.hid (Hb1.out.trans ((Hbl.out.trans (hb.mono (B' := w1.heap.size) Hbl.out.size)).mono (B' := w.heap.size) Hb1.out.size))
          have hbK := hb
          have Hm2' := Lib.hid hm2'
          clear htk hb hm2
          rw [Hany.out]
          have hm40 : 40 < (m2 : Int) := by have := Hlong.out; have h := Hm2'.out; omega
          have hm40' : decide ((m2 : Int) ≤ 40) = false := decide_eq_false (by omega)
          clear hm2' hbK
          go_wp2_with fail
          obtain ⟨ls2, x2, hp2⟩ : ∃ ls2 x2, parseO b = (ls2, x2) := ⟨_, _, rfl⟩
          have Hp2 := Lib.hid hp2
          refine (parse_got A k c b ls2 x2 wr hp2 (by omega) (Hrb.out.below Hbw.out)).mono ?_
          rintro e w5 ⟨A5, m5, c5, os5, hm5, hm5b, rfl, hL5, hb5⟩
          have HL5 := Lib.hid hL5
          have Hb5 := Lib.hid (below_trans Hbw.out hb5)
          have Hm5 := Lib.hid hm5
          clear hp2 hL5 hb5 hm5
          by_cases hx2 : x2 = 0
          · subst hx2
            have Hfit := Lib.hid (parseO_fits Hrb.out.byte)
            have Hback := Lib.hid (parseO_back Hrb.out.byte)
            rw [Hp2.out] at Hfit Hback
            obtain ⟨y, ey⟩ : ∃ y, padTo4 (bytesO ls2) = y := ⟨_, rfl⟩
            have hy40 : y.length ≤ 50 := by have h1 := (padTo4_len (bytesO ls2)).2.2; have h2 := Hfit.out.2; rw [ey] at h1; simp only at h2; omega
            simp only [ey] at Hback
            have Ey := Lib.hid ey
            clear ey
            go_wp2_with fail
            refine (put_got A5 m5 c5 y.length os5 ls2 y w5 hm5b HL5.out Hfit.out.1 Hfit.out.2 Ey.out rfl).mono ?_
            rintro e w6 ⟨A6, c6, rfl, hr6, hb6⟩
            have HL6 := Lib.hid (HL5.out.on hb6)
            have Hr6 := Lib.hid hr6
            have Hb6 := Lib.hid (below_trans Hb5.out hb6)
            clear hr6 hb6 HL5 Hb5
            go_wp2_with fail
            refine (parse_got A6 y.length c6 y ls2 0 w6 Hback.out (by omega) Hr6.out).mono ?_
            rintro e w7 ⟨A7, m7, c7, os7, hm7, hm7b, rfl, hL7, hb7⟩
            have HL7 := Lib.hid hL7
            have HL7' := Lib.hid (HL6.out.on hb7)
            have Hb7 := Lib.hid (below_trans Hb6.out hb7)
            clear hL7 hb7 HL6 Hb6 Hr6 hm7
            go_wp2_with fail
            refine (awake_any w7).mono ?_
            rintro e w8 ⟨rfl, hb8⟩
            have Hsm := Lib.hid (same_any A5 A7 m5 c5 m7 c7 os5 os7 ls2 ls2 w8 hm5b (HL7'.out.on hb8).1 (HL7'.out.on hb8).2 (HL7.out.on hb8).1 (HL7.out.on hb8).2)
            rw [decide_eq_true (rfl : ls2 = ls2)] at Hsm
            have Hb8 := Lib.hid (below_trans Hb7.out hb8)
            clear hb8 HL7 HL7' Hb7
            go_wp2_with fail
            refine Hsm.out.mono ?_
            rintro e w9 ⟨rfl, hb9⟩
            have Hb9 := Lib.hid (below_trans Hb8.out hb9)
            clear hb9
            go_wp2_with fail
            go_ret
            exact ⟨rfl, Hb9.out⟩
          · have hx2' : (x2 == 0) = false := by simpa using hx2
            have hx2n : (x2 != 0) = true := by simpa using hx2
            have hm0' : m5 = 0 := by
              have h1 := parseO_err (b := b) (by rw [Hp2.out]; exact hx2)
              rw [Hp2.out] at h1
              rw [Hm5.out]
              simp only at h1
              rw [h1]
              rfl
            subst hm0'
            clear hx2
            go_wp2_with fail
            refine (awake_any w5).mono ?_
            rintro e w8 ⟨rfl, hb8⟩
            have Hb8 := Lib.hid (below_trans Hb5.out hb8)
            clear hb8
            go_wp2_with fail
            go_ret
            exact ⟨rfl, Hb8.out⟩
    · obtain ⟨Y, eY⟩ : ∃ Y, padTo4 (bytesO f) = Y := ⟨_, rfl⟩
      obtain ⟨YN, eYN⟩ : ∃ YN, Y.length = YN := ⟨_, rfl⟩
      have Hput := Lib.hid (put_got A2 m0 c2 YN os2 f Y w1 (by omega) HL1.out hany' (by omega) eY eYN)
      have Hlong := Lib.hid hlong
      have Hpl := Lib.hid (padTo4_len (bytesO f))
      have Hpar := Lib.hid (parseO_put hany' (by omega))
      rw [eY] at Hpl Hpar
      rw [eYN] at Hpl
      clear hany hany' hlong eY eYN
      go_wp2_with fail
      refine Hput.out.mono ?_
      rintro e w3 ⟨A3, c3, rfl, hr3, hb3⟩
      have Hbl := Lib.hid hb3
      have Hr3 := Lib.hid hr3
      clear hb3 hr3 Hput
      have Hlw := Lib.hid (HL1.out.on Hbl.out)
      have hbz : Below w3.heap.size w3 w3 := Below.refl _ _
      go_wp2_with fail
      go_loopg [7, 8, 33] m0 (fun gk may nn i wr => ∃ (j m2 : Nat), Hid (gk + j = m0) ∧ j ≤ m0 ∧ m2 ≤ 400 * j ∧ may = .bool (!(f.take j).any badB) ∧ nn = .int .i64 (m2 : Int) ∧ i = .int .i64 (j : Int) ∧ Hid ((bytesO (f.take j)).length = m2) ∧ Below w3.heap.size w3 wr)
      case atStart => exact ⟨0, 0, rfl, Nat.zero_le _, Nat.le_refl _, rfl, rfl, rfl, Lib.hid (by simp [bytesO]), hbz⟩
      case round =>
        clear hbz
        obtain ⟨j, m2, hgk, hj, hmj, rfl, rfl, rfl, hm2, hb⟩ := hrel
        by_cases hjn : j < m0
        · obtain ⟨b1, p1, hrun1, hb1, hk0, hd0⟩ := Hlw.out.1.index (c := c2) hjn
          have o1 := Hlw.out.2.get j (by rw [Hlw.out.1.len]; exact hjn)
          have h300 := H300.out (f.getD j (0, [])) (by have := Hlen.out; simp only [List.getD, List.getElem?_eq_getElem (show j < f.length by omega), Option.getD_some]; exact List.getElem_mem _)
          have Hsn := Lib.hid (any_snoc (ls := f) (j := j) (by rw [Hlen.out]; exact hjn))
          have Hsb := Lib.hid (take_snoc_ f j (0, []) (by rw [Hlen.out]; exact hjn))
          obtain ⟨v1, ev1⟩ : ∃ v, os2.getD j .none = v := ⟨_, rfl⟩
          obtain ⟨l1, el1⟩ : ∃ v, f.getD j (0, []) = v := ⟨_, rfl⟩
          rw [ev1] at hk0 hd0 o1
          rw [el1] at o1 h300 Hsn Hsb
          obtain ⟨kd1, A1, n1, c1⟩ := v1
          obtain ⟨t1, d1⟩ := l1
          obtain ⟨rfl, hkb, hnc1, hcm1, r1⟩ := o1
          simp only at hk0 hd0 hkb hnc1 hcm1 r1 h300
          have hk1 := (hb.cell (p := ⟨b1, p1, none⟩) hb1).trans hk0
          have hd1 := (hb.cell (p := ⟨b1, p1 + 1, none⟩) hb1).trans hd0
          have hl1 := r1.len
          have hn300 : n1 ≤ 300 := by omega
          have hw1 : IntKind.i64.wrap (2 + (n1 : Int)) = 2 + (n1 : Int) := IntWalk.i64_in _ (by omega)
          have hw2 : IntKind.i64.wrap ((m2 : Int) + (2 + (n1 : Int))) = (m2 : Int) + (2 + (n1 : Int)) := IntWalk.i64_in _ (by omega)
          have Hm2' := Lib.hid (show (bytesO (f.take (j + 1))).length = m2 + (2 + n1) by
            rw [Hsb.out, bytesO_snoc, List.length_append, hm2.out]; simp [bytesOne, hl1]; omega)
          have Hbx := Lib.hid (hb.alloc hb.size (.cells #[.int .u8 kd1, .slice A1 n1 c1] 31))
          have Hbad := Lib.hid (show badB (kd1, d1) = (decide (kd1 < 2) || decide (38 < n1)) by unfold badB; simp only [hl1])
          obtain ⟨may, emay⟩ : ∃ may, (!(f.take j).any badB) = may := ⟨_, rfl⟩
          rw [emay, Hbad.out] at Hsn
          rw [emay]
          clear hk0 hd0 ev1 el1 r1 h300 emay hb
          cases may with
          | false =>
            have Hsn2 := Lib.hid (show (!(f.take (j + 1)).any badB) = false by rw [Hsn.out]; rfl)
            go_wp2_with fail
            go_roundg (gk - 1)
            case measure => have := hgk.out; omega
            case rel => exact ⟨j + 1, m2 + (2 + n1), by have := hgk.out; show gk - 1 + (j + 1) = _; omega, by omega, by omega, by rw [Hsn2.out], by go_num, by go_num, Hm2', Hbx.out⟩
          | true =>
            by_cases hg : 1 < kd1
            · have Hsn2 := Lib.hid (show (!(f.take (j + 1)).any badB) = decide ((n1 : Int) ≤ 38) by
                rw [Hsn.out, decide_eq_false (show ¬ kd1 < 2 by omega)]
                by_cases h : 38 < n1
                · rw [decide_eq_true h, decide_eq_false (show ¬ (n1 : Int) ≤ 38 by omega)]; rfl
                · rw [decide_eq_false h, decide_eq_true (show (n1 : Int) ≤ 38 by omega)]; rfl)
              go_wp2_with fail
              go_roundg (gk - 1)
              case measure => have := hgk.out; omega
              case rel => exact ⟨j + 1, m2 + (2 + n1), by have := hgk.out; show gk - 1 + (j + 1) = _; omega, by omega, by omega, by rw [Hsn2.out], by go_num, by go_num, Hm2', Hbx.out⟩
            · have hg2 : kd1 ≤ 1 := by omega
              have Hsn2 := Lib.hid (show (!(f.take (j + 1)).any badB) = false by
                rw [Hsn.out, decide_eq_true (show kd1 < 2 by omega)]; rfl)
              go_wp2_with fail
              go_roundg (gk - 1)
              case measure => have := hgk.out; omega
              case rel => exact ⟨j + 1, m2 + (2 + n1), by have := hgk.out; show gk - 1 + (j + 1) = _; omega, by omega, by omega, by rw [Hsn2.out], by go_num, by go_num, Hm2', Hbx.out⟩
        · obtain rfl : m0 = j := by omega
          have htk : f.take m0 = f := List.take_of_length_le (by rw [Hlen.out]; omega)
          have hm2' := hm2.out
          rw [htk] at hm2'
          rw [htk]
          have Hbw := Lib.hid (Hb1.out.trans ((Hbl.out.trans (hb.mono (B' := w1.heap.size) Hbl.out.size)).mono (B' := w.heap.size) Hb1.out.size))
          have hbK := hb
          have Hm2' := Lib.hid hm2'
          clear htk hb hm2
          rw [Hany.out]
          have hm40 : (m2 : Int) ≤ 40 := by have := Hlong.out; have h := Hm2'.out; omega
          have hpl := Hpl.out
          rw [Hm2'.out] at hpl
          have hx40 : (YN : Int) ≤ 40 := by omega
          have hx4 : (YN : Int) % 4 = 0 := by omega
          have hxa : (m2 : Int) ≤ (YN : Int) := by omega
          have hxb : (YN : Int) ≤ (m2 : Int) + 3 := by omega
          have hw3 : IntKind.i64.wrap ((m2 : Int) + 3) = (m2 : Int) + 3 := IntWalk.i64_in _ (by omega)
          have Hr3w := Lib.hid (Hr3.out.below hbK)
          have HLw := Lib.hid (Hlw.out.on hbK)
          clear hm2' hbK hpl
          go_wp2_with fail
          refine (parse_got A3 YN c3 Y f 0 wr Hpar.out (by omega) Hr3w.out).mono ?_
          rintro e w4 ⟨A4, m4, c4, os4, hm4, hm4b, rfl, hL4, hb4⟩
          have HL4 := Lib.hid hL4
          have HL4' := Lib.hid (HLw.out.on hb4)
          have Hb4 := Lib.hid (below_trans Hbw.out hb4)
          clear hL4 hb4 HLw hm4
          go_wp2_with fail
          refine (same_any A2 A4 m0 c2 m4 c4 os2 os4 f f w4 (by omega) HL4'.out.1 HL4'.out.2 HL4.out.1 HL4.out.2).mono ?_
          rw [decide_eq_true (rfl : f = f)]
          rintro e wr ⟨rfl, hb5⟩
          have Hbw := Lib.hid (below_trans Hb4.out hb5)
          clear hb5 HL4 HL4' Hb4
          go_wp2_with fail
          obtain ⟨ls2, x2, hp2⟩ : ∃ ls2 x2, parseO b = (ls2, x2) := ⟨_, _, rfl⟩
          have Hp2 := Lib.hid hp2
          refine (parse_got A k c b ls2 x2 wr hp2 (by omega) (Hrb.out.below Hbw.out)).mono ?_
          rintro e w5 ⟨A5, m5, c5, os5, hm5, hm5b, rfl, hL5, hb5⟩
          have HL5 := Lib.hid hL5
          have Hb5 := Lib.hid (below_trans Hbw.out hb5)
          have Hm5 := Lib.hid hm5
          clear hp2 hL5 hb5 hm5
          by_cases hx2 : x2 = 0
          · subst hx2
            have Hfit := Lib.hid (parseO_fits Hrb.out.byte)
            have Hback := Lib.hid (parseO_back Hrb.out.byte)
            rw [Hp2.out] at Hfit Hback
            obtain ⟨y, ey⟩ : ∃ y, padTo4 (bytesO ls2) = y := ⟨_, rfl⟩
            have hy40 : y.length ≤ 50 := by have h1 := (padTo4_len (bytesO ls2)).2.2; have h2 := Hfit.out.2; rw [ey] at h1; simp only at h2; omega
            simp only [ey] at Hback
            have Ey := Lib.hid ey
            clear ey
            go_wp2_with fail
            refine (put_got A5 m5 c5 y.length os5 ls2 y w5 hm5b HL5.out Hfit.out.1 Hfit.out.2 Ey.out rfl).mono ?_
            rintro e w6 ⟨A6, c6, rfl, hr6, hb6⟩
            have HL6 := Lib.hid (HL5.out.on hb6)
            have Hr6 := Lib.hid hr6
            have Hb6 := Lib.hid (below_trans Hb5.out hb6)
            clear hr6 hb6 HL5 Hb5
            go_wp2_with fail
            refine (parse_got A6 y.length c6 y ls2 0 w6 Hback.out (by omega) Hr6.out).mono ?_
            rintro e w7 ⟨A7, m7, c7, os7, hm7, hm7b, rfl, hL7, hb7⟩
            have HL7 := Lib.hid hL7
            have HL7' := Lib.hid (HL6.out.on hb7)
            have Hb7 := Lib.hid (below_trans Hb6.out hb7)
            clear hL7 hb7 HL6 Hb6 Hr6 hm7
            go_wp2_with fail
            refine (awake_any w7).mono ?_
            rintro e w8 ⟨rfl, hb8⟩
            have Hsm := Lib.hid (same_any A5 A7 m5 c5 m7 c7 os5 os7 ls2 ls2 w8 hm5b (HL7'.out.on hb8).1 (HL7'.out.on hb8).2 (HL7.out.on hb8).1 (HL7.out.on hb8).2)
            rw [decide_eq_true (rfl : ls2 = ls2)] at Hsm
            have Hb8 := Lib.hid (below_trans Hb7.out hb8)
            clear hb8 HL7 HL7' Hb7
            go_wp2_with fail
            refine Hsm.out.mono ?_
            rintro e w9 ⟨rfl, hb9⟩
            have Hb9 := Lib.hid (below_trans Hb8.out hb9)
            clear hb9
            go_wp2_with fail
            go_ret
            exact ⟨rfl, Hb9.out⟩
          · have hx2' : (x2 == 0) = false := by simpa using hx2
            have hx2n : (x2 != 0) = true := by simpa using hx2
            have hm0' : m5 = 0 := by
              have h1 := parseO_err (b := b) (by rw [Hp2.out]; exact hx2)
              rw [Hp2.out] at h1
              rw [Hm5.out]
              simp only at h1
              rw [h1]
              rfl
            subst hm0'
            clear hx2
            go_wp2_with fail
            refine (awake_any w5).mono ?_
            rintro e w8 ⟨rfl, hb8⟩
            have Hb8 := Lib.hid (below_trans Hb5.out hb8)
            clear hb8
            go_wp2_with fail
            go_ret
            exact ⟨rfl, Hb8.out⟩
theorem own : ownKnob Try.prog.godebug = none := by kernel_rfl
theorem laidOut : laidOutB Try.prog = true := by kernel_rfl

set_option maxRecDepth 100000 in
theorem lifted (os : Os) (started : os.Started) (H : Type) (enc : TypeId × Value → H) :
    ReturnsInHanded {} Try.checked os 6 .any (Rows.optsBackSpec.pre6 enc Try.prog Try.f6 Rows.optsBackRow.domain false) (Rows.optsBackSpec.post enc Try.prog Try.f6 false true false false) := by
  refine returnsInHanded_of_change_sized (C := Try.checked) own started (by kernel_rfl) Try.func6
    (ChangeSpec.witness6 (enc := enc) (C := Try.checked) false ⟨#[], #[(.slice none 0 0), (.slice none 0 0)], []⟩ 8 (by kernel_rfl) (by kernel_rfl) (by kernel_rfl) (by kernel_rfl)) ?_
  intro W base args ds gs before hval0 hW hcnd hsz0 _
  have hsz : (DataW.weightsEach Try.prog (Try.f6.params.toList ++ Rows.optsBackSpec.plain.varTypes Try.prog) (ds ++ gs)).all (· ≤ reachBytes) = true := hsz0
  have hval : ∀ (j : Nat) t v, Try.f6.params[j]? = some t → args[j]? = some v → Value.okWide Try.prog W .any base t v := hval0
  have hW' := hW
  obtain ⟨p, q, hA0, hV, rfl, hfz, hnd⟩ := hW
  have hA : DataW.TrodAll enc Try.prog W 0 (fun _ => true) true Try.f6.params.toList args.toList ds p := hA0
  rw [Try.params6] at hA hval hsz
  obtain ⟨v0, vs0, d0, ds0, p0, q0, hargs, rfl, rfl, h0, r0⟩ := trodAll_cons hA
  obtain ⟨v1, vs1, d1, ds1, p1, q1, rfl, rfl, rfl, h1, r1⟩ := trodAll_cons r0
  obtain ⟨rfl, rfl, rfl⟩ := trodAll_nil r1
  obtain rfl : args = #[v0, v1] := by cases args; simp_all
  obtain ⟨rfl, rfl⟩ := trodVars_none hV
  have k0 := opts_open (hval 0 23 v0 rfl rfl) h0
  have lt0 : ∀ x ∈ p0, x.block < W.heap.size := by obtain ⟨m, hm⟩ := h0; exact DataW.trod_lt m _ _ _ hm
  have k1 := bytes_open (hval 1 22 v1 rfl rfl) h1 (fun elems spare e => by subst e; exact sized_slice hsz (j := 1) (t := 22) (e := 5) rfl rfl Try.underlying22)
  have lt1 : ∀ x ∈ p1, x.block < W.heap.size := by obtain ⟨m, hm⟩ := h1; exact DataW.trod_lt m _ _ _ hm
  clear hA0 hval0
  refine (walk W v0 k0 v1 k1).mono fun e W' ⟨he, bel⟩ => ?_
  subst he
  exact ⟨_, rfl, _, _, _, [], _, [], hW', trodAll_mk1 (shut_bool Try.underlying4 _), (trodAll_cons_mk (Below.trod laidOut (by kernel_rfl) (of_decide_eq_true (by kernel_rfl)) h0 bel lt0) (trodAll_cons_mk (Below.trod laidOut (by kernel_rfl) (of_decide_eq_true (by kernel_rfl)) h1 bel lt1) trodAll_mk0)), rfl, bel.frame _, fun h => by cases h⟩

theorem over : Rows.optsBackRow.holds Try.pinned (OpenSpec.ofChange Rows.optsBackSpec) :=
  OpenClaim.holds_of_wide 6 Try.f6 rfl rfl rfl rfl rfl rfl rfl ⟨rfl, rfl, rfl, rfl, rfl⟩ rfl rfl rfl rfl rfl (by kernel_rfl) Try.func6 (by kernel_rfl)
    (of_decide_eq_true (by kernel_rfl)) (by unfold Func.isWrapper; first | (rw [if_pos (by decide +kernel)]; kernel_rfl) | (rw [if_neg (by decide +kernel)]; exact ⟨rfl, rfl⟩))
    (fun os started H enc _ => lifted os started H enc)

/-- The statement. -/
theorem proved : Rows.OptsBackSaid := over
#print axioms proved
end Go.Proofs.Ytikfklbgncdbnaa.optsBack
