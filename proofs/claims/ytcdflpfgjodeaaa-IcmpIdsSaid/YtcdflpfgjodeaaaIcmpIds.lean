/-
  IcmpIds holds: an echo with another id has it; all else stays; back again it is the message; its field changes as the word does. For any message, any two ids.
-/
import Derived.Test.YtcdflpfgjodeaaaIcmpLaw
import Derived.Test.YtcdflpfgjodeaaaIcmpOpen
import Derived.RegionTactic
import Derived.BigRegion
import Derived.Deep.CutRange
import Derived.Deep.RegionHeld3
import Derived.Laws.BitsLemmas
namespace Go.Proofs.Ytcdflpfgjodeaaa.icmpIds
set_option maxRecDepth 10000
open Go.ChangeShapes Go.WideShapes Go.ChangeAt Go.RowKit
set_option linter.unusedVariables false
set_option linter.unusedSimpArgs false

theorem with8_told (s : Msg) (id ty2 cd2 rs2 : Int) (A : Option Addr) (n c : Nat) (w : World) (hr : 0 ≤ s.rs ∧ s.rs < 4294967296) (hi : 0 ≤ id ∧ id < 65536) (hn : n ≤ 140737488355328) (hrd : Rd w A n s.d) (hw : withM s id = ⟨ty2, cd2, rs2, s.d⟩) :
    Calls Try.prog 17 #[.agg #[.int .u8 s.ty, .int .u8 s.cd, .int .u32 s.rs, .slice A n c], .int .u16 id] w fun e w' => ∃ A' c', e = .returned (.agg #[.int .u8 ty2, .int .u8 cd2, .int .u32 rs2, .slice A' n c']) ∧ (n ≤ c' ∧ c' ≤ maxLen) ∧ Rd w' A' n s.d ∧ Below w.heap.size w w' := by
  refine (with8_any s id A n c w hr hi hn hrd).mono ?_
  rintro e w' ⟨A', c', he, h1, h2, h3, h4⟩
  rw [hw] at he
  exact ⟨A', c', he, ⟨h1, h2⟩, h3.rd hrd.byte, h4⟩
theorem m16_msgB (s : Msg) : m16 (msgB s) 2 = fieldM s := by rw [msgB_list]; simp [m16]; omega
theorem withM_ids {ty cd rs id : Int} {d : List Int} (h : echoM ty cd = true) : withM ⟨ty, cd, rs, d⟩ id = ⟨ty, cd, 65536 * id + rs % 65536, d⟩ := withM_yes (s := ⟨ty, cd, rs, d⟩) h id
theorem withM_none {ty cd rs id : Int} {d : List Int} (h : ¬ echoM ty cd = true) : withM ⟨ty, cd, rs, d⟩ id = ⟨ty, cd, rs, d⟩ := withM_no (s := ⟨ty, cd, rs, d⟩) h id

set_option maxHeartbeats 8000000 in
theorem walk (w : World) (v : Value) (hv : MsgTo 140737488355328 w v) (id : Int) (w1 : (Lit.int .u16 id).wf = true) (other : Int) (w2 : (Lit.int .u16 other).wf = true) :
    Calls Try.prog 5 #[v, .int .u16 id, .int .u16 other] w fun e w' => e = .returned (.bool true) ∧ Below w.heap.size w w' := by
  obtain ⟨s, A, n, c, rfl, hnum, hc, hr, hnm⟩ := hv
  have hid := bounds_u16 w1
  have hot := bounds_u16 w2
  have hid : 0 ≤ id ∧ id < 65536 := by omega
  have hot : 0 ≤ other ∧ other < 65536 := by omega
  have hdl := hr.len
  have hnum0 := hnum
  have hrs := hnum.rs
  obtain ⟨ty, cd, rs, d⟩ := s
  simp only at hr hdl hrs ⊢
  obtain ⟨z, hz⟩ : ∃ z, w.heap.size = z := ⟨_, rfl⟩
  obtain ⟨W0, eW0⟩ : ∃ W0, w.alloc (.cells #[.int .u8 ty, .int .u8 cd, .int .u32 rs, .slice A n c] 25) = W0 := ⟨_, rfl⟩
  have hbW : Below w.heap.size w W0 := by rw [← eW0]; exact (Below.refl _ _).alloc (Nat.le_refl _) _
  have hk0 : W0.heap[z]? = some (.cells #[.int .u8 ty, .int .u8 cd, .int .u32 rs, .slice A n c] 25 (0, 0)) := by rw [← eW0, ← hz]; exact heap_alloc_new w _
  have HK := Lib.hid (show ∀ w', Below W0.heap.size W0 w' → (w'.cell? ⟨z, 0, none⟩ = some (.int .u8 ty) ∧ w'.cell? ⟨z, 1, none⟩ = some (.int .u8 cd) ∧ w'.cell? ⟨z, 2, none⟩ = some (.int .u32 rs) ∧ w'.cell? ⟨z, 3, none⟩ = some (.slice A n c)) ∧ Rd w' A n d from
    fun w' hb => ⟨cells4 (blk_on hk0 hb), (hr.below hbW).below hb⟩)
  have HbW := Lib.hid hbW
  have HeW := Lib.hid eW0
  have Hnum := Lib.hid hnum
  have Hc := Lib.hid hc
  have HdB := Lib.hid hr.byte
  have Hdl := Lib.hid hdl
  have Hid := Lib.hid hid
  have Hot := Lib.hid hot
  obtain ⟨x, ex⟩ : ∃ x, sortM ty cd = x := ⟨_, rfl⟩
  have hse := sort_echo ty cd
  rw [ex] at hse
  have Ex := Lib.hid ex
  clear hk0 hbW eW0 hr hnum hnum0 hc hdl w1 w2 ex hid hot
  rcases hse with ⟨he, hx⟩ | ⟨he, hx⟩
  case inr =>
    have He := Lib.hid (show ¬ echoM ty cd = true by rw [he]; simp)
    clear he
    go_enter Try.func5, Try.ntmps5
    go_upto_region 1 with (fail)
    rw [HeW.out]
    obtain ⟨c0, c1, c2, c3⟩ := (HK.out _ (Below.refl _ _)).1
    go_wp2_with fail
    refine (echo8_any ty cd rs A n c _ hrs).mono ?_
    rintro e w1 ⟨h1, hb1⟩
    rw [if_neg He.out] at h1
    subst h1
    have Hb := Lib.hid hb1
    clear c0 c1 c2 c3 hb1
    obtain ⟨c0, c1, c2, c3⟩ := (HK.out _ Hb.out).1
    go_wp2_with fail
    refine (with8_told ⟨ty, cd, rs, d⟩ id ty cd rs A n c _ hrs Hid.out hnm (HK.out _ Hb.out).2 (withM_none He.out)).mono ?_
    rintro e w2 ⟨A2, c2', rfl, hc2, hr2, hb2⟩
    have Hba := Lib.hid ((Below.refl w2.heap.size w2).alloc (Nat.le_refl _) (.cells #[.int .u8 ty, .int .u8 cd, .int .u32 rs, .slice A2 n c2'] 25))
    have hk2 := heap_alloc_new w2 (.cells #[.int .u8 ty, .int .u8 cd, .int .u32 rs, .slice A2 n c2'] 25)
    obtain ⟨z2, ez2⟩ : ∃ z, w2.heap.size = z := ⟨_, rfl⟩
    have Hb := Lib.hid (below_trans (below_trans Hb.out hb2) Hba.out)
    have Hr2 := Lib.hid (hr2.below Hba.out)
    have Hc2 := Lib.hid hc2
    clear c0 c1 c2 c3 hb2 hr2 hc2 Hba
    go_upto_region 3 with (fail)
    obtain ⟨v2, ev2⟩ : ∃ v, w2.alloc (.cells #[.int .u8 ty, .int .u8 cd, .int .u32 rs, .slice A2 n c2'] 25) = v := ⟨_, rfl⟩
    try rw [ev2]
    try simp only [ez2]
    rw [ev2] at Hb Hr2 hk2
    rw [ez2] at hk2
    clear ev2 ez2
    have HKK := Lib.hid (show ∀ w', Below v2.heap.size v2 w' → ((w'.cell? ⟨z, 0, none⟩ = some (.int .u8 ty) ∧ w'.cell? ⟨z, 1, none⟩ = some (.int .u8 cd) ∧ w'.cell? ⟨z, 2, none⟩ = some (.int .u32 rs) ∧ w'.cell? ⟨z, 3, none⟩ = some (.slice A n c)) ∧ w'.cell? ⟨z2, 0, none⟩ = some (.int .u8 ty) ∧ w'.cell? ⟨z2, 1, none⟩ = some (.int .u8 cd) ∧ w'.cell? ⟨z2, 2, none⟩ = some (.int .u32 rs) ∧ w'.cell? ⟨z2, 3, none⟩ = some (.slice A2 n c2')) ∧ Rd w' A n d ∧ Rd w' A2 n d from
      fun w' hb => ⟨⟨(HK.out _ (below_trans Hb.out hb)).1, cells4 (blk_on hk2 hb)⟩, (HK.out _ (below_trans Hb.out hb)).2, Hr2.out.below hb⟩)
    have Hb0 := Hb
    have Hb := Lib.hid (Below.refl v2.heap.size v2)
    clear hk2 Hr2
    obtain ⟨⟨c0, c1, c2, c3⟩, d0, d1, d2, d3⟩ := (HKK.out _ Hb.out).1
    go_wp2_with fail
    refine (echo8_any ty cd rs A2 n c2' _ hrs).mono ?_
    rintro e w3 ⟨h3, hb3⟩
    rw [if_neg He.out] at h3
    subst h3
    have Hb := Lib.hid hb3
    clear c0 c1 c2 c3 d0 d1 d2 d3 hb3
    have hxx : (x != x) = false := by simp
    go_wp2_with fail
    have Hb := Lib.hid Hb.out.drew
    refine wp_region_held_drew (S := fun w' => ((w'.cell? ⟨z, 0, none⟩ = some (.int .u8 ty) ∧ w'.cell? ⟨z, 1, none⟩ = some (.int .u8 cd) ∧ w'.cell? ⟨z, 2, none⟩ = some (.int .u32 rs) ∧ w'.cell? ⟨z, 3, none⟩ = some (.slice A n c)) ∧ w'.cell? ⟨z2, 0, none⟩ = some (.int .u8 ty) ∧ w'.cell? ⟨z2, 1, none⟩ = some (.int .u8 cd) ∧ w'.cell? ⟨z2, 2, none⟩ = some (.int .u32 rs) ∧ w'.cell? ⟨z2, 3, none⟩ = some (.slice A2 n c2'))) (by kernel_rfl) (HKK.out _ Hb.out).1 (fun hHeld => ?_)
    obtain ⟨v3, ev3⟩ : ∃ v, w3.drew = v := ⟨_, rfl⟩
    rw [ev3] at Hb hHeld ⊢
    clear ev3
    refine wpAnyH_take (i := 0) (oi := { dst := some 34, op := Go.Op.move (Go.Operand.tmp 9), type := 4, pos := "outright.go:46", after := #[], guard := none }) (v := ?_) rfl (by kernel_rfl) (by kernel_rfl) (by kernel_rfl) (fun _ _ _ h => h) (Or.inl ⟨by rfl, ?_⟩) (by assumption) ?_
    rotate_left 1
    · intro w' hSw; (go_simp <;> (with_reducible rfl))
    (try simp only [Act.put, List.setIfInBounds_toArray, List.set_cons_zero, List.set_cons_succ])
    refine wpAnyH_take (i := 1) (oi := { dst := some 35, op := Go.Op.move (Go.Operand.tmp 13), type := 4, pos := "outright.go:46", after := #[], guard := none }) (v := ?_) rfl (by kernel_rfl) (by kernel_rfl) (by kernel_rfl) (fun _ _ _ h => h) (Or.inl ⟨by rfl, ?_⟩) (by assumption) ?_
    rotate_left 1
    · intro w' hSw; (go_simp <;> (with_reducible rfl))
    (try simp only [Act.put, List.setIfInBounds_toArray, List.set_cons_zero, List.set_cons_succ])
    refine wpAnyH_take (i := 2) (oi := { dst := some 36, op := Go.Op.binOp Go.BinOp.neq 4 (Go.Operand.tmp 34) (Go.Operand.tmp 35) 4, type := 4, pos := "outright.go:46", after := #[{ on := 0, ground := Go.Ground.data }, { on := 1, ground := Go.Ground.data }], guard := none }) (v := ?_) rfl (by kernel_rfl) (by kernel_rfl) (by kernel_rfl) (fun _ _ _ h => h) (Or.inl ⟨by rfl, ?_⟩) (by assumption) ?_
    rotate_left 1
    · intro w' hSw; (go_simp <;> (with_reducible rfl))
    (try simp only [Act.put, List.setIfInBounds_toArray, List.set_cons_zero, List.set_cons_succ])
    refine wpAnyH_take (i := 3) (oi := { dst := some 37, op := Go.Op.move (Go.Operand.tmp 36), type := 4, pos := "outright.go:46", after := #[{ on := 2, ground := Go.Ground.data }], guard := none }) (v := ?_) rfl (by kernel_rfl) (by kernel_rfl) (by kernel_rfl) (fun _ _ _ h => h) (Or.inl ⟨by rfl, ?_⟩) (by assumption) ?_
    rotate_left 1
    · intro w' hSw; (go_simp <;> (with_reducible rfl))
    (try simp only [Act.put, List.setIfInBounds_toArray, List.set_cons_zero, List.set_cons_succ])
    refine wpAnyH_take (i := 4) (oi := { dst := some 38, op := Go.Op.load 25 (Go.Operand.tmp 10), type := 25, pos := "outright.go:46", after := #[{ on := 3, ground := Go.Ground.guard }], guard := some (3, false) }) (v := ?_) rfl (by kernel_rfl) (by kernel_rfl) (by kernel_rfl) (fun _ _ _ h => h) (Or.inl ⟨by rfl, ?_⟩) (by assumption) ?_
    rotate_left 1
    · intro w' hSw; (go_simp <;> (with_reducible rfl))
    (try simp only [Act.put, List.setIfInBounds_toArray, List.set_cons_zero, List.set_cons_succ])
    refine wpAnyH_take (i := 6) (oi := { dst := some 40, op := Go.Op.load 25 (Go.Operand.tmp 3), type := 25, pos := "outright.go:46", after := #[{ on := 3, ground := Go.Ground.guard }], guard := some (3, false) }) (v := ?_) rfl (by kernel_rfl) (by kernel_rfl) (by kernel_rfl) (fun _ _ _ h => h) (Or.inl ⟨by rfl, ?_⟩) (by assumption) ?_
    rotate_left 1
    · intro w' hSw; (go_simp <;> (with_reducible rfl))
    (try simp only [Act.put, List.setIfInBounds_toArray, List.set_cons_zero, List.set_cons_succ])
    refine wpAnyH_ready (rs := [5]) (by kernel_rfl) (by simp) ?_
    refine AllReadyH.cons (o := { dst := some 39, op := Go.Op.call { callee := Go.Callee.value (Go.Operand.func 13), args := #[Go.Operand.tmp 38], argTypes := #[25] }, type := 3, pos := "outright.go:46", after := #[{ on := 4, ground := Go.Ground.data }, { on := 3, ground := Go.Ground.chain }, { on := 3, ground := Go.Ground.guard }], guard := some (3, false) }) rfl (fun K hK => ?_) AllReadyH.nil
    go_simp
    (refine (sort8_any ty cd rs A2 n c2' x _ Ex.out).mono ?_; rintro e w5 ⟨rfl, hb5⟩; have Hb5 := Lib.hid (below_trans Hb.out hb5); clear hb5)
    refine hK.out _ _ ?_ (fun hHeld => ?_)
    · exact (HKK.out _ Hb5.out).1
    clear hK K
    (try simp only [Act.put, List.setIfInBounds_toArray, List.set_cons_zero, List.set_cons_succ])
    refine wpAnyH_ready (rs := [7]) (by kernel_rfl) (by simp) ?_
    refine AllReadyH.cons (o := { dst := some 41, op := Go.Op.call { callee := Go.Callee.value (Go.Operand.func 13), args := #[Go.Operand.tmp 40], argTypes := #[25] }, type := 3, pos := "outright.go:46", after := #[{ on := 6, ground := Go.Ground.data }, { on := 5, ground := Go.Ground.chain }, { on := 3, ground := Go.Ground.guard }], guard := some (3, false) }) rfl (fun K hK => ?_) AllReadyH.nil
    go_simp
    (refine (sort8_any ty cd rs A n c x _ Ex.out).mono ?_; rintro e w7 ⟨rfl, hb7⟩; have Hb7 := Lib.hid (below_trans Hb5.out hb7); clear hb7)
    refine hK.out _ _ ?_ (fun hHeld => ?_)
    · exact (HKK.out _ Hb7.out).1
    clear hK K
    (try simp only [Act.put, List.setIfInBounds_toArray, List.set_cons_zero, List.set_cons_succ])
    refine wpAnyH_take (i := 8) (oi := { dst := some 42, op := Go.Op.binOp Go.BinOp.neq 3 (Go.Operand.tmp 39) (Go.Operand.tmp 41) 3, type := 4, pos := "outright.go:46", after := #[{ on := 5, ground := Go.Ground.data }, { on := 7, ground := Go.Ground.data }, { on := 3, ground := Go.Ground.guard }], guard := some (3, false) }) (v := ?_) rfl (by kernel_rfl) (by kernel_rfl) (by kernel_rfl) (fun _ _ _ h => h) (Or.inl ⟨by rfl, ?_⟩) (by assumption) ?_
    rotate_left 1
    · intro w' hSw; (go_simp <;> (with_reducible rfl))
    (try simp only [Act.put, List.setIfInBounds_toArray, List.set_cons_zero, List.set_cons_succ])
    refine wpAnyH_take (i := 9) (oi := { dst := some 43, op := Go.Op.pick (Go.Operand.tmp 37) (Go.Operand.const (Go.Value.bool true)) (Go.Operand.tmp 42), type := 4, pos := "outright.go:46", after := #[{ on := 3, ground := Go.Ground.data }, { on := 8, ground := Go.Ground.data }], guard := none }) (v := ?_) rfl (by kernel_rfl) (by kernel_rfl) (by kernel_rfl) (fun _ _ _ h => h) (Or.inl ⟨by rfl, ?_⟩) (by assumption) ?_
    rotate_left 1
    · intro w' hSw; (go_simp <;> (with_reducible rfl))
    (try simp only [Act.put, List.setIfInBounds_toArray, List.set_cons_zero, List.set_cons_succ])
    refine wpAnyH_done (by kernel_rfl) ?_ _
    have Hb := Hb7
    clear hHeld Hb5 Hb7 hxx
    obtain ⟨⟨c0, c1, c2, c3⟩, d0, d1, d2, d3⟩ := (HKK.out _ Hb.out).1
    go_wp2_with fail
    refine (sort8_any ty cd rs A n c x _ Ex.out).mono ?_
    rintro e w8 ⟨rfl, hb8⟩
    have Hb := Lib.hid (below_trans Hb.out hb8)
    clear c0 c1 c2 c3 d0 d1 d2 d3 hb8
    obtain ⟨⟨c0, c1, c2, c3⟩, d0, d1, d2, d3⟩ := (HKK.out _ Hb.out).1
    go_wp2_with fail
    refine (same8_any ⟨ty, cd, rs, d⟩ ⟨ty, cd, rs, d⟩ A n c A2 n c2' _ true (HKK.out _ Hb.out).2.1 (HKK.out _ Hb.out).2.2 (msgSame_self _)).mono ?_
    rintro e w9 ⟨rfl, hb9⟩
    have Hb := Lib.hid (below_trans Hb.out hb9)
    clear c0 c1 c2 c3 d0 d1 d2 d3 hb9
    rcases hx with rfl | rfl
    ·
      go_wp2_with fail
      refine (wakes_any _).mono ?_
      rintro e w10 ⟨rfl, hb10⟩
      have Hbb := Lib.hid (below_trans HbW.out (below_trans Hb0.out (below_trans Hb.out hb10)))
      clear hb10
      go_wp2_with fail
      go_ret
      exact ⟨rfl, Hbb.out⟩
    ·
      go_wp2_with fail
      refine (wakes_any _).mono ?_
      rintro e w10 ⟨rfl, hb10⟩
      have Hbb := Lib.hid (below_trans HbW.out (below_trans Hb0.out (below_trans Hb.out hb10)))
      clear hb10
      go_wp2_with fail
      go_ret
      exact ⟨rfl, Hbb.out⟩
  have He := Lib.hid he
  have h1i : 65536 * (rs / 65536) + rs % 65536 = rs := by omega
  have h2i : (65536 * id + rs % 65536) / 65536 = id := by have := Hid.out; omega
  have h3i : (65536 * id + rs % 65536) % 65536 = rs % 65536 := by omega
  have hr2 : 0 ≤ 65536 * id + rs % 65536 ∧ 65536 * id + rs % 65536 < 4294967296 := by have := Hid.out; omega
  have hw16 : 0 ≤ rs / 65536 ∧ rs / 65536 < 65536 := by omega
  obtain ⟨R, eR⟩ : ∃ R, 65536 * id + rs % 65536 = R := ⟨_, rfl⟩
  have hwn := fun i : Int => @withM_ids ty cd R i d he
  have hwm := fun i : Int => @withM_ids ty cd rs i d he
  have hwi := hwm id
  rw [eR] at hwi h2i h3i hr2
  have Hwi := Lib.hid (show ∀ _ : echoM ty cd = true, withM ⟨ty, cd, rs, d⟩ id = ⟨ty, cd, R, d⟩ from fun _ => hwi)
  have Hwb := Lib.hid (show withM ⟨ty, cd, R, d⟩ (rs / 65536) = ⟨ty, cd, rs, d⟩ by rw [hwn, h3i, h1i])
  obtain ⟨Q, eQ⟩ : ∃ Q, 65536 * other + rs % 65536 = Q := ⟨_, rfl⟩
  have Hwo := Lib.hid (show withM ⟨ty, cd, R, d⟩ other = ⟨ty, cd, Q, d⟩ by rw [hwn, h3i, eQ])
  have Hwp := Lib.hid (show withM ⟨ty, cd, rs, d⟩ other = ⟨ty, cd, Q, d⟩ by rw [hwm, eQ])
  have Hfi := Lib.hid (withM_field Hnum.out HdB.out Hid.out he)
  rw [hwi] at Hfi
  have Hn2 := Lib.hid (withM_num Hnum.out Hid.out)
  rw [hwi] at Hn2
  have HrR := Lib.hid hr2
  have HrS := Lib.hid hrs
  have Hw16 := Lib.hid hw16
  have H2i := Lib.hid h2i
  have H3i := Lib.hid h3i
  clear he eR hwn hwm hwi h1i hr2 hw16 eQ h2i h3i
  go_enter Try.func5, Try.ntmps5
  go_upto_region 1 with (fail)
  rw [HeW.out]
  obtain ⟨c0, c1, c2, c3⟩ := (HK.out _ (Below.refl _ _)).1
  go_wp2_with fail
  refine (echo8_any ty cd rs A n c _ hrs).mono ?_
  rintro e w1 ⟨h1, hb1⟩
  rw [if_pos He.out] at h1
  subst h1
  have Hb := Lib.hid hb1
  clear c0 c1 c2 c3 hb1
  obtain ⟨c0, c1, c2, c3⟩ := (HK.out _ Hb.out).1
  go_wp2_with fail
  refine (with8_told ⟨ty, cd, rs, d⟩ id ty cd R A n c _ hrs Hid.out hnm (HK.out _ Hb.out).2 (Hwi.out He.out)).mono ?_
  rintro e w2 ⟨A2, c2', rfl, hc2, hr2, hb2⟩
  have Hba := Lib.hid ((Below.refl w2.heap.size w2).alloc (Nat.le_refl _) (.cells #[.int .u8 ty, .int .u8 cd, .int .u32 R, .slice A2 n c2'] 25))
  have hk2 := heap_alloc_new w2 (.cells #[.int .u8 ty, .int .u8 cd, .int .u32 R, .slice A2 n c2'] 25)
  obtain ⟨z2, ez2⟩ : ∃ z, w2.heap.size = z := ⟨_, rfl⟩
  have Hb := Lib.hid (below_trans (below_trans Hb.out hb2) Hba.out)
  have Hr2 := Lib.hid (hr2.below Hba.out)
  have Hc2 := Lib.hid hc2
  clear c0 c1 c2 c3 hb2 hr2 hc2 Hba
  go_upto_region 3 with (fail)
  obtain ⟨v2, ev2⟩ : ∃ v, w2.alloc (.cells #[.int .u8 ty, .int .u8 cd, .int .u32 R, .slice A2 n c2'] 25) = v := ⟨_, rfl⟩
  try rw [ev2]
  try simp only [ez2]
  rw [ev2] at Hb Hr2 hk2
  rw [ez2] at hk2
  clear ev2 ez2
  have HKK := Lib.hid (show ∀ w', Below v2.heap.size v2 w' → ((w'.cell? ⟨z, 0, none⟩ = some (.int .u8 ty) ∧ w'.cell? ⟨z, 1, none⟩ = some (.int .u8 cd) ∧ w'.cell? ⟨z, 2, none⟩ = some (.int .u32 rs) ∧ w'.cell? ⟨z, 3, none⟩ = some (.slice A n c)) ∧ w'.cell? ⟨z2, 0, none⟩ = some (.int .u8 ty) ∧ w'.cell? ⟨z2, 1, none⟩ = some (.int .u8 cd) ∧ w'.cell? ⟨z2, 2, none⟩ = some (.int .u32 R) ∧ w'.cell? ⟨z2, 3, none⟩ = some (.slice A2 n c2')) ∧ Rd w' A n d ∧ Rd w' A2 n d from
    fun w' hb => ⟨⟨(HK.out _ (below_trans Hb.out hb)).1, cells4 (blk_on hk2 hb)⟩, (HK.out _ (below_trans Hb.out hb)).2, Hr2.out.below hb⟩)
  have Hb0 := Hb
  have Hb := Lib.hid (Below.refl v2.heap.size v2)
  clear hk2 Hr2
  obtain ⟨⟨c0, c1, c2, c3⟩, d0, d1, d2, d3⟩ := (HKK.out _ Hb.out).1
  go_wp2_with fail
  refine (echo8_any ty cd R A2 n c2' _ HrR.out).mono ?_
  rintro e w3 ⟨h3, hb3⟩
  rw [if_pos He.out] at h3
  subst h3
  have Hb := Lib.hid hb3
  clear c0 c1 c2 c3 d0 d1 d2 d3 hb3
  have hxx : (x != x) = false := by simp
  go_wp2_with fail
  have Hb := Lib.hid Hb.out.drew
  refine wp_region_held_drew (S := fun w' => ((w'.cell? ⟨z, 0, none⟩ = some (.int .u8 ty) ∧ w'.cell? ⟨z, 1, none⟩ = some (.int .u8 cd) ∧ w'.cell? ⟨z, 2, none⟩ = some (.int .u32 rs) ∧ w'.cell? ⟨z, 3, none⟩ = some (.slice A n c)) ∧ w'.cell? ⟨z2, 0, none⟩ = some (.int .u8 ty) ∧ w'.cell? ⟨z2, 1, none⟩ = some (.int .u8 cd) ∧ w'.cell? ⟨z2, 2, none⟩ = some (.int .u32 R) ∧ w'.cell? ⟨z2, 3, none⟩ = some (.slice A2 n c2'))) (by kernel_rfl) (HKK.out _ Hb.out).1 (fun hHeld => ?_)
  obtain ⟨v3, ev3⟩ : ∃ v, w3.drew = v := ⟨_, rfl⟩
  rw [ev3] at Hb hHeld ⊢
  clear ev3
  refine wpAnyH_take (i := 0) (oi := { dst := some 34, op := Go.Op.move (Go.Operand.tmp 9), type := 4, pos := "outright.go:46", after := #[], guard := none }) (v := ?_) rfl (by kernel_rfl) (by kernel_rfl) (by kernel_rfl) (fun _ _ _ h => h) (Or.inl ⟨by rfl, ?_⟩) (by assumption) ?_
  rotate_left 1
  · intro w' hSw; (go_simp <;> (with_reducible rfl))
  (try simp only [Act.put, List.setIfInBounds_toArray, List.set_cons_zero, List.set_cons_succ])
  refine wpAnyH_take (i := 1) (oi := { dst := some 35, op := Go.Op.move (Go.Operand.tmp 13), type := 4, pos := "outright.go:46", after := #[], guard := none }) (v := ?_) rfl (by kernel_rfl) (by kernel_rfl) (by kernel_rfl) (fun _ _ _ h => h) (Or.inl ⟨by rfl, ?_⟩) (by assumption) ?_
  rotate_left 1
  · intro w' hSw; (go_simp <;> (with_reducible rfl))
  (try simp only [Act.put, List.setIfInBounds_toArray, List.set_cons_zero, List.set_cons_succ])
  refine wpAnyH_take (i := 2) (oi := { dst := some 36, op := Go.Op.binOp Go.BinOp.neq 4 (Go.Operand.tmp 34) (Go.Operand.tmp 35) 4, type := 4, pos := "outright.go:46", after := #[{ on := 0, ground := Go.Ground.data }, { on := 1, ground := Go.Ground.data }], guard := none }) (v := ?_) rfl (by kernel_rfl) (by kernel_rfl) (by kernel_rfl) (fun _ _ _ h => h) (Or.inl ⟨by rfl, ?_⟩) (by assumption) ?_
  rotate_left 1
  · intro w' hSw; (go_simp <;> (with_reducible rfl))
  (try simp only [Act.put, List.setIfInBounds_toArray, List.set_cons_zero, List.set_cons_succ])
  refine wpAnyH_take (i := 3) (oi := { dst := some 37, op := Go.Op.move (Go.Operand.tmp 36), type := 4, pos := "outright.go:46", after := #[{ on := 2, ground := Go.Ground.data }], guard := none }) (v := ?_) rfl (by kernel_rfl) (by kernel_rfl) (by kernel_rfl) (fun _ _ _ h => h) (Or.inl ⟨by rfl, ?_⟩) (by assumption) ?_
  rotate_left 1
  · intro w' hSw; (go_simp <;> (with_reducible rfl))
  (try simp only [Act.put, List.setIfInBounds_toArray, List.set_cons_zero, List.set_cons_succ])
  refine wpAnyH_take (i := 4) (oi := { dst := some 38, op := Go.Op.load 25 (Go.Operand.tmp 10), type := 25, pos := "outright.go:46", after := #[{ on := 3, ground := Go.Ground.guard }], guard := some (3, false) }) (v := ?_) rfl (by kernel_rfl) (by kernel_rfl) (by kernel_rfl) (fun _ _ _ h => h) (Or.inl ⟨by rfl, ?_⟩) (by assumption) ?_
  rotate_left 1
  · intro w' hSw; (go_simp <;> (with_reducible rfl))
  (try simp only [Act.put, List.setIfInBounds_toArray, List.set_cons_zero, List.set_cons_succ])
  refine wpAnyH_take (i := 6) (oi := { dst := some 40, op := Go.Op.load 25 (Go.Operand.tmp 3), type := 25, pos := "outright.go:46", after := #[{ on := 3, ground := Go.Ground.guard }], guard := some (3, false) }) (v := ?_) rfl (by kernel_rfl) (by kernel_rfl) (by kernel_rfl) (fun _ _ _ h => h) (Or.inl ⟨by rfl, ?_⟩) (by assumption) ?_
  rotate_left 1
  · intro w' hSw; (go_simp <;> (with_reducible rfl))
  (try simp only [Act.put, List.setIfInBounds_toArray, List.set_cons_zero, List.set_cons_succ])
  refine wpAnyH_ready (rs := [5]) (by kernel_rfl) (by simp) ?_
  refine AllReadyH.cons (o := { dst := some 39, op := Go.Op.call { callee := Go.Callee.value (Go.Operand.func 13), args := #[Go.Operand.tmp 38], argTypes := #[25] }, type := 3, pos := "outright.go:46", after := #[{ on := 4, ground := Go.Ground.data }, { on := 3, ground := Go.Ground.chain }, { on := 3, ground := Go.Ground.guard }], guard := some (3, false) }) rfl (fun K hK => ?_) AllReadyH.nil
  go_simp
  (refine (sort8_any ty cd R A2 n c2' x _ Ex.out).mono ?_; rintro e w5 ⟨rfl, hb5⟩; have Hb5 := Lib.hid (below_trans Hb.out hb5); clear hb5)
  refine hK.out _ _ ?_ (fun hHeld => ?_)
  · exact (HKK.out _ Hb5.out).1
  clear hK K
  (try simp only [Act.put, List.setIfInBounds_toArray, List.set_cons_zero, List.set_cons_succ])
  refine wpAnyH_ready (rs := [7]) (by kernel_rfl) (by simp) ?_
  refine AllReadyH.cons (o := { dst := some 41, op := Go.Op.call { callee := Go.Callee.value (Go.Operand.func 13), args := #[Go.Operand.tmp 40], argTypes := #[25] }, type := 3, pos := "outright.go:46", after := #[{ on := 6, ground := Go.Ground.data }, { on := 5, ground := Go.Ground.chain }, { on := 3, ground := Go.Ground.guard }], guard := some (3, false) }) rfl (fun K hK => ?_) AllReadyH.nil
  go_simp
  (refine (sort8_any ty cd rs A n c x _ Ex.out).mono ?_; rintro e w7 ⟨rfl, hb7⟩; have Hb7 := Lib.hid (below_trans Hb5.out hb7); clear hb7)
  refine hK.out _ _ ?_ (fun hHeld => ?_)
  · exact (HKK.out _ Hb7.out).1
  clear hK K
  (try simp only [Act.put, List.setIfInBounds_toArray, List.set_cons_zero, List.set_cons_succ])
  refine wpAnyH_take (i := 8) (oi := { dst := some 42, op := Go.Op.binOp Go.BinOp.neq 3 (Go.Operand.tmp 39) (Go.Operand.tmp 41) 3, type := 4, pos := "outright.go:46", after := #[{ on := 5, ground := Go.Ground.data }, { on := 7, ground := Go.Ground.data }, { on := 3, ground := Go.Ground.guard }], guard := some (3, false) }) (v := ?_) rfl (by kernel_rfl) (by kernel_rfl) (by kernel_rfl) (fun _ _ _ h => h) (Or.inl ⟨by rfl, ?_⟩) (by assumption) ?_
  rotate_left 1
  · intro w' hSw; (go_simp <;> (with_reducible rfl))
  (try simp only [Act.put, List.setIfInBounds_toArray, List.set_cons_zero, List.set_cons_succ])
  refine wpAnyH_take (i := 9) (oi := { dst := some 43, op := Go.Op.pick (Go.Operand.tmp 37) (Go.Operand.const (Go.Value.bool true)) (Go.Operand.tmp 42), type := 4, pos := "outright.go:46", after := #[{ on := 3, ground := Go.Ground.data }, { on := 8, ground := Go.Ground.data }], guard := none }) (v := ?_) rfl (by kernel_rfl) (by kernel_rfl) (by kernel_rfl) (fun _ _ _ h => h) (Or.inl ⟨by rfl, ?_⟩) (by assumption) ?_
  rotate_left 1
  · intro w' hSw; (go_simp <;> (with_reducible rfl))
  (try simp only [Act.put, List.setIfInBounds_toArray, List.set_cons_zero, List.set_cons_succ])
  refine wpAnyH_done (by kernel_rfl) ?_ _
  have Hb := Hb7
  clear hHeld Hb5 Hb7 hxx
  try rw [H2i.out, H3i.out]
  try simp only [H2i.out, H3i.out]
  go_wp2_with fail
  have Hb := Lib.hid Hb.out.drew
  have HKS := Lib.hid (show ∀ w', Below v2.heap.size v2 w' → ((w'.cell? ⟨z, 0, none⟩ = some (.int .u8 ty) ∧ w'.cell? ⟨z, 1, none⟩ = some (.int .u8 cd) ∧ w'.cell? ⟨z, 2, none⟩ = some (.int .u32 rs) ∧ w'.cell? ⟨z, 3, none⟩ = some (.slice A n c)) ∧ w'.cell? ⟨z2, 0, none⟩ = some (.int .u8 ty) ∧ w'.cell? ⟨z2, 1, none⟩ = some (.int .u8 cd) ∧ w'.cell? ⟨z2, 2, none⟩ = some (.int .u32 R) ∧ w'.cell? ⟨z2, 3, none⟩ = some (.slice A2 n c2')) ∧ (convert 23 9 (.slice A2 n c2')).run Try.prog w' = .ok (.string (strOfNums d)) w' ∧ (convert 23 9 (.slice A n c)).run Try.prog w' = .ok (.string (strOfNums d)) w' from
    fun w' hb => ⟨(HKK.out _ hb).1, conv_rd (HKK.out _ hb).2.2 _, conv_rd (HKK.out _ hb).2.1 _⟩)
  refine wp_region_held_drew (S := fun w' => ((w'.cell? ⟨z, 0, none⟩ = some (.int .u8 ty) ∧ w'.cell? ⟨z, 1, none⟩ = some (.int .u8 cd) ∧ w'.cell? ⟨z, 2, none⟩ = some (.int .u32 rs) ∧ w'.cell? ⟨z, 3, none⟩ = some (.slice A n c)) ∧ w'.cell? ⟨z2, 0, none⟩ = some (.int .u8 ty) ∧ w'.cell? ⟨z2, 1, none⟩ = some (.int .u8 cd) ∧ w'.cell? ⟨z2, 2, none⟩ = some (.int .u32 R) ∧ w'.cell? ⟨z2, 3, none⟩ = some (.slice A2 n c2')) ∧ (convert 23 9 (.slice A2 n c2')).run Try.prog w' = .ok (.string (strOfNums d)) w' ∧ (convert 23 9 (.slice A n c)).run Try.prog w' = .ok (.string (strOfNums d)) w') (by kernel_rfl) (HKS.out _ Hb.out) (fun hHeld => ?_)
  obtain ⟨v4, ev4⟩ : ∃ v, w7.drew = v := ⟨_, rfl⟩
  rw [ev4] at Hb hHeld ⊢
  clear ev4
  refine wpAnyH_take (i := 0) (oi := { dst := some 62, op := Go.Op.move (Go.Operand.tmp 11), type := 26, pos := "outright.go:53", after := #[], guard := none }) (v := ?_) rfl (by kernel_rfl) (by kernel_rfl) (by kernel_rfl) (fun _ _ _ h => h) (Or.inl ⟨by rfl, ?_⟩) (by assumption) ?_
  rotate_left 1
  · intro w' hSw; (go_simp <;> (with_reducible rfl))
  (try simp only [Act.put, List.setIfInBounds_toArray, List.set_cons_zero, List.set_cons_succ])
  refine wpAnyH_take (i := 1) (oi := { dst := some 63, op := Go.Op.move (Go.Operand.tmp 1), type := 26, pos := "outright.go:53", after := #[], guard := none }) (v := ?_) rfl (by kernel_rfl) (by kernel_rfl) (by kernel_rfl) (fun _ _ _ h => h) (Or.inl ⟨by rfl, ?_⟩) (by assumption) ?_
  rotate_left 1
  · intro w' hSw; (go_simp <;> (with_reducible rfl))
  (try simp only [Act.put, List.setIfInBounds_toArray, List.set_cons_zero, List.set_cons_succ])
  refine wpAnyH_take (i := 2) (oi := { dst := some 64, op := Go.Op.binOp Go.BinOp.neq 26 (Go.Operand.tmp 62) (Go.Operand.tmp 63) 26, type := 4, pos := "outright.go:53", after := #[{ on := 0, ground := Go.Ground.data }, { on := 1, ground := Go.Ground.data }], guard := none }) (v := ?_) rfl (by kernel_rfl) (by kernel_rfl) (by kernel_rfl) (fun _ _ _ h => h) (Or.inl ⟨by rfl, ?_⟩) (by assumption) ?_
  rotate_left 1
  · intro w' hSw; (go_simp <;> (with_reducible rfl))
  (try simp only [Act.put, List.setIfInBounds_toArray, List.set_cons_zero, List.set_cons_succ])
  refine wpAnyH_take (i := 3) (oi := { dst := some 65, op := Go.Op.move (Go.Operand.tmp 64), type := 4, pos := "outright.go:53", after := #[{ on := 2, ground := Go.Ground.data }], guard := none }) (v := ?_) rfl (by kernel_rfl) (by kernel_rfl) (by kernel_rfl) (fun _ _ _ h => h) (Or.inl ⟨by rfl, ?_⟩) (by assumption) ?_
  rotate_left 1
  · intro w' hSw; (go_simp <;> (with_reducible rfl))
  (try simp only [Act.put, List.setIfInBounds_toArray, List.set_cons_zero, List.set_cons_succ])
  refine wpAnyH_take (i := 4) (oi := { dst := some 66, op := Go.Op.move (Go.Operand.tmp 12), type := 26, pos := "outright.go:53", after := #[{ on := 3, ground := Go.Ground.guard }], guard := some (3, false) }) (v := ?_) rfl (by kernel_rfl) (by kernel_rfl) (by kernel_rfl) (fun _ _ _ h => h) (Or.inl ⟨by rfl, ?_⟩) (by assumption) ?_
  rotate_left 1
  · intro w' hSw; (go_simp <;> (with_reducible rfl))
  (try simp only [Act.put, List.setIfInBounds_toArray, List.set_cons_zero, List.set_cons_succ])
  refine wpAnyH_take (i := 5) (oi := { dst := some 67, op := Go.Op.move (Go.Operand.tmp 8), type := 26, pos := "outright.go:53", after := #[{ on := 3, ground := Go.Ground.guard }], guard := some (3, false) }) (v := ?_) rfl (by kernel_rfl) (by kernel_rfl) (by kernel_rfl) (fun _ _ _ h => h) (Or.inl ⟨by rfl, ?_⟩) (by assumption) ?_
  rotate_left 1
  · intro w' hSw; (go_simp <;> (with_reducible rfl))
  (try simp only [Act.put, List.setIfInBounds_toArray, List.set_cons_zero, List.set_cons_succ])
  refine wpAnyH_take (i := 6) (oi := { dst := some 68, op := Go.Op.binOp Go.BinOp.neq 26 (Go.Operand.tmp 66) (Go.Operand.tmp 67) 26, type := 4, pos := "outright.go:53", after := #[{ on := 4, ground := Go.Ground.data }, { on := 5, ground := Go.Ground.data }, { on := 3, ground := Go.Ground.guard }], guard := some (3, false) }) (v := ?_) rfl (by kernel_rfl) (by kernel_rfl) (by kernel_rfl) (fun _ _ _ h => h) (Or.inl ⟨by rfl, ?_⟩) (by assumption) ?_
  rotate_left 1
  · intro w' hSw; (go_simp <;> (with_reducible rfl))
  (try simp only [Act.put, List.setIfInBounds_toArray, List.set_cons_zero, List.set_cons_succ])
  refine wpAnyH_take (i := 7) (oi := { dst := some 69, op := Go.Op.pick (Go.Operand.tmp 65) (Go.Operand.const (Go.Value.bool true)) (Go.Operand.tmp 68), type := 4, pos := "outright.go:53", after := #[{ on := 3, ground := Go.Ground.data }, { on := 6, ground := Go.Ground.data }], guard := none }) (v := ?_) rfl (by kernel_rfl) (by kernel_rfl) (by kernel_rfl) (fun _ _ _ h => h) (Or.inl ⟨by rfl, ?_⟩) (by assumption) ?_
  rotate_left 1
  · intro w' hSw; (go_simp <;> (with_reducible rfl))
  (try simp only [Act.put, List.setIfInBounds_toArray, List.set_cons_zero, List.set_cons_succ])
  refine wpAnyH_take (i := 8) (oi := { dst := some 70, op := Go.Op.move (Go.Operand.tmp 69), type := 4, pos := "outright.go:53", after := #[{ on := 7, ground := Go.Ground.data }, { on := 3, ground := Go.Ground.chain }], guard := none }) (v := ?_) rfl (by kernel_rfl) (by kernel_rfl) (by kernel_rfl) (fun _ _ _ h => h) (Or.inl ⟨by rfl, ?_⟩) (by assumption) ?_
  rotate_left 1
  · intro w' hSw; (go_simp <;> (with_reducible rfl))
  (try simp only [Act.put, List.setIfInBounds_toArray, List.set_cons_zero, List.set_cons_succ])
  refine wpAnyH_take (i := 9) (oi := { dst := some 71, op := Go.Op.load 25 (Go.Operand.tmp 10), type := 25, pos := "outright.go:53", after := #[{ on := 8, ground := Go.Ground.guard }], guard := some (8, false) }) (v := ?_) rfl (by kernel_rfl) (by kernel_rfl) (by kernel_rfl) (fun _ _ _ h => h) (Or.inl ⟨by rfl, ?_⟩) (by assumption) ?_
  rotate_left 1
  · intro w' hSw; (go_simp <;> (with_reducible rfl))
  (try simp only [Act.put, List.setIfInBounds_toArray, List.set_cons_zero, List.set_cons_succ])
  refine wpAnyH_take (i := 10) (oi := { dst := some 72, op := Go.Op.move (Go.Operand.tmp 7), type := 26, pos := "outright.go:53", after := #[{ on := 8, ground := Go.Ground.guard }], guard := some (8, false) }) (v := ?_) rfl (by kernel_rfl) (by kernel_rfl) (by kernel_rfl) (fun _ _ _ h => h) (Or.inl ⟨by rfl, ?_⟩) (by assumption) ?_
  rotate_left 1
  · intro w' hSw; (go_simp <;> (with_reducible rfl))
  (try simp only [Act.put, List.setIfInBounds_toArray, List.set_cons_zero, List.set_cons_succ])
  refine wpAnyH_take (i := 12) (oi := { dst := some 74, op := Go.Op.load 25 (Go.Operand.tmp 3), type := 25, pos := "outright.go:53", after := #[{ on := 8, ground := Go.Ground.guard }], guard := some (8, false) }) (v := ?_) rfl (by kernel_rfl) (by kernel_rfl) (by kernel_rfl) (fun _ _ _ h => h) (Or.inl ⟨by rfl, ?_⟩) (by assumption) ?_
  rotate_left 1
  · intro w' hSw; (go_simp <;> (with_reducible rfl))
  (try simp only [Act.put, List.setIfInBounds_toArray, List.set_cons_zero, List.set_cons_succ])
  refine wpAnyH_ready (rs := [11]) (by kernel_rfl) (by simp) ?_
  refine AllReadyH.cons (o := { dst := some 73, op := Go.Op.call { callee := Go.Callee.value (Go.Operand.func 17), args := #[Go.Operand.tmp 71, Go.Operand.tmp 72], argTypes := #[25, 26] }, type := 25, pos := "outright.go:53", after := #[{ on := 9, ground := Go.Ground.data }, { on := 10, ground := Go.Ground.data }, { on := 8, ground := Go.Ground.chain }, { on := 8, ground := Go.Ground.guard }], guard := some (8, false) }) rfl (fun K hK => ?_) AllReadyH.nil
  go_simp
  (refine (with8_told ⟨ty, cd, R, d⟩ (rs / 65536) ty cd rs A2 n c2' _ HrR.out Hw16.out hnm (HKK.out _ Hb.out).2.2 Hwb.out).mono ?_; rintro e w11 ⟨A11, c11, rfl, -, hr11, hb11⟩; have HR11 := Lib.hid hr11; have Hb11 := Lib.hid (below_trans Hb.out hb11); clear hb11 hr11)
  refine hK.out _ _ ?_ (fun hHeld => ?_)
  · exact HKS.out _ Hb11.out
  clear hK K
  (try simp only [Act.put, List.setIfInBounds_toArray, List.set_cons_zero, List.set_cons_succ])
  refine wpAnyH_ready (rs := [13]) (by kernel_rfl) (by simp) ?_
  refine AllReadyH.cons (o := { dst := some 75, op := Go.Op.call { callee := Go.Callee.value (Go.Operand.func 12), args := #[Go.Operand.tmp 73, Go.Operand.tmp 74], argTypes := #[25, 25] }, type := 4, pos := "outright.go:53", after := #[{ on := 11, ground := Go.Ground.data }, { on := 12, ground := Go.Ground.data }, { on := 11, ground := Go.Ground.chain }, { on := 8, ground := Go.Ground.guard }], guard := some (8, false) }) rfl (fun K hK => ?_) AllReadyH.nil
  go_simp
  (refine (same8_any ⟨ty, cd, rs, d⟩ ⟨ty, cd, rs, d⟩ A11 n c11 A n c _ true HR11.out (HKK.out _ Hb11.out).2.1 (msgSame_self _)).mono ?_; rintro e w13 ⟨rfl, hb13⟩; have Hb13 := Lib.hid (below_trans Hb11.out hb13); clear hb13)
  refine hK.out _ _ ?_ (fun hHeld => ?_)
  · exact HKS.out _ Hb13.out
  clear hK K
  (try simp only [Act.put, List.setIfInBounds_toArray, List.set_cons_zero, List.set_cons_succ])
  refine wpAnyH_take (i := 14) (oi := { dst := some 76, op := Go.Op.unOp Go.UnOp.not 4 (Go.Operand.tmp 75), type := 4, pos := "outright.go:53", after := #[{ on := 13, ground := Go.Ground.data }, { on := 8, ground := Go.Ground.guard }], guard := some (8, false) }) (v := ?_) rfl (by kernel_rfl) (by kernel_rfl) (by kernel_rfl) (fun _ _ _ h => h) (Or.inl ⟨by rfl, ?_⟩) (by assumption) ?_
  rotate_left 1
  · intro w' hSw; (go_simp <;> (with_reducible rfl))
  (try simp only [Act.put, List.setIfInBounds_toArray, List.set_cons_zero, List.set_cons_succ])
  refine wpAnyH_take (i := 15) (oi := { dst := some 77, op := Go.Op.pick (Go.Operand.tmp 70) (Go.Operand.const (Go.Value.bool true)) (Go.Operand.tmp 76), type := 4, pos := "outright.go:53", after := #[{ on := 8, ground := Go.Ground.data }, { on := 14, ground := Go.Ground.data }], guard := none }) (v := ?_) rfl (by kernel_rfl) (by kernel_rfl) (by kernel_rfl) (fun _ _ _ h => h) (Or.inl ⟨by rfl, ?_⟩) (by assumption) ?_
  rotate_left 1
  · intro w' hSw; (go_simp <;> (with_reducible rfl))
  (try simp only [Act.put, List.setIfInBounds_toArray, List.set_cons_zero, List.set_cons_succ])
  refine wpAnyH_take (i := 16) (oi := { dst := some 78, op := Go.Op.move (Go.Operand.tmp 77), type := 4, pos := "outright.go:53", after := #[{ on := 15, ground := Go.Ground.data }, { on := 13, ground := Go.Ground.chain }], guard := none }) (v := ?_) rfl (by kernel_rfl) (by kernel_rfl) (by kernel_rfl) (fun _ _ _ h => h) (Or.inl ⟨by rfl, ?_⟩) (by assumption) ?_
  rotate_left 1
  · intro w' hSw; (go_simp <;> (with_reducible rfl))
  (try simp only [Act.put, List.setIfInBounds_toArray, List.set_cons_zero, List.set_cons_succ])
  refine wpAnyH_take (i := 17) (oi := { dst := some 79, op := Go.Op.load 25 (Go.Operand.tmp 10), type := 25, pos := "outright.go:53", after := #[{ on := 16, ground := Go.Ground.guard }], guard := some (16, false) }) (v := ?_) rfl (by kernel_rfl) (by kernel_rfl) (by kernel_rfl) (fun _ _ _ h => h) (Or.inl ⟨by rfl, ?_⟩) (by assumption) ?_
  rotate_left 1
  · intro w' hSw; (go_simp <;> (with_reducible rfl))
  (try simp only [Act.put, List.setIfInBounds_toArray, List.set_cons_zero, List.set_cons_succ])
  refine wpAnyH_take (i := 18) (oi := { dst := some 80, op := Go.Op.move (Go.Operand.tmp 2), type := 26, pos := "outright.go:53", after := #[{ on := 16, ground := Go.Ground.guard }], guard := some (16, false) }) (v := ?_) rfl (by kernel_rfl) (by kernel_rfl) (by kernel_rfl) (fun _ _ _ h => h) (Or.inl ⟨by rfl, ?_⟩) (by assumption) ?_
  rotate_left 1
  · intro w' hSw; (go_simp <;> (with_reducible rfl))
  (try simp only [Act.put, List.setIfInBounds_toArray, List.set_cons_zero, List.set_cons_succ])
  refine wpAnyH_take (i := 20) (oi := { dst := some 82, op := Go.Op.load 25 (Go.Operand.tmp 3), type := 25, pos := "outright.go:53", after := #[{ on := 16, ground := Go.Ground.guard }], guard := some (16, false) }) (v := ?_) rfl (by kernel_rfl) (by kernel_rfl) (by kernel_rfl) (fun _ _ _ h => h) (Or.inl ⟨by rfl, ?_⟩) (by assumption) ?_
  rotate_left 1
  · intro w' hSw; (go_simp <;> (with_reducible rfl))
  (try simp only [Act.put, List.setIfInBounds_toArray, List.set_cons_zero, List.set_cons_succ])
  refine wpAnyH_take (i := 21) (oi := { dst := some 83, op := Go.Op.move (Go.Operand.tmp 2), type := 26, pos := "outright.go:53", after := #[{ on := 16, ground := Go.Ground.guard }], guard := some (16, false) }) (v := ?_) rfl (by kernel_rfl) (by kernel_rfl) (by kernel_rfl) (fun _ _ _ h => h) (Or.inl ⟨by rfl, ?_⟩) (by assumption) ?_
  rotate_left 1
  · intro w' hSw; (go_simp <;> (with_reducible rfl))
  (try simp only [Act.put, List.setIfInBounds_toArray, List.set_cons_zero, List.set_cons_succ])
  refine wpAnyH_ready (rs := [19]) (by kernel_rfl) (by simp) ?_
  refine AllReadyH.cons (o := { dst := some 81, op := Go.Op.call { callee := Go.Callee.value (Go.Operand.func 17), args := #[Go.Operand.tmp 79, Go.Operand.tmp 80], argTypes := #[25, 26] }, type := 25, pos := "outright.go:53", after := #[{ on := 17, ground := Go.Ground.data }, { on := 18, ground := Go.Ground.data }, { on := 16, ground := Go.Ground.chain }, { on := 16, ground := Go.Ground.guard }], guard := some (16, false) }) rfl (fun K hK => ?_) AllReadyH.nil
  go_simp
  (refine (with8_told ⟨ty, cd, R, d⟩ other ty cd Q A2 n c2' _ HrR.out Hot.out hnm (HKK.out _ Hb13.out).2.2 Hwo.out).mono ?_; rintro e w19 ⟨A19, c19, rfl, -, hr19, hb19⟩; have HR19 := Lib.hid hr19; have Hb19 := Lib.hid (below_trans Hb13.out hb19); clear hb19 hr19)
  refine hK.out _ _ ?_ (fun hHeld => ?_)
  · exact HKS.out _ Hb19.out
  clear hK K
  (try simp only [Act.put, List.setIfInBounds_toArray, List.set_cons_zero, List.set_cons_succ])
  refine wpAnyH_ready (rs := [22]) (by kernel_rfl) (by simp) ?_
  refine AllReadyH.cons (o := { dst := some 84, op := Go.Op.call { callee := Go.Callee.value (Go.Operand.func 17), args := #[Go.Operand.tmp 82, Go.Operand.tmp 83], argTypes := #[25, 26] }, type := 25, pos := "outright.go:53", after := #[{ on := 20, ground := Go.Ground.data }, { on := 21, ground := Go.Ground.data }, { on := 19, ground := Go.Ground.chain }, { on := 16, ground := Go.Ground.guard }], guard := some (16, false) }) rfl (fun K hK => ?_) AllReadyH.nil
  go_simp
  (refine (with8_told ⟨ty, cd, rs, d⟩ other ty cd Q A n c _ HrS.out Hot.out hnm (HKK.out _ Hb19.out).2.1 Hwp.out).mono ?_; rintro e w22 ⟨A22, c22, rfl, -, hr22, hb22⟩; have HR22 := Lib.hid hr22; have HR19 := Lib.hid (HR19.out.below hb22); have Hb22 := Lib.hid (below_trans Hb19.out hb22); clear hb22 hr22)
  refine hK.out _ _ ?_ (fun hHeld => ?_)
  · exact HKS.out _ Hb22.out
  clear hK K
  (try simp only [Act.put, List.setIfInBounds_toArray, List.set_cons_zero, List.set_cons_succ])
  refine wpAnyH_ready (rs := [23]) (by kernel_rfl) (by simp) ?_
  refine AllReadyH.cons (o := { dst := some 85, op := Go.Op.call { callee := Go.Callee.value (Go.Operand.func 12), args := #[Go.Operand.tmp 81, Go.Operand.tmp 84], argTypes := #[25, 25] }, type := 4, pos := "outright.go:53", after := #[{ on := 19, ground := Go.Ground.data }, { on := 22, ground := Go.Ground.data }, { on := 22, ground := Go.Ground.chain }, { on := 16, ground := Go.Ground.guard }], guard := some (16, false) }) rfl (fun K hK => ?_) AllReadyH.nil
  go_simp
  (refine (same8_any ⟨ty, cd, Q, d⟩ ⟨ty, cd, Q, d⟩ A19 n c19 A22 n c22 _ true HR19.out HR22.out (msgSame_self _)).mono ?_; rintro e w23 ⟨rfl, hb23⟩; have Hb23 := Lib.hid (below_trans Hb22.out hb23); clear hb23)
  refine hK.out _ _ ?_ (fun hHeld => ?_)
  · exact HKS.out _ Hb23.out
  clear hK K
  (try simp only [Act.put, List.setIfInBounds_toArray, List.set_cons_zero, List.set_cons_succ])
  refine wpAnyH_take (i := 24) (oi := { dst := some 86, op := Go.Op.unOp Go.UnOp.not 4 (Go.Operand.tmp 85), type := 4, pos := "outright.go:53", after := #[{ on := 23, ground := Go.Ground.data }, { on := 16, ground := Go.Ground.guard }], guard := some (16, false) }) (v := ?_) rfl (by kernel_rfl) (by kernel_rfl) (by kernel_rfl) (fun _ _ _ h => h) (Or.inl ⟨by rfl, ?_⟩) (by assumption) ?_
  rotate_left 1
  · intro w' hSw; (go_simp <;> (with_reducible rfl))
  (try simp only [Act.put, List.setIfInBounds_toArray, List.set_cons_zero, List.set_cons_succ])
  refine wpAnyH_take (i := 25) (oi := { dst := some 87, op := Go.Op.pick (Go.Operand.tmp 78) (Go.Operand.const (Go.Value.bool true)) (Go.Operand.tmp 86), type := 4, pos := "outright.go:53", after := #[{ on := 16, ground := Go.Ground.data }, { on := 24, ground := Go.Ground.data }], guard := none }) (v := ?_) rfl (by kernel_rfl) (by kernel_rfl) (by kernel_rfl) (fun _ _ _ h => h) (Or.inl ⟨by rfl, ?_⟩) (by assumption) ?_
  rotate_left 1
  · intro w' hSw; (go_simp <;> (with_reducible rfl))
  (try simp only [Act.put, List.setIfInBounds_toArray, List.set_cons_zero, List.set_cons_succ])
  refine wpAnyH_take (i := 26) (oi := { dst := some 88, op := Go.Op.move (Go.Operand.tmp 87), type := 4, pos := "outright.go:53", after := #[{ on := 25, ground := Go.Ground.data }, { on := 23, ground := Go.Ground.chain }], guard := none }) (v := ?_) rfl (by kernel_rfl) (by kernel_rfl) (by kernel_rfl) (fun _ _ _ h => h) (Or.inl ⟨by rfl, ?_⟩) (by assumption) ?_
  rotate_left 1
  · intro w' hSw; (go_simp <;> (with_reducible rfl))
  (try simp only [Act.put, List.setIfInBounds_toArray, List.set_cons_zero, List.set_cons_succ])
  refine wpAnyH_take (i := 27) (oi := { dst := some 89, op := Go.Op.fieldAddr 25 (Go.Operand.tmp 10) 0, type := 0, pos := "outright.go:53", after := #[{ on := 26, ground := Go.Ground.guard }], guard := some (26, false) }) (v := ?_) rfl (by kernel_rfl) (by kernel_rfl) (by kernel_rfl) (fun _ _ _ h => h) (Or.inl ⟨by rfl, ?_⟩) (by assumption) ?_
  rotate_left 1
  · intro w' hSw; (go_simp <;> (with_reducible rfl))
  (try simp only [Act.put, List.setIfInBounds_toArray, List.set_cons_zero, List.set_cons_succ])
  refine wpAnyH_take (i := 28) (oi := { dst := some 90, op := Go.Op.load 5 (Go.Operand.tmp 89), type := 5, pos := "outright.go:53", after := #[{ on := 27, ground := Go.Ground.data }, { on := 26, ground := Go.Ground.guard }], guard := some (26, false) }) (v := ?_) rfl (by kernel_rfl) (by kernel_rfl) (by kernel_rfl) (fun _ _ _ h => h) (Or.inl ⟨by rfl, ?_⟩) (by assumption) ?_
  rotate_left 1
  · intro w' hSw; (go_simp <;> (with_reducible rfl))
  (try simp only [Act.put, List.setIfInBounds_toArray, List.set_cons_zero, List.set_cons_succ])
  refine wpAnyH_take (i := 29) (oi := { dst := some 91, op := Go.Op.fieldAddr 25 (Go.Operand.tmp 3) 0, type := 0, pos := "outright.go:53", after := #[{ on := 26, ground := Go.Ground.guard }], guard := some (26, false) }) (v := ?_) rfl (by kernel_rfl) (by kernel_rfl) (by kernel_rfl) (fun _ _ _ h => h) (Or.inl ⟨by rfl, ?_⟩) (by assumption) ?_
  rotate_left 1
  · intro w' hSw; (go_simp <;> (with_reducible rfl))
  (try simp only [Act.put, List.setIfInBounds_toArray, List.set_cons_zero, List.set_cons_succ])
  refine wpAnyH_take (i := 30) (oi := { dst := some 92, op := Go.Op.load 5 (Go.Operand.tmp 91), type := 5, pos := "outright.go:53", after := #[{ on := 29, ground := Go.Ground.data }, { on := 26, ground := Go.Ground.guard }], guard := some (26, false) }) (v := ?_) rfl (by kernel_rfl) (by kernel_rfl) (by kernel_rfl) (fun _ _ _ h => h) (Or.inl ⟨by rfl, ?_⟩) (by assumption) ?_
  rotate_left 1
  · intro w' hSw; (go_simp <;> (with_reducible rfl))
  (try simp only [Act.put, List.setIfInBounds_toArray, List.set_cons_zero, List.set_cons_succ])
  refine wpAnyH_take (i := 31) (oi := { dst := some 93, op := Go.Op.binOp Go.BinOp.neq 5 (Go.Operand.tmp 90) (Go.Operand.tmp 92) 5, type := 4, pos := "outright.go:53", after := #[{ on := 28, ground := Go.Ground.data }, { on := 30, ground := Go.Ground.data }, { on := 26, ground := Go.Ground.guard }], guard := some (26, false) }) (v := ?_) rfl (by kernel_rfl) (by kernel_rfl) (by kernel_rfl) (fun _ _ _ h => h) (Or.inl ⟨by rfl, ?_⟩) (by assumption) ?_
  rotate_left 1
  · intro w' hSw; (go_simp <;> (with_reducible rfl))
  (try simp only [Act.put, List.setIfInBounds_toArray, List.set_cons_zero, List.set_cons_succ])
  refine wpAnyH_take (i := 32) (oi := { dst := some 94, op := Go.Op.pick (Go.Operand.tmp 88) (Go.Operand.const (Go.Value.bool true)) (Go.Operand.tmp 93), type := 4, pos := "outright.go:53", after := #[{ on := 26, ground := Go.Ground.data }, { on := 31, ground := Go.Ground.data }], guard := none }) (v := ?_) rfl (by kernel_rfl) (by kernel_rfl) (by kernel_rfl) (fun _ _ _ h => h) (Or.inl ⟨by rfl, ?_⟩) (by assumption) ?_
  rotate_left 1
  · intro w' hSw; (go_simp <;> (with_reducible rfl))
  (try simp only [Act.put, List.setIfInBounds_toArray, List.set_cons_zero, List.set_cons_succ])
  refine wpAnyH_take (i := 33) (oi := { dst := some 95, op := Go.Op.move (Go.Operand.tmp 94), type := 4, pos := "outright.go:53", after := #[{ on := 32, ground := Go.Ground.data }, { on := 26, ground := Go.Ground.chain }], guard := none }) (v := ?_) rfl (by kernel_rfl) (by kernel_rfl) (by kernel_rfl) (fun _ _ _ h => h) (Or.inl ⟨by rfl, ?_⟩) (by assumption) ?_
  rotate_left 1
  · intro w' hSw; (go_simp <;> (with_reducible rfl))
  (try simp only [Act.put, List.setIfInBounds_toArray, List.set_cons_zero, List.set_cons_succ])
  refine wpAnyH_take (i := 34) (oi := { dst := some 96, op := Go.Op.fieldAddr 25 (Go.Operand.tmp 10) 1, type := 0, pos := "outright.go:53", after := #[{ on := 33, ground := Go.Ground.guard }], guard := some (33, false) }) (v := ?_) rfl (by kernel_rfl) (by kernel_rfl) (by kernel_rfl) (fun _ _ _ h => h) (Or.inl ⟨by rfl, ?_⟩) (by assumption) ?_
  rotate_left 1
  · intro w' hSw; (go_simp <;> (with_reducible rfl))
  (try simp only [Act.put, List.setIfInBounds_toArray, List.set_cons_zero, List.set_cons_succ])
  refine wpAnyH_take (i := 35) (oi := { dst := some 97, op := Go.Op.load 5 (Go.Operand.tmp 96), type := 5, pos := "outright.go:53", after := #[{ on := 34, ground := Go.Ground.data }, { on := 33, ground := Go.Ground.guard }], guard := some (33, false) }) (v := ?_) rfl (by kernel_rfl) (by kernel_rfl) (by kernel_rfl) (fun _ _ _ h => h) (Or.inl ⟨by rfl, ?_⟩) (by assumption) ?_
  rotate_left 1
  · intro w' hSw; (go_simp <;> (with_reducible rfl))
  (try simp only [Act.put, List.setIfInBounds_toArray, List.set_cons_zero, List.set_cons_succ])
  refine wpAnyH_take (i := 36) (oi := { dst := some 98, op := Go.Op.fieldAddr 25 (Go.Operand.tmp 3) 1, type := 0, pos := "outright.go:53", after := #[{ on := 33, ground := Go.Ground.guard }], guard := some (33, false) }) (v := ?_) rfl (by kernel_rfl) (by kernel_rfl) (by kernel_rfl) (fun _ _ _ h => h) (Or.inl ⟨by rfl, ?_⟩) (by assumption) ?_
  rotate_left 1
  · intro w' hSw; (go_simp <;> (with_reducible rfl))
  (try simp only [Act.put, List.setIfInBounds_toArray, List.set_cons_zero, List.set_cons_succ])
  refine wpAnyH_take (i := 37) (oi := { dst := some 99, op := Go.Op.load 5 (Go.Operand.tmp 98), type := 5, pos := "outright.go:53", after := #[{ on := 36, ground := Go.Ground.data }, { on := 33, ground := Go.Ground.guard }], guard := some (33, false) }) (v := ?_) rfl (by kernel_rfl) (by kernel_rfl) (by kernel_rfl) (fun _ _ _ h => h) (Or.inl ⟨by rfl, ?_⟩) (by assumption) ?_
  rotate_left 1
  · intro w' hSw; (go_simp <;> (with_reducible rfl))
  (try simp only [Act.put, List.setIfInBounds_toArray, List.set_cons_zero, List.set_cons_succ])
  refine wpAnyH_take (i := 38) (oi := { dst := some 100, op := Go.Op.binOp Go.BinOp.neq 5 (Go.Operand.tmp 97) (Go.Operand.tmp 99) 5, type := 4, pos := "outright.go:53", after := #[{ on := 35, ground := Go.Ground.data }, { on := 37, ground := Go.Ground.data }, { on := 33, ground := Go.Ground.guard }], guard := some (33, false) }) (v := ?_) rfl (by kernel_rfl) (by kernel_rfl) (by kernel_rfl) (fun _ _ _ h => h) (Or.inl ⟨by rfl, ?_⟩) (by assumption) ?_
  rotate_left 1
  · intro w' hSw; (go_simp <;> (with_reducible rfl))
  (try simp only [Act.put, List.setIfInBounds_toArray, List.set_cons_zero, List.set_cons_succ])
  refine wpAnyH_take (i := 39) (oi := { dst := some 101, op := Go.Op.pick (Go.Operand.tmp 95) (Go.Operand.const (Go.Value.bool true)) (Go.Operand.tmp 100), type := 4, pos := "outright.go:53", after := #[{ on := 33, ground := Go.Ground.data }, { on := 38, ground := Go.Ground.data }], guard := none }) (v := ?_) rfl (by kernel_rfl) (by kernel_rfl) (by kernel_rfl) (fun _ _ _ h => h) (Or.inl ⟨by rfl, ?_⟩) (by assumption) ?_
  rotate_left 1
  · intro w' hSw; (go_simp <;> (with_reducible rfl))
  (try simp only [Act.put, List.setIfInBounds_toArray, List.set_cons_zero, List.set_cons_succ])
  refine wpAnyH_take (i := 40) (oi := { dst := some 102, op := Go.Op.move (Go.Operand.tmp 101), type := 4, pos := "outright.go:53", after := #[{ on := 39, ground := Go.Ground.data }, { on := 33, ground := Go.Ground.chain }], guard := none }) (v := ?_) rfl (by kernel_rfl) (by kernel_rfl) (by kernel_rfl) (fun _ _ _ h => h) (Or.inl ⟨by rfl, ?_⟩) (by assumption) ?_
  rotate_left 1
  · intro w' hSw; (go_simp <;> (with_reducible rfl))
  (try simp only [Act.put, List.setIfInBounds_toArray, List.set_cons_zero, List.set_cons_succ])
  refine wpAnyH_take (i := 41) (oi := { dst := some 103, op := Go.Op.fieldAddr 25 (Go.Operand.tmp 10) 3, type := 0, pos := "outright.go:53", after := #[{ on := 40, ground := Go.Ground.guard }], guard := some (40, false) }) (v := ?_) rfl (by kernel_rfl) (by kernel_rfl) (by kernel_rfl) (fun _ _ _ h => h) (Or.inl ⟨by rfl, ?_⟩) (by assumption) ?_
  rotate_left 1
  · intro w' hSw; (go_simp <;> (with_reducible rfl))
  (try simp only [Act.put, List.setIfInBounds_toArray, List.set_cons_zero, List.set_cons_succ])
  refine wpAnyH_take (i := 42) (oi := { dst := some 104, op := Go.Op.load 23 (Go.Operand.tmp 103), type := 23, pos := "outright.go:53", after := #[{ on := 41, ground := Go.Ground.data }, { on := 40, ground := Go.Ground.guard }], guard := some (40, false) }) (v := ?_) rfl (by kernel_rfl) (by kernel_rfl) (by kernel_rfl) (fun _ _ _ h => h) (Or.inl ⟨by rfl, ?_⟩) (by assumption) ?_
  rotate_left 1
  · intro w' hSw; (go_simp <;> (with_reducible rfl))
  (try simp only [Act.put, List.setIfInBounds_toArray, List.set_cons_zero, List.set_cons_succ])
  refine wpAnyH_take (i := 43) (oi := { dst := some 105, op := Go.Op.convert 23 9 (Go.Operand.tmp 104), type := 9, pos := "outright.go:53", after := #[{ on := 42, ground := Go.Ground.data }, { on := 40, ground := Go.Ground.guard }], guard := some (40, false) }) (v := ?_) rfl (by kernel_rfl) (by kernel_rfl) (by kernel_rfl) (fun _ _ _ h => h) (Or.inl ⟨by rfl, ?_⟩) (by assumption) ?_
  rotate_left 1
  · intro w' hSw; (go_simp <;> (with_reducible rfl))
  (try simp only [Act.put, List.setIfInBounds_toArray, List.set_cons_zero, List.set_cons_succ])
  refine wpAnyH_take (i := 44) (oi := { dst := some 106, op := Go.Op.fieldAddr 25 (Go.Operand.tmp 3) 3, type := 0, pos := "outright.go:53", after := #[{ on := 40, ground := Go.Ground.guard }], guard := some (40, false) }) (v := ?_) rfl (by kernel_rfl) (by kernel_rfl) (by kernel_rfl) (fun _ _ _ h => h) (Or.inl ⟨by rfl, ?_⟩) (by assumption) ?_
  rotate_left 1
  · intro w' hSw; (go_simp <;> (with_reducible rfl))
  (try simp only [Act.put, List.setIfInBounds_toArray, List.set_cons_zero, List.set_cons_succ])
  refine wpAnyH_take (i := 45) (oi := { dst := some 107, op := Go.Op.load 23 (Go.Operand.tmp 106), type := 23, pos := "outright.go:53", after := #[{ on := 44, ground := Go.Ground.data }, { on := 40, ground := Go.Ground.guard }], guard := some (40, false) }) (v := ?_) rfl (by kernel_rfl) (by kernel_rfl) (by kernel_rfl) (fun _ _ _ h => h) (Or.inl ⟨by rfl, ?_⟩) (by assumption) ?_
  rotate_left 1
  · intro w' hSw; (go_simp <;> (with_reducible rfl))
  (try simp only [Act.put, List.setIfInBounds_toArray, List.set_cons_zero, List.set_cons_succ])
  refine wpAnyH_take (i := 46) (oi := { dst := some 108, op := Go.Op.convert 23 9 (Go.Operand.tmp 107), type := 9, pos := "outright.go:53", after := #[{ on := 45, ground := Go.Ground.data }, { on := 40, ground := Go.Ground.guard }], guard := some (40, false) }) (v := ?_) rfl (by kernel_rfl) (by kernel_rfl) (by kernel_rfl) (fun _ _ _ h => h) (Or.inl ⟨by rfl, ?_⟩) (by assumption) ?_
  rotate_left 1
  · intro w' hSw; (go_simp <;> (with_reducible rfl))
  (try simp only [Act.put, List.setIfInBounds_toArray, List.set_cons_zero, List.set_cons_succ])
  refine wpAnyH_take (i := 47) (oi := { dst := some 109, op := Go.Op.binOp Go.BinOp.neq 9 (Go.Operand.tmp 105) (Go.Operand.tmp 108) 9, type := 4, pos := "outright.go:53", after := #[{ on := 43, ground := Go.Ground.data }, { on := 46, ground := Go.Ground.data }, { on := 40, ground := Go.Ground.guard }], guard := some (40, false) }) (v := ?_) rfl (by kernel_rfl) (by kernel_rfl) (by kernel_rfl) (fun _ _ _ h => h) (Or.inl ⟨by rfl, ?_⟩) (by assumption) ?_
  rotate_left 1
  · intro w' hSw; (go_simp <;> (with_reducible rfl))
  (try simp only [Act.put, List.setIfInBounds_toArray, List.set_cons_zero, List.set_cons_succ])
  refine wpAnyH_take (i := 48) (oi := { dst := some 110, op := Go.Op.pick (Go.Operand.tmp 102) (Go.Operand.const (Go.Value.bool true)) (Go.Operand.tmp 109), type := 4, pos := "outright.go:53", after := #[{ on := 40, ground := Go.Ground.data }, { on := 47, ground := Go.Ground.data }], guard := none }) (v := ?_) rfl (by kernel_rfl) (by kernel_rfl) (by kernel_rfl) (fun _ _ _ h => h) (Or.inl ⟨by rfl, ?_⟩) (by assumption) ?_
  rotate_left 1
  · intro w' hSw; (go_simp <;> (with_reducible rfl))
  (try simp only [Act.put, List.setIfInBounds_toArray, List.set_cons_zero, List.set_cons_succ])
  refine wpAnyH_done (by kernel_rfl) ?_ _
  have Hb := Hb23
  clear hHeld Hb11 Hb13 Hb19 Hb22 Hb23 HR19 HR11 HR22
  by_cases hn : 1472 < n
  case pos =>
    obtain ⟨⟨c0, c1, c2, c3⟩, d0, d1, d2, d3⟩ := (HKK.out _ Hb.out).1
    go_wp2_with fail
    refine (put8_bad ty cd rs A n c _ hn).mono ?_
    rintro e w24 ⟨A24, c24, rfl, -, -, -, hb24⟩
    have Hb := Lib.hid (below_trans Hb.out hb24)
    clear c0 c1 c2 c3 d0 d1 d2 d3 hb24
    obtain ⟨⟨c0, c1, c2, c3⟩, d0, d1, d2, d3⟩ := (HKK.out _ Hb.out).1
    go_wp2_with fail
    refine (put8_bad ty cd R A2 n c2' _ hn).mono ?_
    rintro e w25 ⟨A25, c25, rfl, -, -, -, hb25⟩
    have Hb := Lib.hid (below_trans Hb.out hb25)
    clear c0 c1 c2 c3 d0 d1 d2 d3 hb25
    go_wp2_with fail
    refine (wakes_any _).mono ?_
    rintro e w10 ⟨rfl, hb10⟩
    have Hbb := Lib.hid (below_trans HbW.out (below_trans Hb0.out (below_trans Hb.out hb10)))
    clear hb10
    go_wp2_with fail
    go_ret
    exact ⟨rfl, Hbb.out⟩
  obtain ⟨L, eL⟩ : ∃ L, msgB ⟨ty, cd, rs, d⟩ = L := ⟨_, rfl⟩
  obtain ⟨L', eL'⟩ : ∃ L, msgB ⟨ty, cd, R, d⟩ = L := ⟨_, rfl⟩
  obtain ⟨M, eM⟩ : ∃ M, 8 + n = M := ⟨_, rfl⟩
  have hLlen := msgB_len ⟨ty, cd, rs, d⟩
  have hLlen' := msgB_len ⟨ty, cd, R, d⟩
  have hLb := msgB_by Hnum.out HdB.out
  have hLb' := msgB_by Hn2.out HdB.out
  have hm := m16_msgB ⟨ty, cd, rs, d⟩
  have hm' := m16_msgB ⟨ty, cd, R, d⟩
  have hfb := fieldM_bd ⟨ty, cd, rs, d⟩
  try simp only at hLlen hLlen'
  rw [eL] at hLlen hLb hm
  rw [eL'] at hLlen' hLb' hm'
  rw [Hdl.out, eM] at hLlen hLlen'
  have hfi := Hfi.out
  try simp only at hfi
  rw [← hm, ← hm'] at hfi
  rw [← hm] at hfb
  unfold m16 at hfi hfb
  obtain ⟨x2, ex2⟩ : ∃ x, L.getD 2 0 = x := ⟨_, rfl⟩
  obtain ⟨x3, ex3⟩ : ∃ x, L.getD 3 0 = x := ⟨_, rfl⟩
  obtain ⟨y2, ey2⟩ : ∃ x, L'.getD 2 0 = x := ⟨_, rfl⟩
  obtain ⟨y3, ey3⟩ : ∃ x, L'.getD 3 0 = x := ⟨_, rfl⟩
  rw [show (2 : Nat) + 1 = 3 from rfl] at hfi hfb
  rw [ex2, ex3, ey2, ey3] at hfi
  rw [ex2, ex3] at hfb
  have hx2b := getD_byte hLb 2
  have hx3b := getD_byte hLb 3
  have hy2b := getD_byte hLb' 2
  have hy3b := getD_byte hLb' 3
  rw [ex2] at hx2b
  rw [ex3] at hx3b
  rw [ey2] at hy2b
  rw [ey3] at hy3b
  have Hfi := Lib.hid hfi
  have Hfb := Lib.hid hfb
  have HLlen := Lib.hid hLlen
  have HLlen' := Lib.hid hLlen'
  have HLb := Lib.hid hLb
  have HLb' := Lib.hid hLb'
  have EL := Lib.hid eL
  have EL' := Lib.hid eL'
  have EX2 := Lib.hid ex2
  have EX3 := Lib.hid ex3
  have EY2 := Lib.hid ey2
  have EY3 := Lib.hid ey3
  have Hn := Lib.hid hn
  have hv0 := or16 x2 x3 hx2b hx3b
  have hv1 := or16 y2 y3 hy2b hy3b
  have hv2 : IntKind.u16.wrap x2 = x2 := by rw [wrap_u16]; omega
  have hv3 : IntKind.u16.wrap x3 = x3 := by rw [wrap_u16]; omega
  have hv4 : IntKind.u16.wrap y2 = y2 := by rw [wrap_u16]; omega
  have hv5 : IntKind.u16.wrap y3 = y3 := by rw [wrap_u16]; omega
  have hv6 : IntKind.u16.wrap (x2 * 256) = x2 * 256 := by rw [wrap_u16]; omega
  have hv7 : IntKind.u16.wrap (y2 * 256) = y2 * 256 := by rw [wrap_u16]; omega
  have hM8 : ¬ (M : Int) < 8 := by omega
  have hM8n : 8 ≤ M := by omega
  clear eL eL' hLlen hLlen' hLb hLb' hm hm' hfb hfi ex2 ex3 ey2 ey3 hx2b hx3b hy2b hy3b eM hn
  obtain ⟨⟨c0, c1, c2, c3⟩, d0, d1, d2, d3⟩ := (HKK.out _ Hb.out).1
  go_wp2_with fail
  refine (put8_any ⟨ty, cd, rs, d⟩ A n c _ L M 0 Hnum.out Hc.out (HKK.out _ Hb.out).2.1 (by unfold errP; rw [if_neg (by have := Hdl.out; have := Hn.out; simp only; omega)]) (by unfold toldM; rw [if_neg (by have := Hdl.out; have := Hn.out; simp only; omega)]; exact EL.out) HLlen.out).mono ?_
  rintro e w24 ⟨A24, c24, rfl, h24, m24, ho24, hb24⟩
  have Hb := Lib.hid (below_trans Hb.out hb24)
  have HRx := Lib.hid (ho24.rd HLb.out)
  clear c0 c1 c2 c3 d0 d1 d2 d3 hb24 ho24
  obtain ⟨⟨c0, c1, c2, c3⟩, d0, d1, d2, d3⟩ := (HKK.out _ Hb.out).1
  go_wp2_with fail
  refine (put8_any ⟨ty, cd, R, d⟩ A2 n c2' _ L' M 0 Hn2.out Hc2.out (HKK.out _ Hb.out).2.2 (by unfold errP; rw [if_neg (by have := Hdl.out; have := Hn.out; simp only; omega)]) (by unfold toldM; rw [if_neg (by have := Hdl.out; have := Hn.out; simp only; omega)]; exact EL'.out) HLlen'.out).mono ?_
  rintro e w25 ⟨A25, c25, rfl, h25, m25, ho25, hb25⟩
  have Hb := Lib.hid (below_trans Hb.out hb25)
  have HRx := Lib.hid (HRx.out.below hb25)
  have HRy := Lib.hid (ho25.rd HLb'.out)
  clear c0 c1 c2 c3 d0 d1 d2 d3 hb25 ho25
  go_wp2_with fail
  have Hb := Lib.hid Hb.out.drew
  have hdr := Below.drew (Below.refl w25.heap.size w25)
  obtain ⟨p2, hi2, hc2, hp2⟩ := (HRx.out.below hdr).index (c := c24) (j := 2) (by omega)
  obtain ⟨p3, hi3, hc3, hp3⟩ := (HRx.out.below hdr).index (c := c24) (j := 3) (by omega)
  obtain ⟨q2, hj2, hd2, hq2⟩ := (HRy.out.below hdr).index (c := c25) (j := 2) (by omega)
  obtain ⟨q3, hj3, hd3, hq3⟩ := (HRy.out.below hdr).index (c := c25) (j := 3) (by omega)
  rw [EX2.out] at hc2
  rw [EX3.out] at hc3
  rw [EY2.out] at hd2
  rw [EY3.out] at hd3
  have hi2 : ∀ W : World, (Instr.indexAt 23 (.slice A24 M c24) (.int .i64 2)).run Try.prog W = .ok (.pointer (some p2)) W := hi2
  have hi3 : ∀ W : World, (Instr.indexAt 23 (.slice A24 M c24) (.int .i64 3)).run Try.prog W = .ok (.pointer (some p3)) W := hi3
  have hj2 : ∀ W : World, (Instr.indexAt 23 (.slice A25 M c25) (.int .i64 2)).run Try.prog W = .ok (.pointer (some q2)) W := hj2
  have hj3 : ∀ W : World, (Instr.indexAt 23 (.slice A25 M c25) (.int .i64 3)).run Try.prog W = .ok (.pointer (some q3)) W := hj3
  have HS := Lib.hid (show ∀ w', Below w25.drew.heap.size w25.drew w' → w'.cell? p2 = some (.int .u8 x2) ∧ w'.cell? p3 = some (.int .u8 x3) ∧ w'.cell? q2 = some (.int .u8 y2) ∧ w'.cell? q3 = some (.int .u8 y3) from
    fun w' hb => ⟨(hb.cell hp2).trans hc2, (hb.cell hp3).trans hc3, (hb.cell hq2).trans hd2, (hb.cell hq3).trans hd3⟩)
  clear hc2 hc3 hd2 hd3 hp2 hp3 hq2 hq3 hdr HRx HRy
  refine wp_region_held_drew (S := fun w' => w'.cell? p2 = some (.int .u8 x2) ∧ w'.cell? p3 = some (.int .u8 x3) ∧ w'.cell? q2 = some (.int .u8 y2) ∧ w'.cell? q3 = some (.int .u8 y3)) (by kernel_rfl) (HS.out _ (Below.refl _ _)) (fun hHeld => ?_)
  obtain ⟨wd, ewd⟩ : ∃ wd, w25.drew = wd := ⟨_, rfl⟩
  rw [ewd] at HS Hb hHeld ⊢
  clear ewd
  refine wpAnyH_take (i := 0) (oi := { dst := some 141, op := Go.Op.move (Go.Operand.tmp 15), type := 23, pos := "outright.go:64", after := #[], guard := none }) (v := ?_) rfl (by kernel_rfl) (by kernel_rfl) (by kernel_rfl) (fun _ _ _ h => h) (Or.inl ⟨by rfl, ?_⟩) (by assumption) ?_
  rotate_left 1
  · intro w' hSw; (go_simp <;> (with_reducible rfl))
  (try simp only [Act.put, List.setIfInBounds_toArray, List.set_cons_zero, List.set_cons_succ])
  refine wpAnyH_take (i := 1) (oi := { dst := some 142, op := Go.Op.indexAddr 23 (Go.Operand.tmp 141) (Go.Operand.const (Go.Value.int Go.IntKind.i64 2)), type := 0, pos := "outright.go:64", after := #[{ on := 0, ground := Go.Ground.data }], guard := none }) (v := ?_) rfl (by kernel_rfl) (by kernel_rfl) (by kernel_rfl) (fun _ _ _ h => h) (Or.inl ⟨by rfl, ?_⟩) (by assumption) ?_
  rotate_left 1
  · intro w' hSw; (go_simp <;> (with_reducible rfl))
  (try simp only [Act.put, List.setIfInBounds_toArray, List.set_cons_zero, List.set_cons_succ])
  refine wpAnyH_take (i := 2) (oi := { dst := some 143, op := Go.Op.load 5 (Go.Operand.tmp 142), type := 5, pos := "outright.go:64", after := #[{ on := 1, ground := Go.Ground.data }], guard := none }) (v := ?_) rfl (by kernel_rfl) (by kernel_rfl) (by kernel_rfl) (fun _ _ _ h => h) (Or.inl ⟨by rfl, ?_⟩) (by assumption) ?_
  rotate_left 1
  · intro w' hSw; (go_simp <;> (with_reducible rfl))
  (try simp only [Act.put, List.setIfInBounds_toArray, List.set_cons_zero, List.set_cons_succ])
  refine wpAnyH_take (i := 3) (oi := { dst := some 144, op := Go.Op.convert 5 26 (Go.Operand.tmp 143), type := 26, pos := "outright.go:64", after := #[{ on := 2, ground := Go.Ground.data }], guard := none }) (v := ?_) rfl (by kernel_rfl) (by kernel_rfl) (by kernel_rfl) (fun _ _ _ h => h) (Or.inl ⟨by rfl, ?_⟩) (by assumption) ?_
  rotate_left 1
  · intro w' hSw; (go_simp <;> (with_reducible rfl))
  (try simp only [Act.put, List.setIfInBounds_toArray, List.set_cons_zero, List.set_cons_succ])
  refine wpAnyH_take (i := 4) (oi := { dst := some 145, op := Go.Op.binOp Go.BinOp.shl 26 (Go.Operand.tmp 144) (Go.Operand.const (Go.Value.int Go.IntKind.u64 8)) 47, type := 26, pos := "outright.go:64", after := #[{ on := 3, ground := Go.Ground.data }], guard := none }) (v := ?_) rfl (by kernel_rfl) (by kernel_rfl) (by kernel_rfl) (fun _ _ _ h => h) (Or.inl ⟨by rfl, ?_⟩) (by assumption) ?_
  rotate_left 1
  · intro w' hSw; (go_simp <;> (with_reducible rfl))
  (try simp only [Act.put, List.setIfInBounds_toArray, List.set_cons_zero, List.set_cons_succ])
  refine wpAnyH_take (i := 5) (oi := { dst := some 146, op := Go.Op.move (Go.Operand.tmp 15), type := 23, pos := "outright.go:64", after := #[], guard := none }) (v := ?_) rfl (by kernel_rfl) (by kernel_rfl) (by kernel_rfl) (fun _ _ _ h => h) (Or.inl ⟨by rfl, ?_⟩) (by assumption) ?_
  rotate_left 1
  · intro w' hSw; (go_simp <;> (with_reducible rfl))
  (try simp only [Act.put, List.setIfInBounds_toArray, List.set_cons_zero, List.set_cons_succ])
  refine wpAnyH_take (i := 6) (oi := { dst := some 147, op := Go.Op.indexAddr 23 (Go.Operand.tmp 146) (Go.Operand.const (Go.Value.int Go.IntKind.i64 3)), type := 0, pos := "outright.go:64", after := #[{ on := 5, ground := Go.Ground.data }], guard := none }) (v := ?_) rfl (by kernel_rfl) (by kernel_rfl) (by kernel_rfl) (fun _ _ _ h => h) (Or.inl ⟨by rfl, ?_⟩) (by assumption) ?_
  rotate_left 1
  · intro w' hSw; (go_simp <;> (with_reducible rfl))
  (try simp only [Act.put, List.setIfInBounds_toArray, List.set_cons_zero, List.set_cons_succ])
  refine wpAnyH_take (i := 7) (oi := { dst := some 148, op := Go.Op.load 5 (Go.Operand.tmp 147), type := 5, pos := "outright.go:64", after := #[{ on := 6, ground := Go.Ground.data }], guard := none }) (v := ?_) rfl (by kernel_rfl) (by kernel_rfl) (by kernel_rfl) (fun _ _ _ h => h) (Or.inl ⟨by rfl, ?_⟩) (by assumption) ?_
  rotate_left 1
  · intro w' hSw; (go_simp <;> (with_reducible rfl))
  (try simp only [Act.put, List.setIfInBounds_toArray, List.set_cons_zero, List.set_cons_succ])
  refine wpAnyH_take (i := 8) (oi := { dst := some 149, op := Go.Op.convert 5 26 (Go.Operand.tmp 148), type := 26, pos := "outright.go:64", after := #[{ on := 7, ground := Go.Ground.data }], guard := none }) (v := ?_) rfl (by kernel_rfl) (by kernel_rfl) (by kernel_rfl) (fun _ _ _ h => h) (Or.inl ⟨by rfl, ?_⟩) (by assumption) ?_
  rotate_left 1
  · intro w' hSw; (go_simp <;> (with_reducible rfl))
  (try simp only [Act.put, List.setIfInBounds_toArray, List.set_cons_zero, List.set_cons_succ])
  refine wpAnyH_take (i := 9) (oi := { dst := some 150, op := Go.Op.binOp Go.BinOp.or 26 (Go.Operand.tmp 145) (Go.Operand.tmp 149) 26, type := 26, pos := "outright.go:64", after := #[{ on := 4, ground := Go.Ground.data }, { on := 8, ground := Go.Ground.data }], guard := none }) (v := ?_) rfl (by kernel_rfl) (by kernel_rfl) (by kernel_rfl) (fun _ _ _ h => h) (Or.inl ⟨by rfl, ?_⟩) (by assumption) ?_
  rotate_left 1
  · intro w' hSw; (go_simp <;> (with_reducible rfl))
  (try simp only [Act.put, List.setIfInBounds_toArray, List.set_cons_zero, List.set_cons_succ])
  refine wpAnyH_take (i := 10) (oi := { dst := some 151, op := Go.Op.move (Go.Operand.tmp 7), type := 26, pos := "outright.go:64", after := #[], guard := none }) (v := ?_) rfl (by kernel_rfl) (by kernel_rfl) (by kernel_rfl) (fun _ _ _ h => h) (Or.inl ⟨by rfl, ?_⟩) (by assumption) ?_
  rotate_left 1
  · intro w' hSw; (go_simp <;> (with_reducible rfl))
  (try simp only [Act.put, List.setIfInBounds_toArray, List.set_cons_zero, List.set_cons_succ])
  refine wpAnyH_take (i := 11) (oi := { dst := some 152, op := Go.Op.move (Go.Operand.tmp 1), type := 26, pos := "outright.go:64", after := #[], guard := none }) (v := ?_) rfl (by kernel_rfl) (by kernel_rfl) (by kernel_rfl) (fun _ _ _ h => h) (Or.inl ⟨by rfl, ?_⟩) (by assumption) ?_
  rotate_left 1
  · intro w' hSw; (go_simp <;> (with_reducible rfl))
  (try simp only [Act.put, List.setIfInBounds_toArray, List.set_cons_zero, List.set_cons_succ])
  refine wpAnyH_take (i := 13) (oi := { dst := some 154, op := Go.Op.move (Go.Operand.tmp 17), type := 23, pos := "outright.go:64", after := #[], guard := none }) (v := ?_) rfl (by kernel_rfl) (by kernel_rfl) (by kernel_rfl) (fun _ _ _ h => h) (Or.inl ⟨by rfl, ?_⟩) (by assumption) ?_
  rotate_left 1
  · intro w' hSw; (go_simp <;> (with_reducible rfl))
  (try simp only [Act.put, List.setIfInBounds_toArray, List.set_cons_zero, List.set_cons_succ])
  refine wpAnyH_take (i := 14) (oi := { dst := some 155, op := Go.Op.indexAddr 23 (Go.Operand.tmp 154) (Go.Operand.const (Go.Value.int Go.IntKind.i64 2)), type := 0, pos := "outright.go:64", after := #[{ on := 13, ground := Go.Ground.data }], guard := none }) (v := ?_) rfl (by kernel_rfl) (by kernel_rfl) (by kernel_rfl) (fun _ _ _ h => h) (Or.inl ⟨by rfl, ?_⟩) (by assumption) ?_
  rotate_left 1
  · intro w' hSw; (go_simp <;> (with_reducible rfl))
  (try simp only [Act.put, List.setIfInBounds_toArray, List.set_cons_zero, List.set_cons_succ])
  refine wpAnyH_take (i := 15) (oi := { dst := some 156, op := Go.Op.load 5 (Go.Operand.tmp 155), type := 5, pos := "outright.go:64", after := #[{ on := 14, ground := Go.Ground.data }], guard := none }) (v := ?_) rfl (by kernel_rfl) (by kernel_rfl) (by kernel_rfl) (fun _ _ _ h => h) (Or.inl ⟨by rfl, ?_⟩) (by assumption) ?_
  rotate_left 1
  · intro w' hSw; (go_simp <;> (with_reducible rfl))
  (try simp only [Act.put, List.setIfInBounds_toArray, List.set_cons_zero, List.set_cons_succ])
  refine wpAnyH_take (i := 16) (oi := { dst := some 157, op := Go.Op.convert 5 26 (Go.Operand.tmp 156), type := 26, pos := "outright.go:64", after := #[{ on := 15, ground := Go.Ground.data }], guard := none }) (v := ?_) rfl (by kernel_rfl) (by kernel_rfl) (by kernel_rfl) (fun _ _ _ h => h) (Or.inl ⟨by rfl, ?_⟩) (by assumption) ?_
  rotate_left 1
  · intro w' hSw; (go_simp <;> (with_reducible rfl))
  (try simp only [Act.put, List.setIfInBounds_toArray, List.set_cons_zero, List.set_cons_succ])
  refine wpAnyH_take (i := 17) (oi := { dst := some 158, op := Go.Op.binOp Go.BinOp.shl 26 (Go.Operand.tmp 157) (Go.Operand.const (Go.Value.int Go.IntKind.u64 8)) 47, type := 26, pos := "outright.go:64", after := #[{ on := 16, ground := Go.Ground.data }], guard := none }) (v := ?_) rfl (by kernel_rfl) (by kernel_rfl) (by kernel_rfl) (fun _ _ _ h => h) (Or.inl ⟨by rfl, ?_⟩) (by assumption) ?_
  rotate_left 1
  · intro w' hSw; (go_simp <;> (with_reducible rfl))
  (try simp only [Act.put, List.setIfInBounds_toArray, List.set_cons_zero, List.set_cons_succ])
  refine wpAnyH_take (i := 18) (oi := { dst := some 159, op := Go.Op.move (Go.Operand.tmp 17), type := 23, pos := "outright.go:64", after := #[], guard := none }) (v := ?_) rfl (by kernel_rfl) (by kernel_rfl) (by kernel_rfl) (fun _ _ _ h => h) (Or.inl ⟨by rfl, ?_⟩) (by assumption) ?_
  rotate_left 1
  · intro w' hSw; (go_simp <;> (with_reducible rfl))
  (try simp only [Act.put, List.setIfInBounds_toArray, List.set_cons_zero, List.set_cons_succ])
  refine wpAnyH_take (i := 19) (oi := { dst := some 160, op := Go.Op.indexAddr 23 (Go.Operand.tmp 159) (Go.Operand.const (Go.Value.int Go.IntKind.i64 3)), type := 0, pos := "outright.go:64", after := #[{ on := 18, ground := Go.Ground.data }], guard := none }) (v := ?_) rfl (by kernel_rfl) (by kernel_rfl) (by kernel_rfl) (fun _ _ _ h => h) (Or.inl ⟨by rfl, ?_⟩) (by assumption) ?_
  rotate_left 1
  · intro w' hSw; (go_simp <;> (with_reducible rfl))
  (try simp only [Act.put, List.setIfInBounds_toArray, List.set_cons_zero, List.set_cons_succ])
  refine wpAnyH_take (i := 20) (oi := { dst := some 161, op := Go.Op.load 5 (Go.Operand.tmp 160), type := 5, pos := "outright.go:64", after := #[{ on := 19, ground := Go.Ground.data }], guard := none }) (v := ?_) rfl (by kernel_rfl) (by kernel_rfl) (by kernel_rfl) (fun _ _ _ h => h) (Or.inl ⟨by rfl, ?_⟩) (by assumption) ?_
  rotate_left 1
  · intro w' hSw; (go_simp <;> (with_reducible rfl))
  (try simp only [Act.put, List.setIfInBounds_toArray, List.set_cons_zero, List.set_cons_succ])
  refine wpAnyH_take (i := 21) (oi := { dst := some 162, op := Go.Op.convert 5 26 (Go.Operand.tmp 161), type := 26, pos := "outright.go:64", after := #[{ on := 20, ground := Go.Ground.data }], guard := none }) (v := ?_) rfl (by kernel_rfl) (by kernel_rfl) (by kernel_rfl) (fun _ _ _ h => h) (Or.inl ⟨by rfl, ?_⟩) (by assumption) ?_
  rotate_left 1
  · intro w' hSw; (go_simp <;> (with_reducible rfl))
  (try simp only [Act.put, List.setIfInBounds_toArray, List.set_cons_zero, List.set_cons_succ])
  refine wpAnyH_take (i := 22) (oi := { dst := some 163, op := Go.Op.binOp Go.BinOp.or 26 (Go.Operand.tmp 158) (Go.Operand.tmp 162) 26, type := 26, pos := "outright.go:64", after := #[{ on := 17, ground := Go.Ground.data }, { on := 21, ground := Go.Ground.data }], guard := none }) (v := ?_) rfl (by kernel_rfl) (by kernel_rfl) (by kernel_rfl) (fun _ _ _ h => h) (Or.inl ⟨by rfl, ?_⟩) (by assumption) ?_
  rotate_left 1
  · intro w' hSw; (go_simp <;> (with_reducible rfl))
  (try simp only [Act.put, List.setIfInBounds_toArray, List.set_cons_zero, List.set_cons_succ])
  refine wpAnyH_ready (rs := [12]) (by kernel_rfl) (by simp) ?_
  refine AllReadyH.cons (o := { dst := some 153, op := Go.Op.call { callee := Go.Callee.value (Go.Operand.func 24), args := #[Go.Operand.tmp 150, Go.Operand.tmp 151, Go.Operand.tmp 152], argTypes := #[26, 26, 26] }, type := 26, pos := "outright.go:64", after := #[{ on := 9, ground := Go.Ground.data }, { on := 10, ground := Go.Ground.data }, { on := 11, ground := Go.Ground.data }], guard := none }) rfl (fun K hK => ?_) AllReadyH.nil
  go_simp
  (refine (word_told (x2 * 256 + x3) (rs / 65536) id _ _ (by have := Hfb.out; unfold U16; omega) (by have := Hw16.out; unfold U16; omega) (by have := Hid.out; unfold U16; omega) rfl).mono ?_; rintro e w' ⟨rfl, rfl⟩)
  refine hK.out _ _ ?_ (fun hHeld => ?_)
  · exact HS.out _ (Below.refl _ _)
  clear hK K
  (try simp only [Act.put, List.setIfInBounds_toArray, List.set_cons_zero, List.set_cons_succ])
  refine wpAnyH_ready (rs := [23]) (by kernel_rfl) (by simp) ?_
  refine AllReadyH.cons (o := { dst := some 164, op := Go.Op.call { callee := Go.Callee.value (Go.Operand.func 23), args := #[Go.Operand.tmp 153, Go.Operand.tmp 163], argTypes := #[26, 26] }, type := 4, pos := "outright.go:64", after := #[{ on := 12, ground := Go.Ground.data }, { on := 22, ground := Go.Ground.data }, { on := 12, ground := Go.Ground.chain }], guard := none }) rfl (fun K hK => ?_) AllReadyH.nil
  go_simp
  (refine (like_any _ _ _).mono ?_; rw [Hfi.out]; rintro e w' ⟨rfl, rfl⟩)
  refine hK.out _ _ ?_ (fun hHeld => ?_)
  · exact HS.out _ (Below.refl _ _)
  clear hK K
  (try simp only [Act.put, List.setIfInBounds_toArray, List.set_cons_zero, List.set_cons_succ])
  refine wpAnyH_take (i := 24) (oi := { dst := some 165, op := Go.Op.move (Go.Operand.tmp 164), type := 4, pos := "outright.go:64", after := #[{ on := 23, ground := Go.Ground.data }, { on := 23, ground := Go.Ground.chain }], guard := none }) (v := ?_) rfl (by kernel_rfl) (by kernel_rfl) (by kernel_rfl) (fun _ _ _ h => h) (Or.inl ⟨by rfl, ?_⟩) (by assumption) ?_
  rotate_left 1
  · intro w' hSw; (go_simp <;> (with_reducible rfl))
  (try simp only [Act.put, List.setIfInBounds_toArray, List.set_cons_zero, List.set_cons_succ])
  refine wpAnyH_ready (rs := [25]) (by kernel_rfl) (by simp) ?_
  refine AllReadyH.cons (o := { dst := some 166, op := Go.Op.call { callee := Go.Callee.value (Go.Operand.func 21), args := #[], argTypes := #[] }, type := 4, pos := "outright.go:64", after := #[{ on := 24, ground := Go.Ground.chain }, { on := 24, ground := Go.Ground.guard }], guard := some (24, true) }) rfl (fun K hK => ?_) AllReadyH.nil
  go_simp
  (refine (wakes_any _).mono ?_; rintro e w10 ⟨rfl, hb10⟩; have Hb10 := Lib.hid hb10; clear hb10)
  refine hK.out _ _ ?_ (fun hHeld => ?_)
  · exact HS.out _ Hb10.out
  clear hK K
  (try simp only [Act.put, List.setIfInBounds_toArray, List.set_cons_zero, List.set_cons_succ])
  refine wpAnyH_take (i := 26) (oi := { dst := some 167, op := Go.Op.pick (Go.Operand.tmp 165) (Go.Operand.tmp 166) (Go.Operand.const (Go.Value.bool false)), type := 4, pos := "outright.go:64", after := #[{ on := 24, ground := Go.Ground.data }, { on := 25, ground := Go.Ground.data }], guard := none }) (v := ?_) rfl (by kernel_rfl) (by kernel_rfl) (by kernel_rfl) (fun _ _ _ h => h) (Or.inl ⟨by rfl, ?_⟩) (by assumption) ?_
  rotate_left 1
  · intro w' hSw; (go_simp <;> (with_reducible rfl))
  (try simp only [Act.put, List.setIfInBounds_toArray, List.set_cons_zero, List.set_cons_succ])
  refine wpAnyH_take (i := 27) (oi := { dst := some 6, op := Go.Op.assign (Go.Operand.tmp 167), type := 4, pos := "outright.go:64", after := #[{ on := 26, ground := Go.Ground.data }, { on := 25, ground := Go.Ground.chain }, { on := 0, ground := Go.Ground.phase }, { on := 1, ground := Go.Ground.phase }, { on := 2, ground := Go.Ground.phase }, { on := 3, ground := Go.Ground.phase }, { on := 4, ground := Go.Ground.phase }, { on := 5, ground := Go.Ground.phase }, { on := 6, ground := Go.Ground.phase }, { on := 7, ground := Go.Ground.phase }, { on := 8, ground := Go.Ground.phase }, { on := 9, ground := Go.Ground.phase }, { on := 10, ground := Go.Ground.phase }, { on := 11, ground := Go.Ground.phase }, { on := 12, ground := Go.Ground.phase }, { on := 13, ground := Go.Ground.phase }, { on := 14, ground := Go.Ground.phase }, { on := 15, ground := Go.Ground.phase }, { on := 16, ground := Go.Ground.phase }, { on := 17, ground := Go.Ground.phase }, { on := 18, ground := Go.Ground.phase }, { on := 19, ground := Go.Ground.phase }, { on := 20, ground := Go.Ground.phase }, { on := 21, ground := Go.Ground.phase }, { on := 22, ground := Go.Ground.phase }, { on := 23, ground := Go.Ground.phase }, { on := 24, ground := Go.Ground.phase }, { on := 25, ground := Go.Ground.phase }, { on := 26, ground := Go.Ground.phase }], guard := none }) (v := ?_) rfl (by kernel_rfl) (by kernel_rfl) (by kernel_rfl) (fun _ _ _ h => h) (Or.inl ⟨by rfl, ?_⟩) (by assumption) ?_
  rotate_left 1
  · intro w' hSw; (go_simp <;> (with_reducible rfl))
  (try simp only [Act.put, List.setIfInBounds_toArray, List.set_cons_zero, List.set_cons_succ])
  refine wpAnyH_done (by kernel_rfl) ?_ _
  have Hbb := Lib.hid (below_trans HbW.out (below_trans Hb0.out (below_trans Hb.out Hb10.out)))
  clear hHeld HS
  go_wp2_with fail
  go_ret
  exact ⟨rfl, Hbb.out⟩
theorem own : ownKnob Try.prog.godebug = none := by kernel_rfl
theorem laidOut : laidOutB Try.prog = true := by kernel_rfl

set_option maxRecDepth 100000 in
theorem lifted (os : Os) (started : os.Started) (H : Type) (enc : TypeId × Value → H) :
    ReturnsInHanded {} Try.checked os 5 .any (Rows.icmpIdsSpec.pre6 enc Try.prog Try.f5 Rows.icmpIdsRow.domain false) (Rows.icmpIdsSpec.post enc Try.prog Try.f5 false true false false) := by
  refine returnsInHanded_of_change_sized (C := Try.checked) own started (by kernel_rfl) Try.func5
    (ChangeSpec.witness6 (enc := enc) (C := Try.checked) false ⟨#[], #[(.agg #[.int .u8 0, .int .u8 0, .int .u32 0, .slice none 0 0]), .int .u16 0, .int .u16 0], []⟩ 8 (by kernel_rfl) (by kernel_rfl) (by kernel_rfl) (by kernel_rfl)) ?_
  intro W base args ds gs before hval0 hW hcnd hsz0 _
  have hsz : (DataW.weightsEach Try.prog (Try.f5.params.toList ++ Rows.icmpIdsSpec.plain.varTypes Try.prog) (ds ++ gs)).all (· ≤ reachBytes) = true := hsz0
  have hval : ∀ (j : Nat) t v, Try.f5.params[j]? = some t → args[j]? = some v → Value.okWide Try.prog W .any base t v := hval0
  have hW' := hW
  obtain ⟨p, q, hA0, hV, rfl, hfz, hnd⟩ := hW
  have hA : DataW.TrodAll enc Try.prog W 0 (fun _ => true) true Try.f5.params.toList args.toList ds p := hA0
  rw [Try.params5] at hA hval hsz
  obtain ⟨v0, vs0, d0, ds0, p0, q0, hargs, rfl, rfl, h0, r0⟩ := trodAll_cons hA
  obtain ⟨v1, vs1, d1, ds1, p1, q1, rfl, rfl, rfl, h1, r1⟩ := trodAll_cons r0
  obtain ⟨v2, vs2, d2, ds2, p2, q2, rfl, rfl, rfl, h2, r2⟩ := trodAll_cons r1
  obtain ⟨rfl, rfl, rfl⟩ := trodAll_nil r2
  obtain rfl : args = #[v0, v1, v2] := by cases args; simp_all
  obtain ⟨rfl, rfl⟩ := trodVars_none hV
  have k0 := msg_sized (hval 0 25 v0 rfl rfl) h0 (fun k hk => by have := List.all_eq_true.1 hsz k (DataW.weights_mem_each (j := 0) (t := 25) rfl rfl k hk); simpa using this)
  have lt0 : ∀ x ∈ p0, x.block < W.heap.size := by obtain ⟨m, hm⟩ := h0; exact DataW.trod_lt m _ _ _ hm
  obtain ⟨a1, rfl, rfl, rfl, w1⟩ := open_int Try.underlying26 (hval 1 26 v1 rfl rfl) h1
  obtain ⟨a2, rfl, rfl, rfl, w2⟩ := open_int Try.underlying26 (hval 2 26 v2 rfl rfl) h2
  clear hA0 hval0
  refine (walk W v0 k0 a1 w1 a2 w2).mono fun e W' ⟨he, bel⟩ => ?_
  subst he
  exact ⟨_, rfl, _, _, _, [], _, [], hW', trodAll_mk1 (shut_bool Try.underlying4 _), (trodAll_cons_mk (Below.trod laidOut (by kernel_rfl) (of_decide_eq_true (by kernel_rfl)) h0 bel lt0) (trodAll_cons_mk (shut_int Try.underlying26 w1) (trodAll_cons_mk (shut_int Try.underlying26 w2) trodAll_mk0))), rfl, bel.frame _, fun h => by cases h⟩

theorem over : Rows.icmpIdsRow.holds Try.pinned (OpenSpec.ofChange Rows.icmpIdsSpec) :=
  OpenClaim.holds_of_wide 5 Try.f5 rfl rfl rfl rfl rfl rfl rfl ⟨rfl, rfl, rfl, rfl, rfl⟩ rfl rfl rfl rfl rfl (by kernel_rfl) Try.func5 (by kernel_rfl)
    (of_decide_eq_true (by kernel_rfl)) (by unfold Func.isWrapper; first | (rw [if_pos (by decide +kernel)]; kernel_rfl) | (rw [if_neg (by decide +kernel)]; exact ⟨rfl, rfl⟩))
    (fun os started H enc _ => lifted os started H enc)

/-- The statement. -/
theorem proved : Rows.IcmpIdsSaid := over
#print axioms proved
end Go.Proofs.Ytcdflpfgjodeaaa.icmpIds
