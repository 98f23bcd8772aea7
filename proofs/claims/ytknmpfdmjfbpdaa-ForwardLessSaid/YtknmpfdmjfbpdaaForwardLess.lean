/-
  ForwardLess holds: a list of forwards with one taken away, or in another order, may be, if it might be, and finds the others as before; with one twice it may not be.
-/
import Derived.Test.YtknmpfdmjfbpdaaFwLessP
import Derived.Test.YtknmpfdmjfbpdaaFwWakes
import Derived.Test.YtknmpfdmjfbpdaaFwOpen
import Derived.RegionTactic
import Derived.Deep.DeepCutAuto
import Derived.Deep.CutRange
import Derived.BigRegion
namespace Go.Proofs.Ytknmpfdmjfbpdaa.forwardLess
set_option maxRecDepth 10000
open Go.ChangeShapes Go.WideShapes Go.ChangeAt Go.RowKit
set_option linter.unusedVariables false
set_option linter.unusedSimpArgs false

theorem two_app (w : World) (X Y : FWL) (A3 A4 : Option Addr) (a b c3 c4 : Nat) (hX : RdW w A3 X) (hY : RdW w A4 Y) (ha : X.length = a) (hb : Y.length = b) (n3 : A3 = none → c3 = 0) (n4 : A4 = none → c4 = 0) (hs : a + b ≤ 1000000) :
    ∃ B1 d1 u1 B2 d2 u2, (Builtin.append_ #[27, 27] 27 #[.slice none 0 0, .slice A3 a c3]).run Try.prog w = .ok (.slice B1 a d1) u1 ∧
      (Builtin.append_ #[27, 27] 27 #[.slice B1 a d1, .slice A4 b c4]).run Try.prog u1 = .ok (.slice B2 (a + b) d2) u2 ∧
      SlV u2 40 4 (.slice B2 (a + b) d2) (a + b) (flatW4 (X ++ Y)) ∧ (∀ k, (Value.slice B2 (a + b) d2).ownBlock = some k → w.heap.size ≤ k) ∧ Below w.heap.size w u1 ∧ Below w.heap.size w u2 := by
  obtain ⟨B1, d1, u1, h1, h2, h3, h4⟩ := fw_app w none 0 0 [] (.inl ⟨rfl, rfl, rfl⟩) A3 a c3 X hX ha n3 (by omega)
  rw [Nat.zero_add] at h1 h2 h4
  rw [List.nil_append] at h2
  have bl1 : Below w.heap.size w u1 := h3.below (fun k hk => by cases hk) (Nat.le_refl _)
  have own1 : ∀ k, (Value.slice B1 a d1).ownBlock = some k → w.heap.size ≤ k := by
    intro k hk
    rcases h4 with e | e
    · rw [e] at hk; cases hk
    · rw [e] at hk; injection hk with hk; omega
  obtain ⟨B2, d2, u2, g1, g2, g3, g4⟩ := fw_app u1 B1 a d1 X h2 A4 b c4 Y (hY.below bl1) hb n4 hs
  refine ⟨B1, d1, u1, B2, d2, u2, h1, g1, g2, fun k hk => ?_, bl1, bl1.trans (g3.below own1 bl1.size)⟩
  rcases g4 with e | e
  · rw [e] at hk; exact own1 k hk
  · rw [e] at hk; injection hk with hk; have := bl1.size; omega
theorem step_appG {P : Program} {ops : Array Oper} {o : Oper} {a : Act} {w : World} {K : Act → World → Prop} {Q : Exit → Act → World → Prop} {E : Prop} (hw : Region.wanted o (yielded ops a.tmps) = true) (s x : Operand) (t ty : TypeId)
    (ho : o.op = .call { callee := .builtin .append, args := #[s, x], argTypes := #[t, t] }) (hty : o.type = ty) (v v2 v' : Value) (w' : World) (hs : a.eval s = v) (hx : a.eval x = v2)
    (hrun : (Builtin.append_ #[t, t] ty #[v, v2]).run P w = .ok v' w') (hk : K (a.put o.dst v') w') : if Region.wanted o (yielded ops a.tmps) = true then Oper.wp P o a w K Q else E := by
  rw [if_pos hw]
  subst hty
  unfold Oper.wp execOp
  simp only [ho, resolve, invoke, builtin, Sem.run_bind, Sem.run_pure, Result.andThen_ok, List.map_toArray, List.map_cons, List.map_nil, hs, hx, hrun]
  exact hk
theorem lit_appA (w : World) (M : FWL) (A2 : Option Addr) (m c2 : Nat) (h : RdW w A2 M) (hm : M.length = m) (hnil : A2 = none → c2 = 0) (f : Fw) (hs : m ≤ 1000) :
    ∃ B5 d5 uA B6 d6 u6, (Builtin.append_ #[27, 27] 27 #[.slice none 0 0, .slice A2 m c2]).run Try.prog w = .ok (.slice B5 m d5) uA ∧
      (Builtin.append_ #[27, 27] 27 #[.slice B5 m d5, .slice (some ⟨uA.heap.size, 0, none⟩) 1 1]).run Try.prog (uA.alloc (.cells #[.int .u8 f.pr, .int .u16 f.po, .int .u32 f.ad, .int .u16 f.tp] 40)) = .ok (.slice B6 (m + 1) d6) u6 ∧
      RdW u6 B6 (M ++ [f]) ∧ Below w.heap.size w uA ∧ Below w.heap.size w u6 := by
  obtain ⟨B5, d5, uA, h1, h2, h3, h4⟩ := fw_app w none 0 0 [] (.inl ⟨rfl, rfl, rfl⟩) A2 m c2 M h hm hnil (by omega)
  rw [Nat.zero_add] at h1 h2 h4
  rw [List.nil_append] at h2
  have bl1 : Below w.heap.size w uA := h3.below (fun k hk => by cases hk) (Nat.le_refl _)
  have own1 : ∀ k, (Value.slice B5 m d5).ownBlock = some k → w.heap.size ≤ k := by
    intro k hk
    rcases h4 with e | e
    · rw [e] at hk; cases hk
    · rw [e] at hk; injection hk with hk; omega
  have ba : But (fun _ => False) uA (uA.alloc (.cells #[.int .u8 f.pr, .int .u16 f.po, .int .u32 f.ad, .int .u16 f.tp] 40)) := (But.refl _ _).alloc _
  obtain ⟨B6, d6, u6, g1, g2, g3, g4⟩ := fw_app (uA.alloc (.cells #[.int .u8 f.pr, .int .u16 f.po, .int .u32 f.ad, .int .u16 f.tp] 40)) B5 m d5 M (h2.but ba (fun _ _ x => x)) (some ⟨uA.heap.size, 0, none⟩) 1 1 [f] (RdW.lit uA [f] _ rfl) rfl (fun e => by cases e) (by omega)
  exact ⟨B5, d5, uA, B6, d6, u6, h1, g1, RdW.of g2 (by simp [hm]), bl1, (bl1.trans (ba.below (fun _ h => h.elim) bl1.size)).trans (g3.below own1 (by have := bl1.size; have := ba.size; omega))⟩
theorem lit_appB (w : World) (M : FWL) (A2 : Option Addr) (m c2 : Nat) (h : RdW w A2 M) (hm : M.length = m) (hnil : A2 = none → c2 = 0) (f : Fw) (hs : m ≤ 1000) :
    ∃ B5 d5 uA B6 d6 u6, (Builtin.append_ #[27, 27] 27 #[.slice none 0 0, .slice A2 m c2]).run Try.prog (w.alloc (.cells #[.int .u8 f.pr, .int .u16 f.po, .int .u32 f.ad, .int .u16 f.tp] 40)) = .ok (.slice B5 m d5) uA ∧
      (Builtin.append_ #[27, 27] 27 #[.slice B5 m d5, .slice (some ⟨w.heap.size, 0, none⟩) 1 1]).run Try.prog uA = .ok (.slice B6 (m + 1) d6) u6 ∧
      RdW u6 B6 (M ++ [f]) ∧ Below w.heap.size w (w.alloc (.cells #[.int .u8 f.pr, .int .u16 f.po, .int .u32 f.ad, .int .u16 f.tp] 40)) ∧ Below w.heap.size w uA ∧ Below w.heap.size w u6 := by
  have ba : Below w.heap.size w (w.alloc (.cells #[.int .u8 f.pr, .int .u16 f.po, .int .u32 f.ad, .int .u16 f.tp] 40)) := (Below.refl _ _).alloc (Nat.le_refl _) _
  obtain ⟨B5, d5, uA, h1, h2, h3, h4⟩ := fw_app (w.alloc (.cells #[.int .u8 f.pr, .int .u16 f.po, .int .u32 f.ad, .int .u16 f.tp] 40)) none 0 0 [] (.inl ⟨rfl, rfl, rfl⟩) A2 m c2 M (h.below ba) hm hnil (by omega)
  rw [Nat.zero_add] at h1 h2 h4
  rw [List.nil_append] at h2
  have bl1 : Below (w.alloc (.cells #[.int .u8 f.pr, .int .u16 f.po, .int .u32 f.ad, .int .u16 f.tp] 40)).heap.size (w.alloc (.cells #[.int .u8 f.pr, .int .u16 f.po, .int .u32 f.ad, .int .u16 f.tp] 40)) uA := h3.below (fun k hk => by cases hk) (Nat.le_refl _)
  have own1 : ∀ k, (Value.slice B5 m d5).ownBlock = some k → w.heap.size ≤ k := by
    intro k hk
    rcases h4 with e | e
    · rw [e] at hk; cases hk
    · rw [e] at hk; injection hk with hk; have := ba.size; omega
  obtain ⟨B6, d6, u6, g1, g2, g3, g4⟩ := fw_app uA B5 m d5 M h2 (some ⟨w.heap.size, 0, none⟩) 1 1 [f] ((RdW.lit w [f] _ rfl).below bl1) rfl (fun e => by cases e) (by omega)
  have blA := below_trans ba bl1
  exact ⟨B5, d5, uA, B6, d6, u6, h1, g1, RdW.of g2 (by simp [hm]), ba, blA, blA.trans (g3.below own1 blA.size)⟩
theorem below_setRow {B q : Nat} {w0 w : World} (h : Below B w0 w) (hq : B ≤ q) (cs : Array Value) : Below B w0 (w.setRow q cs) :=
  ⟨h.os, h.tape, h.output, by have := h.size; unfold World.setRow; simpa using this, fun k hk => by
    have := h.block k hk
    unfold World.setRow
    rw [Array.getElem?_modify, if_neg (by omega)]
    exact this⟩
theorem belowQ {B : Nat} {a w : World} (h : Below B a w) (m : Nat) : Below B a (w.drewN m) := ⟨h.os, h.tape, h.output, h.size, h.block⟩
set_option maxHeartbeats 2000000 in
theorem walk (w : World) (v0 : Value) (k0 : CfgAt w v0) (v1 : Value) (k1 : FwsAt w v1) (a : Int) (wa : (Lit.int .u8 a).wf = true) :
    Calls Try.prog 5 #[v0, v1, .int .u8 a] w (fun e w' => e = .returned (.bool true) ∧ Below w.heap.size w w') := by
  obtain ⟨k, rfl⟩ := k0
  obtain ⟨A, n, c, L, rfl, hnc, hcm, hn, hr, hnil⟩ := k1
  have ha := bounds_u8 wa
  obtain ⟨m, hmin, hmin2, hmn, hm60⟩ : ∃ m : Nat, (if (60 : Int) < (n : Int) then (60 : Int) else (n : Int)) = (m : Int) ∧ min (n : Int) 60 = (m : Int) ∧ m ≤ n ∧ m ≤ 60 := by
    by_cases h : 60 < n
    · exact ⟨60, by rw [if_pos (by omega)]; rfl, by omega, by omega, by omega⟩
    · exact ⟨n, by rw [if_neg (by omega)], by omega, by omega, by omega⟩
  obtain ⟨A2, c2, hcut, hnil2, hmc2, hrd⟩ := rw_to A n c m hnil hmn hnc
  obtain ⟨M, eM⟩ : ∃ M, L.take m = M := ⟨_, rfl⟩
  have hM : M.length = m := by rw [← eM, List.length_take]; omega
  have hr2 := hrd w L hr
  rw [eM] at hr2
  obtain ⟨w0, ew⟩ : ∃ w0, w.alloc (.cells #[.int .u32 k.ins, .int .u32 k.msk, k.v2, .int .u16 k.lo, .int .u16 k.hi, k.v5, k.v6, k.v7, k.v8, k.v9, k.va, k.vb, k.vc, k.vd, k.ve, k.vf, k.vg, k.vh, k.vi] 29) = w0 := ⟨_, rfl⟩
  obtain ⟨z, hz⟩ : ∃ z, w.heap.size = z := ⟨_, rfl⟩
  have hb0 : Below w.heap.size w w0 := by rw [← ew]; exact (Below.refl _ _).alloc (Nat.le_refl _) _
  have hk0 : w0.heap[z]? = some (.cells #[.int .u32 k.ins, .int .u32 k.msk, k.v2, .int .u16 k.lo, .int .u16 k.hi, k.v5, k.v6, k.v7, k.v8, k.v9, k.va, k.vb, k.vc, k.vd, k.ve, k.vf, k.vg, k.vh, k.vi] 29 (0, 0)) := by rw [← ew, ← hz]; exact heap_alloc_new w _
  have hr0 := hr2.below hb0
  have HX := Lib.hid (show ∀ W, Below w0.heap.size w0 W → W.heap[z]? = some (.cells #[.int .u32 k.ins, .int .u32 k.msk, k.v2, .int .u16 k.lo, .int .u16 k.hi, k.v5, k.v6, k.v7, k.v8, k.v9, k.va, k.vb, k.vc, k.vd, k.ve, k.vf, k.vg, k.vh, k.vi] 29 (0, 0)) ∧ RdW W A2 M from fun W hW => ⟨blk_on hk0 hW, hr0.below hW⟩)
  have HM := Lib.hid hM
  have Hm60 := Lib.hid hm60
  have Hnil2 := Lib.hid hnil2
  have Hmc2 := Lib.hid hmc2
  have Hb0 := Lib.hid hb0
  have Ew := Lib.hid ew
  have Hz := Lib.hid hz
  have Ha := Lib.hid ha
  clear hr hr2 hr0 hrd hnil hnil2 hmc2 hnc hcm hn eM hM hb0 hk0 ew hz hmn hm60 ha wa
  go_enter Try.func5, Try.ntmps5
  go_upto_region 1 with (fail)
  rw [Ew.out]
  try rw [Hz.out]
  go_upto_region 2 with (fail)
  try simp only []
  repeat (first | go_values | go_skip | ((fail_if_success (with_reducible refine wpList_row 29 (.tmp 3) rfl ?_ ?_ ?_ ?_ ?_ ?_ ?_ ?_ ?_ ?_ ?_ ?_)); (first | go_step | go_upon | go_back)))
  refine wpList_row 29 (.tmp 3) rfl ?hww z _ _ _ _ (HX.out _ (Below.refl _ _)).1 rfl Try.underlying29 rfl (by kernel_rfl) ?_
  case hww => kernel_rfl
  (try simp only [Act.put, List.setIfInBounds_toArray, List.set_cons_zero, List.set_cons_succ])
  go_wp2_with fail
  by_cases hmay : FwMay (okF k) M
  · refine (may_any k A2 m c2 M true w0 (HX.out _ (Below.refl _ _)).2 HM.out (by have := Hm60.out; omega) ⟨fun _ => hmay, fun _ => rfl⟩).mono ?_
    rintro e w1 ⟨rfl, hb1⟩
    have HB1 := Lib.hid hb1
    have HMay := Lib.hid hmay
    clear hb1 hmay
    by_cases hm0 : m = 0
    · have g0 : ((m : Int) == 0) = true := by simp [hm0]
      clear hm0
      go_wp2_with fail
      refine (wakes14_any _).mono ?_
      rintro e w2 ⟨rfl, hb2⟩
      have HB2 := Lib.hid (below_trans (below_trans Hb0.out HB1.out) hb2)
      clear hb2
      go_wp2_with fail
      go_ret
      exact ⟨rfl, HB2.out⟩
    · have g0 : ((m : Int) == 0) = false := by simpa using hm0
      have g1 : ¬ (m : Int) = 0 := by omega
      obtain ⟨j, hj, hjm⟩ : ∃ j : Nat, (wrap64 a).tmod (m : Int) = (j : Int) ∧ j < m := by
        have h1 := Ha.out
        refine ⟨a.toNat % m, ?_, Nat.mod_lt _ (by omega)⟩
        rw [IntWalk.wrap64_in _ (by omega), Int.tmod_eq_emod_of_nonneg h1.1]
        have : a = (a.toNat : Int) := by omega
        rw [this]
        simp
      have Hjm := Lib.hid hjm
      clear hm0 hjm
      go_upto_region 5 with (fail)
      have hjm := Hjm.out
      obtain ⟨A3, c3, hcutT, hnilT, -, hrdT⟩ := rw_to A2 m c2 j Hnil2.out (by omega) Hmc2.out
      obtain ⟨A4, c4, hcutF, hnilF, hrdF⟩ := rw_from A2 m c2 j Hnil2.out (by omega) Hmc2.out
      obtain ⟨j1, ej1⟩ : ∃ q, q = j + 1 := ⟨_, rfl⟩
      obtain ⟨A5, c5, hcutG, hnilG, hrdG⟩ := rw_from A2 m c2 j1 Hnil2.out (by omega) Hmc2.out
      have hwr : wrap64 ((j : Int) + 1) = (j1 : Int) := by rw [IntWalk.wrap64_in _ (by have := Hm60.out; omega)]; omega
      have hwr2 : IntKind.i64.wrap ((j : Int) + 1) = (j1 : Int) := by rw [IntKind.wrap_i64]; have := Hm60.out; omega
      have hlT : (M.take j).length = j := by rw [List.length_take]; have := HM.out; omega
      have hlF : (M.drop j).length = m - j := by rw [List.length_drop]; have := HM.out; omega
      have hlG : (M.drop j1).length = m - j1 := by rw [List.length_drop]; have := HM.out; omega
      obtain ⟨wd, ewd⟩ : ∃ wd, w1.drew = wd := ⟨_, rfl⟩
      have HBd := Lib.hid (show Below w0.heap.size w0 wd by rw [← ewd]; exact HB1.out.drew)
      obtain ⟨B1, d1, u1, B2, d2, u2, hr1, hr2, hs2, hown2, hbl1, hbl2⟩ := two_app wd _ _ A3 A5 j (m - j1) c3 c5 (hrdT wd M (HX.out _ HBd.out).2) (hrdG wd M (HX.out _ HBd.out).2 HM.out) hlT hlG hnilT hnilG (by have := Hm60.out; omega)
      rw [show j + (m - j1) = m - 1 by omega] at hs2 hown2
      obtain ⟨we, ewe⟩ : ∃ we, u2.drew = we := ⟨_, rfl⟩
      have HBe := Lib.hid (show Below w0.heap.size w0 we by rw [← ewe]; exact (below_trans HBd.out hbl2).drew)
      have hbwe : Below u2.heap.size u2 we := by rw [← ewe]; exact (Below.refl _ _).drew
      obtain ⟨B3, d3, u3, B4, d4, u4, hr3, hr4, hs4, hown4, hbl3, hbl4⟩ := two_app we _ _ A4 A3 (m - j) j c4 c3 (hrdF we M (HX.out _ HBe.out).2 HM.out) (hrdT we M (HX.out _ HBe.out).2) hlF hlT hnilF hnilT (by have := Hm60.out; omega)
      rw [show m - j + j = m by omega] at hr4 hs4 hown4
      have Hr1 := Lib.hid hr1
      rw [show j + (m - j1) = m - 1 by omega] at hr2
      have Hr2 := Lib.hid hr2
      have Hr3 := Lib.hid hr3
      have Hr4 := Lib.hid hr4
      have HBu4 := Lib.hid (below_trans HBe.out hbl4)
      have HLess := Lib.hid (show RdW u4 B2 (M.take j ++ M.drop (j + 1)) from (RdW.of (by rw [ej1] at hs2; exact hs2) (less_len HM.out hjm)).below (below_trans hbwe hbl4))
      have HTurn := Lib.hid (show RdW u4 B4 (M.drop j ++ M.take j) from RdW.of hs4 (by simp only [List.length_append, hlF, hlT]; omega))
      have Hl2 := Lib.hid (less_len HM.out hjm)
      have Hl4 := Lib.hid (show (M.drop j ++ M.take j).length = m by simp only [List.length_append, hlF, hlT]; omega)
      have Ewd := Lib.hid ewd
      have Ewe := Lib.hid ewe
      clear hjm ej1 hnilT hrdT hnilF hrdF hnilG hrdG hlT hlF hlG hr1 hr2 hr3 hr4 hs2 hs4 hown2 hown4 hbl1 hbl2 hbl3 hbl4 hbwe ewd ewe
      refine wp_region_held_drew (S := fun _ => True) (by kernel_rfl) trivial (fun hHeld => ?_)
      rw [Ewd.out]
      refine wpAnyH_take (i := 0) (oi := { dst := some 41, op := Go.Op.move (Go.Operand.tmp 1), type := 27, pos := "outright.go:50", after := #[], guard := none }) (v := ?_) rfl (by kernel_rfl) (by kernel_rfl) (by kernel_rfl) (fun _ _ _ h => h) (Or.inl ⟨by rfl, ?_⟩) (by assumption) ?_
      rotate_left 1
      · intro w' hSw; (go_simp <;> (with_reducible rfl))
      (try simp only [Act.put, List.setIfInBounds_toArray, List.set_cons_zero, List.set_cons_succ])
      refine wpAnyH_take (i := 1) (oi := { dst := some 42, op := Go.Op.move (Go.Operand.tmp 7), type := 3, pos := "outright.go:50", after := #[], guard := none }) (v := ?_) rfl (by kernel_rfl) (by kernel_rfl) (by kernel_rfl) (fun _ _ _ h => h) (Or.inl ⟨by rfl, ?_⟩) (by assumption) ?_
      rotate_left 1
      · intro w' hSw; (go_simp <;> (with_reducible rfl))
      (try simp only [Act.put, List.setIfInBounds_toArray, List.set_cons_zero, List.set_cons_succ])
      refine wpAnyH_take (i := 2) (oi := { dst := some 43, op := Go.Op.slice 27 (Go.Operand.tmp 41) none (some (Go.Operand.tmp 42)) none, type := 27, pos := "outright.go:50", after := #[{ on := 0, ground := Go.Ground.data }, { on := 1, ground := Go.Ground.data }], guard := none }) (v := ?_) rfl (by kernel_rfl) (by kernel_rfl) (by kernel_rfl) (fun _ _ _ h => h) (Or.inl ⟨by rfl, ?_⟩) (by assumption) ?_
      rotate_left 1
      · intro w' hSw; (go_simp <;> (with_reducible rfl))
      (try simp only [Act.put, List.setIfInBounds_toArray, List.set_cons_zero, List.set_cons_succ])
      refine wpAnyH_take (i := 4) (oi := { dst := some 45, op := Go.Op.move (Go.Operand.tmp 1), type := 27, pos := "outright.go:50", after := #[], guard := none }) (v := ?_) rfl (by kernel_rfl) (by kernel_rfl) (by kernel_rfl) (fun _ _ _ h => h) (Or.inl ⟨by rfl, ?_⟩) (by assumption) ?_
      rotate_left 1
      · intro w' hSw; (go_simp <;> (with_reducible rfl))
      (try simp only [Act.put, List.setIfInBounds_toArray, List.set_cons_zero, List.set_cons_succ])
      refine wpAnyH_take (i := 5) (oi := { dst := some 46, op := Go.Op.move (Go.Operand.tmp 7), type := 3, pos := "outright.go:50", after := #[], guard := none }) (v := ?_) rfl (by kernel_rfl) (by kernel_rfl) (by kernel_rfl) (fun _ _ _ h => h) (Or.inl ⟨by rfl, ?_⟩) (by assumption) ?_
      rotate_left 1
      · intro w' hSw; (go_simp <;> (with_reducible rfl))
      (try simp only [Act.put, List.setIfInBounds_toArray, List.set_cons_zero, List.set_cons_succ])
      refine wpAnyH_take (i := 6) (oi := { dst := some 47, op := Go.Op.binOp Go.BinOp.add 3 (Go.Operand.tmp 46) (Go.Operand.const (Go.Value.int Go.IntKind.i64 1)) 3, type := 3, pos := "outright.go:50", after := #[{ on := 5, ground := Go.Ground.data }], guard := none }) (v := ?_) rfl (by kernel_rfl) (by kernel_rfl) (by kernel_rfl) (fun _ _ _ h => h) (Or.inl ⟨by rfl, ?_⟩) (by assumption) ?_
      rotate_left 1
      · intro w' hSw; (go_simp <;> (with_reducible rfl))
      (try simp only [Act.put, List.setIfInBounds_toArray, List.set_cons_zero, List.set_cons_succ])
      refine wpAnyH_take (i := 7) (oi := { dst := some 48, op := Go.Op.slice 27 (Go.Operand.tmp 45) (some (Go.Operand.tmp 47)) none none, type := 27, pos := "outright.go:50", after := #[{ on := 4, ground := Go.Ground.data }, { on := 6, ground := Go.Ground.data }], guard := none }) (v := ?_) rfl (by kernel_rfl) (by kernel_rfl) (by kernel_rfl) (fun _ _ _ h => h) (Or.inl ⟨by rfl, ?_⟩) (by assumption) ?_
      rotate_left 1
      · intro w' hSw; (go_simp <;> (with_reducible rfl))
      (try simp only [Act.put, List.setIfInBounds_toArray, List.set_cons_zero, List.set_cons_succ])
      refine wpAnyH_ready (rs := [3]) (by kernel_rfl) (by simp) ?_
      refine AllReadyH.cons (o := { dst := some 44, op := Go.Op.call { callee := Go.Callee.builtin Go.Builtin.append, args := #[Go.Operand.const (Go.Value.slice none 0 0), Go.Operand.tmp 43], argTypes := #[27, 27] }, type := 27, pos := "outright.go:50", after := #[{ on := 2, ground := Go.Ground.data }], guard := none }) rfl (fun K hK => ?_) AllReadyH.nil
      refine step_appX rfl (.const (.slice none 0 0)) (.tmp 43) 27 27 rfl rfl _ _ _ u1 rfl rfl Hr1.out ?_
      refine hK.out _ _ ?_ (fun hHeld => ?_)
      · exact trivial
      clear hK K
      (try simp only [Act.put, List.setIfInBounds_toArray, List.set_cons_zero, List.set_cons_succ])
      refine wpAnyH_ready (rs := [8]) (by kernel_rfl) (by simp) ?_
      refine AllReadyH.cons (o := { dst := some 49, op := Go.Op.call { callee := Go.Callee.builtin Go.Builtin.append, args := #[Go.Operand.tmp 44, Go.Operand.tmp 48], argTypes := #[27, 27] }, type := 27, pos := "outright.go:50", after := #[{ on := 3, ground := Go.Ground.data }, { on := 7, ground := Go.Ground.data }, { on := 3, ground := Go.Ground.chain }], guard := none }) rfl (fun K hK => ?_) AllReadyH.nil
      refine step_appX rfl (.tmp 44) (.tmp 48) 27 27 rfl rfl _ _ _ u2 rfl rfl Hr2.out ?_
      refine hK.out _ _ ?_ (fun hHeld => ?_)
      · exact trivial
      clear hK K
      (try simp only [Act.put, List.setIfInBounds_toArray, List.set_cons_zero, List.set_cons_succ])
      refine wpAnyH_take (i := 9) (oi := { dst := some 8, op := Go.Op.assign (Go.Operand.tmp 49), type := 27, pos := "outright.go:50", after := #[{ on := 8, ground := Go.Ground.data }, { on := 8, ground := Go.Ground.chain }, { on := 0, ground := Go.Ground.phase }, { on := 1, ground := Go.Ground.phase }, { on := 2, ground := Go.Ground.phase }, { on := 3, ground := Go.Ground.phase }, { on := 4, ground := Go.Ground.phase }, { on := 5, ground := Go.Ground.phase }, { on := 6, ground := Go.Ground.phase }, { on := 7, ground := Go.Ground.phase }, { on := 8, ground := Go.Ground.phase }], guard := none }) (v := ?_) rfl (by kernel_rfl) (by kernel_rfl) (by kernel_rfl) (fun _ _ _ h => h) (Or.inl ⟨by rfl, ?_⟩) (by assumption) ?_
      rotate_left 1
      · intro w' hSw; (go_simp <;> (with_reducible rfl))
      (try simp only [Act.put, List.setIfInBounds_toArray, List.set_cons_zero, List.set_cons_succ])
      refine wpAnyH_done (by kernel_rfl) ?_ _
      clear hHeld
      go_upto_region 6 with (fail)
      refine wp_region_held_drew (S := fun _ => True) (by kernel_rfl) trivial (fun hHeld => ?_)
      rw [Ewe.out]
      refine wpAnyH_take (i := 0) (oi := { dst := some 50, op := Go.Op.move (Go.Operand.tmp 1), type := 27, pos := "outright.go:51", after := #[], guard := none }) (v := ?_) rfl (by kernel_rfl) (by kernel_rfl) (by kernel_rfl) (fun _ _ _ h => h) (Or.inl ⟨by rfl, ?_⟩) (by assumption) ?_
      rotate_left 1
      · intro w' hSw; (go_simp <;> (with_reducible rfl))
      (try simp only [Act.put, List.setIfInBounds_toArray, List.set_cons_zero, List.set_cons_succ])
      refine wpAnyH_take (i := 1) (oi := { dst := some 51, op := Go.Op.move (Go.Operand.tmp 7), type := 3, pos := "outright.go:51", after := #[], guard := none }) (v := ?_) rfl (by kernel_rfl) (by kernel_rfl) (by kernel_rfl) (fun _ _ _ h => h) (Or.inl ⟨by rfl, ?_⟩) (by assumption) ?_
      rotate_left 1
      · intro w' hSw; (go_simp <;> (with_reducible rfl))
      (try simp only [Act.put, List.setIfInBounds_toArray, List.set_cons_zero, List.set_cons_succ])
      refine wpAnyH_take (i := 2) (oi := { dst := some 52, op := Go.Op.slice 27 (Go.Operand.tmp 50) (some (Go.Operand.tmp 51)) none none, type := 27, pos := "outright.go:51", after := #[{ on := 0, ground := Go.Ground.data }, { on := 1, ground := Go.Ground.data }], guard := none }) (v := ?_) rfl (by kernel_rfl) (by kernel_rfl) (by kernel_rfl) (fun _ _ _ h => h) (Or.inl ⟨by rfl, ?_⟩) (by assumption) ?_
      rotate_left 1
      · intro w' hSw; (go_simp <;> (with_reducible rfl))
      (try simp only [Act.put, List.setIfInBounds_toArray, List.set_cons_zero, List.set_cons_succ])
      refine wpAnyH_take (i := 4) (oi := { dst := some 54, op := Go.Op.move (Go.Operand.tmp 1), type := 27, pos := "outright.go:51", after := #[], guard := none }) (v := ?_) rfl (by kernel_rfl) (by kernel_rfl) (by kernel_rfl) (fun _ _ _ h => h) (Or.inl ⟨by rfl, ?_⟩) (by assumption) ?_
      rotate_left 1
      · intro w' hSw; (go_simp <;> (with_reducible rfl))
      (try simp only [Act.put, List.setIfInBounds_toArray, List.set_cons_zero, List.set_cons_succ])
      refine wpAnyH_take (i := 5) (oi := { dst := some 55, op := Go.Op.move (Go.Operand.tmp 7), type := 3, pos := "outright.go:51", after := #[], guard := none }) (v := ?_) rfl (by kernel_rfl) (by kernel_rfl) (by kernel_rfl) (fun _ _ _ h => h) (Or.inl ⟨by rfl, ?_⟩) (by assumption) ?_
      rotate_left 1
      · intro w' hSw; (go_simp <;> (with_reducible rfl))
      (try simp only [Act.put, List.setIfInBounds_toArray, List.set_cons_zero, List.set_cons_succ])
      refine wpAnyH_take (i := 6) (oi := { dst := some 56, op := Go.Op.slice 27 (Go.Operand.tmp 54) none (some (Go.Operand.tmp 55)) none, type := 27, pos := "outright.go:51", after := #[{ on := 4, ground := Go.Ground.data }, { on := 5, ground := Go.Ground.data }], guard := none }) (v := ?_) rfl (by kernel_rfl) (by kernel_rfl) (by kernel_rfl) (fun _ _ _ h => h) (Or.inl ⟨by rfl, ?_⟩) (by assumption) ?_
      rotate_left 1
      · intro w' hSw; (go_simp <;> (with_reducible rfl))
      (try simp only [Act.put, List.setIfInBounds_toArray, List.set_cons_zero, List.set_cons_succ])
      refine wpAnyH_ready (rs := [3]) (by kernel_rfl) (by simp) ?_
      refine AllReadyH.cons (o := { dst := some 53, op := Go.Op.call { callee := Go.Callee.builtin Go.Builtin.append, args := #[Go.Operand.const (Go.Value.slice none 0 0), Go.Operand.tmp 52], argTypes := #[27, 27] }, type := 27, pos := "outright.go:51", after := #[{ on := 2, ground := Go.Ground.data }], guard := none }) rfl (fun K hK => ?_) AllReadyH.nil
      refine step_appX rfl (.const (.slice none 0 0)) (.tmp 52) 27 27 rfl rfl _ _ _ u3 rfl rfl Hr3.out ?_
      refine hK.out _ _ ?_ (fun hHeld => ?_)
      · exact trivial
      clear hK K
      (try simp only [Act.put, List.setIfInBounds_toArray, List.set_cons_zero, List.set_cons_succ])
      refine wpAnyH_ready (rs := [7]) (by kernel_rfl) (by simp) ?_
      refine AllReadyH.cons (o := { dst := some 57, op := Go.Op.call { callee := Go.Callee.builtin Go.Builtin.append, args := #[Go.Operand.tmp 53, Go.Operand.tmp 56], argTypes := #[27, 27] }, type := 27, pos := "outright.go:51", after := #[{ on := 3, ground := Go.Ground.data }, { on := 6, ground := Go.Ground.data }, { on := 3, ground := Go.Ground.chain }], guard := none }) rfl (fun K hK => ?_) AllReadyH.nil
      refine step_appX rfl (.tmp 53) (.tmp 56) 27 27 rfl rfl _ _ _ u4 rfl rfl Hr4.out ?_
      refine hK.out _ _ ?_ (fun hHeld => ?_)
      · exact trivial
      clear hK K
      (try simp only [Act.put, List.setIfInBounds_toArray, List.set_cons_zero, List.set_cons_succ])
      refine wpAnyH_take (i := 8) (oi := { dst := some 9, op := Go.Op.assign (Go.Operand.tmp 57), type := 27, pos := "outright.go:51", after := #[{ on := 7, ground := Go.Ground.data }, { on := 7, ground := Go.Ground.chain }, { on := 0, ground := Go.Ground.phase }, { on := 1, ground := Go.Ground.phase }, { on := 2, ground := Go.Ground.phase }, { on := 3, ground := Go.Ground.phase }, { on := 4, ground := Go.Ground.phase }, { on := 5, ground := Go.Ground.phase }, { on := 6, ground := Go.Ground.phase }, { on := 7, ground := Go.Ground.phase }], guard := none }) (v := ?_) rfl (by kernel_rfl) (by kernel_rfl) (by kernel_rfl) (fun _ _ _ h => h) (Or.inl ⟨by rfl, ?_⟩) (by assumption) ?_
      rotate_left 1
      · intro w' hSw; (go_simp <;> (with_reducible rfl))
      (try simp only [Act.put, List.setIfInBounds_toArray, List.set_cons_zero, List.set_cons_succ])
      refine wpAnyH_done (by kernel_rfl) ?_ _
      clear hHeld Hr1 Hr2 Hr3 Hr4 Ewd Ewe hcutT hcutF hcutG HBd HBe
      go_upto_region 7 with (fail)
      try simp only []
      repeat (first | go_values | go_skip | ((fail_if_success (with_reducible refine wpList_row 29 (.tmp 3) rfl ?_ ?_ ?_ ?_ ?_ ?_ ?_ ?_ ?_ ?_ ?_ ?_)); (first | go_step | go_upon | go_back)))
      refine wpList_row 29 (.tmp 3) rfl ?hww z _ _ _ _ (HX.out _ HBu4.out).1 rfl Try.underlying29 rfl (by kernel_rfl) ?_
      case hww => kernel_rfl
      (try simp only [Act.put, List.setIfInBounds_toArray, List.set_cons_zero, List.set_cons_succ])
      go_wp2_with fail
      refine (new_ok k B2 (m - 1) d2 _ u4 HLess.out Hl2.out (by have := Hm60.out; omega) (may_less HMay.out j)).mono ?_
      rintro e w7 ⟨ga, Sa, rfl, hmem, hS, hb7⟩
      have HB7 := Lib.hid (below_trans HBu4.out hb7)
      have HTa := Lib.hid hmem
      have Hb7 := Lib.hid hb7
      clear hmem hS hb7
      go_upto_region 8 with (fail)
      try simp only []
      repeat (first | go_values | go_skip | ((fail_if_success (with_reducible refine wpList_row 29 (.tmp 3) rfl ?_ ?_ ?_ ?_ ?_ ?_ ?_ ?_ ?_ ?_ ?_ ?_)); (first | go_step | go_upon | go_back)))
      refine wpList_row 29 (.tmp 3) rfl ?hww z _ _ _ _ (HX.out _ HB7.out).1 rfl Try.underlying29 rfl (by kernel_rfl) ?_
      case hww => kernel_rfl
      (try simp only [Act.put, List.setIfInBounds_toArray, List.set_cons_zero, List.set_cons_succ])
      go_wp2_with fail
      refine (new_ok k B4 m d4 _ w7 (HTurn.out.below Hb7.out) Hl4.out (by have := Hm60.out; omega) (may_turned HMay.out j).1).mono ?_
      rintro e w8 ⟨gb, Sb, rfl, hmem, hS, hb8⟩
      have HB8 := Lib.hid (below_trans HB7.out hb8)
      have HTb := Lib.hid hmem
      have HTa := Lib.hid (HTa.out.below hb8)
      clear hmem hS hb8
      go_upto_region 9 with (fail)
      try simp only []
      repeat (first | go_values | go_skip | ((fail_if_success (with_reducible refine wpList_row 29 (.tmp 3) rfl ?_ ?_ ?_ ?_ ?_ ?_ ?_ ?_ ?_ ?_ ?_ ?_)); (first | go_step | go_upon | go_back)))
      refine wpList_row 29 (.tmp 3) rfl ?hww z _ _ _ _ (HX.out _ HB8.out).1 rfl Try.underlying29 rfl (by kernel_rfl) ?_
      case hww => kernel_rfl
      (try simp only [Act.put, List.setIfInBounds_toArray, List.set_cons_zero, List.set_cons_succ])
      go_wp2_with fail
      refine (new_ok k A2 m c2 M w8 (HX.out _ HB8.out).2 HM.out (by have := Hm60.out; omega) HMay.out).mono ?_
      rintro e w9 ⟨gw, Sw, rfl, hmem, hS, hb9⟩
      have HB9 := Lib.hid (below_trans HB8.out hb9)
      have HTb := Lib.hid (HTb.out.below hb9)
      have HTa := Lib.hid (HTa.out.below hb9)
      have HTw := Lib.hid hmem
      clear hmem hS hb9 HLess HTurn HB7 Hb7 HB8 HBu4
      go_upto_region 10 with (fail)
      have hjm := Hjm.out
      obtain ⟨g, pp, hidx, hlt, hfl⟩ := (HX.out _ HB9.out).2.index (c := c2) HM.out hjm
      obtain ⟨f, ef⟩ : ∃ f, M.getD j fw0 = f := ⟨_, rfl⟩
      rw [ef] at hfl
      have i0 : (0 : Int) ≤ (j : Int) := by omega
      have i1 : (j : Int) < (m : Int) := by omega
      have Hfm := Lib.hid (show f ∈ M by rw [← ef]; exact getD_mem HM.out hjm)
      have HSS := Lib.hid (show ∀ W, Below w9.heap.size w9 W → W.heap[z]? = some (.cells #[.int .u32 k.ins, .int .u32 k.msk, k.v2, .int .u16 k.lo, .int .u16 k.hi, k.v5, k.v6, k.v7, k.v8, k.v9, k.va, k.vb, k.vc, k.vd, k.ve, k.vf, k.vg, k.vh, k.vi] 29 (0, 0)) ∧ (W.cell? ⟨g, pp, none⟩ = some (.int .u8 f.pr) ∧ W.cell? ⟨g, pp + 1, none⟩ = some (.int .u16 f.po) ∧ W.cell? ⟨g, pp + 2, none⟩ = some (.int .u32 f.ad) ∧ W.cell? ⟨g, pp + 3, none⟩ = some (.int .u16 f.tp)) from fun W hW => by
        obtain ⟨c0, c1, c2', c3⟩ := hfl.of (w' := W) (fun i => hW.cell (p := ⟨g, i, none⟩) hlt)
        exact ⟨(HX.out _ (below_trans HB9.out hW)).1, c0, c1, c2', c3⟩)
      clear hjm hlt hfl ef
      go_cut [97] (fun v wx => v = .bool false ∧ Hid (Below w9.heap.size w9 wx))
      case first =>
        refine wp_region_noPanic ?_
        refine wp_region_held_drew (S := fun W => W.heap[z]? = some (.cells #[.int .u32 k.ins, .int .u32 k.msk, k.v2, .int .u16 k.lo, .int .u16 k.hi, k.v5, k.v6, k.v7, k.v8, k.v9, k.va, k.vb, k.vc, k.vd, k.ve, k.vf, k.vg, k.vh, k.vi] 29 (0, 0)) ∧ (W.cell? ⟨g, pp, none⟩ = some (.int .u8 f.pr) ∧ W.cell? ⟨g, pp + 1, none⟩ = some (.int .u16 f.po) ∧ W.cell? ⟨g, pp + 2, none⟩ = some (.int .u32 f.ad) ∧ W.cell? ⟨g, pp + 3, none⟩ = some (.int .u16 f.tp))) (by kernel_rfl) (HSS.out _ (Below.refl _ _).drew) (fun hHeld => ?_)
        obtain ⟨wd, ewd⟩ : ∃ wd, w9.drew = wd := ⟨_, rfl⟩
        have HBd := Lib.hid (show Below w9.heap.size w9 wd by rw [← ewd]; exact (Below.refl _ _).drew)
        rw [ewd] at hHeld ⊢
        clear ewd
        refine wpAnyH_take (i := 0) (oi := { dst := some 76, op := Go.Op.move (Go.Operand.tmp 11), type := 34, pos := "outright.go:55", after := #[], guard := none }) (v := ?_) rfl (by kernel_rfl) (by kernel_rfl) (by kernel_rfl) (fun _ _ _ h => h) (Or.inl ⟨by rfl, ?_⟩) (by assumption) ?_
        rotate_left 1
        · intro w' hSw; (go_simp <;> (with_reducible rfl))
        (try simp only [Act.put, List.setIfInBounds_toArray, List.set_cons_zero, List.set_cons_succ])
        refine wpAnyH_take (i := 1) (oi := { dst := some 77, op := Go.Op.binOp Go.BinOp.neq 34 (Go.Operand.tmp 76) (Go.Operand.const (Go.Value.int Go.IntKind.i64 0)) 34, type := 4, pos := "outright.go:55", after := #[{ on := 0, ground := Go.Ground.data }], guard := none }) (v := ?_) rfl (by kernel_rfl) (by kernel_rfl) (by kernel_rfl) (fun _ _ _ h => h) (Or.inl ⟨by rfl, ?_⟩) (by assumption) ?_
        rotate_left 1
        · intro w' hSw; (go_simp <;> (with_reducible rfl))
        (try simp only [Act.put, List.setIfInBounds_toArray, List.set_cons_zero, List.set_cons_succ])
        refine wpAnyH_take (i := 2) (oi := { dst := some 78, op := Go.Op.move (Go.Operand.tmp 77), type := 4, pos := "outright.go:55", after := #[{ on := 1, ground := Go.Ground.data }], guard := none }) (v := ?_) rfl (by kernel_rfl) (by kernel_rfl) (by kernel_rfl) (fun _ _ _ h => h) (Or.inl ⟨by rfl, ?_⟩) (by assumption) ?_
        rotate_left 1
        · intro w' hSw; (go_simp <;> (with_reducible rfl))
        (try simp only [Act.put, List.setIfInBounds_toArray, List.set_cons_zero, List.set_cons_succ])
        refine wpAnyH_take (i := 3) (oi := { dst := some 79, op := Go.Op.move (Go.Operand.tmp 13), type := 34, pos := "outright.go:55", after := #[{ on := 2, ground := Go.Ground.guard }], guard := some (2, false) }) (v := ?_) rfl (by kernel_rfl) (by kernel_rfl) (by kernel_rfl) (fun _ _ _ h => h) (Or.inl ⟨by rfl, ?_⟩) (by assumption) ?_
        rotate_left 1
        · intro w' hSw; (go_simp <;> (with_reducible rfl))
        (try simp only [Act.put, List.setIfInBounds_toArray, List.set_cons_zero, List.set_cons_succ])
        refine wpAnyH_take (i := 4) (oi := { dst := some 80, op := Go.Op.binOp Go.BinOp.neq 34 (Go.Operand.tmp 79) (Go.Operand.const (Go.Value.int Go.IntKind.i64 0)) 34, type := 4, pos := "outright.go:55", after := #[{ on := 3, ground := Go.Ground.data }, { on := 2, ground := Go.Ground.guard }], guard := some (2, false) }) (v := ?_) rfl (by kernel_rfl) (by kernel_rfl) (by kernel_rfl) (fun _ _ _ h => h) (Or.inl ⟨by rfl, ?_⟩) (by assumption) ?_
        rotate_left 1
        · intro w' hSw; (go_simp <;> (with_reducible rfl))
        (try simp only [Act.put, List.setIfInBounds_toArray, List.set_cons_zero, List.set_cons_succ])
        refine wpAnyH_take (i := 5) (oi := { dst := some 81, op := Go.Op.pick (Go.Operand.tmp 78) (Go.Operand.const (Go.Value.bool true)) (Go.Operand.tmp 80), type := 4, pos := "outright.go:55", after := #[{ on := 2, ground := Go.Ground.data }, { on := 4, ground := Go.Ground.data }], guard := none }) (v := ?_) rfl (by kernel_rfl) (by kernel_rfl) (by kernel_rfl) (fun _ _ _ h => h) (Or.inl ⟨by rfl, ?_⟩) (by assumption) ?_
        rotate_left 1
        · intro w' hSw; (go_simp <;> (with_reducible rfl))
        (try simp only [Act.put, List.setIfInBounds_toArray, List.set_cons_zero, List.set_cons_succ])
        refine wpAnyH_take (i := 6) (oi := { dst := some 82, op := Go.Op.move (Go.Operand.tmp 81), type := 4, pos := "outright.go:55", after := #[{ on := 5, ground := Go.Ground.data }, { on := 2, ground := Go.Ground.chain }], guard := none }) (v := ?_) rfl (by kernel_rfl) (by kernel_rfl) (by kernel_rfl) (fun _ _ _ h => h) (Or.inl ⟨by rfl, ?_⟩) (by assumption) ?_
        rotate_left 1
        · intro w' hSw; (go_simp <;> (with_reducible rfl))
        (try simp only [Act.put, List.setIfInBounds_toArray, List.set_cons_zero, List.set_cons_succ])
        refine wpAnyH_take (i := 7) (oi := { dst := some 83, op := Go.Op.move (Go.Operand.tmp 15), type := 34, pos := "outright.go:55", after := #[{ on := 6, ground := Go.Ground.guard }], guard := some (6, false) }) (v := ?_) rfl (by kernel_rfl) (by kernel_rfl) (by kernel_rfl) (fun _ _ _ h => h) (Or.inl ⟨by rfl, ?_⟩) (by assumption) ?_
        rotate_left 1
        · intro w' hSw; (go_simp <;> (with_reducible rfl))
        (try simp only [Act.put, List.setIfInBounds_toArray, List.set_cons_zero, List.set_cons_succ])
        refine wpAnyH_take (i := 8) (oi := { dst := some 84, op := Go.Op.binOp Go.BinOp.neq 34 (Go.Operand.tmp 83) (Go.Operand.const (Go.Value.int Go.IntKind.i64 0)) 34, type := 4, pos := "outright.go:55", after := #[{ on := 7, ground := Go.Ground.data }, { on := 6, ground := Go.Ground.guard }], guard := some (6, false) }) (v := ?_) rfl (by kernel_rfl) (by kernel_rfl) (by kernel_rfl) (fun _ _ _ h => h) (Or.inl ⟨by rfl, ?_⟩) (by assumption) ?_
        rotate_left 1
        · intro w' hSw; (go_simp <;> (with_reducible rfl))
        (try simp only [Act.put, List.setIfInBounds_toArray, List.set_cons_zero, List.set_cons_succ])
        refine wpAnyH_take (i := 9) (oi := { dst := some 85, op := Go.Op.pick (Go.Operand.tmp 82) (Go.Operand.const (Go.Value.bool true)) (Go.Operand.tmp 84), type := 4, pos := "outright.go:55", after := #[{ on := 6, ground := Go.Ground.data }, { on := 8, ground := Go.Ground.data }], guard := none }) (v := ?_) rfl (by kernel_rfl) (by kernel_rfl) (by kernel_rfl) (fun _ _ _ h => h) (Or.inl ⟨by rfl, ?_⟩) (by assumption) ?_
        rotate_left 1
        · intro w' hSw; (go_simp <;> (with_reducible rfl))
        (try simp only [Act.put, List.setIfInBounds_toArray, List.set_cons_zero, List.set_cons_succ])
        refine wpAnyH_take (i := 10) (oi := { dst := some 86, op := Go.Op.move (Go.Operand.tmp 85), type := 4, pos := "outright.go:55", after := #[{ on := 9, ground := Go.Ground.data }, { on := 6, ground := Go.Ground.chain }], guard := none }) (v := ?_) rfl (by kernel_rfl) (by kernel_rfl) (by kernel_rfl) (fun _ _ _ h => h) (Or.inl ⟨by rfl, ?_⟩) (by assumption) ?_
        rotate_left 1
        · intro w' hSw; (go_simp <;> (with_reducible rfl))
        (try simp only [Act.put, List.setIfInBounds_toArray, List.set_cons_zero, List.set_cons_succ])
        refine wpAnyH_take (i := 11) (oi := { dst := some 87, op := Go.Op.load 29 (Go.Operand.tmp 3), type := 29, pos := "outright.go:55", after := #[{ on := 10, ground := Go.Ground.guard }], guard := some (10, false) }) (v := .agg #[.int .u32 k.ins, .int .u32 k.msk, k.v2, .int .u16 k.lo, .int .u16 k.hi, k.v5, k.v6, k.v7, k.v8, k.v9, k.va, k.vb, k.vc, k.vd, k.ve, k.vf, k.vg, k.vh, k.vi]) rfl (by kernel_rfl) (by kernel_rfl) (by kernel_rfl) (fun _ _ _ h => h) (Or.inl ⟨by rfl, fun w' hSw => exec_row 29 (.tmp 3) rfl z _ _ _ _ (hSw.1) rfl Try.underlying29 rfl (by kernel_rfl)⟩) (by assumption) ?_
        (try simp only [Act.put, List.setIfInBounds_toArray, List.set_cons_zero, List.set_cons_succ])
        refine wpAnyH_take (i := 12) (oi := { dst := some 88, op := Go.Op.move (Go.Operand.tmp 1), type := 27, pos := "outright.go:55", after := #[{ on := 10, ground := Go.Ground.guard }], guard := some (10, false) }) (v := ?_) rfl (by kernel_rfl) (by kernel_rfl) (by kernel_rfl) (fun _ _ _ h => h) (Or.inl ⟨by rfl, ?_⟩) (by assumption) ?_
        rotate_left 1
        · intro w' hSw; (go_simp <;> (with_reducible rfl))
        (try simp only [Act.put, List.setIfInBounds_toArray, List.set_cons_zero, List.set_cons_succ])
        refine wpAnyH_take (i := 14) (oi := { dst := some 90, op := Go.Op.move (Go.Operand.tmp 1), type := 27, pos := "outright.go:55", after := #[{ on := 10, ground := Go.Ground.guard }], guard := some (10, false) }) (v := ?_) rfl (by kernel_rfl) (by kernel_rfl) (by kernel_rfl) (fun _ _ _ h => h) (Or.inl ⟨by rfl, ?_⟩) (by assumption) ?_
        rotate_left 1
        · intro w' hSw; (go_simp <;> (with_reducible rfl))
        (try simp only [Act.put, List.setIfInBounds_toArray, List.set_cons_zero, List.set_cons_succ])
        refine wpAnyH_take (i := 15) (oi := { dst := some 91, op := Go.Op.move (Go.Operand.tmp 7), type := 3, pos := "outright.go:55", after := #[{ on := 10, ground := Go.Ground.guard }], guard := some (10, false) }) (v := ?_) rfl (by kernel_rfl) (by kernel_rfl) (by kernel_rfl) (fun _ _ _ h => h) (Or.inl ⟨by rfl, ?_⟩) (by assumption) ?_
        rotate_left 1
        · intro w' hSw; (go_simp <;> (with_reducible rfl))
        (try simp only [Act.put, List.setIfInBounds_toArray, List.set_cons_zero, List.set_cons_succ])
        refine wpAnyH_take (i := 16) (oi := { dst := some 92, op := Go.Op.indexAddr 27 (Go.Operand.tmp 90) (Go.Operand.tmp 91), type := 0, pos := "outright.go:55", after := #[{ on := 14, ground := Go.Ground.data }, { on := 15, ground := Go.Ground.data }, { on := 10, ground := Go.Ground.guard }], guard := some (10, false) }) (v := ?_) rfl (by kernel_rfl) (by kernel_rfl) (by kernel_rfl) (fun _ _ _ h => h) (Or.inl ⟨by rfl, ?_⟩) (by assumption) ?_
        rotate_left 1
        · intro w' hSw; (go_simp <;> (with_reducible rfl))
        (try simp only [Act.put, List.setIfInBounds_toArray, List.set_cons_zero, List.set_cons_succ])
        refine wpAnyH_take (i := 17) (oi := { dst := some 93, op := Go.Op.load 40 (Go.Operand.tmp 92), type := 40, pos := "outright.go:55", after := #[{ on := 16, ground := Go.Ground.data }, { on := 10, ground := Go.Ground.guard }], guard := some (10, false) }) (v := ?_) rfl (by kernel_rfl) (by kernel_rfl) (by kernel_rfl) (fun _ _ _ h => h) (Or.inl ⟨by rfl, ?_⟩) (by assumption) ?_
        rotate_left 1
        · intro w' hSw; (go_simp <;> (with_reducible rfl))
        (try simp only [Act.put, List.setIfInBounds_toArray, List.set_cons_zero, List.set_cons_succ])
        refine wpAnyH_ready (rs := [13, 18]) (by kernel_rfl) (by simp) ?_
        refine AllReadyH.cons (o := { dst := some 89, op := Go.Op.call { callee := Go.Callee.builtin Go.Builtin.append, args := #[Go.Operand.const (Go.Value.slice none 0 0), Go.Operand.tmp 88], argTypes := #[27, 27] }, type := 27, pos := "outright.go:55", after := #[{ on := 12, ground := Go.Ground.data }, { on := 10, ground := Go.Ground.chain }, { on := 10, ground := Go.Ground.guard }], guard := some (10, false) }) rfl (fun K hK => ?_) (AllReadyH.cons (o := { dst := some 94, op := Go.Op.buildSlice 27 1 #[(0, Go.Operand.tmp 93)], type := 27, pos := "outright.go:55", after := #[{ on := 17, ground := Go.Ground.data }, { on := 10, ground := Go.Ground.guard }], guard := some (10, false) }) rfl (fun K hK => ?_) AllReadyH.nil)
        · obtain ⟨B5, d5, uA, B6, d6, u6, hr1, hr2, hrd, hbA, hb6⟩ := lit_appA wd M A2 m c2 (HX.out _ (below_trans HB9.out HBd.out)).2 HM.out Hnil2.out f (by have := Hm60.out; omega)
          have HrA := Lib.hid hr1
          have HBA := Lib.hid (below_trans HBd.out hbA)
          have HB6 := Lib.hid (below_trans HBd.out hb6)
          have HrdB := Lib.hid hrd
          obtain ⟨sz, esz⟩ : ∃ s, uA.heap.size = s := ⟨_, rfl⟩
          obtain ⟨uL, eL⟩ : ∃ u, uA.alloc (.cells #[.int .u8 f.pr, .int .u16 f.po, .int .u32 f.ad, .int .u16 f.tp] 40) = u := ⟨_, rfl⟩
          have HBL := Lib.hid (show Below w9.heap.size w9 uL by rw [← eL]; exact HBA.out.alloc HBA.out.size _)
          rw [eL, esz] at hr2
          have HrB := Lib.hid hr2
          clear hr1 hr2 hrd hbA hb6
          refine step_appG (by kernel_rfl) (.const (.slice none 0 0)) (.tmp 88) 27 27 rfl rfl _ _ _ uA rfl rfl HrA.out ?_
          refine hK.out _ _ ?_ (fun hHeld => ?_)
          · exact HSS.out _ HBA.out
          clear hK K
          (try simp only [Act.put, List.setIfInBounds_toArray, List.set_cons_zero, List.set_cons_succ])
          refine wpAnyH_ready (rs := [18]) (by kernel_rfl) (by simp) ?_
          refine AllReadyH.cons (o := { dst := some 94, op := Go.Op.buildSlice 27 1 #[(0, Go.Operand.tmp 93)], type := 27, pos := "outright.go:55", after := #[{ on := 17, ground := Go.Ground.data }, { on := 10, ground := Go.Ground.guard }], guard := some (10, false) }) rfl (fun K hK => ?_) AllReadyH.nil
          go_simp
          try rw [eL]
          try rw [esz]
          refine hK.out _ _ ?_ (fun hHeld => ?_)
          · exact HSS.out _ HBL.out
          clear hK K
          (try simp only [Act.put, List.setIfInBounds_toArray, List.set_cons_zero, List.set_cons_succ])
          clear eL esz
          refine wpAnyH_ready (rs := [19]) (by kernel_rfl) (by simp) ?_
          refine AllReadyH.cons (o := { dst := some 95, op := Go.Op.call { callee := Go.Callee.builtin Go.Builtin.append, args := #[Go.Operand.tmp 89, Go.Operand.tmp 94], argTypes := #[27, 27] }, type := 27, pos := "outright.go:55", after := #[{ on := 13, ground := Go.Ground.data }, { on := 18, ground := Go.Ground.data }, { on := 13, ground := Go.Ground.chain }, { on := 10, ground := Go.Ground.guard }], guard := some (10, false) }) rfl (fun K hK => ?_) AllReadyH.nil
          refine step_appG (by kernel_rfl) (.tmp 89) (.tmp 94) 27 27 rfl rfl _ _ _ u6 rfl rfl HrB.out ?_
          refine hK.out _ _ ?_ (fun hHeld => ?_)
          · exact HSS.out _ HB6.out
          clear hK K
          (try simp only [Act.put, List.setIfInBounds_toArray, List.set_cons_zero, List.set_cons_succ])
          refine wpAnyH_ready (rs := [20]) (by kernel_rfl) (by simp) ?_
          refine AllReadyH.cons (o := { dst := some 96, op := Go.Op.call { callee := Go.Callee.value (Go.Operand.func 10), args := #[Go.Operand.tmp 87, Go.Operand.tmp 95], argTypes := #[29, 27] }, type := 4, pos := "outright.go:55", after := #[{ on := 11, ground := Go.Ground.data }, { on := 19, ground := Go.Ground.data }, { on := 19, ground := Go.Ground.chain }, { on := 10, ground := Go.Ground.guard }], guard := some (10, false) }) rfl (fun K hK => ?_) AllReadyH.nil
          go_simp
          refine (may_any k B6 (m + 1) d6 (M ++ [f]) false u6 HrdB.out (by simp [HM.out]) (by have := Hm60.out; omega) ⟨fun h => (by cases h), fun h => absurd h (fwMay_twice Hfm.out)⟩).mono ?_
          rintro e u7 ⟨rfl, hb⟩
          have HB7 := Lib.hid (below_trans HB6.out hb)
          refine hK.out _ _ ?_ (fun hHeld => ?_)
          · exact HSS.out _ HB7.out
          clear hK K hb
          (try simp only [Act.put, List.setIfInBounds_toArray, List.set_cons_zero, List.set_cons_succ])
          refine wpAnyH_take (i := 21) (oi := { dst := some 97, op := Go.Op.pick (Go.Operand.tmp 86) (Go.Operand.const (Go.Value.bool true)) (Go.Operand.tmp 96), type := 4, pos := "outright.go:55", after := #[{ on := 10, ground := Go.Ground.data }, { on := 20, ground := Go.Ground.data }], guard := none }) (v := ?_) rfl (by kernel_rfl) (by kernel_rfl) (by kernel_rfl) (fun _ _ _ h => h) (Or.inl ⟨by rfl, ?_⟩) (by assumption) ?_
          rotate_left 1
          · intro w' hSw; (go_simp <;> (with_reducible rfl))
          (try simp only [Act.put, List.setIfInBounds_toArray, List.set_cons_zero, List.set_cons_succ])
          refine wpAnyH_done (by kernel_rfl) ?_ _
          refine NoPanic.normal ?_
          go_wp2_with fail
          go_meet
          exact ⟨rfl, HB7⟩
        · obtain ⟨B5, d5, uA, B6, d6, u6, hr1, hr2, hrd, hbL, hbA, hb6⟩ := lit_appB wd M A2 m c2 (HX.out _ (below_trans HB9.out HBd.out)).2 HM.out Hnil2.out f (by have := Hm60.out; omega)
          have HBA := Lib.hid (below_trans HBd.out hbA)
          have HB6 := Lib.hid (below_trans HBd.out hb6)
          have HrdB := Lib.hid hrd
          obtain ⟨sz, esz⟩ : ∃ s, wd.heap.size = s := ⟨_, rfl⟩
          obtain ⟨uL, eL⟩ : ∃ u, wd.alloc (.cells #[.int .u8 f.pr, .int .u16 f.po, .int .u32 f.ad, .int .u16 f.tp] 40) = u := ⟨_, rfl⟩
          have HBL := Lib.hid (show Below w9.heap.size w9 uL by rw [← eL]; exact below_trans HBd.out hbL)
          rw [eL] at hr1
          rw [esz] at hr2
          have HrA := Lib.hid hr1
          have HrB := Lib.hid hr2
          clear hr1 hr2 hrd hbA hb6 hbL
          go_simp
          try rw [eL]
          try rw [esz]
          refine hK.out _ _ ?_ (fun hHeld => ?_)
          · exact HSS.out _ HBL.out
          clear hK K
          (try simp only [Act.put, List.setIfInBounds_toArray, List.set_cons_zero, List.set_cons_succ])
          clear eL esz
          refine wpAnyH_ready (rs := [13]) (by kernel_rfl) (by simp) ?_
          refine AllReadyH.cons (o := { dst := some 89, op := Go.Op.call { callee := Go.Callee.builtin Go.Builtin.append, args := #[Go.Operand.const (Go.Value.slice none 0 0), Go.Operand.tmp 88], argTypes := #[27, 27] }, type := 27, pos := "outright.go:55", after := #[{ on := 12, ground := Go.Ground.data }, { on := 10, ground := Go.Ground.chain }, { on := 10, ground := Go.Ground.guard }], guard := some (10, false) }) rfl (fun K hK => ?_) AllReadyH.nil
          refine step_appG (by kernel_rfl) (.const (.slice none 0 0)) (.tmp 88) 27 27 rfl rfl _ _ _ uA rfl rfl HrA.out ?_
          refine hK.out _ _ ?_ (fun hHeld => ?_)
          · exact HSS.out _ HBA.out
          clear hK K
          (try simp only [Act.put, List.setIfInBounds_toArray, List.set_cons_zero, List.set_cons_succ])
          refine wpAnyH_ready (rs := [19]) (by kernel_rfl) (by simp) ?_
          refine AllReadyH.cons (o := { dst := some 95, op := Go.Op.call { callee := Go.Callee.builtin Go.Builtin.append, args := #[Go.Operand.tmp 89, Go.Operand.tmp 94], argTypes := #[27, 27] }, type := 27, pos := "outright.go:55", after := #[{ on := 13, ground := Go.Ground.data }, { on := 18, ground := Go.Ground.data }, { on := 13, ground := Go.Ground.chain }, { on := 10, ground := Go.Ground.guard }], guard := some (10, false) }) rfl (fun K hK => ?_) AllReadyH.nil
          refine step_appG (by kernel_rfl) (.tmp 89) (.tmp 94) 27 27 rfl rfl _ _ _ u6 rfl rfl HrB.out ?_
          refine hK.out _ _ ?_ (fun hHeld => ?_)
          · exact HSS.out _ HB6.out
          clear hK K
          (try simp only [Act.put, List.setIfInBounds_toArray, List.set_cons_zero, List.set_cons_succ])
          refine wpAnyH_ready (rs := [20]) (by kernel_rfl) (by simp) ?_
          refine AllReadyH.cons (o := { dst := some 96, op := Go.Op.call { callee := Go.Callee.value (Go.Operand.func 10), args := #[Go.Operand.tmp 87, Go.Operand.tmp 95], argTypes := #[29, 27] }, type := 4, pos := "outright.go:55", after := #[{ on := 11, ground := Go.Ground.data }, { on := 19, ground := Go.Ground.data }, { on := 19, ground := Go.Ground.chain }, { on := 10, ground := Go.Ground.guard }], guard := some (10, false) }) rfl (fun K hK => ?_) AllReadyH.nil
          go_simp
          refine (may_any k B6 (m + 1) d6 (M ++ [f]) false u6 HrdB.out (by simp [HM.out]) (by have := Hm60.out; omega) ⟨fun h => (by cases h), fun h => absurd h (fwMay_twice Hfm.out)⟩).mono ?_
          rintro e u7 ⟨rfl, hb⟩
          have HB7 := Lib.hid (below_trans HB6.out hb)
          refine hK.out _ _ ?_ (fun hHeld => ?_)
          · exact HSS.out _ HB7.out
          clear hK K hb
          (try simp only [Act.put, List.setIfInBounds_toArray, List.set_cons_zero, List.set_cons_succ])
          refine wpAnyH_take (i := 21) (oi := { dst := some 97, op := Go.Op.pick (Go.Operand.tmp 86) (Go.Operand.const (Go.Value.bool true)) (Go.Operand.tmp 96), type := 4, pos := "outright.go:55", after := #[{ on := 10, ground := Go.Ground.data }, { on := 20, ground := Go.Ground.data }], guard := none }) (v := ?_) rfl (by kernel_rfl) (by kernel_rfl) (by kernel_rfl) (fun _ _ _ h => h) (Or.inl ⟨by rfl, ?_⟩) (by assumption) ?_
          rotate_left 1
          · intro w' hSw; (go_simp <;> (with_reducible rfl))
          (try simp only [Act.put, List.setIfInBounds_toArray, List.set_cons_zero, List.set_cons_succ])
          refine wpAnyH_done (by kernel_rfl) ?_ _
          refine NoPanic.normal ?_
          go_wp2_with fail
          go_meet
          exact ⟨rfl, HB7⟩
      case rest =>
        obtain ⟨rfl, HB10⟩ := hcut
        have HBq := Lib.hid (below_trans HB9.out HB10.out)
        clear HSS hidx i0 i1 Hfm
        obtain ⟨wz, ewz⟩ : ∃ v, v = wc := ⟨_, rfl⟩
        subst ewz
        have HL := Lib.hid (show ∀ W, Below wz.heap.size wz W → FwMem W Sa ga (M.take j ++ M.drop (j + 1)) ∧ FwMem W Sb gb (M.drop j ++ M.take j) ∧ FwMem W Sw gw M ∧ RdW W A2 M from fun W hW => ⟨HTa.out.below (below_trans HB10.out hW), HTb.out.below (below_trans HB10.out hW), HTw.out.below (below_trans HB10.out hW), (HX.out _ (below_trans HBq.out hW)).2⟩)
        clear HTa HTb HTw HB10 HX
        go_wp2_with fail
        go_loopg [16] m (fun gk i wr => ∃ (q : Nat), Hid (gk + q = m) ∧ q ≤ m ∧ i = .int .i64 (q : Int) ∧ Hid (Below wz.heap.size wz wr))
        case atStart => exact ⟨0, rfl, Nat.zero_le _, rfl, Lib.hid (Below.refl _ _)⟩
        case round =>
          obtain ⟨i, hgk, hi, rfl, hB⟩ := hrel
          by_cases hin : i < m
          · obtain ⟨g2, pp2, hidx, hlt2, hfl2⟩ := (HL.out _ hB.out).2.2.2.index (c := c2) HM.out hin
            obtain ⟨f2, ef2⟩ : ∃ f, M.getD i fw0 = f := ⟨_, rfl⟩
            rw [ef2] at hfl2
            have i0 : (0 : Int) ≤ (i : Int) := by omega
            have i1 : (i : Int) < (m : Int) := by omega
            have HSW := Lib.hid (show ∀ W, Below wr.heap.size wr W → FwAt W g2 pp2 f2 from fun W hW => hfl2.of (w' := W) (fun i => hW.cell (p := ⟨g2, i, none⟩) hlt2))
            have HSI := Lib.hid (show ∀ W, Below wr.heap.size wr W → W.cell? ⟨g2, pp2, none⟩ = some (.int .u8 f2.pr) ∧ W.cell? ⟨g2, pp2 + 1, none⟩ = some (.int .u16 f2.po) from fun W hW => ⟨(HSW.out W hW).c0, (HSW.out W hW).c1⟩)
            obtain ⟨fa, efa⟩ : ∃ f, fwOf (fwFind f2.pr f2.po (M.take j ++ M.drop (j + 1))) = f := ⟨_, rfl⟩
            obtain ⟨ba, eba⟩ : ∃ b, fwIs (fwFind f2.pr f2.po (M.take j ++ M.drop (j + 1))) = b := ⟨_, rfl⟩
            have HFL := Lib.hid (find_less HMay.out HM.out Hjm.out hin ef2)
            have HFT := Lib.hid (find_turned HMay.out HM.out j hin ef2)
            have Hfa := Lib.hid efa
            have Hba := Lib.hid eba
            have Hin := Lib.hid hin
            have HFi := Lib.hid (show ∀ W, Below wr.heap.size wr W → Calls Try.prog 13 #[.pointer (some ⟨ga, 0, none⟩), .int .u8 f2.pr, .int .u16 f2.po] W (FwTells (.tuple #[.agg #[.int .u8 fa.pr, .int .u16 fa.po, .int .u32 fa.ad, .int .u16 fa.tp], .bool ba]) W) from fun W hW => find_at Sa ga _ f2.pr f2.po W (HL.out _ (below_trans hB.out hW)).1 fa ba Hfa.out Hba.out)
            clear ef2 hlt2 hfl2 efa eba hin
            go_upto_region 15 with (fail)
            go_cut [17, 18] (fun v17 v18 wx => ∃ q, v17 = .pointer (some ⟨q, 0, none⟩) ∧ v18 = .bool ba ∧ Hid (wx.heap[q]? = some (.cells #[.int .u8 fa.pr, .int .u16 fa.po, .int .u32 fa.ad, .int .u16 fa.tp] 40 (0, 0))) ∧ Hid (Below wr.heap.size wr wx))
            case first =>
              refine wp_region_noPanic ?_
              refine wp_region_held_drew (S := fun W => W.cell? ⟨g2, pp2, none⟩ = some (.int .u8 f2.pr) ∧ W.cell? ⟨g2, pp2 + 1, none⟩ = some (.int .u16 f2.po)) (by kernel_rfl) (HSI.out _ (Below.refl _ _).drew) (fun hHeld => ?_)
              obtain ⟨wd, ewd⟩ : ∃ wd, wr.drew = wd := ⟨_, rfl⟩
              have HBd := Lib.hid (show Below wr.heap.size wr wd by rw [← ewd]; exact (Below.refl _ _).drew)
              rw [ewd] at hHeld ⊢
              clear ewd
              refine wpAnyH_take (i := 0) (oi := { dst := some 105, op := Go.Op.move (Go.Operand.tmp 10), type := 33, pos := "outright.go:59", after := #[], guard := none }) (v := ?_) rfl (by kernel_rfl) (by kernel_rfl) (by kernel_rfl) (fun _ _ _ h => h) (Or.inl ⟨by rfl, ?_⟩) (by assumption) ?_
              rotate_left 1
              · intro w' hSw; (go_simp <;> (with_reducible rfl))
              (try simp only [Act.put, List.setIfInBounds_toArray, List.set_cons_zero, List.set_cons_succ])
              refine wpAnyH_take (i := 1) (oi := { dst := some 106, op := Go.Op.move (Go.Operand.tmp 1), type := 27, pos := "outright.go:59", after := #[], guard := none }) (v := ?_) rfl (by kernel_rfl) (by kernel_rfl) (by kernel_rfl) (fun _ _ _ h => h) (Or.inl ⟨by rfl, ?_⟩) (by assumption) ?_
              rotate_left 1
              · intro w' hSw; (go_simp <;> (with_reducible rfl))
              (try simp only [Act.put, List.setIfInBounds_toArray, List.set_cons_zero, List.set_cons_succ])
              refine wpAnyH_take (i := 2) (oi := { dst := some 107, op := Go.Op.move (Go.Operand.tmp 16), type := 3, pos := "outright.go:59", after := #[], guard := none }) (v := ?_) rfl (by kernel_rfl) (by kernel_rfl) (by kernel_rfl) (fun _ _ _ h => h) (Or.inl ⟨by rfl, ?_⟩) (by assumption) ?_
              rotate_left 1
              · intro w' hSw; (go_simp <;> (with_reducible rfl))
              (try simp only [Act.put, List.setIfInBounds_toArray, List.set_cons_zero, List.set_cons_succ])
              refine wpAnyH_take (i := 3) (oi := { dst := some 108, op := Go.Op.indexAddr 27 (Go.Operand.tmp 106) (Go.Operand.tmp 107), type := 0, pos := "outright.go:59", after := #[{ on := 1, ground := Go.Ground.data }, { on := 2, ground := Go.Ground.data }], guard := none }) (v := ?_) rfl (by kernel_rfl) (by kernel_rfl) (by kernel_rfl) (fun _ _ _ h => h) (Or.inl ⟨by rfl, ?_⟩) (by assumption) ?_
              rotate_left 1
              · intro w' hSw; (go_simp <;> (with_reducible rfl))
              (try simp only [Act.put, List.setIfInBounds_toArray, List.set_cons_zero, List.set_cons_succ])
              refine wpAnyH_take (i := 4) (oi := { dst := some 109, op := Go.Op.fieldAddr 40 (Go.Operand.tmp 108) 0, type := 0, pos := "outright.go:59", after := #[{ on := 3, ground := Go.Ground.data }], guard := none }) (v := ?_) rfl (by kernel_rfl) (by kernel_rfl) (by kernel_rfl) (fun _ _ _ h => h) (Or.inl ⟨by rfl, ?_⟩) (by assumption) ?_
              rotate_left 1
              · intro w' hSw; (go_simp <;> (with_reducible rfl))
              (try simp only [Act.put, List.setIfInBounds_toArray, List.set_cons_zero, List.set_cons_succ])
              refine wpAnyH_take (i := 5) (oi := { dst := some 110, op := Go.Op.load 5 (Go.Operand.tmp 109), type := 5, pos := "outright.go:59", after := #[{ on := 4, ground := Go.Ground.data }], guard := none }) (v := ?_) rfl (by kernel_rfl) (by kernel_rfl) (by kernel_rfl) (fun _ _ _ h => h) (Or.inl ⟨by rfl, ?_⟩) (by assumption) ?_
              rotate_left 1
              · intro w' hSw; (go_simp <;> (with_reducible rfl))
              (try simp only [Act.put, List.setIfInBounds_toArray, List.set_cons_zero, List.set_cons_succ])
              refine wpAnyH_take (i := 6) (oi := { dst := some 111, op := Go.Op.move (Go.Operand.tmp 1), type := 27, pos := "outright.go:59", after := #[], guard := none }) (v := ?_) rfl (by kernel_rfl) (by kernel_rfl) (by kernel_rfl) (fun _ _ _ h => h) (Or.inl ⟨by rfl, ?_⟩) (by assumption) ?_
              rotate_left 1
              · intro w' hSw; (go_simp <;> (with_reducible rfl))
              (try simp only [Act.put, List.setIfInBounds_toArray, List.set_cons_zero, List.set_cons_succ])
              refine wpAnyH_take (i := 7) (oi := { dst := some 112, op := Go.Op.move (Go.Operand.tmp 16), type := 3, pos := "outright.go:59", after := #[], guard := none }) (v := ?_) rfl (by kernel_rfl) (by kernel_rfl) (by kernel_rfl) (fun _ _ _ h => h) (Or.inl ⟨by rfl, ?_⟩) (by assumption) ?_
              rotate_left 1
              · intro w' hSw; (go_simp <;> (with_reducible rfl))
              (try simp only [Act.put, List.setIfInBounds_toArray, List.set_cons_zero, List.set_cons_succ])
              refine wpAnyH_take (i := 8) (oi := { dst := some 113, op := Go.Op.indexAddr 27 (Go.Operand.tmp 111) (Go.Operand.tmp 112), type := 0, pos := "outright.go:59", after := #[{ on := 6, ground := Go.Ground.data }, { on := 7, ground := Go.Ground.data }], guard := none }) (v := ?_) rfl (by kernel_rfl) (by kernel_rfl) (by kernel_rfl) (fun _ _ _ h => h) (Or.inl ⟨by rfl, ?_⟩) (by assumption) ?_
              rotate_left 1
              · intro w' hSw; (go_simp <;> (with_reducible rfl))
              (try simp only [Act.put, List.setIfInBounds_toArray, List.set_cons_zero, List.set_cons_succ])
              refine wpAnyH_take (i := 9) (oi := { dst := some 114, op := Go.Op.fieldAddr 40 (Go.Operand.tmp 113) 1, type := 0, pos := "outright.go:59", after := #[{ on := 8, ground := Go.Ground.data }], guard := none }) (v := ?_) rfl (by kernel_rfl) (by kernel_rfl) (by kernel_rfl) (fun _ _ _ h => h) (Or.inl ⟨by rfl, ?_⟩) (by assumption) ?_
              rotate_left 1
              · intro w' hSw; (go_simp <;> (with_reducible rfl))
              (try simp only [Act.put, List.setIfInBounds_toArray, List.set_cons_zero, List.set_cons_succ])
              refine wpAnyH_take (i := 10) (oi := { dst := some 115, op := Go.Op.load 23 (Go.Operand.tmp 114), type := 23, pos := "outright.go:59", after := #[{ on := 9, ground := Go.Ground.data }], guard := none }) (v := ?_) rfl (by kernel_rfl) (by kernel_rfl) (by kernel_rfl) (fun _ _ _ h => h) (Or.inl ⟨by rfl, ?_⟩) (by assumption) ?_
              rotate_left 1
              · intro w' hSw; (go_simp <;> (with_reducible rfl))
              (try simp only [Act.put, List.setIfInBounds_toArray, List.set_cons_zero, List.set_cons_succ])
              refine wpAnyH_ready (rs := [11, 15]) (by kernel_rfl) (by simp) ?_
              refine AllReadyH.cons (o := { dst := some 116, op := Go.Op.call { callee := Go.Callee.value (Go.Operand.func 13), args := #[Go.Operand.tmp 105, Go.Operand.tmp 110, Go.Operand.tmp 115], argTypes := #[33, 5, 23] }, type := 41, pos := "outright.go:59", after := #[{ on := 0, ground := Go.Ground.data }, { on := 5, ground := Go.Ground.data }, { on := 10, ground := Go.Ground.data }], guard := none }) rfl (fun K hK => ?_) (AllReadyH.cons (o := { dst := some 17, op := Go.Op.alloc 40, type := 0, pos := "outright.go:59", after := #[], guard := none }) rfl (fun K hK => ?_) AllReadyH.nil)
              · skip
                go_simp
                refine (HFi.out _ HBd.out).mono ?_
                rintro e y1 ⟨rfl, hb⟩
                have HBy1 := Lib.hid (below_trans HBd.out hb)
                skip
                refine hK.out _ _ ?_ (fun hHeld => ?_)
                · exact HSI.out _ HBy1.out
                clear hK K hb
                (try simp only [Act.put, List.setIfInBounds_toArray, List.set_cons_zero, List.set_cons_succ])
                refine wpAnyH_take (i := 12) (oi := { dst := some 104, op := Go.Op.move (Go.Operand.tmp 116), type := 41, pos := "outright.go:59", after := #[{ on := 11, ground := Go.Ground.data }], guard := none }) (v := ?_) rfl (by kernel_rfl) (by kernel_rfl) (by kernel_rfl) (fun _ _ _ h => h) (Or.inl ⟨by rfl, ?_⟩) (by assumption) ?_
                rotate_left 1
                · intro w' hSw; (go_simp <;> (with_reducible rfl))
                (try simp only [Act.put, List.setIfInBounds_toArray, List.set_cons_zero, List.set_cons_succ])
                refine wpAnyH_take (i := 13) (oi := { dst := some 117, op := Go.Op.extract (Go.Operand.tmp 104) 0, type := 40, pos := "outright.go:59", after := #[{ on := 12, ground := Go.Ground.data }], guard := none }) (v := ?_) rfl (by kernel_rfl) (by kernel_rfl) (by kernel_rfl) (fun _ _ _ h => h) (Or.inl ⟨by rfl, ?_⟩) (by assumption) ?_
                rotate_left 1
                · intro w' hSw; (go_simp <;> (with_reducible rfl))
                (try simp only [Act.put, List.setIfInBounds_toArray, List.set_cons_zero, List.set_cons_succ])
                refine wpAnyH_take (i := 14) (oi := { dst := some 118, op := Go.Op.extract (Go.Operand.tmp 104) 1, type := 4, pos := "outright.go:59", after := #[{ on := 12, ground := Go.Ground.data }, { on := 16, ground := Go.Ground.gcOnly Go.Departure.lateStores }], guard := none }) (v := ?_) rfl (by kernel_rfl) (by kernel_rfl) (by kernel_rfl) (fun _ _ _ h => h) (Or.inl ⟨by rfl, ?_⟩) (by assumption) ?_
                rotate_left 1
                · intro w' hSw; (go_simp <;> (with_reducible rfl))
                (try simp only [Act.put, List.setIfInBounds_toArray, List.set_cons_zero, List.set_cons_succ])
                refine wpAnyH_ready (rs := [15]) (by kernel_rfl) (by simp) ?_
                refine AllReadyH.cons (o := { dst := some 17, op := Go.Op.alloc 40, type := 0, pos := "outright.go:59", after := #[], guard := none }) rfl (fun K hK => ?_) AllReadyH.nil
                obtain ⟨q, eq⟩ : ∃ q, y1.heap.size = q := ⟨_, rfl⟩
                obtain ⟨y2, ew⟩ : ∃ v, World.alloc y1 (.cells #[.int .u8 0, .int .u16 0, .int .u32 0, .int .u16 0] 40) = v := ⟨_, rfl⟩
                have hba : Below y1.heap.size y1 y2 := by rw [← ew]; exact (Below.refl _ _).alloc (Nat.le_refl _) _
                have Hq := Lib.hid (show y2.heap[q]? = some (.cells #[.int .u8 0, .int .u16 0, .int .u32 0, .int .u16 0] 40 (0, 0)) by rw [← ew, ← eq]; exact heap_alloc_new y1 _)
                have HBy2 := Lib.hid (below_trans HBy1.out hba)
                have Hqs := Lib.hid (show wr.heap.size ≤ q by rw [← eq]; exact (HBy1.out).size)
                go_simp
                try rw [ew]
                try rw [eq]
                refine hK.out _ _ ?_ (fun hHeld => ?_)
                · exact HSI.out _ HBy2.out
                clear hK K hba ew eq
                (try simp only [Act.put, List.setIfInBounds_toArray, List.set_cons_zero, List.set_cons_succ])
                refine wpAnyH_ready (rs := [16]) (by kernel_rfl) (by simp) ?_
                refine AllReadyH.cons (o := { dst := none, op := Go.Op.store 40 (Go.Operand.tmp 17) (Go.Operand.tmp 117), type := 0, pos := "outright.go:59", after := #[{ on := 15, ground := Go.Ground.data }, { on := 13, ground := Go.Ground.data }, { on := 11, ground := Go.Ground.chain }, { on := 0, ground := Go.Ground.phase }, { on := 1, ground := Go.Ground.phase }, { on := 2, ground := Go.Ground.phase }, { on := 3, ground := Go.Ground.phase }, { on := 4, ground := Go.Ground.phase }, { on := 5, ground := Go.Ground.phase }, { on := 6, ground := Go.Ground.phase }, { on := 7, ground := Go.Ground.phase }, { on := 8, ground := Go.Ground.phase }, { on := 9, ground := Go.Ground.phase }, { on := 10, ground := Go.Ground.phase }, { on := 11, ground := Go.Ground.phase }, { on := 12, ground := Go.Ground.phase }, { on := 13, ground := Go.Ground.phase }, { on := 14, ground := Go.Ground.textOnly Go.Departure.lateStores }, { on := 15, ground := Go.Ground.phase }], guard := none }) rfl (fun K hK => ?_) AllReadyH.nil
                refine step_row rfl 40 (.tmp 17) (.tmp 117) rfl q _ rfl rfl 40 _ Hq.out (by kernel_rfl) rfl (by simp [Value.oneCell']) ?_
                have HBr := Lib.hid (below_setRow HBy2.out Hqs.out #[.int .u8 fa.pr, .int .u16 fa.po, .int .u32 fa.ad, .int .u16 fa.tp])
                have Hq := Lib.hid (setRow_heap _ _ _ #[.int .u8 fa.pr, .int .u16 fa.po, .int .u32 fa.ad, .int .u16 fa.tp] _ _ Hq.out)
                refine hK.out _ _ ?_ (fun hHeld => ?_)
                · exact HSI.out _ HBr.out
                clear hK K
                (try simp only [Act.put, List.setIfInBounds_toArray, List.set_cons_zero, List.set_cons_succ])
                refine wpAnyH_take (i := 17) (oi := { dst := some 18, op := Go.Op.assign (Go.Operand.tmp 118), type := 4, pos := "outright.go:59", after := #[{ on := 14, ground := Go.Ground.data }, { on := 16, ground := Go.Ground.chain }, { on := 0, ground := Go.Ground.phase }, { on := 1, ground := Go.Ground.phase }, { on := 2, ground := Go.Ground.phase }, { on := 3, ground := Go.Ground.phase }, { on := 4, ground := Go.Ground.phase }, { on := 5, ground := Go.Ground.phase }, { on := 6, ground := Go.Ground.phase }, { on := 7, ground := Go.Ground.phase }, { on := 8, ground := Go.Ground.phase }, { on := 9, ground := Go.Ground.phase }, { on := 10, ground := Go.Ground.phase }, { on := 11, ground := Go.Ground.phase }, { on := 12, ground := Go.Ground.phase }, { on := 13, ground := Go.Ground.phase }, { on := 14, ground := Go.Ground.phase }, { on := 15, ground := Go.Ground.phase }, { on := 16, ground := Go.Ground.phase }], guard := none }) (v := ?_) rfl (by kernel_rfl) (by kernel_rfl) (by kernel_rfl) (fun _ _ _ h => h) (Or.inl ⟨by rfl, ?_⟩) (by assumption) ?_
                rotate_left 1
                · intro w' hSw; (go_simp <;> (with_reducible rfl))
                (try simp only [Act.put, List.setIfInBounds_toArray, List.set_cons_zero, List.set_cons_succ])
                refine wpAnyH_done (by kernel_rfl) ?_ _
                refine NoPanic.normal ?_
                go_wp2_with fail
                go_meet
                exact ⟨q, rfl, rfl, Hq, HBr⟩
              · skip
                obtain ⟨q, eq⟩ : ∃ q, wd.heap.size = q := ⟨_, rfl⟩
                obtain ⟨y1, ew⟩ : ∃ v, World.alloc wd (.cells #[.int .u8 0, .int .u16 0, .int .u32 0, .int .u16 0] 40) = v := ⟨_, rfl⟩
                have hba : Below wd.heap.size wd y1 := by rw [← ew]; exact (Below.refl _ _).alloc (Nat.le_refl _) _
                have Hq := Lib.hid (show y1.heap[q]? = some (.cells #[.int .u8 0, .int .u16 0, .int .u32 0, .int .u16 0] 40 (0, 0)) by rw [← ew, ← eq]; exact heap_alloc_new wd _)
                have HBy1 := Lib.hid (below_trans HBd.out hba)
                have Hqs := Lib.hid (show wr.heap.size ≤ q by rw [← eq]; exact (HBd.out).size)
                go_simp
                try rw [ew]
                try rw [eq]
                refine hK.out _ _ ?_ (fun hHeld => ?_)
                · exact HSI.out _ HBy1.out
                clear hK K hba ew eq
                (try simp only [Act.put, List.setIfInBounds_toArray, List.set_cons_zero, List.set_cons_succ])
                refine wpAnyH_ready (rs := [11]) (by kernel_rfl) (by simp) ?_
                refine AllReadyH.cons (o := { dst := some 116, op := Go.Op.call { callee := Go.Callee.value (Go.Operand.func 13), args := #[Go.Operand.tmp 105, Go.Operand.tmp 110, Go.Operand.tmp 115], argTypes := #[33, 5, 23] }, type := 41, pos := "outright.go:59", after := #[{ on := 0, ground := Go.Ground.data }, { on := 5, ground := Go.Ground.data }, { on := 10, ground := Go.Ground.data }], guard := none }) rfl (fun K hK => ?_) AllReadyH.nil
                go_simp
                refine (HFi.out _ HBy1.out).mono ?_
                rintro e y2 ⟨rfl, hb⟩
                have HBy2 := Lib.hid (below_trans HBy1.out hb)
                have Hq := Lib.hid (blk_on Hq.out hb)
                refine hK.out _ _ ?_ (fun hHeld => ?_)
                · exact HSI.out _ HBy2.out
                clear hK K hb
                (try simp only [Act.put, List.setIfInBounds_toArray, List.set_cons_zero, List.set_cons_succ])
                refine wpAnyH_take (i := 12) (oi := { dst := some 104, op := Go.Op.move (Go.Operand.tmp 116), type := 41, pos := "outright.go:59", after := #[{ on := 11, ground := Go.Ground.data }], guard := none }) (v := ?_) rfl (by kernel_rfl) (by kernel_rfl) (by kernel_rfl) (fun _ _ _ h => h) (Or.inl ⟨by rfl, ?_⟩) (by assumption) ?_
                rotate_left 1
                · intro w' hSw; (go_simp <;> (with_reducible rfl))
                (try simp only [Act.put, List.setIfInBounds_toArray, List.set_cons_zero, List.set_cons_succ])
                refine wpAnyH_take (i := 13) (oi := { dst := some 117, op := Go.Op.extract (Go.Operand.tmp 104) 0, type := 40, pos := "outright.go:59", after := #[{ on := 12, ground := Go.Ground.data }], guard := none }) (v := ?_) rfl (by kernel_rfl) (by kernel_rfl) (by kernel_rfl) (fun _ _ _ h => h) (Or.inl ⟨by rfl, ?_⟩) (by assumption) ?_
                rotate_left 1
                · intro w' hSw; (go_simp <;> (with_reducible rfl))
                (try simp only [Act.put, List.setIfInBounds_toArray, List.set_cons_zero, List.set_cons_succ])
                refine wpAnyH_take (i := 14) (oi := { dst := some 118, op := Go.Op.extract (Go.Operand.tmp 104) 1, type := 4, pos := "outright.go:59", after := #[{ on := 12, ground := Go.Ground.data }, { on := 16, ground := Go.Ground.gcOnly Go.Departure.lateStores }], guard := none }) (v := ?_) rfl (by kernel_rfl) (by kernel_rfl) (by kernel_rfl) (fun _ _ _ h => h) (Or.inl ⟨by rfl, ?_⟩) (by assumption) ?_
                rotate_left 1
                · intro w' hSw; (go_simp <;> (with_reducible rfl))
                (try simp only [Act.put, List.setIfInBounds_toArray, List.set_cons_zero, List.set_cons_succ])
                refine wpAnyH_ready (rs := [16]) (by kernel_rfl) (by simp) ?_
                refine AllReadyH.cons (o := { dst := none, op := Go.Op.store 40 (Go.Operand.tmp 17) (Go.Operand.tmp 117), type := 0, pos := "outright.go:59", after := #[{ on := 15, ground := Go.Ground.data }, { on := 13, ground := Go.Ground.data }, { on := 11, ground := Go.Ground.chain }, { on := 0, ground := Go.Ground.phase }, { on := 1, ground := Go.Ground.phase }, { on := 2, ground := Go.Ground.phase }, { on := 3, ground := Go.Ground.phase }, { on := 4, ground := Go.Ground.phase }, { on := 5, ground := Go.Ground.phase }, { on := 6, ground := Go.Ground.phase }, { on := 7, ground := Go.Ground.phase }, { on := 8, ground := Go.Ground.phase }, { on := 9, ground := Go.Ground.phase }, { on := 10, ground := Go.Ground.phase }, { on := 11, ground := Go.Ground.phase }, { on := 12, ground := Go.Ground.phase }, { on := 13, ground := Go.Ground.phase }, { on := 14, ground := Go.Ground.textOnly Go.Departure.lateStores }, { on := 15, ground := Go.Ground.phase }], guard := none }) rfl (fun K hK => ?_) AllReadyH.nil
                refine step_row rfl 40 (.tmp 17) (.tmp 117) rfl q _ rfl rfl 40 _ Hq.out (by kernel_rfl) rfl (by simp [Value.oneCell']) ?_
                have HBr := Lib.hid (below_setRow HBy2.out Hqs.out #[.int .u8 fa.pr, .int .u16 fa.po, .int .u32 fa.ad, .int .u16 fa.tp])
                have Hq := Lib.hid (setRow_heap _ _ _ #[.int .u8 fa.pr, .int .u16 fa.po, .int .u32 fa.ad, .int .u16 fa.tp] _ _ Hq.out)
                refine hK.out _ _ ?_ (fun hHeld => ?_)
                · exact HSI.out _ HBr.out
                clear hK K
                (try simp only [Act.put, List.setIfInBounds_toArray, List.set_cons_zero, List.set_cons_succ])
                refine wpAnyH_take (i := 17) (oi := { dst := some 18, op := Go.Op.assign (Go.Operand.tmp 118), type := 4, pos := "outright.go:59", after := #[{ on := 14, ground := Go.Ground.data }, { on := 16, ground := Go.Ground.chain }, { on := 0, ground := Go.Ground.phase }, { on := 1, ground := Go.Ground.phase }, { on := 2, ground := Go.Ground.phase }, { on := 3, ground := Go.Ground.phase }, { on := 4, ground := Go.Ground.phase }, { on := 5, ground := Go.Ground.phase }, { on := 6, ground := Go.Ground.phase }, { on := 7, ground := Go.Ground.phase }, { on := 8, ground := Go.Ground.phase }, { on := 9, ground := Go.Ground.phase }, { on := 10, ground := Go.Ground.phase }, { on := 11, ground := Go.Ground.phase }, { on := 12, ground := Go.Ground.phase }, { on := 13, ground := Go.Ground.phase }, { on := 14, ground := Go.Ground.phase }, { on := 15, ground := Go.Ground.phase }, { on := 16, ground := Go.Ground.phase }], guard := none }) (v := ?_) rfl (by kernel_rfl) (by kernel_rfl) (by kernel_rfl) (fun _ _ _ h => h) (Or.inl ⟨by rfl, ?_⟩) (by assumption) ?_
                rotate_left 1
                · intro w' hSw; (go_simp <;> (with_reducible rfl))
                (try simp only [Act.put, List.setIfInBounds_toArray, List.set_cons_zero, List.set_cons_succ])
                refine wpAnyH_done (by kernel_rfl) ?_ _
                refine NoPanic.normal ?_
                go_wp2_with fail
                go_meet
                exact ⟨q, rfl, rfl, Hq, HBr⟩
            case rest =>
            obtain ⟨q1, rfl, rfl, Hq1, HBq1⟩ := hcut
            obtain ⟨wp, ewp⟩ : ∃ v, v = wc := ⟨_, rfl⟩
            subst ewp
            have HSW := Lib.hid (show ∀ W, Below wp.heap.size wp W → FwAt W g2 pp2 f2 from fun W hW => HSW.out W (below_trans HBq1.out hW))
            have HSI := Lib.hid (show ∀ W, Below wp.heap.size wp W → W.cell? ⟨g2, pp2, none⟩ = some (.int .u8 f2.pr) ∧ W.cell? ⟨g2, pp2 + 1, none⟩ = some (.int .u16 f2.po) from fun W hW => ⟨(HSW.out W hW).c0, (HSW.out W hW).c1⟩)
            have HFi := Lib.hid (show ∀ W, Below wp.heap.size wp W → Calls Try.prog 13 #[.pointer (some ⟨gb, 0, none⟩), .int .u8 f2.pr, .int .u16 f2.po] W (FwTells (.tuple #[.agg #[.int .u8 f2.pr, .int .u16 f2.po, .int .u32 f2.ad, .int .u16 f2.tp], .bool true]) W) from fun W hW => find_at Sb gb _ f2.pr f2.po W (HL.out _ (below_trans hB.out (below_trans HBq1.out hW))).2.1 f2 true (by rw [HFT.out]; rfl) (by rw [HFT.out]; rfl))
            go_upto_region 16 with (fail)
            go_cut [19, 20] (fun v17 v18 wx => ∃ q, v17 = .pointer (some ⟨q, 0, none⟩) ∧ v18 = .bool true ∧ Hid (wx.heap[q]? = some (.cells #[.int .u8 f2.pr, .int .u16 f2.po, .int .u32 f2.ad, .int .u16 f2.tp] 40 (0, 0))) ∧ Hid (Below wp.heap.size wp wx))
            case first =>
              refine wp_region_noPanic ?_
              refine wp_region_held_drew (S := fun W => W.cell? ⟨g2, pp2, none⟩ = some (.int .u8 f2.pr) ∧ W.cell? ⟨g2, pp2 + 1, none⟩ = some (.int .u16 f2.po)) (by kernel_rfl) (HSI.out _ (Below.refl _ _).drew) (fun hHeld => ?_)
              obtain ⟨wd, ewd⟩ : ∃ wd, wp.drew = wd := ⟨_, rfl⟩
              have HBd := Lib.hid (show Below wp.heap.size wp wd by rw [← ewd]; exact (Below.refl _ _).drew)
              rw [ewd] at hHeld ⊢
              clear ewd
              refine wpAnyH_take (i := 0) (oi := { dst := some 120, op := Go.Op.move (Go.Operand.tmp 12), type := 33, pos := "outright.go:60", after := #[], guard := none }) (v := ?_) rfl (by kernel_rfl) (by kernel_rfl) (by kernel_rfl) (fun _ _ _ h => h) (Or.inl ⟨by rfl, ?_⟩) (by assumption) ?_
              rotate_left 1
              · intro w' hSw; (go_simp <;> (with_reducible rfl))
              (try simp only [Act.put, List.setIfInBounds_toArray, List.set_cons_zero, List.set_cons_succ])
              refine wpAnyH_take (i := 1) (oi := { dst := some 121, op := Go.Op.move (Go.Operand.tmp 1), type := 27, pos := "outright.go:60", after := #[], guard := none }) (v := ?_) rfl (by kernel_rfl) (by kernel_rfl) (by kernel_rfl) (fun _ _ _ h => h) (Or.inl ⟨by rfl, ?_⟩) (by assumption) ?_
              rotate_left 1
              · intro w' hSw; (go_simp <;> (with_reducible rfl))
              (try simp only [Act.put, List.setIfInBounds_toArray, List.set_cons_zero, List.set_cons_succ])
              refine wpAnyH_take (i := 2) (oi := { dst := some 122, op := Go.Op.move (Go.Operand.tmp 16), type := 3, pos := "outright.go:60", after := #[], guard := none }) (v := ?_) rfl (by kernel_rfl) (by kernel_rfl) (by kernel_rfl) (fun _ _ _ h => h) (Or.inl ⟨by rfl, ?_⟩) (by assumption) ?_
              rotate_left 1
              · intro w' hSw; (go_simp <;> (with_reducible rfl))
              (try simp only [Act.put, List.setIfInBounds_toArray, List.set_cons_zero, List.set_cons_succ])
              refine wpAnyH_take (i := 3) (oi := { dst := some 123, op := Go.Op.indexAddr 27 (Go.Operand.tmp 121) (Go.Operand.tmp 122), type := 0, pos := "outright.go:60", after := #[{ on := 1, ground := Go.Ground.data }, { on := 2, ground := Go.Ground.data }], guard := none }) (v := ?_) rfl (by kernel_rfl) (by kernel_rfl) (by kernel_rfl) (fun _ _ _ h => h) (Or.inl ⟨by rfl, ?_⟩) (by assumption) ?_
              rotate_left 1
              · intro w' hSw; (go_simp <;> (with_reducible rfl))
              (try simp only [Act.put, List.setIfInBounds_toArray, List.set_cons_zero, List.set_cons_succ])
              refine wpAnyH_take (i := 4) (oi := { dst := some 124, op := Go.Op.fieldAddr 40 (Go.Operand.tmp 123) 0, type := 0, pos := "outright.go:60", after := #[{ on := 3, ground := Go.Ground.data }], guard := none }) (v := ?_) rfl (by kernel_rfl) (by kernel_rfl) (by kernel_rfl) (fun _ _ _ h => h) (Or.inl ⟨by rfl, ?_⟩) (by assumption) ?_
              rotate_left 1
              · intro w' hSw; (go_simp <;> (with_reducible rfl))
              (try simp only [Act.put, List.setIfInBounds_toArray, List.set_cons_zero, List.set_cons_succ])
              refine wpAnyH_take (i := 5) (oi := { dst := some 125, op := Go.Op.load 5 (Go.Operand.tmp 124), type := 5, pos := "outright.go:60", after := #[{ on := 4, ground := Go.Ground.data }], guard := none }) (v := ?_) rfl (by kernel_rfl) (by kernel_rfl) (by kernel_rfl) (fun _ _ _ h => h) (Or.inl ⟨by rfl, ?_⟩) (by assumption) ?_
              rotate_left 1
              · intro w' hSw; (go_simp <;> (with_reducible rfl))
              (try simp only [Act.put, List.setIfInBounds_toArray, List.set_cons_zero, List.set_cons_succ])
              refine wpAnyH_take (i := 6) (oi := { dst := some 126, op := Go.Op.move (Go.Operand.tmp 1), type := 27, pos := "outright.go:60", after := #[], guard := none }) (v := ?_) rfl (by kernel_rfl) (by kernel_rfl) (by kernel_rfl) (fun _ _ _ h => h) (Or.inl ⟨by rfl, ?_⟩) (by assumption) ?_
              rotate_left 1
              · intro w' hSw; (go_simp <;> (with_reducible rfl))
              (try simp only [Act.put, List.setIfInBounds_toArray, List.set_cons_zero, List.set_cons_succ])
              refine wpAnyH_take (i := 7) (oi := { dst := some 127, op := Go.Op.move (Go.Operand.tmp 16), type := 3, pos := "outright.go:60", after := #[], guard := none }) (v := ?_) rfl (by kernel_rfl) (by kernel_rfl) (by kernel_rfl) (fun _ _ _ h => h) (Or.inl ⟨by rfl, ?_⟩) (by assumption) ?_
              rotate_left 1
              · intro w' hSw; (go_simp <;> (with_reducible rfl))
              (try simp only [Act.put, List.setIfInBounds_toArray, List.set_cons_zero, List.set_cons_succ])
              refine wpAnyH_take (i := 8) (oi := { dst := some 128, op := Go.Op.indexAddr 27 (Go.Operand.tmp 126) (Go.Operand.tmp 127), type := 0, pos := "outright.go:60", after := #[{ on := 6, ground := Go.Ground.data }, { on := 7, ground := Go.Ground.data }], guard := none }) (v := ?_) rfl (by kernel_rfl) (by kernel_rfl) (by kernel_rfl) (fun _ _ _ h => h) (Or.inl ⟨by rfl, ?_⟩) (by assumption) ?_
              rotate_left 1
              · intro w' hSw; (go_simp <;> (with_reducible rfl))
              (try simp only [Act.put, List.setIfInBounds_toArray, List.set_cons_zero, List.set_cons_succ])
              refine wpAnyH_take (i := 9) (oi := { dst := some 129, op := Go.Op.fieldAddr 40 (Go.Operand.tmp 128) 1, type := 0, pos := "outright.go:60", after := #[{ on := 8, ground := Go.Ground.data }], guard := none }) (v := ?_) rfl (by kernel_rfl) (by kernel_rfl) (by kernel_rfl) (fun _ _ _ h => h) (Or.inl ⟨by rfl, ?_⟩) (by assumption) ?_
              rotate_left 1
              · intro w' hSw; (go_simp <;> (with_reducible rfl))
              (try simp only [Act.put, List.setIfInBounds_toArray, List.set_cons_zero, List.set_cons_succ])
              refine wpAnyH_take (i := 10) (oi := { dst := some 130, op := Go.Op.load 23 (Go.Operand.tmp 129), type := 23, pos := "outright.go:60", after := #[{ on := 9, ground := Go.Ground.data }], guard := none }) (v := ?_) rfl (by kernel_rfl) (by kernel_rfl) (by kernel_rfl) (fun _ _ _ h => h) (Or.inl ⟨by rfl, ?_⟩) (by assumption) ?_
              rotate_left 1
              · intro w' hSw; (go_simp <;> (with_reducible rfl))
              (try simp only [Act.put, List.setIfInBounds_toArray, List.set_cons_zero, List.set_cons_succ])
              refine wpAnyH_ready (rs := [11, 15]) (by kernel_rfl) (by simp) ?_
              refine AllReadyH.cons (o := { dst := some 131, op := Go.Op.call { callee := Go.Callee.value (Go.Operand.func 13), args := #[Go.Operand.tmp 120, Go.Operand.tmp 125, Go.Operand.tmp 130], argTypes := #[33, 5, 23] }, type := 41, pos := "outright.go:60", after := #[{ on := 0, ground := Go.Ground.data }, { on := 5, ground := Go.Ground.data }, { on := 10, ground := Go.Ground.data }], guard := none }) rfl (fun K hK => ?_) (AllReadyH.cons (o := { dst := some 19, op := Go.Op.alloc 40, type := 0, pos := "outright.go:60", after := #[], guard := none }) rfl (fun K hK => ?_) AllReadyH.nil)
              · skip
                go_simp
                refine (HFi.out _ HBd.out).mono ?_
                rintro e y1 ⟨rfl, hb⟩
                have HBy1 := Lib.hid (below_trans HBd.out hb)
                skip
                refine hK.out _ _ ?_ (fun hHeld => ?_)
                · exact HSI.out _ HBy1.out
                clear hK K hb
                (try simp only [Act.put, List.setIfInBounds_toArray, List.set_cons_zero, List.set_cons_succ])
                refine wpAnyH_take (i := 12) (oi := { dst := some 119, op := Go.Op.move (Go.Operand.tmp 131), type := 41, pos := "outright.go:60", after := #[{ on := 11, ground := Go.Ground.data }], guard := none }) (v := ?_) rfl (by kernel_rfl) (by kernel_rfl) (by kernel_rfl) (fun _ _ _ h => h) (Or.inl ⟨by rfl, ?_⟩) (by assumption) ?_
                rotate_left 1
                · intro w' hSw; (go_simp <;> (with_reducible rfl))
                (try simp only [Act.put, List.setIfInBounds_toArray, List.set_cons_zero, List.set_cons_succ])
                refine wpAnyH_take (i := 13) (oi := { dst := some 132, op := Go.Op.extract (Go.Operand.tmp 119) 0, type := 40, pos := "outright.go:60", after := #[{ on := 12, ground := Go.Ground.data }], guard := none }) (v := ?_) rfl (by kernel_rfl) (by kernel_rfl) (by kernel_rfl) (fun _ _ _ h => h) (Or.inl ⟨by rfl, ?_⟩) (by assumption) ?_
                rotate_left 1
                · intro w' hSw; (go_simp <;> (with_reducible rfl))
                (try simp only [Act.put, List.setIfInBounds_toArray, List.set_cons_zero, List.set_cons_succ])
                refine wpAnyH_take (i := 14) (oi := { dst := some 133, op := Go.Op.extract (Go.Operand.tmp 119) 1, type := 4, pos := "outright.go:60", after := #[{ on := 12, ground := Go.Ground.data }, { on := 16, ground := Go.Ground.gcOnly Go.Departure.lateStores }], guard := none }) (v := ?_) rfl (by kernel_rfl) (by kernel_rfl) (by kernel_rfl) (fun _ _ _ h => h) (Or.inl ⟨by rfl, ?_⟩) (by assumption) ?_
                rotate_left 1
                · intro w' hSw; (go_simp <;> (with_reducible rfl))
                (try simp only [Act.put, List.setIfInBounds_toArray, List.set_cons_zero, List.set_cons_succ])
                refine wpAnyH_ready (rs := [15]) (by kernel_rfl) (by simp) ?_
                refine AllReadyH.cons (o := { dst := some 19, op := Go.Op.alloc 40, type := 0, pos := "outright.go:60", after := #[], guard := none }) rfl (fun K hK => ?_) AllReadyH.nil
                obtain ⟨q, eq⟩ : ∃ q, y1.heap.size = q := ⟨_, rfl⟩
                obtain ⟨y2, ew⟩ : ∃ v, World.alloc y1 (.cells #[.int .u8 0, .int .u16 0, .int .u32 0, .int .u16 0] 40) = v := ⟨_, rfl⟩
                have hba : Below y1.heap.size y1 y2 := by rw [← ew]; exact (Below.refl _ _).alloc (Nat.le_refl _) _
                have Hq := Lib.hid (show y2.heap[q]? = some (.cells #[.int .u8 0, .int .u16 0, .int .u32 0, .int .u16 0] 40 (0, 0)) by rw [← ew, ← eq]; exact heap_alloc_new y1 _)
                have HBy2 := Lib.hid (below_trans HBy1.out hba)
                have Hqs := Lib.hid (show wp.heap.size ≤ q by rw [← eq]; exact (HBy1.out).size)
                go_simp
                try rw [ew]
                try rw [eq]
                refine hK.out _ _ ?_ (fun hHeld => ?_)
                · exact HSI.out _ HBy2.out
                clear hK K hba ew eq
                (try simp only [Act.put, List.setIfInBounds_toArray, List.set_cons_zero, List.set_cons_succ])
                refine wpAnyH_ready (rs := [16]) (by kernel_rfl) (by simp) ?_
                refine AllReadyH.cons (o := { dst := none, op := Go.Op.store 40 (Go.Operand.tmp 19) (Go.Operand.tmp 132), type := 0, pos := "outright.go:60", after := #[{ on := 15, ground := Go.Ground.data }, { on := 13, ground := Go.Ground.data }, { on := 11, ground := Go.Ground.chain }, { on := 0, ground := Go.Ground.phase }, { on := 1, ground := Go.Ground.phase }, { on := 2, ground := Go.Ground.phase }, { on := 3, ground := Go.Ground.phase }, { on := 4, ground := Go.Ground.phase }, { on := 5, ground := Go.Ground.phase }, { on := 6, ground := Go.Ground.phase }, { on := 7, ground := Go.Ground.phase }, { on := 8, ground := Go.Ground.phase }, { on := 9, ground := Go.Ground.phase }, { on := 10, ground := Go.Ground.phase }, { on := 11, ground := Go.Ground.phase }, { on := 12, ground := Go.Ground.phase }, { on := 13, ground := Go.Ground.phase }, { on := 14, ground := Go.Ground.textOnly Go.Departure.lateStores }, { on := 15, ground := Go.Ground.phase }], guard := none }) rfl (fun K hK => ?_) AllReadyH.nil
                refine step_row rfl 40 (.tmp 19) (.tmp 132) rfl q _ rfl rfl 40 _ Hq.out (by kernel_rfl) rfl (by simp [Value.oneCell']) ?_
                have HBr := Lib.hid (below_setRow HBy2.out Hqs.out #[.int .u8 f2.pr, .int .u16 f2.po, .int .u32 f2.ad, .int .u16 f2.tp])
                have Hq := Lib.hid (setRow_heap _ _ _ #[.int .u8 f2.pr, .int .u16 f2.po, .int .u32 f2.ad, .int .u16 f2.tp] _ _ Hq.out)
                refine hK.out _ _ ?_ (fun hHeld => ?_)
                · exact HSI.out _ HBr.out
                clear hK K
                (try simp only [Act.put, List.setIfInBounds_toArray, List.set_cons_zero, List.set_cons_succ])
                refine wpAnyH_take (i := 17) (oi := { dst := some 20, op := Go.Op.assign (Go.Operand.tmp 133), type := 4, pos := "outright.go:60", after := #[{ on := 14, ground := Go.Ground.data }, { on := 16, ground := Go.Ground.chain }, { on := 0, ground := Go.Ground.phase }, { on := 1, ground := Go.Ground.phase }, { on := 2, ground := Go.Ground.phase }, { on := 3, ground := Go.Ground.phase }, { on := 4, ground := Go.Ground.phase }, { on := 5, ground := Go.Ground.phase }, { on := 6, ground := Go.Ground.phase }, { on := 7, ground := Go.Ground.phase }, { on := 8, ground := Go.Ground.phase }, { on := 9, ground := Go.Ground.phase }, { on := 10, ground := Go.Ground.phase }, { on := 11, ground := Go.Ground.phase }, { on := 12, ground := Go.Ground.phase }, { on := 13, ground := Go.Ground.phase }, { on := 14, ground := Go.Ground.phase }, { on := 15, ground := Go.Ground.phase }, { on := 16, ground := Go.Ground.phase }], guard := none }) (v := ?_) rfl (by kernel_rfl) (by kernel_rfl) (by kernel_rfl) (fun _ _ _ h => h) (Or.inl ⟨by rfl, ?_⟩) (by assumption) ?_
                rotate_left 1
                · intro w' hSw; (go_simp <;> (with_reducible rfl))
                (try simp only [Act.put, List.setIfInBounds_toArray, List.set_cons_zero, List.set_cons_succ])
                refine wpAnyH_done (by kernel_rfl) ?_ _
                refine NoPanic.normal ?_
                go_wp2_with fail
                go_meet
                exact ⟨q, rfl, rfl, Hq, HBr⟩
              · skip
                obtain ⟨q, eq⟩ : ∃ q, wd.heap.size = q := ⟨_, rfl⟩
                obtain ⟨y1, ew⟩ : ∃ v, World.alloc wd (.cells #[.int .u8 0, .int .u16 0, .int .u32 0, .int .u16 0] 40) = v := ⟨_, rfl⟩
                have hba : Below wd.heap.size wd y1 := by rw [← ew]; exact (Below.refl _ _).alloc (Nat.le_refl _) _
                have Hq := Lib.hid (show y1.heap[q]? = some (.cells #[.int .u8 0, .int .u16 0, .int .u32 0, .int .u16 0] 40 (0, 0)) by rw [← ew, ← eq]; exact heap_alloc_new wd _)
                have HBy1 := Lib.hid (below_trans HBd.out hba)
                have Hqs := Lib.hid (show wp.heap.size ≤ q by rw [← eq]; exact (HBd.out).size)
                go_simp
                try rw [ew]
                try rw [eq]
                refine hK.out _ _ ?_ (fun hHeld => ?_)
                · exact HSI.out _ HBy1.out
                clear hK K hba ew eq
                (try simp only [Act.put, List.setIfInBounds_toArray, List.set_cons_zero, List.set_cons_succ])
                refine wpAnyH_ready (rs := [11]) (by kernel_rfl) (by simp) ?_
                refine AllReadyH.cons (o := { dst := some 131, op := Go.Op.call { callee := Go.Callee.value (Go.Operand.func 13), args := #[Go.Operand.tmp 120, Go.Operand.tmp 125, Go.Operand.tmp 130], argTypes := #[33, 5, 23] }, type := 41, pos := "outright.go:60", after := #[{ on := 0, ground := Go.Ground.data }, { on := 5, ground := Go.Ground.data }, { on := 10, ground := Go.Ground.data }], guard := none }) rfl (fun K hK => ?_) AllReadyH.nil
                go_simp
                refine (HFi.out _ HBy1.out).mono ?_
                rintro e y2 ⟨rfl, hb⟩
                have HBy2 := Lib.hid (below_trans HBy1.out hb)
                have Hq := Lib.hid (blk_on Hq.out hb)
                refine hK.out _ _ ?_ (fun hHeld => ?_)
                · exact HSI.out _ HBy2.out
                clear hK K hb
                (try simp only [Act.put, List.setIfInBounds_toArray, List.set_cons_zero, List.set_cons_succ])
                refine wpAnyH_take (i := 12) (oi := { dst := some 119, op := Go.Op.move (Go.Operand.tmp 131), type := 41, pos := "outright.go:60", after := #[{ on := 11, ground := Go.Ground.data }], guard := none }) (v := ?_) rfl (by kernel_rfl) (by kernel_rfl) (by kernel_rfl) (fun _ _ _ h => h) (Or.inl ⟨by rfl, ?_⟩) (by assumption) ?_
                rotate_left 1
                · intro w' hSw; (go_simp <;> (with_reducible rfl))
                (try simp only [Act.put, List.setIfInBounds_toArray, List.set_cons_zero, List.set_cons_succ])
                refine wpAnyH_take (i := 13) (oi := { dst := some 132, op := Go.Op.extract (Go.Operand.tmp 119) 0, type := 40, pos := "outright.go:60", after := #[{ on := 12, ground := Go.Ground.data }], guard := none }) (v := ?_) rfl (by kernel_rfl) (by kernel_rfl) (by kernel_rfl) (fun _ _ _ h => h) (Or.inl ⟨by rfl, ?_⟩) (by assumption) ?_
                rotate_left 1
                · intro w' hSw; (go_simp <;> (with_reducible rfl))
                (try simp only [Act.put, List.setIfInBounds_toArray, List.set_cons_zero, List.set_cons_succ])
                refine wpAnyH_take (i := 14) (oi := { dst := some 133, op := Go.Op.extract (Go.Operand.tmp 119) 1, type := 4, pos := "outright.go:60", after := #[{ on := 12, ground := Go.Ground.data }, { on := 16, ground := Go.Ground.gcOnly Go.Departure.lateStores }], guard := none }) (v := ?_) rfl (by kernel_rfl) (by kernel_rfl) (by kernel_rfl) (fun _ _ _ h => h) (Or.inl ⟨by rfl, ?_⟩) (by assumption) ?_
                rotate_left 1
                · intro w' hSw; (go_simp <;> (with_reducible rfl))
                (try simp only [Act.put, List.setIfInBounds_toArray, List.set_cons_zero, List.set_cons_succ])
                refine wpAnyH_ready (rs := [16]) (by kernel_rfl) (by simp) ?_
                refine AllReadyH.cons (o := { dst := none, op := Go.Op.store 40 (Go.Operand.tmp 19) (Go.Operand.tmp 132), type := 0, pos := "outright.go:60", after := #[{ on := 15, ground := Go.Ground.data }, { on := 13, ground := Go.Ground.data }, { on := 11, ground := Go.Ground.chain }, { on := 0, ground := Go.Ground.phase }, { on := 1, ground := Go.Ground.phase }, { on := 2, ground := Go.Ground.phase }, { on := 3, ground := Go.Ground.phase }, { on := 4, ground := Go.Ground.phase }, { on := 5, ground := Go.Ground.phase }, { on := 6, ground := Go.Ground.phase }, { on := 7, ground := Go.Ground.phase }, { on := 8, ground := Go.Ground.phase }, { on := 9, ground := Go.Ground.phase }, { on := 10, ground := Go.Ground.phase }, { on := 11, ground := Go.Ground.phase }, { on := 12, ground := Go.Ground.phase }, { on := 13, ground := Go.Ground.phase }, { on := 14, ground := Go.Ground.textOnly Go.Departure.lateStores }, { on := 15, ground := Go.Ground.phase }], guard := none }) rfl (fun K hK => ?_) AllReadyH.nil
                refine step_row rfl 40 (.tmp 19) (.tmp 132) rfl q _ rfl rfl 40 _ Hq.out (by kernel_rfl) rfl (by simp [Value.oneCell']) ?_
                have HBr := Lib.hid (below_setRow HBy2.out Hqs.out #[.int .u8 f2.pr, .int .u16 f2.po, .int .u32 f2.ad, .int .u16 f2.tp])
                have Hq := Lib.hid (setRow_heap _ _ _ #[.int .u8 f2.pr, .int .u16 f2.po, .int .u32 f2.ad, .int .u16 f2.tp] _ _ Hq.out)
                refine hK.out _ _ ?_ (fun hHeld => ?_)
                · exact HSI.out _ HBr.out
                clear hK K
                (try simp only [Act.put, List.setIfInBounds_toArray, List.set_cons_zero, List.set_cons_succ])
                refine wpAnyH_take (i := 17) (oi := { dst := some 20, op := Go.Op.assign (Go.Operand.tmp 133), type := 4, pos := "outright.go:60", after := #[{ on := 14, ground := Go.Ground.data }, { on := 16, ground := Go.Ground.chain }, { on := 0, ground := Go.Ground.phase }, { on := 1, ground := Go.Ground.phase }, { on := 2, ground := Go.Ground.phase }, { on := 3, ground := Go.Ground.phase }, { on := 4, ground := Go.Ground.phase }, { on := 5, ground := Go.Ground.phase }, { on := 6, ground := Go.Ground.phase }, { on := 7, ground := Go.Ground.phase }, { on := 8, ground := Go.Ground.phase }, { on := 9, ground := Go.Ground.phase }, { on := 10, ground := Go.Ground.phase }, { on := 11, ground := Go.Ground.phase }, { on := 12, ground := Go.Ground.phase }, { on := 13, ground := Go.Ground.phase }, { on := 14, ground := Go.Ground.phase }, { on := 15, ground := Go.Ground.phase }, { on := 16, ground := Go.Ground.phase }], guard := none }) (v := ?_) rfl (by kernel_rfl) (by kernel_rfl) (by kernel_rfl) (fun _ _ _ h => h) (Or.inl ⟨by rfl, ?_⟩) (by assumption) ?_
                rotate_left 1
                · intro w' hSw; (go_simp <;> (with_reducible rfl))
                (try simp only [Act.put, List.setIfInBounds_toArray, List.set_cons_zero, List.set_cons_succ])
                refine wpAnyH_done (by kernel_rfl) ?_ _
                refine NoPanic.normal ?_
                go_wp2_with fail
                go_meet
                exact ⟨q, rfl, rfl, Hq, HBr⟩
            case rest =>
            obtain ⟨q2, rfl, rfl, Hq2, HBq2⟩ := hcut
            obtain ⟨wt, ewt⟩ : ∃ v, v = wc := ⟨_, rfl⟩
            subst ewt
            have hfs := fw_neq f2 f2
            rw [show (!decide (f2 = f2)) = false by simp] at hfs
            obtain ⟨a0, a1, a2, a3⟩ := cells44 (blk_on Hq1.out HBq2.out)
            obtain ⟨b0, b1, b2, b3⟩ := cells44 Hq2.out
            obtain ⟨d0, d1, d2, d3⟩ := HSW.out _ HBq2.out
            have HBt := Lib.hid (below_trans hB.out (below_trans HBq1.out HBq2.out))
            clear HSI HSW HFi Hq1 Hq2 HBq1 HBq2
            go_upto_region 17 with (fail)
            go_cut [161] (fun v wx => v = .bool false ∧ Hid (Below wt.heap.size wt wx))
            case first =>
              by_cases hij : i = j
              · have bij : ((i : Int) != (j : Int)) = false := by simp [hij]
                have h1 := HFL.out.2 hij
                obtain rfl : ba = false := by rw [← Hba.out, h1]; rfl
                clear h1 hij HFL Hfa Hba
                go_wp2_with fail
                go_quiet (fail)
                go_wp2_with fail
                go_meet
                exact ⟨rfl, Lib.hid (belowQ (Below.refl _ _) _)⟩
              · have bij : ((i : Int) != (j : Int)) = true := by simp; omega
                have h1 := HFL.out.1 hij
                obtain rfl : ba = true := by rw [← Hba.out, h1]; rfl
                obtain rfl : fa = f2 := by rw [← Hfa.out, h1]; rfl
                clear h1 hij HFL Hfa Hba
                go_wp2_with fail
                go_quiet (fail)
                go_wp2_with fail
                go_meet
                exact ⟨rfl, Lib.hid (belowQ (Below.refl _ _) _)⟩
            case rest =>
              obtain ⟨rfl, HBx⟩ := hcut
              clear a0 a1 a2 a3 b0 b1 b2 b3 d0 d1 d2 d3 hfs hidx i0 i1
              go_wp2_with fail
              go_roundg (gk - 1)
              case measure => have := hgk.out; have := Hin.out; omega
              case rel => exact ⟨i + 1, by have := hgk.out; have := Hin.out; show gk - 1 + (i + 1) = _; omega, by have := Hin.out; omega, by go_num, Lib.hid (below_trans HBt.out HBx.out)⟩
          · obtain rfl : m = i := by omega
            obtain ⟨m1, em1⟩ : ∃ q, q = m - 1 := ⟨_, rfl⟩
            have hw1 : wrap64 ((m : Int) - 1) = (m1 : Int) := by rw [IntWalk.wrap64_in _ (by have := Hm60.out; omega)]; have := Hjm.out; omega
            have hw2 : IntKind.i64.wrap ((m : Int) - 1) = (m1 : Int) := by rw [IntKind.wrap_i64]; have := Hm60.out; have := Hjm.out; omega
            have Ha1 := Lib.hid (show (fwAll (M.take j ++ M.drop (j + 1))).length = m1 by rw [(fwAll_perm _).length_eq, em1]; exact Hl2.out)
            have Ha2 := Lib.hid (show (fwAll M).length = m by rw [(fwAll_perm _).length_eq]; exact HM.out)
            have HBr := Lib.hid (below_trans (below_trans Hb0.out HBq.out) hB.out)
            have HA1 := Lib.hid (all_at Sb gb _ wr (HL.out _ hB.out).2.1 (by rw [Hl4.out]; have := Hm60.out; omega))
            rw [(may_turned HMay.out j).2] at HA1
            clear em1
            go_wp2_with fail
            refine HA1.out.mono ?_
            rintro e x1 ⟨A5, c5, rfl, hs5, hown5, hb5⟩
            rw [Ha2.out] at hs5 hown5 ⊢
            have HS5 := Lib.hid hs5
            have HBx1 := Lib.hid (below_trans hB.out hb5)
            have HA2 := Lib.hid (all_at Sw gw _ x1 (HL.out _ HBx1.out).2.2.1 (by rw [HM.out]; have := Hm60.out; omega))
            clear hs5 hown5 hb5 HA1
            go_wp2_with fail
            refine HA2.out.mono ?_
            rintro e x2 ⟨A6, c6, rfl, hs6, hown6, hb6⟩
            rw [Ha2.out] at hs6 hown6 ⊢
            have HBx2 := Lib.hid (below_trans HBx1.out hb6)
            have HSm := Lib.hid (rsame14_any A5 A6 m m c5 c6 (fwAll M) (fwAll M) x2 (RdW.of (HS5.out.but (But.of (S := fun _ => False) hb6) (fun _ _ h => h)) Ha2.out) (RdW.of hs6 Ha2.out) Ha2.out Ha2.out (by have := Hm60.out; omega) true (decide_eq_true rfl))
            clear hs6 hown6 hb6 HA2 HS5
            go_wp2_with fail
            refine HSm.out.mono ?_
            rintro e x3 ⟨rfl, m3, ex3⟩
            have HBx3 := Lib.hid (show Below wz.heap.size wz x3 by rw [ex3]; exact belowQ HBx2.out _)
            have HA3 := Lib.hid (all_at Sa ga _ x3 (HL.out _ HBx3.out).1 (by rw [Hl2.out]; have := Hm60.out; omega))
            clear ex3 HSm
            go_wp2_with fail
            refine HA3.out.mono ?_
            rintro e x4 ⟨A7, c7, rfl, hs7, hown7, hb7⟩
            rw [Ha1.out]
            have HBx4 := Lib.hid (below_trans HBx3.out hb7)
            clear hs7 hown7 hb7 HA3
            go_wp2_with fail
            refine (wakes14_any _).mono ?_
            rintro e x5 ⟨rfl, hb8⟩
            have HBe := Lib.hid (below_trans (below_trans (below_trans Hb0.out HBq.out) HBx4.out) hb8)
            clear hb8
            go_wp2_with fail
            go_ret
            exact ⟨rfl, HBe.out⟩
  · refine (may_any k A2 m c2 M false w0 (HX.out _ (Below.refl _ _)).2 HM.out (by have := Hm60.out; omega) ⟨fun h => (by cases h), fun h => absurd h hmay⟩).mono ?_
    rintro e w1 ⟨rfl, hb1⟩
    have HB1 := Lib.hid hb1
    clear hb1 hmay
    go_wp2_with fail
    refine (wakes14_any _).mono ?_
    rintro e w2 ⟨rfl, hb2⟩
    have HB2 := Lib.hid (below_trans (below_trans Hb0.out HB1.out) hb2)
    clear hb2
    go_wp2_with fail
    go_ret
    exact ⟨rfl, HB2.out⟩
theorem own : ownKnob Try.prog.godebug = none := by kernel_rfl
theorem laidOut : laidOutB Try.prog = true := by kernel_rfl

set_option maxRecDepth 100000 in
theorem lifted (os : Os) (started : os.Started) (H : Type) (enc : TypeId × Value → H) :
    ReturnsInHanded {} Try.checked os 5 .any (Rows.forwardLessSpec.pre6 enc Try.prog Try.f5 Rows.forwardLessRow.domain false) (Rows.forwardLessSpec.post enc Try.prog Try.f5 false true false false) := by
  refine returnsInHanded_of_change (C := Try.checked) own started (by kernel_rfl) Try.func5
    (ChangeSpec.witness6 (enc := enc) (C := Try.checked) false ⟨#[], #[(.agg #[.int .u32 0, .int .u32 0, .int .u32 0, .int .u16 0, .int .u16 0, .int .u64 0, .int .i64 0, .slice none 0 0, .int .i64 0, .int .u16 0, .int .i64 0, .bool false, .int .u64 0, .slice none 0 0, .slice none 0 0, .int .u64 0, .int .i64 0, .int .u64 0, .int .u64 0]), (.slice none 0 0), .int .u8 0], []⟩ 8 (by kernel_rfl) (by kernel_rfl) (by kernel_rfl) (by kernel_rfl)) ?_
  intro W base args ds gs before hval0 hW hcnd _
  have hval : ∀ (j : Nat) t v, Try.f5.params[j]? = some t → args[j]? = some v → Value.okWide Try.prog W .any base t v := hval0
  have hW' := hW
  obtain ⟨p, q, hA0, hV, rfl, hfz, hnd⟩ := hW
  have hA : DataW.TrodAll enc Try.prog W 0 (fun _ => true) true Try.f5.params.toList args.toList ds p := hA0
  rw [Try.params5] at hA hval
  obtain ⟨v0, vs0, d0, ds0, p0, q0, hargs, rfl, rfl, h0, r0⟩ := trodAll_cons hA
  obtain ⟨v1, vs1, d1, ds1, p1, q1, rfl, rfl, rfl, h1, r1⟩ := trodAll_cons r0
  obtain ⟨v2, vs2, d2, ds2, p2, q2, rfl, rfl, rfl, h2, r2⟩ := trodAll_cons r1
  obtain ⟨rfl, rfl, rfl⟩ := trodAll_nil r2
  obtain rfl : args = #[v0, v1, v2] := by cases args; simp_all
  obtain ⟨rfl, rfl⟩ := trodVars_none hV
  have k0 := cfg_open (hval 0 29 v0 rfl rfl) h0
  have lt0 : ∀ x ∈ p0, x.block < W.heap.size := by obtain ⟨m, hm⟩ := h0; exact DataW.trod_lt m _ _ _ hm
  have k1 := fws_open (hval 1 27 v1 rfl rfl) h1
  have lt1 : ∀ x ∈ p1, x.block < W.heap.size := by obtain ⟨m, hm⟩ := h1; exact DataW.trod_lt m _ _ _ hm
  obtain ⟨a2, rfl, rfl, rfl, w2⟩ := open_int Try.underlying5 (hval 2 5 v2 rfl rfl) h2
  clear hA0 hval0
  refine (walk W v0 k0 v1 k1 a2 w2).mono fun e W' ⟨he, bel⟩ => ?_
  subst he
  exact ⟨_, rfl, _, _, _, [], _, [], hW', trodAll_mk1 (shut_bool Try.underlying4 _), (trodAll_cons_mk (Below.trod laidOut (by kernel_rfl) (of_decide_eq_true (by kernel_rfl)) h0 bel lt0) (trodAll_cons_mk (Below.trod laidOut (by kernel_rfl) (of_decide_eq_true (by kernel_rfl)) h1 bel lt1) (trodAll_cons_mk (shut_int Try.underlying5 w2) trodAll_mk0))), rfl, bel.frame _, fun h => by cases h⟩

theorem over : Rows.forwardLessRow.holds Try.pinned (OpenSpec.ofChange Rows.forwardLessSpec) :=
  OpenClaim.holds_of_wide 5 Try.f5 rfl rfl rfl rfl rfl rfl rfl ⟨rfl, rfl, rfl, rfl, rfl⟩ rfl rfl rfl rfl rfl (by kernel_rfl) Try.func5 (by kernel_rfl)
    (of_decide_eq_true (by kernel_rfl)) (by unfold Func.isWrapper; first | (rw [if_pos (by decide +kernel)]; kernel_rfl) | (rw [if_neg (by decide +kernel)]; exact ⟨rfl, rfl⟩))
    (fun os started H enc _ => lifted os started H enc)

/-- The statement. -/
theorem proved : Rows.ForwardLessSaid := over
#print axioms proved
end Go.Proofs.Ytknmpfdmjfbpdaa.forwardLess
