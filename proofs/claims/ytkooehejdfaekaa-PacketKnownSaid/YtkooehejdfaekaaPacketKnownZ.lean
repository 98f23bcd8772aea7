/-
  PacketKnown holds: the document's examples of packets, and the ends. A closed statement.
-/
import Derived.Test.YtkooehejdfaekaaZK29
import Derived.Test.YtkooehejdfaekaaZK07
import Derived.RegionTactic
import Derived.BigRegion
namespace Go.Proofs.Ytkooehejdfaekaa.packetKnown
set_option maxRecDepth 10000
open Go.ChangeShapes Go.WideShapes Go.ChangeAt Go.RowKit
set_option linter.unusedVariables false
set_option linter.unusedSimpArgs false

def hd47 : Hd := ⟨0, 0, false, 1, 47, 0, 0, []⟩
def xyL : List Int := [120, 121]
def L22 : List Int := hdB hd47 xyL
theorem l22_1 : errIp L22 = 0 := by decide +kernel
theorem l22_2 : (hdOf L22).pr = 47 := by decide +kernel
theorem l22_3 : restOf L22 = xyL := by decide +kernel
theorem l22_4 : (hdOf L22).o.length = 0 := by decide +kernel
theorem l22_5 : L22.length = 22 := by decide +kernel
def p47 : Pk := ⟨hd47, zeroSeg, zeroDg, zeroM⟩
def pUdp : Pk := ⟨⟨0, 0, false, 0, 17, 0, 0, []⟩, zeroSeg, zeroDg, zeroM⟩
def pFive : Pk := ⟨⟨0, 0, false, 1, 17, 0, 0, []⟩, zeroSeg, ⟨5, 0, []⟩, zeroM⟩
theorem p47_1 : errPk p47 = 1 := by decide +kernel
theorem p47_2 : pkB p47 = [] := by decide +kernel
theorem pUdp_1 : errPk pUdp = 1 := by decide +kernel
theorem pUdp_2 : pkB pUdp = [] := by decide +kernel
theorem pFive_1 : errPk pFive = 0 := by decide +kernel
theorem pFive_3 : (pkB pFive).length = 28 := by decide +kernel
def pBig : Pk := ⟨⟨0, 0, false, 1, 6, 0, 0, List.replicate 40 0⟩, ⟨0, 0, 0, 0, 0, 0, 0, [], List.replicate 1430 0⟩, zeroDg, zeroM⟩
theorem pBig_1 : errPk pBig = 3 := by decide +kernel
theorem pBig_2 : pkB pBig = [] := by decide +kernel
def zero_a : PkA := ⟨none, 0, 0, none, 0, 0, [], none, 0, 0, none, 0, 0, none, 0, 0⟩
theorem bare_rd (w : World) (p : Pk) (hh : HdNum p.h) (h1 : p.h.o = []) (h2 : p.s = zeroSeg) (h3 : DgNum p.u) (h4 : p.u.d = []) (h5 : p.m = zeroM) : PkRd w p zero_a := by
  obtain ⟨h, s, u, m⟩ := p
  obtain ⟨a, b, c, d, e, f, g, o⟩ := h
  obtain ⟨x, y, t⟩ := u
  simp only at h1 h2 h4 h5 hh
  subst h1; subst h2; subst h4; subst h5
  exact ⟨hh, ⟨Nat.le_refl _, by simp [maxLen, zero_a]⟩, Rd.nil _ _, zero_rd _, h3, ⟨Nat.le_refl _, by simp [maxLen, zero_a]⟩, Rd.nil _ _, zeroM_num, ⟨Nat.le_refl _, by simp [maxLen, zero_a]⟩, Rd.nil _ _⟩
theorem big_rd {w : World} {A A' : Option Addr} (h : Rd w A 40 (List.replicate 40 0)) (h' : Rd w A' 1430 (List.replicate 1430 0)) : PkRd w pBig ⟨A, 40, 40, none, 0, 0, [], A', 1430, 1430, none, 0, 0, none, 0, 0⟩ :=
  ⟨⟨by decide, by decide, by decide, by decide, by decide, by decide⟩, ⟨Nat.le_refl _, by simp [maxLen]⟩, h, ⟨⟨by decide, by decide, by decide, by decide, by decide, by decide, by decide⟩, ⟨Nat.le_refl _, by simp [maxLen]⟩, ⟨Nat.le_refl _, by simp [maxLen]⟩, RdO.nil _ _, trivial, h'⟩, zeroDg_num, ⟨Nat.le_refl _, by simp [maxLen]⟩, Rd.nil _ _, zeroM_num, ⟨Nat.le_refl _, by simp [maxLen]⟩, Rd.nil _ _⟩
def madeP : Pk := ⟨ownH 7 8 1, zeroSeg, zeroDg, ⟨8, 0, 0, []⟩⟩
set_option maxHeartbeats 4000000 in
theorem walk (W : World) :
    Calls Try.prog 4 #[] W fun e w' => e = .returned (.bool true) ∧ Below W.heap.size W w' := by
  go_enter Try.func4, Try.ntmps4
  go_upto_region 1 with (fail)
  go_cut [1, 2] (fun s1 s2 wx => ∃ (A : Option Addr) (c : Nat), s1 = .slice A 22 c ∧ s2 = .int .i64 0 ∧ Hid (22 ≤ c ∧ c ≤ maxLen) ∧ Hid (Rd wx A 22 L22) ∧ Hid (Below W.heap.size W wx))
  case first =>
    have kc := Go.Joins.run_convert_bytes_const_at (P := Try.prog) W 24 5 #[.int .u8 120, .int .u8 121] 2 2 W.heap.size rfl Try.underlying24 Try.underlying5
    go_wp2_with fail
    clear kc
    have hb0 := (Below.refl W.heap.size W).alloc (Nat.le_refl _) (.cells #[.int .u8 120, .int .u8 121] 5 (2, 3))
    have hrd := Rd.const_ W W.heap.size rfl xyL 5 (2, 3) (by decide)
    refine (ipput_ok hd47 none _ 0 0 2 2 xyL _ ⟨by decide, by decide, by decide, by decide, by decide, by decide⟩ (by decide) (by simp [maxLen]) (by simp [maxLen]) (Rd.nil _ _) hrd (by decide) (by decide)).mono ?_
    rintro e w1 ⟨A1, c1, rfl, hc, hcm, ho, hb⟩
    have hB := hb0.trans (hb.mono (by simp))
    have hR := ho.rd (by decide +kernel)
    go_wp2_with fail
    go_meet
    exact ⟨A1, c1, rfl, rfl, Lib.hid ⟨hc, hcm⟩, Lib.hid hR, Lib.hid hB⟩
  case rest =>
    obtain ⟨A, c, rfl, rfl, Hc, HR, HB⟩ := hcut
    go_upto_region 2 with (fail)
    go_cut [4] (fun s1 wx => s1 = .int .i64 22 ∧ Hid (Below W.heap.size W wx))
    case first =>
      try simp only []
      repeat (first | go_values | go_skip | go_guarded | go_step | go_upon | go_back)
      refine (parse9_no A 22 c 0 2 L22 xyL (hdOf L22) _ Hc.out (by decide) HR.out l22_1 rfl l22_3 l22_4 rfl (by rw [l22_2]; decide) (by rw [l22_2]; decide) (by rw [l22_2]; decide)).mono ?_
      rintro e w1 ⟨rfl, hb⟩
      have hB := (HB.out.trans (hb.mono HB.out.size)).alloc (HB.out.trans (hb.mono HB.out.size)).size (.cells #[.int .u8 0, .int .u16 0, .bool false, .int .u8 0, .int .u8 0, .int .u32 0, .int .u32 0, .slice none 0 0, .int .u16 0, .int .u16 0, .int .u32 0, .int .u32 0, .int .u8 0, .int .u16 0, .int .u16 0, .slice none 0 0, .slice none 0 0, .int .u16 0, .int .u16 0, .slice none 0 0, .int .u8 0, .int .u8 0, .int .u32 0, .slice none 0 0] 35)
      try simp only []
      repeat (first | (refine wp_store_new 35 (.tmp 3) (.tmp 26) rfl rfl w1 _ _ rfl rfl (by kernel_rfl) rfl (by simp [Value.oneCell']) ?_) | go_values | go_skip | go_guarded | go_step | go_upon | go_back)
      go_meet
      exact ⟨rfl, Lib.hid hB⟩
    case rest =>
      obtain ⟨rfl, HB⟩ := hcut
      clear HR Hc
      go_upto_region 3 with (fail)
      go_cut [6] (fun s1 wx => s1 = .int .i64 1 ∧ Hid (Below W.heap.size W wx))
      case first =>
        try simp only []
        repeat (first | go_values | go_skip | go_guarded | go_step | go_upon | go_back)
        refine (put9_any p47 zero_a _ [] 0 1 (bare_rd _ _ ⟨by decide, by decide, by decide, by decide, by decide, by decide⟩ rfl rfl ⟨by decide, by decide⟩ rfl rfl) (by decide) (by decide) p47_1 p47_2 rfl).mono ?_
        rintro e w1 ⟨A1, c1, rfl, -, -, hb⟩
        have hB := HB.out.trans (hb.mono HB.out.size)
        try simp only []
        repeat (first | go_values | go_skip | go_guarded | go_step | go_upon | go_back)
        go_meet
        exact ⟨rfl, Lib.hid hB⟩
      obtain ⟨rfl, HB⟩ := hcut
      go_upto_region 4 with (fail)
      go_cut [8] (fun s1 wx => s1 = .int .i64 1 ∧ Hid (Below W.heap.size W wx))
      case first =>
        try simp only []
        repeat (first | go_values | go_skip | go_guarded | go_step | go_upon | go_back)
        refine (put9_any pUdp zero_a _ [] 0 1 (bare_rd _ _ ⟨by decide, by decide, by decide, by decide, by decide, by decide⟩ rfl rfl ⟨by decide, by decide⟩ rfl rfl) (by decide) (by decide) pUdp_1 pUdp_2 rfl).mono ?_
        rintro e w1 ⟨A1, c1, rfl, -, -, hb⟩
        have hB := HB.out.trans (hb.mono HB.out.size)
        try simp only []
        repeat (first | go_values | go_skip | go_guarded | go_step | go_upon | go_back)
        go_meet
        exact ⟨rfl, Lib.hid hB⟩
      obtain ⟨rfl, HB⟩ := hcut
      go_upto_region 5 with (fail)
      go_cut [9, 10] (fun s1 s2 wx => ∃ (A : Option Addr) (c : Nat), s1 = .slice A 28 c ∧ s2 = .int .i64 0 ∧ Hid (Below W.heap.size W wx))
      case first =>
        try simp only []
        repeat (first | go_values | go_skip | go_guarded | go_step | go_upon | go_back)
        refine (put9_any pFive zero_a _ (pkB pFive) 28 0 (bare_rd _ _ ⟨by decide, by decide, by decide, by decide, by decide, by decide⟩ rfl rfl ⟨by decide, by decide⟩ rfl rfl) (by decide) (by decide) pFive_1 rfl pFive_3).mono ?_
        rintro e w1 ⟨A1, c1, rfl, -, -, hb⟩
        have hB := HB.out.trans (hb.mono HB.out.size)
        try simp only []
        repeat (first | go_values | go_skip | go_guarded | go_step | go_upon | go_back)
        go_meet
        exact ⟨_, _, rfl, rfl, Lib.hid hB⟩
      obtain ⟨A5, c5, rfl, rfl, HB⟩ := hcut
      go_upto_region 6 with (fail)
      go_cut [12] (fun s1 wx => s1 = .int .i64 3 ∧ Hid (Below W.heap.size W wx))
      case first =>
        obtain ⟨C40, hmk40, hrd40⟩ : ∃ C : Array Value, (∀ w : World, (Instr.makeSlice 24 (.int .i64 40) (.int .i64 40)).run Try.prog w = .ok (.slice (some ⟨w.heap.size, 0, none⟩) 40 40) (w.alloc (.cells C 5))) ∧
          ∀ (w : World) (g : Nat), w.heap.size = g → Rd (w.alloc (.cells C 5)) (some ⟨g, 0, none⟩) 40 (List.replicate 40 0) := ⟨madeCells (Value.int .u8 0).cells 40, fun w => made_run 40 (by omega) w, fun w g h => made_nums w g h 40⟩
        obtain ⟨C14, hmk14, hrd14⟩ : ∃ C : Array Value, (∀ w : World, (Instr.makeSlice 24 (.int .i64 1430) (.int .i64 1430)).run Try.prog w = .ok (.slice (some ⟨w.heap.size, 0, none⟩) 1430 1430) (w.alloc (.cells C 5))) ∧
          ∀ (w : World) (g : Nat), w.heap.size = g → Rd (w.alloc (.cells C 5)) (some ⟨g, 0, none⟩) 1430 (List.replicate 1430 0) := ⟨madeCells (Value.int .u8 0).cells 1430, fun w => made_run 1430 (by omega) w, fun w g h => made_nums w g h 1430⟩
        have HR40 := Lib.hid hrd40
        have HR14 := Lib.hid hrd14
        clear hrd40 hrd14
        have HBd := Lib.hid (Below.drew HB.out)
        refine wp_region_noPanic ?_
        refine wp_region_held_drew (S := fun w' => True) (by kernel_rfl) trivial (fun hHeld => ?_)
        obtain ⟨wd, ewd⟩ : ∃ wd, wc.drew = wd := ⟨_, rfl⟩
        rw [ewd] at HBd ⊢
        clear ewd
        refine wpAnyH_ready (rs := [0, 2]) (by kernel_rfl) (by simp) ?_
        refine AllReadyH.cons (o := { dst := some 48, op := Go.Op.makeSlice 24 (Go.Operand.const (Go.Value.int Go.IntKind.i64 40)) (Go.Operand.const (Go.Value.int Go.IntKind.i64 40)), type := 24, pos := "outright.go:99", after := #[], guard := none }) rfl (fun K hK => ?_) (AllReadyH.cons (o := { dst := some 50, op := Go.Op.makeSlice 24 (Go.Operand.const (Go.Value.int Go.IntKind.i64 1430)) (Go.Operand.const (Go.Value.int Go.IntKind.i64 1430)), type := 24, pos := "outright.go:99", after := #[], guard := none }) rfl (fun K hK => ?_) AllReadyH.nil)
        · skip
          go_simp
          refine hK.out _ _ ?_ (fun hHeld => ?_)
          · trivial
          clear hK K
          (try simp only [Act.put, List.setIfInBounds_toArray, List.set_cons_zero, List.set_cons_succ])
          have hb1 := HBd.out.alloc HBd.out.size (.cells C40 5)
          have h40 := HR40.out wd _ rfl
          obtain ⟨w1, ew1⟩ : ∃ v, wd.alloc (.cells C40 5) = v := ⟨_, rfl⟩
          rw [ew1] at hb1 h40 ⊢
          clear ew1
          have hA := Lib.hid h40
          have hB1 := Lib.hid hb1
          clear h40 hb1
          refine wpAnyH_take (i := 1) (oi := { dst := some 49, op := Go.Op.build 26 #[(3, Go.Operand.const (Go.Value.int Go.IntKind.u8 1)), (4, Go.Operand.const (Go.Value.int Go.IntKind.u8 6)), (7, Go.Operand.tmp 48)], type := 26, pos := "outright.go:99", after := #[{ on := 0, ground := Go.Ground.data }], guard := none }) (v := ?_) rfl (by kernel_rfl) (by kernel_rfl) (by kernel_rfl) (fun _ _ _ h => h) (Or.inl ⟨by rfl, ?_⟩) (by assumption) ?_
          rotate_left 1
          · intro w' hSw; (go_simp <;> (with_reducible rfl))
          (try simp only [Act.put, List.setIfInBounds_toArray, List.set_cons_zero, List.set_cons_succ])
          refine wpAnyH_ready (rs := [2]) (by kernel_rfl) (by simp) ?_
          refine AllReadyH.cons (o := { dst := some 50, op := Go.Op.makeSlice 24 (Go.Operand.const (Go.Value.int Go.IntKind.i64 1430)) (Go.Operand.const (Go.Value.int Go.IntKind.i64 1430)), type := 24, pos := "outright.go:99", after := #[], guard := none }) rfl (fun K hK => ?_) AllReadyH.nil
          go_simp
          refine hK.out _ _ ?_ (fun hHeld => ?_)
          · trivial
          clear hK K
          (try simp only [Act.put, List.setIfInBounds_toArray, List.set_cons_zero, List.set_cons_succ])
          have hb2 := hB1.out.alloc hB1.out.size (.cells C14 5)
          have h14 := HR14.out w1 _ rfl
          have h40 := hA.out.below ((Below.refl w1.heap.size w1).alloc (Nat.le_refl _) (.cells C14 5))
          obtain ⟨w2, ew2⟩ : ∃ v, w1.alloc (.cells C14 5) = v := ⟨_, rfl⟩
          rw [ew2] at hb2 h14 h40 ⊢
          clear ew2 hA hB1
          refine wpAnyH_take (i := 3) (oi := { dst := some 51, op := Go.Op.build 29 #[(8, Go.Operand.tmp 50)], type := 29, pos := "outright.go:99", after := #[{ on := 2, ground := Go.Ground.data }], guard := none }) (v := ?_) rfl (by kernel_rfl) (by kernel_rfl) (by kernel_rfl) (fun _ _ _ h => h) (Or.inl ⟨by rfl, ?_⟩) (by assumption) ?_
          rotate_left 1
          · intro w' hSw; (go_simp <;> (with_reducible rfl))
          (try simp only [Act.put, List.setIfInBounds_toArray, List.set_cons_zero, List.set_cons_succ])
          refine wpAnyH_take (i := 4) (oi := { dst := some 52, op := Go.Op.build 35 #[(0, Go.Operand.tmp 49), (1, Go.Operand.tmp 51)], type := 35, pos := "outright.go:99", after := #[{ on := 1, ground := Go.Ground.data }, { on := 3, ground := Go.Ground.data }], guard := none }) (v := ?_) rfl (by kernel_rfl) (by kernel_rfl) (by kernel_rfl) (fun _ _ _ h => h) (Or.inl ⟨by rfl, ?_⟩) (by assumption) ?_
          rotate_left 1
          · intro w' hSw; (go_simp <;> (with_reducible rfl))
          (try simp only [Act.put, List.setIfInBounds_toArray, List.set_cons_zero, List.set_cons_succ])
          have H40 := Lib.hid h40
          have H14 := Lib.hid h14
          have HB2 := Lib.hid hb2
          clear h40 h14 hb2 hmk40 hmk14
          refine wpAnyH_ready (rs := [5]) (by kernel_rfl) (by simp) ?_
          refine AllReadyH.cons (o := { dst := some 53, op := Go.Op.call { callee := Go.Callee.value (Go.Operand.func 6), args := #[Go.Operand.tmp 52], argTypes := #[35] }, type := 38, pos := "outright.go:99", after := #[{ on := 4, ground := Go.Ground.data }], guard := none }) rfl (fun K hK => ?_) AllReadyH.nil
          go_simp
          (refine (put9_any pBig ⟨_, 40, 40, none, 0, 0, [], _, 1430, 1430, none, 0, 0, none, 0, 0⟩ _ [] 0 3 (big_rd H40.out H14.out) (by simp) (by simp) pBig_1 pBig_2 rfl).mono ?_; rintro e w3 ⟨A3, c3, rfl, -, -, hb3⟩; have HB3 := Lib.hid (HB2.out.trans (hb3.mono HB2.out.size)); clear hb3)
          refine hK.out _ _ ?_ (fun hHeld => ?_)
          · exact trivial
          clear hK K
          (try simp only [Act.put, List.setIfInBounds_toArray, List.set_cons_zero, List.set_cons_succ])
          refine wpAnyH_take (i := 6) (oi := { dst := some 47, op := Go.Op.move (Go.Operand.tmp 53), type := 38, pos := "outright.go:99", after := #[{ on := 5, ground := Go.Ground.data }], guard := none }) (v := ?_) rfl (by kernel_rfl) (by kernel_rfl) (by kernel_rfl) (fun _ _ _ h => h) (Or.inl ⟨by rfl, ?_⟩) (by assumption) ?_
          rotate_left 1
          · intro w' hSw; (go_simp <;> (with_reducible rfl))
          (try simp only [Act.put, List.setIfInBounds_toArray, List.set_cons_zero, List.set_cons_succ])
          refine wpAnyH_take (i := 7) (oi := { dst := some 54, op := Go.Op.extract (Go.Operand.tmp 47) 0, type := 24, pos := "outright.go:99", after := #[{ on := 6, ground := Go.Ground.data }], guard := none }) (v := ?_) rfl (by kernel_rfl) (by kernel_rfl) (by kernel_rfl) (fun _ _ _ h => h) (Or.inl ⟨by rfl, ?_⟩) (by assumption) ?_
          rotate_left 1
          · intro w' hSw; (go_simp <;> (with_reducible rfl))
          (try simp only [Act.put, List.setIfInBounds_toArray, List.set_cons_zero, List.set_cons_succ])
          refine wpAnyH_take (i := 8) (oi := { dst := some 55, op := Go.Op.extract (Go.Operand.tmp 47) 1, type := 37, pos := "outright.go:99", after := #[{ on := 6, ground := Go.Ground.data }, { on := 9, ground := Go.Ground.gcOnly Go.Departure.lateStores }], guard := none }) (v := ?_) rfl (by kernel_rfl) (by kernel_rfl) (by kernel_rfl) (fun _ _ _ h => h) (Or.inl ⟨by rfl, ?_⟩) (by assumption) ?_
          rotate_left 1
          · intro w' hSw; (go_simp <;> (with_reducible rfl))
          (try simp only [Act.put, List.setIfInBounds_toArray, List.set_cons_zero, List.set_cons_succ])
          refine wpAnyH_take (i := 9) (oi := { dst := some 11, op := Go.Op.assign (Go.Operand.tmp 54), type := 24, pos := "outright.go:99", after := #[{ on := 7, ground := Go.Ground.data }, { on := 5, ground := Go.Ground.chain }, { on := 0, ground := Go.Ground.phase }, { on := 1, ground := Go.Ground.phase }, { on := 2, ground := Go.Ground.phase }, { on := 3, ground := Go.Ground.phase }, { on := 4, ground := Go.Ground.phase }, { on := 5, ground := Go.Ground.phase }, { on := 6, ground := Go.Ground.phase }, { on := 7, ground := Go.Ground.phase }, { on := 8, ground := Go.Ground.textOnly Go.Departure.lateStores }], guard := none }) (v := ?_) rfl (by kernel_rfl) (by kernel_rfl) (by kernel_rfl) (fun _ _ _ h => h) (Or.inl ⟨by rfl, ?_⟩) (by assumption) ?_
          rotate_left 1
          · intro w' hSw; (go_simp <;> (with_reducible rfl))
          (try simp only [Act.put, List.setIfInBounds_toArray, List.set_cons_zero, List.set_cons_succ])
          refine wpAnyH_take (i := 10) (oi := { dst := some 12, op := Go.Op.assign (Go.Operand.tmp 55), type := 37, pos := "outright.go:99", after := #[{ on := 8, ground := Go.Ground.data }, { on := 9, ground := Go.Ground.chain }, { on := 0, ground := Go.Ground.phase }, { on := 1, ground := Go.Ground.phase }, { on := 2, ground := Go.Ground.phase }, { on := 3, ground := Go.Ground.phase }, { on := 4, ground := Go.Ground.phase }, { on := 5, ground := Go.Ground.phase }, { on := 6, ground := Go.Ground.phase }, { on := 7, ground := Go.Ground.phase }, { on := 8, ground := Go.Ground.phase }, { on := 9, ground := Go.Ground.phase }], guard := none }) (v := ?_) rfl (by kernel_rfl) (by kernel_rfl) (by kernel_rfl) (fun _ _ _ h => h) (Or.inl ⟨by rfl, ?_⟩) (by assumption) ?_
          rotate_left 1
          · intro w' hSw; (go_simp <;> (with_reducible rfl))
          (try simp only [Act.put, List.setIfInBounds_toArray, List.set_cons_zero, List.set_cons_succ])
          refine wpAnyH_done (by kernel_rfl) ?_ _
          refine NoPanic.normal ?_
          try simp only []
          repeat (first | go_values | go_skip | go_guarded | go_step | go_upon | go_back)
          go_meet
          exact ⟨rfl, HB3⟩
        · skip
          go_simp
          refine hK.out _ _ ?_ (fun hHeld => ?_)
          · trivial
          clear hK K
          (try simp only [Act.put, List.setIfInBounds_toArray, List.set_cons_zero, List.set_cons_succ])
          have hb1 := HBd.out.alloc HBd.out.size (.cells C14 5)
          have h14 := HR14.out wd _ rfl
          obtain ⟨w1, ew1⟩ : ∃ v, wd.alloc (.cells C14 5) = v := ⟨_, rfl⟩
          rw [ew1] at hb1 h14 ⊢
          clear ew1
          have hA := Lib.hid h14
          have hB1 := Lib.hid hb1
          clear h14 hb1
          refine wpAnyH_take (i := 3) (oi := { dst := some 51, op := Go.Op.build 29 #[(8, Go.Operand.tmp 50)], type := 29, pos := "outright.go:99", after := #[{ on := 2, ground := Go.Ground.data }], guard := none }) (v := ?_) rfl (by kernel_rfl) (by kernel_rfl) (by kernel_rfl) (fun _ _ _ h => h) (Or.inl ⟨by rfl, ?_⟩) (by assumption) ?_
          rotate_left 1
          · intro w' hSw; (go_simp <;> (with_reducible rfl))
          (try simp only [Act.put, List.setIfInBounds_toArray, List.set_cons_zero, List.set_cons_succ])
          refine wpAnyH_ready (rs := [0]) (by kernel_rfl) (by simp) ?_
          refine AllReadyH.cons (o := { dst := some 48, op := Go.Op.makeSlice 24 (Go.Operand.const (Go.Value.int Go.IntKind.i64 40)) (Go.Operand.const (Go.Value.int Go.IntKind.i64 40)), type := 24, pos := "outright.go:99", after := #[], guard := none }) rfl (fun K hK => ?_) AllReadyH.nil
          go_simp
          refine hK.out _ _ ?_ (fun hHeld => ?_)
          · trivial
          clear hK K
          (try simp only [Act.put, List.setIfInBounds_toArray, List.set_cons_zero, List.set_cons_succ])
          have hb2 := hB1.out.alloc hB1.out.size (.cells C40 5)
          have h40 := HR40.out w1 _ rfl
          have h14 := hA.out.below ((Below.refl w1.heap.size w1).alloc (Nat.le_refl _) (.cells C40 5))
          obtain ⟨w2, ew2⟩ : ∃ v, w1.alloc (.cells C40 5) = v := ⟨_, rfl⟩
          rw [ew2] at hb2 h14 h40 ⊢
          clear ew2 hA hB1
          refine wpAnyH_take (i := 1) (oi := { dst := some 49, op := Go.Op.build 26 #[(3, Go.Operand.const (Go.Value.int Go.IntKind.u8 1)), (4, Go.Operand.const (Go.Value.int Go.IntKind.u8 6)), (7, Go.Operand.tmp 48)], type := 26, pos := "outright.go:99", after := #[{ on := 0, ground := Go.Ground.data }], guard := none }) (v := ?_) rfl (by kernel_rfl) (by kernel_rfl) (by kernel_rfl) (fun _ _ _ h => h) (Or.inl ⟨by rfl, ?_⟩) (by assumption) ?_
          rotate_left 1
          · intro w' hSw; (go_simp <;> (with_reducible rfl))
          (try simp only [Act.put, List.setIfInBounds_toArray, List.set_cons_zero, List.set_cons_succ])
          refine wpAnyH_take (i := 4) (oi := { dst := some 52, op := Go.Op.build 35 #[(0, Go.Operand.tmp 49), (1, Go.Operand.tmp 51)], type := 35, pos := "outright.go:99", after := #[{ on := 1, ground := Go.Ground.data }, { on := 3, ground := Go.Ground.data }], guard := none }) (v := ?_) rfl (by kernel_rfl) (by kernel_rfl) (by kernel_rfl) (fun _ _ _ h => h) (Or.inl ⟨by rfl, ?_⟩) (by assumption) ?_
          rotate_left 1
          · intro w' hSw; (go_simp <;> (with_reducible rfl))
          (try simp only [Act.put, List.setIfInBounds_toArray, List.set_cons_zero, List.set_cons_succ])
          have H40 := Lib.hid h40
          have H14 := Lib.hid h14
          have HB2 := Lib.hid hb2
          clear h40 h14 hb2 hmk40 hmk14
          refine wpAnyH_ready (rs := [5]) (by kernel_rfl) (by simp) ?_
          refine AllReadyH.cons (o := { dst := some 53, op := Go.Op.call { callee := Go.Callee.value (Go.Operand.func 6), args := #[Go.Operand.tmp 52], argTypes := #[35] }, type := 38, pos := "outright.go:99", after := #[{ on := 4, ground := Go.Ground.data }], guard := none }) rfl (fun K hK => ?_) AllReadyH.nil
          go_simp
          (refine (put9_any pBig ⟨_, 40, 40, none, 0, 0, [], _, 1430, 1430, none, 0, 0, none, 0, 0⟩ _ [] 0 3 (big_rd H40.out H14.out) (by simp) (by simp) pBig_1 pBig_2 rfl).mono ?_; rintro e w3 ⟨A3, c3, rfl, -, -, hb3⟩; have HB3 := Lib.hid (HB2.out.trans (hb3.mono HB2.out.size)); clear hb3)
          refine hK.out _ _ ?_ (fun hHeld => ?_)
          · exact trivial
          clear hK K
          (try simp only [Act.put, List.setIfInBounds_toArray, List.set_cons_zero, List.set_cons_succ])
          refine wpAnyH_take (i := 6) (oi := { dst := some 47, op := Go.Op.move (Go.Operand.tmp 53), type := 38, pos := "outright.go:99", after := #[{ on := 5, ground := Go.Ground.data }], guard := none }) (v := ?_) rfl (by kernel_rfl) (by kernel_rfl) (by kernel_rfl) (fun _ _ _ h => h) (Or.inl ⟨by rfl, ?_⟩) (by assumption) ?_
          rotate_left 1
          · intro w' hSw; (go_simp <;> (with_reducible rfl))
          (try simp only [Act.put, List.setIfInBounds_toArray, List.set_cons_zero, List.set_cons_succ])
          refine wpAnyH_take (i := 7) (oi := { dst := some 54, op := Go.Op.extract (Go.Operand.tmp 47) 0, type := 24, pos := "outright.go:99", after := #[{ on := 6, ground := Go.Ground.data }], guard := none }) (v := ?_) rfl (by kernel_rfl) (by kernel_rfl) (by kernel_rfl) (fun _ _ _ h => h) (Or.inl ⟨by rfl, ?_⟩) (by assumption) ?_
          rotate_left 1
          · intro w' hSw; (go_simp <;> (with_reducible rfl))
          (try simp only [Act.put, List.setIfInBounds_toArray, List.set_cons_zero, List.set_cons_succ])
          refine wpAnyH_take (i := 8) (oi := { dst := some 55, op := Go.Op.extract (Go.Operand.tmp 47) 1, type := 37, pos := "outright.go:99", after := #[{ on := 6, ground := Go.Ground.data }, { on := 9, ground := Go.Ground.gcOnly Go.Departure.lateStores }], guard := none }) (v := ?_) rfl (by kernel_rfl) (by kernel_rfl) (by kernel_rfl) (fun _ _ _ h => h) (Or.inl ⟨by rfl, ?_⟩) (by assumption) ?_
          rotate_left 1
          · intro w' hSw; (go_simp <;> (with_reducible rfl))
          (try simp only [Act.put, List.setIfInBounds_toArray, List.set_cons_zero, List.set_cons_succ])
          refine wpAnyH_take (i := 9) (oi := { dst := some 11, op := Go.Op.assign (Go.Operand.tmp 54), type := 24, pos := "outright.go:99", after := #[{ on := 7, ground := Go.Ground.data }, { on := 5, ground := Go.Ground.chain }, { on := 0, ground := Go.Ground.phase }, { on := 1, ground := Go.Ground.phase }, { on := 2, ground := Go.Ground.phase }, { on := 3, ground := Go.Ground.phase }, { on := 4, ground := Go.Ground.phase }, { on := 5, ground := Go.Ground.phase }, { on := 6, ground := Go.Ground.phase }, { on := 7, ground := Go.Ground.phase }, { on := 8, ground := Go.Ground.textOnly Go.Departure.lateStores }], guard := none }) (v := ?_) rfl (by kernel_rfl) (by kernel_rfl) (by kernel_rfl) (fun _ _ _ h => h) (Or.inl ⟨by rfl, ?_⟩) (by assumption) ?_
          rotate_left 1
          · intro w' hSw; (go_simp <;> (with_reducible rfl))
          (try simp only [Act.put, List.setIfInBounds_toArray, List.set_cons_zero, List.set_cons_succ])
          refine wpAnyH_take (i := 10) (oi := { dst := some 12, op := Go.Op.assign (Go.Operand.tmp 55), type := 37, pos := "outright.go:99", after := #[{ on := 8, ground := Go.Ground.data }, { on := 9, ground := Go.Ground.chain }, { on := 0, ground := Go.Ground.phase }, { on := 1, ground := Go.Ground.phase }, { on := 2, ground := Go.Ground.phase }, { on := 3, ground := Go.Ground.phase }, { on := 4, ground := Go.Ground.phase }, { on := 5, ground := Go.Ground.phase }, { on := 6, ground := Go.Ground.phase }, { on := 7, ground := Go.Ground.phase }, { on := 8, ground := Go.Ground.phase }, { on := 9, ground := Go.Ground.phase }], guard := none }) (v := ?_) rfl (by kernel_rfl) (by kernel_rfl) (by kernel_rfl) (fun _ _ _ h => h) (Or.inl ⟨by rfl, ?_⟩) (by assumption) ?_
          rotate_left 1
          · intro w' hSw; (go_simp <;> (with_reducible rfl))
          (try simp only [Act.put, List.setIfInBounds_toArray, List.set_cons_zero, List.set_cons_succ])
          refine wpAnyH_done (by kernel_rfl) ?_ _
          refine NoPanic.normal ?_
          try simp only []
          repeat (first | go_values | go_skip | go_guarded | go_step | go_upon | go_back)
          go_meet
          exact ⟨rfl, HB3⟩
      obtain ⟨rfl, HB⟩ := hcut
      go_upto_region 7 with (fail)
      go_cut [14] (fun s1 wx => s1 = .int .i64 4 ∧ Hid (Below W.heap.size W wx))
      case first =>
        try simp only []
        repeat (first | go_values | go_skip | go_guarded | go_step | go_upon | go_back)
        refine (parse9_head none 0 0 [] 4 _ (by simp [maxLen]) (by decide) (Rd.nil _ _) (by decide +kernel) (by decide)).mono ?_
        rintro e w1 ⟨rfl, hb⟩
        have hB := (HB.out.trans (hb.mono HB.out.size)).alloc (HB.out.trans (hb.mono HB.out.size)).size (.cells #[.int .u8 0, .int .u16 0, .bool false, .int .u8 0, .int .u8 0, .int .u32 0, .int .u32 0, .slice none 0 0, .int .u16 0, .int .u16 0, .int .u32 0, .int .u32 0, .int .u8 0, .int .u16 0, .int .u16 0, .slice none 0 0, .slice none 0 0, .int .u16 0, .int .u16 0, .slice none 0 0, .int .u8 0, .int .u8 0, .int .u32 0, .slice none 0 0] 35)
        try simp only []
        repeat (first | (refine wp_store_new 35 (.tmp 13) (.tmp 58) rfl rfl w1 _ _ rfl rfl (by kernel_rfl) rfl (by simp [Value.oneCell']) ?_) | go_values | go_skip | go_guarded | go_step | go_upon | go_back)
        go_meet
        exact ⟨rfl, Lib.hid hB⟩
      obtain ⟨rfl, HB⟩ := hcut
      go_upto_region 8 with (fail)
      obtain ⟨q, eq⟩ : ∃ q, madeP = q := ⟨_, rfl⟩
      have Eq := Lib.hid eq
      clear eq
      go_cut [15] (fun s1 wx => ∃ (g : Nat) (b : PkA), s1 = .pointer (some ⟨g, 0, none⟩) ∧ Hid (wx.heap[g]? = some (.cells #[.int .u8 q.h.to, .int .u16 q.h.id, .bool q.h.df, .int .u8 q.h.tt, .int .u8 q.h.pr, .int .u32 q.h.sr, .int .u32 q.h.ds, .slice b.AH b.nH b.cH, .int .u16 q.s.sp, .int .u16 q.s.dp, .int .u32 q.s.sq, .int .u32 q.s.ak, .int .u8 q.s.fl, .int .u16 q.s.wn, .int .u16 q.s.ug, .slice b.AO b.nO b.cO, .slice b.AD b.nD b.cD, .int .u16 q.u.sp, .int .u16 q.u.dp, .slice b.AU b.nU b.cU, .int .u8 q.m.ty, .int .u8 q.m.cd, .int .u32 q.m.rs, .slice b.AM b.nM b.cM] 35 (0, 0))) ∧ Hid (PkRd wx q b) ∧ Hid (b.nO = 0) ∧ Hid (Below W.heap.size W wx))
      case first =>
        try simp only []
        repeat (first | go_values | go_skip | go_guarded | go_step | go_upon | go_back)
        refine (show Calls Try.prog _ _ _ (MadeIs madeP 0 _) from icmp9_any 7 8 ⟨8, 0, 0, []⟩ none 0 0 _ (by decide) (by decide) ⟨by decide, by decide, by decide⟩ (by decide) (Rd.nil _ _)).mono ?_
        rw [Eq.out]
        rintro e w1 ⟨b, rfl, hp, hnO, -, hb⟩
        have hBx := HB.out.trans (hb.mono HB.out.size)
        have hB := hBx.alloc hBx.size (.cells #[.int .u8 q.h.to, .int .u16 q.h.id, .bool q.h.df, .int .u8 q.h.tt, .int .u8 q.h.pr, .int .u32 q.h.sr, .int .u32 q.h.ds, .slice b.AH b.nH b.cH, .int .u16 q.s.sp, .int .u16 q.s.dp, .int .u32 q.s.sq, .int .u32 q.s.ak, .int .u8 q.s.fl, .int .u16 q.s.wn, .int .u16 q.s.ug, .slice b.AO b.nO b.cO, .slice b.AD b.nD b.cD, .int .u16 q.u.sp, .int .u16 q.u.dp, .slice b.AU b.nU b.cU, .int .u8 q.m.ty, .int .u8 q.m.cd, .int .u32 q.m.rs, .slice b.AM b.nM b.cM] 35)
        have hk := heap_alloc_new w1 (.cells #[.int .u8 q.h.to, .int .u16 q.h.id, .bool q.h.df, .int .u8 q.h.tt, .int .u8 q.h.pr, .int .u32 q.h.sr, .int .u32 q.h.ds, .slice b.AH b.nH b.cH, .int .u16 q.s.sp, .int .u16 q.s.dp, .int .u32 q.s.sq, .int .u32 q.s.ak, .int .u8 q.s.fl, .int .u16 q.s.wn, .int .u16 q.s.ug, .slice b.AO b.nO b.cO, .slice b.AD b.nD b.cD, .int .u16 q.u.sp, .int .u16 q.u.dp, .slice b.AU b.nU b.cU, .int .u8 q.m.ty, .int .u8 q.m.cd, .int .u32 q.m.rs, .slice b.AM b.nM b.cM] 35)
        have hp1 := hp.below ((Below.refl w1.heap.size w1).alloc (Nat.le_refl _) (.cells #[.int .u8 q.h.to, .int .u16 q.h.id, .bool q.h.df, .int .u8 q.h.tt, .int .u8 q.h.pr, .int .u32 q.h.sr, .int .u32 q.h.ds, .slice b.AH b.nH b.cH, .int .u16 q.s.sp, .int .u16 q.s.dp, .int .u32 q.s.sq, .int .u32 q.s.ak, .int .u8 q.s.fl, .int .u16 q.s.wn, .int .u16 q.s.ug, .slice b.AO b.nO b.cO, .slice b.AD b.nD b.cD, .int .u16 q.u.sp, .int .u16 q.u.dp, .slice b.AU b.nU b.cU, .int .u8 q.m.ty, .int .u8 q.m.cd, .int .u32 q.m.rs, .slice b.AM b.nM b.cM] 35))
        try simp only []
        repeat (first | (refine wp_store_new 35 (.tmp 15) (.tmp 61) rfl rfl w1 _ _ rfl rfl (by kernel_rfl) rfl (by simp [Value.oneCell']) ?_) | go_values | go_skip | go_guarded | go_step | go_upon | go_back)
        go_meet
        exact ⟨_, b, rfl, Lib.hid hk, Lib.hid hp1, Lib.hid hnO, Lib.hid hB⟩
      obtain ⟨g, b, rfl, HK, HP, HnO, HB⟩ := hcut
      have f1 : (q.h.pr == 1) = true := by rw [← Eq.out]; rfl
      have f2 : (q.h.tt == 64) = true := by rw [← Eq.out]; rfl
      have f3 : q.h.df = true := by rw [← Eq.out]; rfl
      have f4 : (q.h.sr == 7) = true := by rw [← Eq.out]; rfl
      have f5 : (q.h.ds == 8) = true := by rw [← Eq.out]; rfl
      have f6 : (q.m.ty == 8) = true := by rw [← Eq.out]; rfl
      have Hmay := Lib.hid (show mayP q = true by rw [← Eq.out]; decide +kernel)
      have F := Lib.hid (And.intro f1 (And.intro f2 (And.intro f3 (And.intro f4 (And.intro f5 f6)))))
      clear f1 f2 f3 f4 f5 f6 Eq
      try simp only []
      repeat (first | go_values | go_skip | go_guarded | go_step | go_upon | go_back)
      dsimp only [List.append] at *
      try simp only []
      repeat (first | go_values | go_skip | go_guarded | go_step | go_upon | go_back)
      refine (awake9_any _).mono ?_
      rintro e w1 ⟨rfl, hb1⟩
      have HK1 := Lib.hid (blk_on HK.out hb1)
      have HP1 := Lib.hid (HP.out.below hb1)
      have HB1 := Lib.hid (HB.out.trans (hb1.mono HB.out.size))
      clear hb1 HK HP HB
      obtain ⟨f1, f2, f3, f4, f5, f6⟩ := F.out
      obtain ⟨k0, k1, k2, k3, k4, k5, k6, k7, k8, k9, k10, k11, k12, k13, k14, k15, k16, k17, k18, k19, k20, k21, k22, k23⟩ := cells24 HK1.out
      clear k0 k1 k7 k8 k9 k10 k11 k12 k13 k14 k15 k16 k17 k18 k19 k21 k22 k23
      try simp only []
      repeat (first | (refine wp_load_row 35 (.tmp 15) rfl g _ _ _ _ HK1.out rfl Try.underlying35 rfl (by kernel_rfl) ?_; simp only [Act.put, List.setIfInBounds_toArray, List.set_cons_zero, List.set_cons_succ]) | go_values | go_skip | go_guarded | go_step | go_upon | go_back)
      have hM := may9_any q b w1 true HP1.out (by have := HnO.out; omega) Hmay.out
      rw [f3] at hM
      refine hM.mono ?_
      rintro e w2 ⟨rfl, hb2⟩
      have HB2 := Lib.hid (HB1.out.trans (hb2.mono HB1.out.size))
      clear hb2 HB1 HK1 HP1 hM k2 k3 k4 k5 k6 k20 f1 f2 f3 f4 f5 f6
      try simp only []
      repeat (first | go_values | go_skip | go_guarded | go_step | go_upon | go_back)
      refine (may9_any zeroP zero_a w2 false (bare_rd _ _ ⟨by decide, by decide, by decide, by decide, by decide, by decide⟩ rfl rfl ⟨by decide, by decide⟩ rfl rfl) (by decide) (by decide +kernel)).mono ?_
      rintro e w3 ⟨rfl, hb3⟩
      have HB3 := Lib.hid (HB2.out.trans (hb3.mono HB2.out.size))
      clear hb3 HB2
      try simp only []
      repeat (first | go_values | go_skip | go_guarded | go_step | go_upon | go_back)
      go_ret
      exact ⟨rfl, HB3.out⟩
theorem own : ownKnob Try.prog.godebug = none := by kernel_rfl
theorem laidOut : laidOutB Try.prog = true := by kernel_rfl

set_option maxRecDepth 100000 in
theorem lifted (os : Os) (started : os.Started) (H : Type) (enc : TypeId × Value → H) :
    ReturnsInHanded {} Try.checked os 4 .any (Rows.packetKnownSpec.pre6 enc Try.prog Try.f4 Rows.packetKnownRow.domain false) (Rows.packetKnownSpec.post enc Try.prog Try.f4 false true false false) := by
  refine returnsInHanded_of_change (C := Try.checked) own started (by kernel_rfl) Try.func4
    (ChangeSpec.witness6 (enc := enc) (C := Try.checked) false ⟨#[], #[], []⟩ 8 (by kernel_rfl) (by kernel_rfl) (by kernel_rfl) (by kernel_rfl)) ?_
  intro W base args ds gs before hval0 hW hcnd _
  have hval : ∀ (j : Nat) t v, Try.f4.params[j]? = some t → args[j]? = some v → Value.okWide Try.prog W .any base t v := hval0
  have hW' := hW
  obtain ⟨p, q, hA0, hV, rfl, hfz, hnd⟩ := hW
  have hA : DataW.TrodAll enc Try.prog W 0 (fun _ => true) true Try.f4.params.toList args.toList ds p := hA0
  rw [Try.params4] at hA hval
  obtain ⟨rfl, rfl, rfl⟩ := trodAll_none hA
  obtain ⟨rfl, rfl⟩ := trodVars_none hV
  clear hA0 hval0
  refine (walk W ).mono fun e W' ⟨he, bel⟩ => ?_
  subst he
  exact ⟨_, rfl, _, _, _, [], _, [], hW', trodAll_mk1 (shut_bool Try.underlying4 _), trodAll_mk0, rfl, bel.frame _, fun h => by cases h⟩

theorem over : Rows.packetKnownRow.holds Try.pinned (OpenSpec.ofChange Rows.packetKnownSpec) :=
  OpenClaim.holds_of_wide 4 Try.f4 rfl rfl rfl rfl rfl rfl rfl ⟨rfl, rfl, rfl, rfl, rfl⟩ rfl rfl rfl rfl rfl (by kernel_rfl) Try.func4 (by kernel_rfl)
    (of_decide_eq_true (by kernel_rfl)) (by unfold Func.isWrapper; first | (rw [if_pos (by decide +kernel)]; kernel_rfl) | (rw [if_neg (by decide +kernel)]; exact ⟨rfl, rfl⟩))
    (fun os started H enc _ => lifted os started H enc)

/-- The statement. -/
theorem proved : Rows.PacketKnownSaid := over
#print axioms proved
end Go.Proofs.Ytkooehejdfaekaa.packetKnown
