/-
  PacketSums holds: what Put tells has right sums, worked out anew over all of it, and its lengths are those that there are: for any packet (its bytes cut to 1600, its options to 20 of 60 bytes).
-/
import Derived.Test.YtkooehejdfaekaaZS27
import Derived.Test.YtkooehejdfaekaaZS29
import Derived.Test.YtkooehejdfaekaaZS30
import Derived.Test.YtkooehejdfaekaaZS31
import Derived.Test.YtkooehejdfaekaaZS06
import Derived.RegionTactic
import Derived.BigRegion
namespace Go.Proofs.Ytkooehejdfaekaa.packetSums
set_option maxRecDepth 10000
open Go.ChangeShapes Go.WideShapes Go.ChangeAt Go.RowKit
set_option linter.unusedVariables false
set_option linter.unusedSimpArgs false

theorem wraps8 (n : Int) (h₀ : 0 ≤ n) (h₁ : n < 2 ^ 8) : IntKind.u8.wrap n = n := by simp [IntKind.wrap, IntKind.bits, IntKind.signed]; omega
theorem and15 (x : Int) (h : 0 ≤ x ∧ x < 256) : bits .and .u8 x 15 = x % 16 := bits_mask .u8 8 (by decide) wraps8 4 (by omega) x h.1 h.2
theorem or64 (x y : Int) (hx : 0 ≤ x ∧ x < 256) (hy : 0 ≤ y ∧ y < 256) : bits .or .i64 (x * 256) y = x * 256 + y := by
  obtain ⟨a, rfl⟩ := Int.eq_ofNat_of_zero_le hx.1
  obtain ⟨b, rfl⟩ := Int.eq_ofNat_of_zero_le hy.1
  have e1 : ((a : Int) * 256) = ((a * 256 : Nat) : Int) := by simp
  have e2 : (BitVec.ofInt 64 ((a * 256 : Nat) : Int)).toNat = a * 256 := by rw [BitVec.ofInt_natCast, BitVec.toNat_ofNat]; exact Nat.mod_eq_of_lt (by omega)
  have e3 : (BitVec.ofInt 64 (b : Int)).toNat = b := by rw [BitVec.ofInt_natCast, BitVec.toNat_ofNat]; exact Nat.mod_eq_of_lt (by omega)
  have e4 : a * 256 ||| b = a * 256 + b := by
    have := Nat.two_pow_add_eq_or_of_lt (i := 8) (b := b) (by omega) a
    rw [show 2 ^ 8 * a = a * 256 by omega] at this
    exact this.symm
  rw [e1]
  show IntKind.i64.wrap ((BitVec.ofInt 64 ((a * 256 : Nat) : Int) ||| BitVec.ofInt 64 (b : Int)).toNat : Int) = _
  rw [BitVec.toNat_or, e2, e3, e4]
  have : IntKind.i64.wrap ((a * 256 + b : Nat) : Int) = ((a * 256 + b : Nat) : Int) := IntWalk.i64_in _ (by omega)
  rw [this]
  simp
set_option maxHeartbeats 4000000 in
theorem walk (W : World) (v : Value) (hv : PkAt W v) :
    Calls Try.prog 3 #[v] W fun e w' => e = .returned (.bool true) ∧ Below W.heap.size W w' := by
  obtain ⟨p, a, rfl, hp⟩ := hv
  obtain ⟨z, hz⟩ : ∃ z, W.heap.size = z := ⟨_, rfl⟩
  obtain ⟨w0, ew⟩ : ∃ w0, W.alloc (.cells #[.int .u8 p.h.to, .int .u16 p.h.id, .bool p.h.df, .int .u8 p.h.tt, .int .u8 p.h.pr, .int .u32 p.h.sr, .int .u32 p.h.ds, .slice a.AH a.nH a.cH, .int .u16 p.s.sp, .int .u16 p.s.dp, .int .u32 p.s.sq, .int .u32 p.s.ak, .int .u8 p.s.fl, .int .u16 p.s.wn, .int .u16 p.s.ug, .slice a.AO a.nO a.cO, .slice a.AD a.nD a.cD, .int .u16 p.u.sp, .int .u16 p.u.dp, .slice a.AU a.nU a.cU, .int .u8 p.m.ty, .int .u8 p.m.cd, .int .u32 p.m.rs, .slice a.AM a.nM a.cM] 35) = w0 := ⟨_, rfl⟩
  have hb0 : Below W.heap.size W w0 := by rw [← ew]; exact (Below.refl _ _).alloc (Nat.le_refl _) _
  have hk0 : w0.heap[z]? = some (.cells #[.int .u8 p.h.to, .int .u16 p.h.id, .bool p.h.df, .int .u8 p.h.tt, .int .u8 p.h.pr, .int .u32 p.h.sr, .int .u32 p.h.ds, .slice a.AH a.nH a.cH, .int .u16 p.s.sp, .int .u16 p.s.dp, .int .u32 p.s.sq, .int .u32 p.s.ak, .int .u8 p.s.fl, .int .u16 p.s.wn, .int .u16 p.s.ug, .slice a.AO a.nO a.cO, .slice a.AD a.nD a.cD, .int .u16 p.u.sp, .int .u16 p.u.dp, .slice a.AU a.nU a.cU, .int .u8 p.m.ty, .int .u8 p.m.cd, .int .u32 p.m.rs, .slice a.AM a.nM a.cM] 35 (0, 0)) := by rw [← ew, ← hz]; exact heap_alloc_new W _
  have HP := Lib.hid (hp.below hb0)
  have Hoff := Lib.hid (show a.Off (fun k => k = z) from hp.off.sub (fun g hg => by omega))
  have HK0 := Lib.hid hk0
  have Hb0 := Lib.hid hb0
  have Ew := Lib.hid ew
  have Hz := Lib.hid hz
  have Hzl := Lib.hid (show z < w0.heap.size from lt_of_block hk0)
  clear hz ew hb0 hk0 hp
  go_enter Try.func3, Try.ntmps3
  go_upto_region 1 with (fail)
  rw [Ew.out]
  try rw [Hz.out]
  repeat (first | (refine wp_load_row 35 (.tmp 1) rfl z _ _ _ _ HK0.out rfl Try.underlying35 rfl (by kernel_rfl) ?_; simp only [Act.put, List.setIfInBounds_toArray, List.set_cons_zero, List.set_cons_succ]) | go_values | go_skip | go_guarded | go_step | go_upon | go_back)
  refine (few9_any p a _ HP.out).mono ?_
  rintro e w1 ⟨q, b, rfl, hq, hp1, hof1, hb1⟩
  have HKE := Lib.hid (blk_on HK0.out hb1)
  have HB1 := Lib.hid (below_trans Hb0.out hb1)
  have Hsm := Lib.hid (small_of hq hp1)
  have HP2 := Lib.hid (hp1.but (row_but w1 z #[.int .u8 q.h.to, .int .u16 q.h.id, .bool q.h.df, .int .u8 q.h.tt, .int .u8 q.h.pr, .int .u32 q.h.sr, .int .u32 q.h.ds, .slice b.AH b.nH b.cH, .int .u16 q.s.sp, .int .u16 q.s.dp, .int .u32 q.s.sq, .int .u32 q.s.ak, .int .u8 q.s.fl, .int .u16 q.s.wn, .int .u16 q.s.ug, .slice b.AO b.nO b.cO, .slice b.AD b.nD b.cD, .int .u16 q.u.sp, .int .u16 q.u.dp, .slice b.AU b.nU b.cU, .int .u8 q.m.ty, .int .u8 q.m.cd, .int .u32 q.m.rs, .slice b.AM b.nM b.cM]) (hof1 _ Hoff.out (fun g hg => by have := Hzl.out; omega)))
  have HK2 := Lib.hid (setRow_heap w1 z _ #[.int .u8 q.h.to, .int .u16 q.h.id, .bool q.h.df, .int .u8 q.h.tt, .int .u8 q.h.pr, .int .u32 q.h.sr, .int .u32 q.h.ds, .slice b.AH b.nH b.cH, .int .u16 q.s.sp, .int .u16 q.s.dp, .int .u32 q.s.sq, .int .u32 q.s.ak, .int .u8 q.s.fl, .int .u16 q.s.wn, .int .u16 q.s.ug, .slice b.AO b.nO b.cO, .slice b.AD b.nD b.cD, .int .u16 q.u.sp, .int .u16 q.u.dp, .slice b.AU b.nU b.cU, .int .u8 q.m.ty, .int .u8 q.m.cd, .int .u32 q.m.rs, .slice b.AM b.nM b.cM] _ _ HKE.out)
  have HB2 := Lib.hid (below_setRow HB1.out (by rw [Hz.out]; exact Nat.le_refl _) #[.int .u8 q.h.to, .int .u16 q.h.id, .bool q.h.df, .int .u8 q.h.tt, .int .u8 q.h.pr, .int .u32 q.h.sr, .int .u32 q.h.ds, .slice b.AH b.nH b.cH, .int .u16 q.s.sp, .int .u16 q.s.dp, .int .u32 q.s.sq, .int .u32 q.s.ak, .int .u8 q.s.fl, .int .u16 q.s.wn, .int .u16 q.s.ug, .slice b.AO b.nO b.cO, .slice b.AD b.nD b.cD, .int .u16 q.u.sp, .int .u16 q.u.dp, .slice b.AU b.nU b.cU, .int .u8 q.m.ty, .int .u8 q.m.cd, .int .u32 q.m.rs, .slice b.AM b.nM b.cM])
  clear hp1 hof1 hb1 HB1 hq Hoff HP
  try simp only []
  repeat (first | (refine wp_load_row 35 (.tmp 1) rfl z _ _ _ _ HK2.out rfl Try.underlying35 rfl (by kernel_rfl) ?_; simp only [Act.put, List.setIfInBounds_toArray, List.set_cons_zero, List.set_cons_succ]) | (refine wp_store_row 35 (.tmp 1) (.tmp 8) rfl z _ rfl rfl 35 _ HKE.out (by kernel_rfl) rfl (by simp [Value.oneCell']) ?_; simp only [Act.put, List.setIfInBounds_toArray, List.set_cons_zero, List.set_cons_succ]) | go_values | go_skip | go_guarded | go_step | go_upon | go_back)
  obtain ⟨w2, e2⟩ : ∃ v, w1.setRow z #[.int .u8 q.h.to, .int .u16 q.h.id, .bool q.h.df, .int .u8 q.h.tt, .int .u8 q.h.pr, .int .u32 q.h.sr, .int .u32 q.h.ds, .slice b.AH b.nH b.cH, .int .u16 q.s.sp, .int .u16 q.s.dp, .int .u32 q.s.sq, .int .u32 q.s.ak, .int .u8 q.s.fl, .int .u16 q.s.wn, .int .u16 q.s.ug, .slice b.AO b.nO b.cO, .slice b.AD b.nD b.cD, .int .u16 q.u.sp, .int .u16 q.u.dp, .slice b.AU b.nU b.cU, .int .u8 q.m.ty, .int .u8 q.m.cd, .int .u32 q.m.rs, .slice b.AM b.nM b.cM] = v := ⟨_, rfl⟩
  rw [e2] at HP2 HK2 HB2 ⊢
  clear e2 HKE
  obtain ⟨x, ex⟩ : ∃ x, errPk q = x := ⟨_, rfl⟩
  obtain ⟨L, eL⟩ : ∃ x, pkB q = x := ⟨_, rfl⟩
  obtain ⟨m, em⟩ : ∃ m, L.length = m := ⟨_, rfl⟩
  have Ex := Lib.hid ex
  have EL := Lib.hid eL
  have Em := Lib.hid em
  clear ex eL em
  refine (put9_any q b _ L m x HP2.out (by have := Hsm.out.o; omega) (by have := Hsm.out.d; omega) Ex.out EL.out Em.out).mono ?_
  rintro e w4 ⟨A1, c1, rfl, hc1, hr1, hb4⟩
  have Hc1 := Lib.hid hc1
  have Hr1 := Lib.hid hr1
  have HB4 := Lib.hid (HB2.out.trans (hb4.mono HB2.out.size))
  have HP4 := Lib.hid (HP2.out.below hb4)
  have HK4 := Lib.hid (blk_on HK2.out hb4)
  clear hc1 hr1 hb4 HB2 HP2 HK2
  by_cases h0 : x = 0
  case neg =>
    have h0b : (x != 0) = true := by simpa using h0
    clear h0
    try simp only []
    repeat (first | go_values | go_skip | go_guarded | go_step | go_upon | go_back)
    refine (awake9_any _).mono ?_
    rintro e w5 ⟨rfl, hb5⟩
    have HB5 := Lib.hid (HB4.out.trans (hb5.mono HB4.out.size))
    clear hb5
    try simp only []
    repeat (first | go_values | go_skip | go_guarded | go_step | go_upon | go_back)
    go_ret
    exact ⟨rfl, HB5.out⟩
  subst h0
  obtain ⟨hm, hle, h15, hLb⟩ := errPk_zero Ex.out
  obtain ⟨hpr, h40, h4⟩ := may_zero hm
  obtain ⟨k, ek⟩ : ∃ k, (loadB q).length = k := ⟨_, rfl⟩
  obtain ⟨nh, enh⟩ : ∃ n, 20 + q.h.o.length = n := ⟨_, rfl⟩
  have hLL : hdB q.h (loadB q) = L := by rw [← hLb]; exact EL.out
  have hm1 : nh + k = m := by rw [← Em.out, ← hLL, hdB_len, ek]; omega
  have hhead := head_sum q.h (loadB q) HP4.out.hn HP4.out.hr.byte h40 h15
  have hdrop := drop_hdB q.h (loadB q)
  have hat := hdB_at q.h (loadB q)
  rw [hLL, enh] at hhead hdrop
  rw [hLL] at hat
  have hls := load_sum HP4.out Ex.out
  rw [ek] at h15 hls hat
  have hlm := Em.out
  have hby := Hr1.out.byte
  have hcc := Hc1.out
  have hnh : 20 ≤ nh ∧ nh ≤ 60 ∧ nh % 4 = 0 := by omega
  obtain ⟨v0, ev0⟩ : ∃ v, L.getD 0 0 = v := ⟨_, rfl⟩
  obtain ⟨v2, ev2⟩ : ∃ v, L.getD 2 0 = v := ⟨_, rfl⟩
  obtain ⟨v3, ev3⟩ : ∃ v, L.getD 3 0 = v := ⟨_, rfl⟩
  rw [ev0, ev2, ev3] at hat
  have hv0 : v0 % 16 * 4 = (nh : Int) := by omega
  have hb0 : 0 ≤ v0 ∧ v0 < 256 := by omega
  have hb2 : 0 ≤ v2 ∧ v2 < 256 := by omega
  have hb3 : 0 ≤ v3 ∧ v3 < 256 := by omega
  have hv23 : v2 * 256 + v3 = (m : Int) := by omega
  obtain ⟨p0, r0, c0, l0⟩ := Hr1.out.index (c := c1) (j := 0) (by omega)
  obtain ⟨p2, r2, c2, l2⟩ := Hr1.out.index (c := c1) (j := 2) (by omega)
  obtain ⟨p3, r3, c3, l3⟩ := Hr1.out.index (c := c1) (j := 3) (by omega)
  rw [ev0] at c0
  rw [ev2] at c2
  rw [ev3] at c3
  have R0 := Lib.hid (show ∀ W : World, (Instr.indexAt 24 (.slice A1 m c1) (.int .i64 0)).run Try.prog W = .ok (.pointer (some p0)) W from r0)
  have R2 := Lib.hid (show ∀ W : World, (Instr.indexAt 24 (.slice A1 m c1) (.int .i64 2)).run Try.prog W = .ok (.pointer (some p2)) W from r2)
  have R3 := Lib.hid (show ∀ W : World, (Instr.indexAt 24 (.slice A1 m c1) (.int .i64 3)).run Try.prog W = .ok (.pointer (some p3)) W from r3)
  have C0 := Lib.hid c0
  have C2 := Lib.hid (And.intro c2 l2)
  have C3 := Lib.hid (And.intro c3 l3)
  have Hand := Lib.hid (show bits .and .u8 v0 15 = v0 % 16 from and15 v0 hb0)
  have Hor := Lib.hid (show bits .or .i64 (v2 * 256) v3 = v2 * 256 + v3 from or64 v2 v3 hb2 hb3)
  have Hv0 := Lib.hid hv0
  have Hv23 := Lib.hid hv23
  have Hb0 := Lib.hid hb0
  have Hb2 := Lib.hid hb2
  have Hb3 := Lib.hid hb3
  have Hhead := Lib.hid hhead
  have Hdrop := Lib.hid hdrop
  have Hls := Lib.hid hls
  have Hek := Lib.hid ek
  have Hnh := Lib.hid hnh
  have Hm1 := Lib.hid hm1
  have Hm20 := Lib.hid (show 20 ≤ m ∧ m ≤ 1500 by omega)
  have Hpr := Lib.hid hpr
  clear hm hle hLb h15 h40 h4 hLL hhead hdrop hat hls hlm hby hcc hnh ev0 ev2 ev3 hv0 hb0 hb2 hb3 hv23 r0 r2 r3 c0 c2 c3 l0 l2 l3 ek hm1 hpr enh Hb0
  have h20 : ¬ (m : Int) < 20 := by have := Hm20.out; omega
  have r0 := R0.out
  have c0 := C0.out
  have hand := Hand.out
  have hv0 := Hv0.out
  go_upto_region 8 with (fail)
  clear r0 c0 hand hv0 h20
  have hn1 : ¬ (nh : Int) < 20 := by have := Hnh.out; omega
  have hn2 : ¬ (m : Int) < (nh : Int) := by have := Hm1.out; omega
  have hn3 : (nh : Int) ≤ (c1 : Int) := by have := Hm1.out; have := Hc1.out; omega
  have hn4 : (0 : Int) ≤ (nh : Int) := by omega
  have hn5 : nh ≤ c1 := by have := Hm1.out; have := Hc1.out; omega
  have r2 := R2.out
  have r3 := R3.out
  have hor := Hor.out
  have hv23 := Hv23.out
  have hb2 := Hb2.out
  have hb3 := Hb3.out
  have wr1 : IntKind.i64.wrap v2 = v2 := IntWalk.i64_in _ (by omega)
  have wr2 : IntKind.i64.wrap (v2 * 256) = v2 * 256 := IntWalk.i64_in _ (by omega)
  have wr3 : IntKind.i64.wrap v3 = v3 := IntWalk.i64_in _ (by omega)
  have HBd := Lib.hid (Below.drew (Below.refl w4.heap.size w4))
  have HS := Lib.hid (show ∀ w', Below w4.heap.size w4 w' → w'.cell? p2 = some (.int .u8 v2) ∧ w'.cell? p3 = some (.int .u8 v3) from fun w' hb => ⟨(hb.cell C2.out.2).trans C2.out.1, (hb.cell C3.out.2).trans C3.out.1⟩)
  refine wp_region_held_drew (S := fun w' => w'.cell? p2 = some (.int .u8 v2) ∧ w'.cell? p3 = some (.int .u8 v3)) (by kernel_rfl) (HS.out _ HBd.out) (fun hHeld => ?_)
  obtain ⟨wd, ewd⟩ : ∃ wd, w4.drew = wd := ⟨_, rfl⟩
  rw [ewd] at HBd hHeld ⊢
  clear ewd
  refine wpAnyH_take (i := 0) (oi := { dst := some 26, op := Go.Op.move (Go.Operand.tmp 5), type := 3, pos := "outright.go:57", after := #[], guard := none }) (v := ?_) rfl (by kernel_rfl) (by kernel_rfl) (by kernel_rfl) (fun _ _ _ h => h) (Or.inl ⟨by rfl, ?_⟩) (by assumption) ?_
  rotate_left 1
  · intro w' hSw; (go_simp <;> (with_reducible rfl))
  (try simp only [Act.put, List.setIfInBounds_toArray, List.set_cons_zero, List.set_cons_succ])
  refine wpAnyH_take (i := 1) (oi := { dst := some 27, op := Go.Op.binOp Go.BinOp.lss 3 (Go.Operand.tmp 26) (Go.Operand.const (Go.Value.int Go.IntKind.i64 20)) 3, type := 4, pos := "outright.go:57", after := #[{ on := 0, ground := Go.Ground.data }], guard := none }) (v := ?_) rfl (by kernel_rfl) (by kernel_rfl) (by kernel_rfl) (fun _ _ _ h => h) (Or.inl ⟨by rfl, ?_⟩) (by assumption) ?_
  rotate_left 1
  · intro w' hSw; (go_simp <;> (with_reducible rfl))
  (try simp only [Act.put, List.setIfInBounds_toArray, List.set_cons_zero, List.set_cons_succ])
  refine wpAnyH_take (i := 2) (oi := { dst := some 28, op := Go.Op.move (Go.Operand.tmp 27), type := 4, pos := "outright.go:57", after := #[{ on := 1, ground := Go.Ground.data }], guard := none }) (v := ?_) rfl (by kernel_rfl) (by kernel_rfl) (by kernel_rfl) (fun _ _ _ h => h) (Or.inl ⟨by rfl, ?_⟩) (by assumption) ?_
  rotate_left 1
  · intro w' hSw; (go_simp <;> (with_reducible rfl))
  (try simp only [Act.put, List.setIfInBounds_toArray, List.set_cons_zero, List.set_cons_succ])
  refine wpAnyH_take (i := 3) (oi := { dst := some 29, op := Go.Op.move (Go.Operand.tmp 5), type := 3, pos := "outright.go:57", after := #[{ on := 2, ground := Go.Ground.guard }], guard := some (2, false) }) (v := ?_) rfl (by kernel_rfl) (by kernel_rfl) (by kernel_rfl) (fun _ _ _ h => h) (Or.inl ⟨by rfl, ?_⟩) (by assumption) ?_
  rotate_left 1
  · intro w' hSw; (go_simp <;> (with_reducible rfl))
  (try simp only [Act.put, List.setIfInBounds_toArray, List.set_cons_zero, List.set_cons_succ])
  refine wpAnyH_take (i := 4) (oi := { dst := some 30, op := Go.Op.move (Go.Operand.tmp 3), type := 24, pos := "outright.go:57", after := #[{ on := 2, ground := Go.Ground.guard }], guard := some (2, false) }) (v := ?_) rfl (by kernel_rfl) (by kernel_rfl) (by kernel_rfl) (fun _ _ _ h => h) (Or.inl ⟨by rfl, ?_⟩) (by assumption) ?_
  rotate_left 1
  · intro w' hSw; (go_simp <;> (with_reducible rfl))
  (try simp only [Act.put, List.setIfInBounds_toArray, List.set_cons_zero, List.set_cons_succ])
  refine wpAnyH_take (i := 5) (oi := { dst := some 31, op := Go.Op.call { callee := Go.Callee.builtin Go.Builtin.len, args := #[Go.Operand.tmp 30], argTypes := #[24] }, type := 3, pos := "outright.go:57", after := #[{ on := 4, ground := Go.Ground.data }, { on := 2, ground := Go.Ground.guard }], guard := some (2, false) }) (v := ?_) rfl (by kernel_rfl) (by kernel_rfl) (by kernel_rfl) (fun _ _ _ h => h) (Or.inl ⟨by rfl, ?_⟩) (by assumption) ?_
  rotate_left 1
  · intro w' hSw; (go_simp <;> (with_reducible rfl))
  (try simp only [Act.put, List.setIfInBounds_toArray, List.set_cons_zero, List.set_cons_succ])
  refine wpAnyH_take (i := 6) (oi := { dst := some 32, op := Go.Op.binOp Go.BinOp.gtr 3 (Go.Operand.tmp 29) (Go.Operand.tmp 31) 3, type := 4, pos := "outright.go:57", after := #[{ on := 3, ground := Go.Ground.data }, { on := 5, ground := Go.Ground.data }, { on := 2, ground := Go.Ground.guard }], guard := some (2, false) }) (v := ?_) rfl (by kernel_rfl) (by kernel_rfl) (by kernel_rfl) (fun _ _ _ h => h) (Or.inl ⟨by rfl, ?_⟩) (by assumption) ?_
  rotate_left 1
  · intro w' hSw; (go_simp <;> (with_reducible rfl))
  (try simp only [Act.put, List.setIfInBounds_toArray, List.set_cons_zero, List.set_cons_succ])
  refine wpAnyH_take (i := 7) (oi := { dst := some 33, op := Go.Op.pick (Go.Operand.tmp 28) (Go.Operand.const (Go.Value.bool true)) (Go.Operand.tmp 32), type := 4, pos := "outright.go:57", after := #[{ on := 2, ground := Go.Ground.data }, { on := 6, ground := Go.Ground.data }], guard := none }) (v := ?_) rfl (by kernel_rfl) (by kernel_rfl) (by kernel_rfl) (fun _ _ _ h => h) (Or.inl ⟨by rfl, ?_⟩) (by assumption) ?_
  rotate_left 1
  · intro w' hSw; (go_simp <;> (with_reducible rfl))
  (try simp only [Act.put, List.setIfInBounds_toArray, List.set_cons_zero, List.set_cons_succ])
  refine wpAnyH_take (i := 8) (oi := { dst := some 34, op := Go.Op.move (Go.Operand.tmp 33), type := 4, pos := "outright.go:57", after := #[{ on := 7, ground := Go.Ground.data }, { on := 2, ground := Go.Ground.chain }], guard := none }) (v := ?_) rfl (by kernel_rfl) (by kernel_rfl) (by kernel_rfl) (fun _ _ _ h => h) (Or.inl ⟨by rfl, ?_⟩) (by assumption) ?_
  rotate_left 1
  · intro w' hSw; (go_simp <;> (with_reducible rfl))
  (try simp only [Act.put, List.setIfInBounds_toArray, List.set_cons_zero, List.set_cons_succ])
  refine wpAnyH_take (i := 9) (oi := { dst := some 35, op := Go.Op.move (Go.Operand.tmp 3), type := 24, pos := "outright.go:57", after := #[{ on := 8, ground := Go.Ground.guard }], guard := some (8, false) }) (v := ?_) rfl (by kernel_rfl) (by kernel_rfl) (by kernel_rfl) (fun _ _ _ h => h) (Or.inl ⟨by rfl, ?_⟩) (by assumption) ?_
  rotate_left 1
  · intro w' hSw; (go_simp <;> (with_reducible rfl))
  (try simp only [Act.put, List.setIfInBounds_toArray, List.set_cons_zero, List.set_cons_succ])
  refine wpAnyH_take (i := 10) (oi := { dst := some 36, op := Go.Op.indexAddr 24 (Go.Operand.tmp 35) (Go.Operand.const (Go.Value.int Go.IntKind.i64 2)), type := 0, pos := "outright.go:57", after := #[{ on := 9, ground := Go.Ground.data }, { on := 8, ground := Go.Ground.guard }], guard := some (8, false) }) (v := ?_) rfl (by kernel_rfl) (by kernel_rfl) (by kernel_rfl) (fun _ _ _ h => h) (Or.inl ⟨by rfl, ?_⟩) (by assumption) ?_
  rotate_left 1
  · intro w' hSw; (go_simp <;> (with_reducible rfl))
  (try simp only [Act.put, List.setIfInBounds_toArray, List.set_cons_zero, List.set_cons_succ])
  refine wpAnyH_take (i := 11) (oi := { dst := some 37, op := Go.Op.load 5 (Go.Operand.tmp 36), type := 5, pos := "outright.go:57", after := #[{ on := 10, ground := Go.Ground.data }, { on := 8, ground := Go.Ground.guard }], guard := some (8, false) }) (v := ?_) rfl (by kernel_rfl) (by kernel_rfl) (by kernel_rfl) (fun _ _ _ h => h) (Or.inl ⟨by rfl, ?_⟩) (by assumption) ?_
  rotate_left 1
  · intro w' hSw; (go_simp <;> (with_reducible rfl))
  (try simp only [Act.put, List.setIfInBounds_toArray, List.set_cons_zero, List.set_cons_succ])
  refine wpAnyH_take (i := 12) (oi := { dst := some 38, op := Go.Op.convert 5 3 (Go.Operand.tmp 37), type := 3, pos := "outright.go:57", after := #[{ on := 11, ground := Go.Ground.data }, { on := 8, ground := Go.Ground.guard }], guard := some (8, false) }) (v := ?_) rfl (by kernel_rfl) (by kernel_rfl) (by kernel_rfl) (fun _ _ _ h => h) (Or.inl ⟨by rfl, ?_⟩) (by assumption) ?_
  rotate_left 1
  · intro w' hSw; (go_simp <;> (with_reducible rfl))
  (try simp only [Act.put, List.setIfInBounds_toArray, List.set_cons_zero, List.set_cons_succ])
  refine wpAnyH_take (i := 13) (oi := { dst := some 39, op := Go.Op.binOp Go.BinOp.shl 3 (Go.Operand.tmp 38) (Go.Operand.const (Go.Value.int Go.IntKind.u64 8)) 41, type := 3, pos := "outright.go:57", after := #[{ on := 12, ground := Go.Ground.data }, { on := 8, ground := Go.Ground.guard }], guard := some (8, false) }) (v := ?_) rfl (by kernel_rfl) (by kernel_rfl) (by kernel_rfl) (fun _ _ _ h => h) (Or.inl ⟨by rfl, ?_⟩) (by assumption) ?_
  rotate_left 1
  · intro w' hSw; (go_simp <;> (with_reducible rfl))
  (try simp only [Act.put, List.setIfInBounds_toArray, List.set_cons_zero, List.set_cons_succ])
  refine wpAnyH_take (i := 14) (oi := { dst := some 40, op := Go.Op.move (Go.Operand.tmp 3), type := 24, pos := "outright.go:57", after := #[{ on := 8, ground := Go.Ground.guard }], guard := some (8, false) }) (v := ?_) rfl (by kernel_rfl) (by kernel_rfl) (by kernel_rfl) (fun _ _ _ h => h) (Or.inl ⟨by rfl, ?_⟩) (by assumption) ?_
  rotate_left 1
  · intro w' hSw; (go_simp <;> (with_reducible rfl))
  (try simp only [Act.put, List.setIfInBounds_toArray, List.set_cons_zero, List.set_cons_succ])
  refine wpAnyH_take (i := 15) (oi := { dst := some 41, op := Go.Op.indexAddr 24 (Go.Operand.tmp 40) (Go.Operand.const (Go.Value.int Go.IntKind.i64 3)), type := 0, pos := "outright.go:57", after := #[{ on := 14, ground := Go.Ground.data }, { on := 8, ground := Go.Ground.guard }], guard := some (8, false) }) (v := ?_) rfl (by kernel_rfl) (by kernel_rfl) (by kernel_rfl) (fun _ _ _ h => h) (Or.inl ⟨by rfl, ?_⟩) (by assumption) ?_
  rotate_left 1
  · intro w' hSw; (go_simp <;> (with_reducible rfl))
  (try simp only [Act.put, List.setIfInBounds_toArray, List.set_cons_zero, List.set_cons_succ])
  refine wpAnyH_take (i := 16) (oi := { dst := some 42, op := Go.Op.load 5 (Go.Operand.tmp 41), type := 5, pos := "outright.go:57", after := #[{ on := 15, ground := Go.Ground.data }, { on := 8, ground := Go.Ground.guard }], guard := some (8, false) }) (v := ?_) rfl (by kernel_rfl) (by kernel_rfl) (by kernel_rfl) (fun _ _ _ h => h) (Or.inl ⟨by rfl, ?_⟩) (by assumption) ?_
  rotate_left 1
  · intro w' hSw; (go_simp <;> (with_reducible rfl))
  (try simp only [Act.put, List.setIfInBounds_toArray, List.set_cons_zero, List.set_cons_succ])
  refine wpAnyH_take (i := 17) (oi := { dst := some 43, op := Go.Op.convert 5 3 (Go.Operand.tmp 42), type := 3, pos := "outright.go:57", after := #[{ on := 16, ground := Go.Ground.data }, { on := 8, ground := Go.Ground.guard }], guard := some (8, false) }) (v := ?_) rfl (by kernel_rfl) (by kernel_rfl) (by kernel_rfl) (fun _ _ _ h => h) (Or.inl ⟨by rfl, ?_⟩) (by assumption) ?_
  rotate_left 1
  · intro w' hSw; (go_simp <;> (with_reducible rfl))
  (try simp only [Act.put, List.setIfInBounds_toArray, List.set_cons_zero, List.set_cons_succ])
  refine wpAnyH_take (i := 18) (oi := { dst := some 44, op := Go.Op.binOp Go.BinOp.or 3 (Go.Operand.tmp 39) (Go.Operand.tmp 43) 3, type := 3, pos := "outright.go:57", after := #[{ on := 13, ground := Go.Ground.data }, { on := 17, ground := Go.Ground.data }, { on := 8, ground := Go.Ground.guard }], guard := some (8, false) }) (v := ?_) rfl (by kernel_rfl) (by kernel_rfl) (by kernel_rfl) (fun _ _ _ h => h) (Or.inl ⟨by rfl, ?_⟩) (by assumption) ?_
  rotate_left 1
  · intro w' hSw; (go_simp <;> (with_reducible rfl))
  (try simp only [Act.put, List.setIfInBounds_toArray, List.set_cons_zero, List.set_cons_succ])
  refine wpAnyH_take (i := 19) (oi := { dst := some 45, op := Go.Op.move (Go.Operand.tmp 3), type := 24, pos := "outright.go:57", after := #[{ on := 8, ground := Go.Ground.guard }], guard := some (8, false) }) (v := ?_) rfl (by kernel_rfl) (by kernel_rfl) (by kernel_rfl) (fun _ _ _ h => h) (Or.inl ⟨by rfl, ?_⟩) (by assumption) ?_
  rotate_left 1
  · intro w' hSw; (go_simp <;> (with_reducible rfl))
  (try simp only [Act.put, List.setIfInBounds_toArray, List.set_cons_zero, List.set_cons_succ])
  refine wpAnyH_take (i := 20) (oi := { dst := some 46, op := Go.Op.call { callee := Go.Callee.builtin Go.Builtin.len, args := #[Go.Operand.tmp 45], argTypes := #[24] }, type := 3, pos := "outright.go:57", after := #[{ on := 19, ground := Go.Ground.data }, { on := 8, ground := Go.Ground.guard }], guard := some (8, false) }) (v := ?_) rfl (by kernel_rfl) (by kernel_rfl) (by kernel_rfl) (fun _ _ _ h => h) (Or.inl ⟨by rfl, ?_⟩) (by assumption) ?_
  rotate_left 1
  · intro w' hSw; (go_simp <;> (with_reducible rfl))
  (try simp only [Act.put, List.setIfInBounds_toArray, List.set_cons_zero, List.set_cons_succ])
  refine wpAnyH_take (i := 21) (oi := { dst := some 47, op := Go.Op.binOp Go.BinOp.neq 3 (Go.Operand.tmp 44) (Go.Operand.tmp 46) 3, type := 4, pos := "outright.go:57", after := #[{ on := 18, ground := Go.Ground.data }, { on := 20, ground := Go.Ground.data }, { on := 8, ground := Go.Ground.guard }], guard := some (8, false) }) (v := ?_) rfl (by kernel_rfl) (by kernel_rfl) (by kernel_rfl) (fun _ _ _ h => h) (Or.inl ⟨by rfl, ?_⟩) (by assumption) ?_
  rotate_left 1
  · intro w' hSw; (go_simp <;> (with_reducible rfl))
  (try simp only [Act.put, List.setIfInBounds_toArray, List.set_cons_zero, List.set_cons_succ])
  refine wpAnyH_take (i := 22) (oi := { dst := some 48, op := Go.Op.pick (Go.Operand.tmp 34) (Go.Operand.const (Go.Value.bool true)) (Go.Operand.tmp 47), type := 4, pos := "outright.go:57", after := #[{ on := 8, ground := Go.Ground.data }, { on := 21, ground := Go.Ground.data }], guard := none }) (v := ?_) rfl (by kernel_rfl) (by kernel_rfl) (by kernel_rfl) (fun _ _ _ h => h) (Or.inl ⟨by rfl, ?_⟩) (by assumption) ?_
  rotate_left 1
  · intro w' hSw; (go_simp <;> (with_reducible rfl))
  (try simp only [Act.put, List.setIfInBounds_toArray, List.set_cons_zero, List.set_cons_succ])
  refine wpAnyH_take (i := 23) (oi := { dst := some 49, op := Go.Op.move (Go.Operand.tmp 48), type := 4, pos := "outright.go:57", after := #[{ on := 22, ground := Go.Ground.data }, { on := 8, ground := Go.Ground.chain }], guard := none }) (v := ?_) rfl (by kernel_rfl) (by kernel_rfl) (by kernel_rfl) (fun _ _ _ h => h) (Or.inl ⟨by rfl, ?_⟩) (by assumption) ?_
  rotate_left 1
  · intro w' hSw; (go_simp <;> (with_reducible rfl))
  (try simp only [Act.put, List.setIfInBounds_toArray, List.set_cons_zero, List.set_cons_succ])
  refine wpAnyH_take (i := 24) (oi := { dst := some 50, op := Go.Op.move (Go.Operand.tmp 3), type := 24, pos := "outright.go:57", after := #[{ on := 23, ground := Go.Ground.guard }], guard := some (23, false) }) (v := ?_) rfl (by kernel_rfl) (by kernel_rfl) (by kernel_rfl) (fun _ _ _ h => h) (Or.inl ⟨by rfl, ?_⟩) (by assumption) ?_
  rotate_left 1
  · intro w' hSw; (go_simp <;> (with_reducible rfl))
  (try simp only [Act.put, List.setIfInBounds_toArray, List.set_cons_zero, List.set_cons_succ])
  refine wpAnyH_take (i := 25) (oi := { dst := some 51, op := Go.Op.move (Go.Operand.tmp 5), type := 3, pos := "outright.go:57", after := #[{ on := 23, ground := Go.Ground.guard }], guard := some (23, false) }) (v := ?_) rfl (by kernel_rfl) (by kernel_rfl) (by kernel_rfl) (fun _ _ _ h => h) (Or.inl ⟨by rfl, ?_⟩) (by assumption) ?_
  rotate_left 1
  · intro w' hSw; (go_simp <;> (with_reducible rfl))
  (try simp only [Act.put, List.setIfInBounds_toArray, List.set_cons_zero, List.set_cons_succ])
  refine wpAnyH_take (i := 26) (oi := { dst := some 52, op := Go.Op.slice 24 (Go.Operand.tmp 50) none (some (Go.Operand.tmp 51)) none, type := 24, pos := "outright.go:57", after := #[{ on := 24, ground := Go.Ground.data }, { on := 25, ground := Go.Ground.data }, { on := 23, ground := Go.Ground.guard }], guard := some (23, false) }) (v := ?_) rfl (by kernel_rfl) (by kernel_rfl) (by kernel_rfl) (fun _ _ _ h => h) (Or.inl ⟨by rfl, ?_⟩) (by assumption) ?_
  rotate_left 1
  · intro w' hSw; (go_simp <;> (with_reducible rfl))
  (try simp only [Act.put, List.setIfInBounds_toArray, List.set_cons_zero, List.set_cons_succ])
  have Hba := Lib.hid ((Below.refl wd.heap.size wd).alloc (Nat.le_refl _) (.cells #[.slice A1 nh c1] 24))
  have HBa := Lib.hid (below_trans HBd.out Hba.out)
  have Hrl := Lib.hid (RdL.one wd _ rfl 24 (0, 0) A1 nh c1 (L.take nh) ((Hr1.out.below HBd.out).take (k := nh) (by have := Hm1.out; omega)) hn5 Hc1.out.2)
  refine wpAnyH_ready (rs := [27]) (by kernel_rfl) (by simp) ?_
  refine AllReadyH.cons (o := { dst := some 53, op := Go.Op.buildSlice 58 1 #[(0, Go.Operand.tmp 52)], type := 58, pos := "outright.go:57", after := #[{ on := 26, ground := Go.Ground.data }, { on := 23, ground := Go.Ground.guard }], guard := some (23, false) }) rfl (fun K hK => ?_) AllReadyH.nil
  go_simp
  skip
  refine hK.out _ _ ?_ (fun hHeld => ?_)
  · exact HS.out _ HBa.out
  clear hK K
  (try simp only [Act.put, List.setIfInBounds_toArray, List.set_cons_zero, List.set_cons_succ])
  refine wpAnyH_ready (rs := [28]) (by kernel_rfl) (by simp) ?_
  refine AllReadyH.cons (o := { dst := some 54, op := Go.Op.call { callee := Go.Callee.value (Go.Operand.func 8), args := #[Go.Operand.tmp 53], argTypes := #[58] }, type := 4, pos := "outright.go:57", after := #[{ on := 27, ground := Go.Ground.data }, { on := 23, ground := Go.Ground.chain }, { on := 23, ground := Go.Ground.guard }], guard := some (23, false) }) rfl (fun K hK => ?_) AllReadyH.nil
  go_simp
  (refine (right_told _ 1 1 [L.take nh] _ true (by omega) Hrl.out (by rw [List.flatten_cons, List.flatten_nil, List.append_nil, Hhead.out]; rfl)).mono ?_; rintro e w5 ⟨rfl, hb5⟩; have HB5 := Lib.hid (below_trans HBa.out hb5); clear hb5)
  refine hK.out _ _ ?_ (fun hHeld => ?_)
  · exact HS.out _ HB5.out
  clear hK K
  (try simp only [Act.put, List.setIfInBounds_toArray, List.set_cons_zero, List.set_cons_succ])
  refine wpAnyH_take (i := 29) (oi := { dst := some 55, op := Go.Op.unOp Go.UnOp.not 4 (Go.Operand.tmp 54), type := 4, pos := "outright.go:57", after := #[{ on := 28, ground := Go.Ground.data }, { on := 23, ground := Go.Ground.guard }], guard := some (23, false) }) (v := ?_) rfl (by kernel_rfl) (by kernel_rfl) (by kernel_rfl) (fun _ _ _ h => h) (Or.inl ⟨by rfl, ?_⟩) (by assumption) ?_
  rotate_left 1
  · intro w' hSw; (go_simp <;> (with_reducible rfl))
  (try simp only [Act.put, List.setIfInBounds_toArray, List.set_cons_zero, List.set_cons_succ])
  refine wpAnyH_take (i := 30) (oi := { dst := some 56, op := Go.Op.pick (Go.Operand.tmp 49) (Go.Operand.const (Go.Value.bool true)) (Go.Operand.tmp 55), type := 4, pos := "outright.go:57", after := #[{ on := 23, ground := Go.Ground.data }, { on := 29, ground := Go.Ground.data }], guard := none }) (v := ?_) rfl (by kernel_rfl) (by kernel_rfl) (by kernel_rfl) (fun _ _ _ h => h) (Or.inl ⟨by rfl, ?_⟩) (by assumption) ?_
  rotate_left 1
  · intro w' hSw; (go_simp <;> (with_reducible rfl))
  (try simp only [Act.put, List.setIfInBounds_toArray, List.set_cons_zero, List.set_cons_succ])
  refine wpAnyH_done (by kernel_rfl) ?_ _
  clear hHeld
  have HB6 := Lib.hid (HB4.out.trans (HB5.out.mono HB4.out.size))
  have Hr5 := Lib.hid (Hr1.out.below HB5.out)
  have HP5 := Lib.hid (HP4.out.below HB5.out)
  have HK5 := Lib.hid (blk_on HK4.out HB5.out)
  clear HB4 Hr1 HP4 HK4 HS HBd r2 r3 hor hv23 hb2 hb3 wr1 wr2 wr3 hn1 hn2 hn3 hn4 hn5 Hba HBa Hrl HB5
  obtain ⟨A7, hr7, hR7⟩ := Hr5.out.rest (c := c1) nh (nh : Int) (by have := Hm20.out; omega) (by have := Hm1.out; omega) Hc1.out.1 Hc1.out.2 rfl
  have hmk : m - nh = k := by have := Hm1.out; omega
  rw [hmk, Hdrop.out] at hR7
  rw [hmk] at hr7
  obtain ⟨c7, ec7⟩ : ∃ c, c1 - nh = c := ⟨_, rfl⟩
  rw [ec7] at hr7
  have Hc7 := Lib.hid (show k ≤ c7 ∧ c7 ≤ maxLen by have := Hc1.out; have := Hm1.out; omega)
  have HR7 := Lib.hid hR7
  have k4 := (cells24 HK5.out).2.2.2.2.1
  clear hmk ec7 hR7
  by_cases h1 : q.h.pr = 1
  · have h1b : (q.h.pr == 1) = true := by simpa using h1
    have Hsum := Lib.hid (Hls.out.1 h1)
    clear h1
    go_upto_region 12 with (fail)
    clear k4 h1b
    try simp only []
    repeat (first | go_values | go_skip | go_guarded | go_step | go_upon | go_back)
    refine (awake9_any _).mono ?_
    rintro e w6 ⟨rfl, hb6⟩
    have Hb6 := Lib.hid hb6
    clear hb6
    try simp only []
    repeat (first | go_values | go_skip | go_guarded | go_step | go_upon | go_back)
    refine (right_told (some ⟨w6.heap.size, 0, none⟩) 1 1 [loadB q] _ true (by omega) (RdL.one w6 _ rfl 24 (0, 0) A7 k c7 (loadB q) (HR7.out.below Hb6.out) Hc7.out.1 Hc7.out.2) (by rw [List.flatten_cons, List.flatten_nil, List.append_nil, Hsum.out]; rfl)).mono ?_
    rintro e w7 ⟨rfl, hb7⟩
    have HB7 := Lib.hid (HB6.out.trans ((below_trans Hb6.out (on_alloc hb7)).mono HB6.out.size))
    clear hb7
    try simp only []
    repeat (first | go_values | go_skip | go_guarded | go_step | go_upon | go_back)
    go_ret
    exact ⟨rfl, HB7.out⟩
  · have h1b : (q.h.pr == 1) = false := by simpa using h1
    have Hsum := Lib.hid (Hls.out.2 h1)
    clear h1
    go_upto_region 13 with (fail)
    clear k4 h1b
    try simp only []
    repeat (first | go_values | go_skip | go_guarded | go_step | go_upon | go_back)
    refine (awake9_any _).mono ?_
    rintro e w6 ⟨rfl, hb6⟩
    have k4 := (cells24 (blk_on HK5.out hb6)).2.2.2.2.1
    have k5 := (cells24 (blk_on HK5.out hb6)).2.2.2.2.2.1
    have k6 := (cells24 (blk_on HK5.out hb6)).2.2.2.2.2.2.1
    have Hb6 := Lib.hid hb6
    clear hb6
    go_wp2_with fail
    clear k4 k5 k6
    refine (pseudo_any q.h.sr q.h.ds q.h.pr (k : Int) _ HP5.out.hn.pr).mono ?_
    rintro e w7 ⟨A8, c8, rfl, hc8, hm8, ho8, hb7⟩
    have Hb7 := Lib.hid (below_trans Hb6.out hb7)
    have HR8 := Lib.hid (ho8.rd (pseudo_byte _ _ _ _ HP5.out.hn.pr))
    have Hc8 := Lib.hid (And.intro hc8 hm8)
    clear hb7 ho8 hc8 hm8
    try simp only []
    repeat (first | go_values | go_skip | go_guarded | go_step | go_upon | go_back)
    refine (right_told (some ⟨w7.heap.size, 0, none⟩) 2 2 [pseudoL q.h.sr q.h.ds q.h.pr (k : Int), loadB q] _ true (by omega) (RdL.twoW w7 24 A8 A7 12 c8 k c7 _ _ Hc8.out Hc7.out HR8.out (HR7.out.below Hb7.out)) (by rw [List.flatten_cons, List.flatten_cons, List.flatten_nil, List.append_nil, Hsum.out]; rfl)).mono ?_
    rintro e w8 ⟨rfl, hb8⟩
    have HB8 := Lib.hid (HB6.out.trans ((below_trans Hb7.out (on_alloc hb8)).mono HB6.out.size))
    clear hb8
    try simp only []
    repeat (first | go_values | go_skip | go_guarded | go_step | go_upon | go_back)
    go_ret
    exact ⟨rfl, HB8.out⟩
theorem own : ownKnob Try.prog.godebug = none := by kernel_rfl
theorem laidOut : laidOutB Try.prog = true := by kernel_rfl

set_option maxRecDepth 100000 in
theorem lifted (os : Os) (started : os.Started) (H : Type) (enc : TypeId × Value → H) :
    ReturnsInHanded {} Try.checked os 3 .any (Rows.packetSumsSpec.pre6 enc Try.prog Try.f3 Rows.packetSumsRow.domain false) (Rows.packetSumsSpec.post enc Try.prog Try.f3 false true false false) := by
  refine returnsInHanded_of_change (C := Try.checked) own started (by kernel_rfl) Try.func3
    (ChangeSpec.witness6 (enc := enc) (C := Try.checked) false ⟨#[], #[(.agg #[.int .u8 0, .int .u16 0, .bool false, .int .u8 0, .int .u8 0, .int .u32 0, .int .u32 0, .slice none 0 0, .int .u16 0, .int .u16 0, .int .u32 0, .int .u32 0, .int .u8 0, .int .u16 0, .int .u16 0, .slice none 0 0, .slice none 0 0, .int .u16 0, .int .u16 0, .slice none 0 0, .int .u8 0, .int .u8 0, .int .u32 0, .slice none 0 0])], []⟩ 8 (by kernel_rfl) (by kernel_rfl) (by kernel_rfl) (by kernel_rfl)) ?_
  intro W base args ds gs before hval0 hW hcnd _
  have hval : ∀ (j : Nat) t v, Try.f3.params[j]? = some t → args[j]? = some v → Value.okWide Try.prog W .any base t v := hval0
  have hW' := hW
  obtain ⟨p, q, hA0, hV, rfl, hfz, hnd⟩ := hW
  have hA : DataW.TrodAll enc Try.prog W 0 (fun _ => true) true Try.f3.params.toList args.toList ds p := hA0
  rw [Try.params3] at hA hval
  obtain ⟨v0, vs0, d0, ds0, p0, q0, hargs, rfl, rfl, h0, r0⟩ := trodAll_cons hA
  obtain ⟨rfl, rfl, rfl⟩ := trodAll_nil r0
  obtain rfl : args = #[v0] := by cases args; simp_all
  obtain ⟨rfl, rfl⟩ := trodVars_none hV
  have k0 := pk_open (hval 0 35 v0 rfl rfl) h0
  have lt0 : ∀ x ∈ p0, x.block < W.heap.size := by obtain ⟨m, hm⟩ := h0; exact DataW.trod_lt m _ _ _ hm
  clear hA0 hval0
  refine (walk W v0 k0).mono fun e W' ⟨he, bel⟩ => ?_
  subst he
  exact ⟨_, rfl, _, _, _, [], _, [], hW', trodAll_mk1 (shut_bool Try.underlying4 _), (trodAll_cons_mk (Below.trod laidOut (by kernel_rfl) (of_decide_eq_true (by kernel_rfl)) h0 bel lt0) trodAll_mk0), rfl, bel.frame _, fun h => by cases h⟩

theorem over : Rows.packetSumsRow.holds Try.pinned (OpenSpec.ofChange Rows.packetSumsSpec) :=
  OpenClaim.holds_of_wide 3 Try.f3 rfl rfl rfl rfl rfl rfl rfl ⟨rfl, rfl, rfl, rfl, rfl⟩ rfl rfl rfl rfl rfl (by kernel_rfl) Try.func3 (by kernel_rfl)
    (of_decide_eq_true (by kernel_rfl)) (by unfold Func.isWrapper; first | (rw [if_pos (by decide +kernel)]; kernel_rfl) | (rw [if_neg (by decide +kernel)]; exact ⟨rfl, rfl⟩))
    (fun os started H enc _ => lifted os started H enc)

/-- The statement. -/
theorem proved : Rows.PacketSumsSaid := over
#print axioms proved
end Go.Proofs.Ytkooehejdfaekaa.packetSums
