/-
  The document's own cookies (culvertref17): mixing, classes, the hash.
-/
import Derived.Test.YtgcliijngaohdaaDoorCkNum
import Derived.Test.YtgcliijngaohdaaDoorBut
namespace Go.Proofs.YtgcliijngaohdaaDoor
set_option maxRecDepth 10000
open Go.RowKit
set_option linter.unusedSimpArgs false
set_option linter.unusedVariables false

def TellsC (v : Value) (w : World) (e : Ending) (w' : World) : Prop := e = .returned v ∧ Below w.heap.size w w'
set_option maxHeartbeats 1000000 in
theorem rmix17_any (x y : Int) (w : World) (hx : U64C x) (hy : mixC x = y) :
    Calls Tryd.prog 24 #[.int .u64 x] w (TellsC (.int .u64 y) w) := by
  obtain ⟨a, ha⟩ : ∃ a, bits .xor .u64 x (x / 1073741824) = a := ⟨_, rfl⟩
  obtain ⟨b, hb⟩ : ∃ b, IntKind.u64.wrap (a * 13787848793156543929) = b := ⟨_, rfl⟩
  obtain ⟨c, hc⟩ : ∃ c, bits .xor .u64 b (b / 134217728) = c := ⟨_, rfl⟩
  obtain ⟨d, hd⟩ : ∃ d, IntKind.u64.wrap (c * 10723151780598845931) = d := ⟨_, rfl⟩
  have hbb : U64C b := by rw [← hb]; exact wrapC_bd _
  have hdb : U64C d := by rw [← hd]; exact wrapC_bd _
  have hf : bits .xor .u64 d (d / 2147483648) = y := by
    rw [← hy, ← hd, ← hc, ← hb, ← ha]
    rfl
  have t1 : Int.tdiv x 1073741824 = x / 1073741824 := Int.tdiv_eq_ediv_of_nonneg hx.1
  have t2 : Int.tdiv b 134217728 = b / 134217728 := Int.tdiv_eq_ediv_of_nonneg hbb.1
  have t3 : Int.tdiv d 2147483648 = d / 2147483648 := Int.tdiv_eq_ediv_of_nonneg hdb.1
  have q1 : IntKind.u64.wrap (x / 1073741824) = x / 1073741824 := by rw [IntKind.wrap_u64]; have := divC_bd hx 1073741824 (by decide); unfold U64C at this; omega
  have q2 : IntKind.u64.wrap (b / 134217728) = b / 134217728 := by rw [IntKind.wrap_u64]; have := divC_bd hbb 134217728 (by decide); unfold U64C at this; omega
  have q3 : IntKind.u64.wrap (d / 2147483648) = d / 2147483648 := by rw [IntKind.wrap_u64]; have := divC_bd hdb 2147483648 (by decide); unfold U64C at this; omega
  clear hbb hdb hx hy
  go_enter Tryd.func24, Tryd.ntmps24
  go_wp2_with fail
  go_ret
  exact ⟨rfl, Below.refl _ _⟩
set_option maxHeartbeats 1000000 in
theorem rsize17_any (c n e : Int) (w : World) (hn : szC c = n) (he : szE c = e) :
    Calls Tryd.prog 12 #[.int .i64 c] w (TellsC (.tuple #[.int .u16 n, .int .i64 e]) w) := by
  have hs := szE_cases c
  rw [he, hn] at hs
  have hc : c = 0 ∨ c = 1 ∨ c = 2 ∨ c = 3 ∨ c = 4 ∨ c = 5 ∨ c = 6 ∨ c = 7 ∨ (¬ c = 0 ∧ ¬ c = 1 ∧ ¬ c = 2 ∧ ¬ c = 3 ∧ ¬ c = 4 ∧ ¬ c = 5 ∧ ¬ c = 6 ∧ ¬ c = 7 ∧ e = 1 ∧ n = 0) := by omega
  rcases hc with rfl | rfl | rfl | rfl | rfl | rfl | rfl | rfl | ⟨h0, h1, h2, h3, h4, h5, h6, h7, rfl, rfl⟩
  iterate 8
    · have e0 : e = 0 := he.symm.trans (by decide)
      subst e0
      subst hn
      clear he hs
      go_enter Tryd.func12, Tryd.ntmps12
      go_wp2_with fail
      go_ret2
      exact ⟨rfl, Below.refl _ _⟩
  have b0 := beq_false_of_ne h0
  have b1 := beq_false_of_ne h1
  have b2 := beq_false_of_ne h2
  have b3 := beq_false_of_ne h3
  have b4 := beq_false_of_ne h4
  have b5 := beq_false_of_ne h5
  have b6 := beq_false_of_ne h6
  have b7 := beq_false_of_ne h7
  clear h0 h1 h2 h3 h4 h5 h6 h7 hn he hs
  go_enter Tryd.func12, Tryd.ntmps12
  go_wp2_with fail
  go_ret2
  exact ⟨rfl, Below.refl _ _⟩
theorem cls_when {m i : Int} (hi : 0 ≤ i ∧ i ≤ 7) (h1 : szC i ≤ m) (h2 : ∀ c, i < c → c ≤ 7 → m < szC c) : clsI m = i ∧ clsB m = true := by
  have hc : i = 0 ∨ i = 1 ∨ i = 2 ∨ i = 3 ∨ i = 4 ∨ i = 5 ∨ i = 6 ∨ i = 7 := by omega
  have hn : i < 7 → m < szC (i + 1) := fun h => h2 _ (by omega) (by omega)
  rcases hc with rfl | rfl | rfl | rfl | rfl | rfl | rfl | rfl <;> (simp [szC] at h1 hn; unfold clsI clsB; refine ⟨?_, decide_eq_true (by omega)⟩; (repeat' split) <;> omega)
theorem cls_none {m : Int} (h2 : m < szC 0) : clsI m = 0 ∧ clsB m = false := by
  simp [szC] at h2
  unfold clsI clsB
  refine ⟨?_, decide_eq_false (by omega)⟩
  (repeat' split) <;> omega
set_option maxHeartbeats 1000000 in
theorem rclass17_any (m i : Int) (b : Bool) (w : World) (hm : 0 ≤ m ∧ m < 65536) (hi : clsI m = i) (hb : clsB m = b) :
    Calls Tryd.prog 10 #[.int .u16 m] w (TellsC (.tuple #[.int .i64 i, .bool b]) w) := by
  have Hi := Lib.hid hi
  have Hb := Lib.hid hb
  clear hi hb
  go_enter Tryd.func10, Tryd.ntmps10
  go_wp2_with fail
  go_loopg [4] 8 (fun gk x wr => Hid (gk ≤ 8) ∧ x = .int .i64 ((gk : Int) - 1) ∧ Hid (∀ c : Int, (gk : Int) ≤ c → c ≤ 7 → m < szC c) ∧ Hid (Below w.heap.size w wr))
  case atStart => exact ⟨Lib.hid (Nat.le_refl _), rfl, Lib.hid (fun c h1 h2 => by omega), Lib.hid (Below.refl _ _)⟩
  case round =>
    obtain ⟨hgk, rfl, hno, hbl⟩ := hrel
    by_cases h0 : gk = 0
    · subst h0
      obtain ⟨e1, e2⟩ := cls_none (hno.out 0 (by omega) (by omega))
      rw [Hi.out] at e1
      rw [Hb.out] at e2
      subst e1
      subst e2
      go_wp2_with fail
      go_ret2
      exact ⟨rfl, hbl.out⟩
    · obtain ⟨j, rfl⟩ : ∃ j, gk = j + 1 := ⟨gk - 1, by omega⟩
      have hj : j ≤ 7 := by have := hgk.out; omega
      rw [show ((j + 1 : Nat) : Int) - 1 = (j : Int) by omega]
      obtain ⟨n, en⟩ : ∃ n, szC (j : Int) = n := ⟨_, rfl⟩
      have He := Lib.hid (show szE (j : Int) = 0 by unfold szE; rw [if_pos ⟨by omega, by omega⟩])
      have En := Lib.hid en
      have Hj := Lib.hid hj
      have hge : (0 : Int) ≤ (j : Int) := by omega
      clear h0 en hj
      go_wp2_with fail
      refine (rsize17_any (j : Int) n 0 _ En.out He.out).mono ?_
      rintro e w1 ⟨rfl, hb1⟩
      have Hb1 := Lib.hid (below_trans hbl.out hb1)
      clear hb1
      by_cases hn : n ≤ m
      · obtain ⟨e1, e2⟩ := cls_when (m := m) (i := (j : Int)) ⟨by omega, by have := Hj.out; omega⟩ (by rw [En.out]; exact hn) (fun c h1 h2 => hno.out c (by omega) h2)
        rw [Hi.out] at e1
        rw [Hb.out] at e2
        subst e1
        subst e2
        go_wp2_with fail
        go_ret2
        exact ⟨rfl, Hb1.out⟩
      · have hw : wrap64 ((j : Int) - 1) = (j : Int) - 1 := IntWalk.wrap64_in _ (by have := Hj.out; omega)
        have Hn := Lib.hid hn
        have hn2 : ¬ n ≤ m := hn
        clear hn
        go_wp2_with fail
        go_roundg j
        case measure => omega
        case rel =>
          refine ⟨Lib.hid (by have := Hj.out; omega), by rw [IntWalk.wrap64_in _ (by have := Hj.out; omega)], Lib.hid (fun c h1 h2 => ?_), Hb1⟩
          by_cases hc : c = (j : Int)
          · subst hc; rw [En.out]; have := Hn.out; omega
          · exact hno.out c (by omega) h2
set_option maxHeartbeats 1000000 in
theorem rhash17_any (key : Int) (t : Tu) (cl ep y : Int) (w : World) (hk : U64C key) (ht : TuNum t) (hc : 0 ≤ cl ∧ cl < 4294967296) (he : U64C ep) (hy : hashC key t cl ep = y) :
    Calls Tryd.prog 17 #[.int .u64 key, .agg #[.int .u8 t.pr, .int .u32 t.sr, .int .u32 t.ds, .int .u16 t.sp, .int .u16 t.dp], .int .u32 cl, .int .u64 ep] w (TellsC (.int .u64 y) w) := by
  obtain ⟨z, hz⟩ : ∃ z, w.heap.size = z := ⟨_, rfl⟩
  obtain ⟨w0, ew⟩ : ∃ v, w.alloc (.cells #[.int .u8 t.pr, .int .u32 t.sr, .int .u32 t.ds, .int .u16 t.sp, .int .u16 t.dp] 26) = v := ⟨_, rfl⟩
  have hb0 : Below w.heap.size w w0 := by rw [← ew]; exact (Below.refl _ _).alloc (Nat.le_refl _) _
  have hk0 : w0.heap[z]? = some (.cells #[.int .u8 t.pr, .int .u32 t.sr, .int .u32 t.ds, .int .u16 t.sp, .int .u16 t.dp] 26 (0, 0)) := by rw [← ew, ← hz]; exact heap_alloc_new w _
  have Ew := Lib.hid ew
  have Hz := Lib.hid hz
  have HK := Lib.hid hk0
  have HB := Lib.hid hb0
  obtain ⟨x1, e1⟩ : ∃ x, bits .xor .u64 key t.pr = x := ⟨_, rfl⟩
  obtain ⟨h1, f1⟩ : ∃ x, hash1 key t = x := ⟨_, rfl⟩
  obtain ⟨x2, e2⟩ : ∃ x, bits .xor .u64 h1 (t.sr * 4294967296 + t.ds) = x := ⟨_, rfl⟩
  obtain ⟨h2, f2⟩ : ∃ x, hash2 key t = x := ⟨_, rfl⟩
  obtain ⟨x3, e3⟩ : ∃ x, bits .xor .u64 h2 (t.sp * 65536 + t.dp) = x := ⟨_, rfl⟩
  obtain ⟨h3, f3⟩ : ∃ x, hash3 key t = x := ⟨_, rfl⟩
  obtain ⟨x4, e4⟩ : ∃ x, bits .xor .u64 h3 cl = x := ⟨_, rfl⟩
  obtain ⟨h4, f4⟩ : ∃ x, hash4 key t cl = x := ⟨_, rfl⟩
  obtain ⟨x5, e5⟩ : ∃ x, bits .xor .u64 h4 ep = x := ⟨_, rfl⟩
  have b1 : U64C h1 := by rw [← f1]; exact mixC_bd _
  have b2 : U64C h2 := by rw [← f2]; exact mixC_bd _
  have b3 : U64C h3 := by rw [← f3]; exact mixC_bd _
  have b4 : U64C h4 := by rw [← f4]; exact mixC_bd _
  have n1 := ht.pr; have n2 := ht.sr; have n3 := ht.ds; have n4 := ht.sp; have n5 := ht.dp
  have G1 := Lib.hid (show U64C x1 ∧ mixC x1 = h1 from ⟨by rw [← e1]; exact xorC_bd hk ⟨by omega, by omega⟩, by rw [← e1, ← f1]; rfl⟩)
  have G2 := Lib.hid (show U64C x2 ∧ mixC x2 = h2 from ⟨by rw [← e2]; exact xorC_bd b1 ⟨by omega, by omega⟩, by rw [← e2, ← f2, ← f1]; rfl⟩)
  have G3 := Lib.hid (show U64C x3 ∧ mixC x3 = h3 from ⟨by rw [← e3]; exact xorC_bd b2 ⟨by omega, by omega⟩, by rw [← e3, ← f3, ← f2]; rfl⟩)
  have G4 := Lib.hid (show U64C x4 ∧ mixC x4 = h4 from ⟨by rw [← e4]; exact xorC_bd b3 ⟨by omega, by omega⟩, by rw [← e4, ← f4, ← f3]; rfl⟩)
  have G5 := Lib.hid (show U64C x5 ∧ mixC x5 = y from ⟨by rw [← e5]; exact xorC_bd b4 he, by rw [← e5, ← hy, ← f4]; rfl⟩)
  have q1 : IntKind.u64.wrap (t.sr * 4294967296) = t.sr * 4294967296 := by rw [IntKind.wrap_u64]; omega
  have q2 : IntKind.u64.wrap (t.sr * 4294967296 + t.ds) = t.sr * 4294967296 + t.ds := by rw [IntKind.wrap_u64]; omega
  have q3 : IntKind.u64.wrap (t.sp * 65536) = t.sp * 65536 := by rw [IntKind.wrap_u64]; omega
  have q4 : IntKind.u64.wrap (t.sp * 65536 + t.dp) = t.sp * 65536 + t.dp := by rw [IntKind.wrap_u64]; omega
  have q5 : IntKind.u64.wrap t.sr = t.sr := by rw [IntKind.wrap_u64]; omega
  have q6 : IntKind.u64.wrap t.ds = t.ds := by rw [IntKind.wrap_u64]; omega
  have q7 : IntKind.u64.wrap t.sp = t.sp := by rw [IntKind.wrap_u64]; omega
  have q8 : IntKind.u64.wrap t.dp = t.dp := by rw [IntKind.wrap_u64]; omega
  have q9 : IntKind.u64.wrap t.pr = t.pr := by rw [IntKind.wrap_u64]; omega
  have q10 : IntKind.u64.wrap cl = cl := by rw [IntKind.wrap_u64]; omega
  clear b1 b2 b3 b4 f1 f2 f3 f4 n1 n2 n3 n4 n5 hk ht hc he hy ew hz hk0 hb0
  go_enter Tryd.func17, Tryd.ntmps17
  go_upto_region 1 with (fail)
  rw [Ew.out]
  try rw [Hz.out]
  have k0 : w0.cell? ⟨z, 0, none⟩ = some (.int .u8 t.pr) := by rw [blk_cell HK.out]; rfl
  go_wp2_with fail
  refine (rmix17_any _ _ _ G1.out.1 G1.out.2).mono ?_
  rintro e w1 ⟨rfl, hb⟩
  have HB1 := Lib.hid (below_trans HB.out hb)
  have HK1 := Lib.hid (blk_on HK.out hb)
  clear hb
  have k1 : w1.cell? ⟨z, 1, none⟩ = some (.int .u32 t.sr) := by rw [blk_cell HK1.out]; rfl
  have k2 : w1.cell? ⟨z, 2, none⟩ = some (.int .u32 t.ds) := by rw [blk_cell HK1.out]; rfl
  clear k0
  go_wp2_with fail
  refine (rmix17_any _ _ _ G2.out.1 G2.out.2).mono ?_
  rintro e w2 ⟨rfl, hb⟩
  have HB1 := Lib.hid (below_trans HB1.out hb)
  have HK1 := Lib.hid (blk_on HK1.out hb)
  clear hb
  have k3 : w2.cell? ⟨z, 3, none⟩ = some (.int .u16 t.sp) := by rw [blk_cell HK1.out]; rfl
  have k4 : w2.cell? ⟨z, 4, none⟩ = some (.int .u16 t.dp) := by rw [blk_cell HK1.out]; rfl
  clear k1 k2
  go_wp2_with fail
  refine (rmix17_any _ _ _ G3.out.1 G3.out.2).mono ?_
  rintro e w3 ⟨rfl, hb⟩
  have HB1 := Lib.hid (below_trans HB1.out hb)
  have HK1 := Lib.hid (blk_on HK1.out hb)
  clear hb
  clear k3 k4
  go_wp2_with fail
  refine (rmix17_any _ _ _ G4.out.1 G4.out.2).mono ?_
  rintro e w4 ⟨rfl, hb⟩
  have HB1 := Lib.hid (below_trans HB1.out hb)
  have HK1 := Lib.hid (blk_on HK1.out hb)
  clear hb
  go_wp2_with fail
  refine (rmix17_any _ _ _ G5.out.1 G5.out.2).mono ?_
  rintro e w5 ⟨rfl, hb⟩
  have HB1 := Lib.hid (below_trans HB1.out hb)
  have HK1 := Lib.hid (blk_on HK1.out hb)
  clear hb
  go_wp2_with fail
  go_ret
  exact ⟨rfl, HB1.out⟩
/-- What is said (Info): a class, whether SACK goes, a scale. -/
structure InfoN (c s : Int) : Prop where
  c : -9223372036854775808 ≤ c ∧ c ≤ 9223372036854775807
  s : -9223372036854775808 ≤ s ∧ s ≤ 9223372036854775807
set_option maxHeartbeats 1000000 in
theorem rmake17_any (key : Int) (t : Tu) (cl tick c : Int) (k : Bool) (s y e : Int) (w : World) (hk : U64C key) (ht : TuNum t) (hc : 0 ≤ cl ∧ cl < 4294967296) (he : U64C tick) (hi : InfoN c s) (hy : makeV key t cl tick c k s = y) (hx : makeE c s = e) :
    Calls Tryd.prog 14 #[.int .u64 key, .agg #[.int .u8 t.pr, .int .u32 t.sr, .int .u32 t.ds, .int .u16 t.sp, .int .u16 t.dp], .int .u32 cl, .int .u64 tick, .agg #[.int .i64 c, .bool k, .int .i64 s]] w (TellsC (.tuple #[.int .u32 y, .int .i64 e]) w) := by
  obtain ⟨z, hz⟩ : ∃ z, w.heap.size = z := ⟨_, rfl⟩
  obtain ⟨w0, ew⟩ : ∃ v, (w.alloc (.cells #[.int .u8 t.pr, .int .u32 t.sr, .int .u32 t.ds, .int .u16 t.sp, .int .u16 t.dp] 26)).alloc (.cells #[.int .i64 c, .bool k, .int .i64 s] 42) = v := ⟨_, rfl⟩
  have hb0 : Below w.heap.size w w0 := by rw [← ew]; exact ((Below.refl _ _).alloc (Nat.le_refl _) _).alloc (by simp) _
  have hk0 : w0.heap[z]? = some (.cells #[.int .u8 t.pr, .int .u32 t.sr, .int .u32 t.ds, .int .u16 t.sp, .int .u16 t.dp] 26 (0, 0)) := by rw [← ew, Below.heap_alloc _ _ _ (by simp [hz]), ← hz]; exact heap_alloc_new w _
  have hk1 : w0.heap[z + 1]? = some (.cells #[.int .i64 c, .bool k, .int .i64 s] 42 (0, 0)) := by rw [← ew, ← hz]; simpa using heap_alloc_new (w.alloc (.cells #[.int .u8 t.pr, .int .u32 t.sr, .int .u32 t.ds, .int .u16 t.sp, .int .u16 t.dp] 26)) (.cells #[.int .i64 c, .bool k, .int .i64 s] 42)
  have Ew := Lib.hid ew
  have Hz := Lib.hid hz
  have HB := Lib.hid hb0
  have c0 : w0.cell? ⟨z + 1, 0, none⟩ = some (.int .i64 c) := by rw [blk_cell hk1]; rfl
  have c1 : w0.cell? ⟨z + 1, 1, none⟩ = some (.bool k) := by rw [blk_cell hk1]; rfl
  have c2 : w0.cell? ⟨z + 1, 2, none⟩ = some (.int .i64 s) := by rw [blk_cell hk1]; rfl
  have t0 : w0.cell? ⟨z, 0, none⟩ = some (.int .u8 t.pr) := by rw [blk_cell hk0]; rfl
  have t1 : w0.cell? ⟨z, 1, none⟩ = some (.int .u32 t.sr) := by rw [blk_cell hk0]; rfl
  have t2 : w0.cell? ⟨z, 2, none⟩ = some (.int .u32 t.ds) := by rw [blk_cell hk0]; rfl
  have t3 : w0.cell? ⟨z, 3, none⟩ = some (.int .u16 t.sp) := by rw [blk_cell hk0]; rfl
  have t4 : w0.cell? ⟨z, 4, none⟩ = some (.int .u16 t.dp) := by rw [blk_cell hk0]; rfl
  have HI := Lib.hid hi
  clear hz ew hb0 hk0 hk1 hi
  by_cases hm : mayC c s
  case neg =>
    have Hyx := Lib.hid (show y = 0 ∧ e = 1 by unfold makeV at hy; unfold makeE at hx; rw [if_neg hm] at hy hx; exact ⟨hy.symm, hx.symm⟩)
    have hm2 : c < 0 ∨ (¬ c < 0 ∧ 7 < c) ∨ (¬ c < 0 ∧ ¬ 7 < c ∧ s < -1) ∨ (¬ c < 0 ∧ ¬ 7 < c ∧ ¬ s < -1 ∧ 14 < s) := by unfold mayC at hm; omega
    obtain rfl : y = 0 := Hyx.out.1
    obtain rfl : e = 1 := Hyx.out.2
    clear hm hy hx hk ht hc he Hyx
    rcases hm2 with h | ⟨g1, h⟩ | ⟨g1, g2, h⟩ | ⟨g1, g2, g3, h⟩
    all_goals
      go_enter Tryd.func14, Tryd.ntmps14
      go_upto_region 1 with (fail)
      rw [Ew.out]
      try rw [Hz.out]
      go_wp2_with fail
      go_ret2
      exact ⟨rfl, HB.out⟩
  obtain ⟨⟨a1, a2⟩, ⟨a3, a4⟩⟩ := hm
  have Hm := Lib.hid (show mayC c s from ⟨⟨a1, a2⟩, ⟨a3, a4⟩⟩)
  have g1 : ¬ c < 0 := by omega
  have g2 : ¬ 7 < c := by omega
  have g3 : ¬ s < -1 := by omega
  have g4 : ¬ 14 < s := by omega
  have tq : Int.tdiv tick 64 = tick / 64 := Int.tdiv_eq_ediv_of_nonneg he.1
  have tw : IntKind.u64.wrap (tick / 64) = tick / 64 := by rw [IntKind.wrap_u64]; have := divC_bd he 64 (by decide); unfold U64C at this; omega
  obtain ⟨h, eh⟩ : ∃ x, hashC key t cl (tick / 64) = x := ⟨_, rfl⟩
  have hb : U64C h := by rw [← eh]; exact hashC_bd _ _ _ _
  have HH := Lib.hid (fun W => rhash17_any key t cl (tick / 64) h W hk ht hc (divC_bd he 64 (by decide)) eh)
  have hq : Int.tdiv h 1099511627776 = h / 1099511627776 := Int.tdiv_eq_ediv_of_nonneg hb.1
  obtain ⟨g, eg⟩ : ∃ x, h / 1099511627776 = x := ⟨_, rfl⟩
  have hg : 0 ≤ g ∧ g < 16777216 := by unfold U64C at hb; omega
  have hgw : IntKind.u64.wrap g = g := by rw [IntKind.wrap_u64]; omega
  have hgw2 : IntKind.u32.wrap g = g := by rw [IntKind.wrap_u32]; omega
  have hgw3 : IntKind.u32.wrap (g * 256) = g * 256 := by rw [IntKind.wrap_u32]; omega
  have q1 : IntKind.u32.wrap c = c := by rw [IntKind.wrap_u32]; omega
  have q2 : IntKind.u32.wrap (c * 32) = c * 32 := by rw [IntKind.wrap_u32]; omega
  have Hyx := Lib.hid (show y = g * 256 + encC c k s ∧ e = 0 by
    unfold makeV at hy
    unfold makeE at hx
    rw [if_pos Hm.out] at hy hx
    unfold hiC at hy
    rw [eh, eg] at hy
    exact ⟨hy.symm, hx.symm⟩)
  clear hy hx hk ht hc he eh hb
  rcases Bool.eq_false_or_eq_true k with rfl | rfl
  · by_cases hs : s = -1
    · subst hs
      have n1 : IntKind.u32.wrap (c * 32 + 16) = c * 32 + 16 := by rw [IntKind.wrap_u32]; omega
      have n2 : IntKind.u32.wrap (c * 32 + 16 + 15) = c * 32 + 16 + 15 := by rw [IntKind.wrap_u32]; omega
      have n3 : IntKind.u32.wrap (g * 256 + (c * 32 + 16 + 15)) = g * 256 + (c * 32 + 16 + 15) := by rw [IntKind.wrap_u32]; omega
      have En := Lib.hid (show encC c true (-1) = c * 32 + 16 + 15 by unfold encC; simp)
      obtain rfl : y = g * 256 + (c * 32 + 16 + 15) := Hyx.out.1.trans (by rw [En.out])
      obtain rfl : e = 0 := Hyx.out.2
      clear Hyx
      clear a1 a2 a3 a4 hg
      go_enter Tryd.func14, Tryd.ntmps14
      go_upto_region 1 with (fail)
      rw [Ew.out]
      try rw [Hz.out]
      go_wp2_with fail
      refine (HH.out _).mono ?_
      rintro e1 w1 ⟨rfl, hb1⟩
      have HB1 := Lib.hid (below_trans HB.out hb1)
      clear hb1
      go_wp2_with fail
      go_ret2
      exact ⟨rfl, HB1.out⟩
    · have hs2 : (s == -1) = false := beq_false_of_ne hs
      have n0 : IntKind.u32.wrap s = s := by rw [IntKind.wrap_u32]; omega
      have n1 : IntKind.u32.wrap (c * 32 + 16) = c * 32 + 16 := by rw [IntKind.wrap_u32]; omega
      have n2 : IntKind.u32.wrap (c * 32 + 16 + s) = c * 32 + 16 + s := by rw [IntKind.wrap_u32]; omega
      have n3 : IntKind.u32.wrap (g * 256 + (c * 32 + 16 + s)) = g * 256 + (c * 32 + 16 + s) := by rw [IntKind.wrap_u32]; omega
      have En := Lib.hid (show encC c true s = c * 32 + 16 + s by unfold encC; rw [if_neg hs]; simp)
      obtain rfl : y = g * 256 + (c * 32 + 16 + s) := Hyx.out.1.trans (by rw [En.out])
      obtain rfl : e = 0 := Hyx.out.2
      clear Hyx
      clear a1 a2 a3 a4 hg hs
      go_enter Tryd.func14, Tryd.ntmps14
      go_upto_region 1 with (fail)
      rw [Ew.out]
      try rw [Hz.out]
      go_wp2_with fail
      refine (HH.out _).mono ?_
      rintro e1 w1 ⟨rfl, hb1⟩
      have HB1 := Lib.hid (below_trans HB.out hb1)
      clear hb1
      go_wp2_with fail
      go_ret2
      exact ⟨rfl, HB1.out⟩
  · by_cases hs : s = -1
    · subst hs
      have n2 : IntKind.u32.wrap (c * 32 + 15) = c * 32 + 15 := by rw [IntKind.wrap_u32]; omega
      have n3 : IntKind.u32.wrap (g * 256 + (c * 32 + 15)) = g * 256 + (c * 32 + 15) := by rw [IntKind.wrap_u32]; omega
      have En := Lib.hid (show encC c false (-1) = c * 32 + 15 by unfold encC; simp)
      obtain rfl : y = g * 256 + (c * 32 + 15) := Hyx.out.1.trans (by rw [En.out])
      obtain rfl : e = 0 := Hyx.out.2
      clear Hyx
      clear a1 a2 a3 a4 hg
      go_enter Tryd.func14, Tryd.ntmps14
      go_upto_region 1 with (fail)
      rw [Ew.out]
      try rw [Hz.out]
      go_wp2_with fail
      refine (HH.out _).mono ?_
      rintro e1 w1 ⟨rfl, hb1⟩
      have HB1 := Lib.hid (below_trans HB.out hb1)
      clear hb1
      go_wp2_with fail
      go_ret2
      exact ⟨rfl, HB1.out⟩
    · have hs2 : (s == -1) = false := beq_false_of_ne hs
      have n0 : IntKind.u32.wrap s = s := by rw [IntKind.wrap_u32]; omega
      have n2 : IntKind.u32.wrap (c * 32 + s) = c * 32 + s := by rw [IntKind.wrap_u32]; omega
      have n3 : IntKind.u32.wrap (g * 256 + (c * 32 + s)) = g * 256 + (c * 32 + s) := by rw [IntKind.wrap_u32]; omega
      have En := Lib.hid (show encC c false s = c * 32 + s by unfold encC; rw [if_neg hs]; simp)
      obtain rfl : y = g * 256 + (c * 32 + s) := Hyx.out.1.trans (by rw [En.out])
      obtain rfl : e = 0 := Hyx.out.2
      clear Hyx
      clear a1 a2 a3 a4 hg hs
      go_enter Tryd.func14, Tryd.ntmps14
      go_upto_region 1 with (fail)
      rw [Ew.out]
      try rw [Hz.out]
      go_wp2_with fail
      refine (HH.out _).mono ?_
      rintro e1 w1 ⟨rfl, hb1⟩
      have HB1 := Lib.hid (below_trans HB.out hb1)
      clear hb1
      go_wp2_with fail
      go_ret2
      exact ⟨rfl, HB1.out⟩
end Go.Proofs.YtgcliijngaohdaaDoor
