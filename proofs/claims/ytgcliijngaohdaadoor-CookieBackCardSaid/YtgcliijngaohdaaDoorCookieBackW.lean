/-
  CookieBack's walk, over the face.
-/
import Derived.Test.YtgcliijngaohdaaDoorCkMay
import Derived.Laws.StructEq
import Derived.Laws.BitsAllLaws
namespace Go.Proofs.YtgcliijngaohdaaDoor.cookieBackW
set_option maxRecDepth 10000
open Go.RowKit
set_option linter.unusedVariables false
set_option linter.unusedSimpArgs false

def sameI (a1 : Int) (b1 : Bool) (c1 a2 : Int) (b2 : Bool) (c2 : Int) : Bool := a1 == a2 && (b1 == b2 && c1 == c2)
theorem in_eqlB (a1 : Int) (b1 : Bool) (c1 a2 : Int) (b2 : Bool) (c2 : Int) (W : World) : (binOp .eql 30 (.agg #[.int .i64 a1, .bool b1, .int .i64 c1]) (.agg #[.int .i64 a2, .bool b2, .int .i64 c2])).run Tryd.prog W = .ok (.bool (sameI a1 b1 c1 a2 b2 c2)) W := by
  rw [run_eql_struct, run_equalIn_struct W 9999 30 _ _ (by kernel_rfl) (by kernel_rfl)]
  unfold sameI
  go_simp
  by_cases h1 : a1 = a2 <;> by_cases h2 : b1 = b2 <;> by_cases h3 : c1 = c2 <;> simp [h1, h2, h3]
theorem in_neqB (a : Int) (b : Bool) (c : Int) (W : World) : (binOp .neq 30 (.agg #[.int .i64 a, .bool b, .int .i64 c]) (.agg #[.int .i64 a, .bool b, .int .i64 c])).run Tryd.prog W = .ok (.bool false) W := by
  rw [run_neq_struct, run_equalIn_struct W 9999 30 _ _ (by kernel_rfl) (by kernel_rfl)]
  go_simp
theorem wraps_u32B (n : Int) (h₀ : 0 ≤ n) (h₁ : n < 2 ^ 32) : IntKind.u32.wrap n = n := by rw [IntKind.wrap_u32]; omega
theorem nat_high (a : Nat) (ha : a < 4294967296) : a &&& 4294967040 = a / 256 * 256 := by
  have h1 : (a &&& 4294967040) / 2 ^ 8 = a / 2 ^ 8 := by
    rw [Nat.and_div_two_pow, show 4294967040 / 2 ^ 8 = 2 ^ 24 - 1 by decide, Nat.and_two_pow_sub_one_eq_mod]
    exact Nat.mod_eq_of_lt (by omega)
  have h2 : (a &&& 4294967040) % 2 ^ 8 = 0 := by rw [Nat.and_mod_two_pow]; simp
  have := Nat.div_add_mod (a &&& 4294967040) (2 ^ 8)
  rw [h1, h2] at this
  omega
/-- The lowest eight bits of another number, the others of this one. -/
theorem other_bits (y n : Int) (hy : 0 ≤ y ∧ y < 4294967296) (hn : 0 ≤ n ∧ n < 4294967296) : bits .andNot .u32 y 255 = y / 256 * 256 ∧ bits .and .u32 n 255 = n % 256 ∧ bits .or .u32 (y / 256 * 256) (n % 256) = y / 256 * 256 + n % 256 := by
  refine ⟨?_, ?_, ?_⟩
  · rw [u32_andNot y 255 hy.1 hy.2 (by decide) (by decide)]
    have h := nat_high y.toNat (by omega)
    have e : (4294967295 - Int.toNat 255 : Nat) = 4294967040 := by decide
    rw [e, h]
    omega
  · exact bits_mask .u32 32 (by decide) wraps_u32B 8 (by decide) n hn.1 hn.2
  · exact bits_join .u32 32 (by decide) wraps_u32B 8 (y / 256 * 256) (n % 256) (by omega) (by omega) (by omega) (by omega) (by omega) (by omega)
set_option maxHeartbeats 8000000 in
theorem walk (fc : ClassF17) (fm : MakeF17) (fk : CheckF17) (w : World) (key : Int) (t : Tu) (cl tick c : Int) (k : Bool) (s n u b : Int) (hk : U64C key) (ht : TuNum t) (hc : 0 ≤ cl ∧ cl < 4294967296) (he : U64C tick) (hn : 0 ≤ n ∧ n < 4294967296) (hb : U64C b) (hsz : SzW w) :
    Calls Tryd.prog 5 #[.agg #[.int .u64 key, .int .u8 t.pr, .int .u32 t.sr, .int .u32 t.ds, .int .u16 t.sp, .int .u16 t.dp, .int .u32 cl, .int .u64 tick], .agg #[.int .i64 c, .bool k, .int .i64 s], .agg #[.int .u32 n, .int .u32 u, .int .u64 b]] w fun e w' => e = .returned (.bool true) ∧ Below w.heap.size w w' := by
  obtain ⟨z, hz⟩ : ∃ z, w.heap.size = z := ⟨_, rfl⟩
  obtain ⟨wa, ewa⟩ : ∃ v, w.alloc (.cells #[.int .u64 key, .int .u8 t.pr, .int .u32 t.sr, .int .u32 t.ds, .int .u16 t.sp, .int .u16 t.dp, .int .u32 cl, .int .u64 tick] 28) = v := ⟨_, rfl⟩
  obtain ⟨wb, ewb⟩ : ∃ v, wa.alloc (.cells #[.int .i64 c, .bool k, .int .i64 s] 30) = v := ⟨_, rfl⟩
  obtain ⟨w0, ew⟩ : ∃ v, wb.alloc (.cells #[.int .u32 n, .int .u32 u, .int .u64 b] 47) = v := ⟨_, rfl⟩
  have za : wa.heap.size = z + 1 := by rw [← ewa, ← hz]; simp
  have zb : wb.heap.size = z + 1 + 1 := by rw [← ewb]; simp [za]
  have ha : Below w.heap.size w wa := by rw [← ewa]; exact (Below.refl _ _).alloc (Nat.le_refl _) _
  have hab : Below wa.heap.size wa wb := by rw [← ewb]; exact (Below.refl _ _).alloc (Nat.le_refl _) _
  have hbc : Below wb.heap.size wb w0 := by rw [← ew]; exact (Below.refl _ _).alloc (Nat.le_refl _) _
  have hb0 := below_trans (below_trans ha hab) hbc
  have hk0 : w0.heap[z]? = some (.cells #[.int .u64 key, .int .u8 t.pr, .int .u32 t.sr, .int .u32 t.ds, .int .u16 t.sp, .int .u16 t.dp, .int .u32 cl, .int .u64 tick] 28 (0, 0)) := blk_on (blk_on (by rw [← ewa, ← hz]; exact heap_alloc_new w _) hab) hbc
  have hk1 : w0.heap[z + 1]? = some (.cells #[.int .i64 c, .bool k, .int .i64 s] 30 (0, 0)) := blk_on (by rw [← ewb, ← za]; exact heap_alloc_new wa _) hbc
  have hk2 : w0.heap[z + 1 + 1]? = some (.cells #[.int .u32 n, .int .u32 u, .int .u64 b] 47 (0, 0)) := by rw [← ew, ← zb]; exact heap_alloc_new wb _
  -- numbers
  obtain ⟨tk, etk⟩ : ∃ x, tick % 1099511627776 = x := ⟨_, rfl⟩
  obtain ⟨c2, ec2⟩ : ∃ x, c % 8 = x := ⟨_, rfl⟩
  obtain ⟨s2, es2⟩ : ∃ x, s % 16 - 1 = x := ⟨_, rfl⟩
  have htk : 0 ≤ tk ∧ tk < 1099511627776 := by unfold U64C at he; omega
  have hm : mayC c2 s2 := by unfold mayC; omega
  have q1 : Int.tmod tick 1099511627776 = tk := by rw [Int.tmod_eq_emod_of_nonneg he.1]; exact etk
  have q2 : IntKind.u64.wrap tk = tk := by rw [IntKind.wrap_u64]; omega
  obtain ⟨b2, eb2⟩ : ∃ x, b % 65 = x := ⟨_, rfl⟩
  have q3 : Int.tmod b 65 = b2 := by rw [Int.tmod_eq_emod_of_nonneg hb.1]; exact eb2
  have q4 : IntKind.u64.wrap b2 = b2 := by rw [IntKind.wrap_u64]; omega
  have q5 : IntKind.u64.wrap (tk + b2) = tk + b2 := by rw [IntKind.wrap_u64]; omega
  obtain ⟨y, ey⟩ : ∃ x, makeV key t cl tk c2 k s2 = x := ⟨_, rfl⟩
  have eg : ∀ c s, mayC c s → makeE c s = 0 := fun c s h => by unfold makeE; rw [if_pos h]
  have hy := makeV_bd key t cl tk c2 k s2
  have hp := make_parts key t cl tk c2 k s2 hm
  rw [ey] at hy hp
  obtain ⟨d1, d2, d3⟩ := dec_enc k hm.1 hm.2 y hp.2
  obtain ⟨yh, eyh⟩ : ∃ x, y / 256 * 256 = x := ⟨_, rfl⟩
  obtain ⟨nl, enl⟩ : ∃ x, n % 256 = x := ⟨_, rfl⟩
  obtain ⟨o, eo⟩ : ∃ x, yh + nl = x := ⟨_, rfl⟩
  obtain ⟨q6, q7, q8⟩ := other_bits y n hy hn
  rw [eyh] at q6 q8
  rw [enl] at q7 q8
  rw [eo] at q8
  have ho : 0 ≤ o ∧ o < 4294967296 := by omega
  have ho2 : o / 256 = y / 256 ∧ o % 256 = nl := by omega
  obtain ⟨c3, ec3⟩ : ∃ x, dCls o = x := ⟨_, rfl⟩
  obtain ⟨k3, ek3⟩ : ∃ x, dSck o = x := ⟨_, rfl⟩
  obtain ⟨s3, es3⟩ : ∃ x, dScl o = x := ⟨_, rfl⟩
  have hm3 := dec_may o ho.1
  have hen := enc_dec o ho.1
  rw [ec3, es3] at hm3
  rw [ec3, ek3, es3] at hen
  have ey3 : makeV key t cl tk c3 k3 s3 = o := by
    unfold makeV
    rw [if_pos (show mayC c3 s3 from hm3), ← hp.1, hen]
    omega
  obtain ⟨q, eq⟩ : ∃ x : Bool, (o == y) = x := ⟨_, rfl⟩
  have hsame : sameI c3 k3 s3 c2 k s2 = q := by
    rw [← eq]
    unfold sameI
    rw [Bool.eq_iff_iff]
    simp only [Bool.and_eq_true, beq_iff_eq]
    constructor
    · rintro ⟨rfl, rfl, rfl⟩
      have := hp.2
      omega
    · intro h
      rw [← ec3, ← ek3, ← es3, h]
      exact ⟨d1, d2, d3⟩
  have hin : InfoN c2 s2 := ⟨by omega, by omega⟩
  have hin3 : InfoN c3 s3 := ⟨by have := hm3.1; omega, by have := hm3.2; omega⟩
  have htk2 : U64C (tk + b2) := ⟨by omega, by omega⟩
  have M1 := Lib.hid (fun W => fm key t cl tk c2 k s2 y 0 W hk ht hc ⟨by omega, by omega⟩ hin ey (eg _ _ hm))
  have M2 := Lib.hid (fun W => fm key t cl tk c3 k3 s3 o 0 W hk ht hc ⟨by omega, by omega⟩ hin3 ey3 (eg _ _ hm3))
  have K1 := Lib.hid (show ∀ W, Calls Tryd.prog 18 #[.int .u64 key, .agg #[.int .u8 t.pr, .int .u32 t.sr, .int .u32 t.ds, .int .u16 t.sp, .int .u16 t.dp], .int .u32 cl, .int .u64 (tk + b2), .int .u32 y] W (TellsC (.tuple #[.agg #[.int .i64 c2, .bool k, .int .i64 s2], .int .i64 0]) W) from fun W => by
    have h := fk key t cl (tk + b2) y true W hk ht hc htk2 hy (is_back key t cl tk b2 y htk.1 (by omega) hp.1)
    rw [show chkC true y = c2 from d1, show chkK true y = k by unfold chkK; rw [Bool.true_and]; exact d2, show chkS true y = s2 from d3] at h
    exact h)
  have K2 := Lib.hid (show ∀ W, Calls Tryd.prog 18 #[.int .u64 key, .agg #[.int .u8 t.pr, .int .u32 t.sr, .int .u32 t.ds, .int .u16 t.sp, .int .u16 t.dp], .int .u32 cl, .int .u64 (tk + b2), .int .u32 o] W (TellsC (.tuple #[.agg #[.int .i64 c3, .bool k3, .int .i64 s3], .int .i64 0]) W) from fun W => by
    have h := fk key t cl (tk + b2) o true W hk ht hc htk2 ho (is_back key t cl tk b2 o htk.1 (by omega) (ho2.1.trans hp.1))
    rw [show chkC true o = c3 from ec3, show chkK true o = k3 by unfold chkK; rw [Bool.true_and]; exact ek3, show chkS true o = s3 from es3] at h
    exact h)
  have A1 := Lib.hid (fun W => awake17_any fc fm W)
  have Y1 := Lib.hid (fun W => may17_any c k s c2 s2 W ec2 es2)
  have E1 := Lib.hid (fun W => in_neqB c2 k s2 W)
  have E2 := Lib.hid (show ∀ W, _ from fun W => by have h := in_eqlB c3 k3 s3 c2 k s2 W; rw [hsame] at h; exact h)
  have Ew := Lib.hid ew
  have Ewa := Lib.hid ewa
  have Ewb := Lib.hid ewb
  have Hz := Lib.hid hz
  have Hza := Lib.hid (And.intro za zb)
  -- the head: the tick is cut, what is said becomes something that may be
  obtain ⟨w1, ew1⟩ : ∃ v, w0.setCell ⟨z, 7, none⟩ (.int .u64 tk) = v := ⟨_, rfl⟩
  have K0 := Lib.hid (show w1.heap[z]? = some (.cells #[.int .u64 key, .int .u8 t.pr, .int .u32 t.sr, .int .u32 t.ds, .int .u16 t.sp, .int .u16 t.dp, .int .u32 cl, .int .u64 tk] 28 (0, 0)) by rw [← ew1]; simp [World.setCell, Array.getElem?_modify, hk0])
  have KI := Lib.hid (show w1.heap[z + 1]? = some (.cells #[.int .i64 c, .bool k, .int .i64 s] 30 (0, 0)) by rw [← ew1]; exact ((But.refl (fun g => g = z) w0).setCell (p := ⟨z, 7, none⟩) rfl _).blk hk1 (fun e => by omega))
  have KL := Lib.hid (show w1.heap[z + 1 + 1]? = some (.cells #[.int .u32 n, .int .u32 u, .int .u64 b] 47 (0, 0)) by rw [← ew1]; exact ((But.refl (fun g => g = z) w0).setCell (p := ⟨z, 7, none⟩) rfl _).blk hk2 (fun e => by omega))
  have HB := Lib.hid (show Below w.heap.size w w1 by rw [← ew1]; exact hb0.setCell (p := ⟨z, 7, none⟩) (by simp only; omega) _)
  have Ew1 := Lib.hid ew1
  have H00 := Lib.hid hk0
  have HS0 := Lib.hid hsz
  clear hsz fc fm fk hk ht hc he hn hb etk ec2 es2 htk hm eb2 ey eg hy hp d1 d2 d3 eyh enl eo ho ho2 ec3 ek3 es3 hm3 hen ey3 hsame hin hin3 htk2 ew ewa ewb hz za zb ha hab hbc hb0 hk0 hk1 hk2 ew1
  go_enter Tryd.func5, Tryd.ntmps5
  go_upto_region 1 with (fail)
  rw [Ewa.out, Ewb.out, Ew.out]
  try rw [Hz.out]
  try rw [Hza.out.1]
  try rw [Hza.out.2]
  have t7 : w0.cell? ⟨z, 7, none⟩ = some (.int .u64 tick) := by rw [blk_cell H00.out]; rfl
  have fz := fun i => blk_free H00.out i
  go_upto_region 2 with (fail)
  try rw [Ew1.out]
  clear t7 fz
  obtain ⟨i0, i1, i2⟩ := cells3C KI.out
  go_wp2_with fail
  refine (Y1.out _).mono ?_
  rintro e w2 ⟨rfl, hb⟩
  have K0 := Lib.hid (blk_on K0.out hb)
  have KI := Lib.hid (blk_on KI.out hb)
  have KL := Lib.hid (blk_on KL.out hb)
  have HB := Lib.hid (below_trans HB.out hb)
  clear hb i0 i1 i2
  obtain ⟨i0, i1, i2⟩ := cells3C KI.out
  have fz := fun i => blk_free KI.out i
  have hbut := (((But.refl (fun g => g = z + 1) w2).setCell (p := ⟨z + 1, 0, none⟩) rfl (.int .i64 c2)).setCell (p := ⟨z + 1, 1, none⟩) rfl (.bool k)).setCell (p := ⟨z + 1, 2, none⟩) rfl (.int .i64 s2)
  have hK := set3C KI.out (.int .i64 c2) (.bool k) (.int .i64 s2)
  have hO := hbut.blk K0.out (fun e => by omega)
  have hP := hbut.blk KL.out (fun e => by omega)
  have hL := set3C_below HB.out (q := z + 1) (by have := Hz.out; omega) (.int .i64 c2) (.bool k) (.int .i64 s2)
  clear hbut
  go_upto_region 3 with (fail)
  obtain ⟨w3, ev⟩ : ∃ v, ((w2.setCell ⟨z + 1, 0, none⟩ (.int .i64 c2)).setCell ⟨z + 1, 1, none⟩ (.bool k)).setCell ⟨z + 1, 2, none⟩ (.int .i64 s2) = v := ⟨_, rfl⟩
  rw [ev] at hL hK hO hP ⊢
  have HF := Lib.hid (fun W (hW : Below w3.heap.size w3 W) => And.intro (blk_on hO hW) (And.intro (blk_on hK hW) (blk_on hP hW)))
  have HB := Lib.hid hL
  have HLw3 := Lib.hid (Below.refl w3.heap.size w3)
  have HZ := Lib.hid (fun W (hW : Below w3.heap.size w3 W) => (HS0.out.on hL).on hW)
  clear ev hL hK hO hP i0 i1 i2 fz K0 KI KL
  obtain ⟨s0, s1, s2_, s3_, s4, s5, s6, s7⟩ := cells8C (HF.out _ HLw3.out).1
  obtain ⟨i0, i1, i2⟩ := cells3C (HF.out _ HLw3.out).2.1
  obtain ⟨l0, l1, l2⟩ := cells3C (HF.out _ HLw3.out).2.2
  go_wp2_with fail
  refine (M1.out _ (HZ.out _ HLw3.out)).mono ?_
  rintro e w4 ⟨rfl, hb⟩
  have HLw4 := Lib.hid (below_trans HLw3.out hb)
  skip
  clear s0 s1 s2_ s3_ s4 s5 s6 s7 i0 i1 i2 l0 l1 l2 hb
  obtain ⟨s0, s1, s2_, s3_, s4, s5, s6, s7⟩ := cells8C (HF.out _ HLw4.out).1
  obtain ⟨i0, i1, i2⟩ := cells3C (HF.out _ HLw4.out).2.1
  obtain ⟨l0, l1, l2⟩ := cells3C (HF.out _ HLw4.out).2.2
  go_wp2_with fail
  refine (K1.out _).mono ?_
  rintro e w5 ⟨rfl, hb⟩
  have HLw5 := Lib.hid (below_trans HLw4.out hb)
  skip
  clear s0 s1 s2_ s3_ s4 s5 s6 s7 i0 i1 i2 l0 l1 l2 hb
  obtain ⟨zx, ez⟩ : ∃ z, w5.heap.size = z := ⟨_, rfl⟩
  obtain ⟨w6, ev⟩ : ∃ v, w5.alloc (.cells #[.int .i64 c2, .bool k, .int .i64 s2] 30) = v := ⟨_, rfl⟩
  have hba : Below w5.heap.size w5 w6 := by rw [← ev]; exact (Below.refl _ _).alloc (Nat.le_refl _) _
  have HKzx := Lib.hid (show w6.heap[zx]? = some (.cells #[.int .i64 c2, .bool k, .int .i64 s2] 30 (0, 0)) by rw [← ev, ← ez]; exact heap_alloc_new w5 _)
  have HLw6 := Lib.hid (below_trans HLw5.out hba)
  clear hba
  go_upto_region 6 with (fail)
  try rw [ev]
  try rw [ez]
  clear ev ez
  obtain ⟨a0, a1, a2⟩ := cells3C HKzx.out
  have hE1 := E1.out
  obtain ⟨s0, s1, s2_, s3_, s4, s5, s6, s7⟩ := cells8C (HF.out _ HLw6.out).1
  obtain ⟨i0, i1, i2⟩ := cells3C (HF.out _ HLw6.out).2.1
  obtain ⟨l0, l1, l2⟩ := cells3C (HF.out _ HLw6.out).2.2
  go_wp2_with fail
  refine (K2.out _).mono ?_
  rintro e w7 ⟨rfl, hb⟩
  have HLw7 := Lib.hid (below_trans HLw6.out hb)
  clear a0 a1 a2 hE1
  clear s0 s1 s2_ s3_ s4 s5 s6 s7 i0 i1 i2 l0 l1 l2 hb
  obtain ⟨zy, ez⟩ : ∃ z, w7.heap.size = z := ⟨_, rfl⟩
  obtain ⟨w8, ev⟩ : ∃ v, w7.alloc (.cells #[.int .i64 c3, .bool k3, .int .i64 s3] 30) = v := ⟨_, rfl⟩
  have hba : Below w7.heap.size w7 w8 := by rw [← ev]; exact (Below.refl _ _).alloc (Nat.le_refl _) _
  have HKzy := Lib.hid (show w8.heap[zy]? = some (.cells #[.int .i64 c3, .bool k3, .int .i64 s3] 30 (0, 0)) by rw [← ev, ← ez]; exact heap_alloc_new w7 _)
  have HLw8 := Lib.hid (below_trans HLw7.out hba)
  clear hba
  go_upto_region 10 with (fail)
  try rw [ev]
  try rw [ez]
  clear ev ez
  obtain ⟨a0, a1, a2⟩ := cells3C HKzy.out
  obtain ⟨s0, s1, s2_, s3_, s4, s5, s6, s7⟩ := cells8C (HF.out _ HLw8.out).1
  obtain ⟨i0, i1, i2⟩ := cells3C (HF.out _ HLw8.out).2.1
  obtain ⟨l0, l1, l2⟩ := cells3C (HF.out _ HLw8.out).2.2
  go_wp2_with fail
  refine (M2.out _ (HZ.out _ HLw8.out)).mono ?_
  rintro e w9 ⟨rfl, hb⟩
  have HLw9 := Lib.hid (below_trans HLw8.out hb)
  have HKzy := Lib.hid (blk_on HKzy.out hb); clear a0 a1 a2
  clear s0 s1 s2_ s3_ s4 s5 s6 s7 i0 i1 i2 l0 l1 l2 hb
  go_wp2_with fail
  refine (A1.out _ (HZ.out _ HLw9.out)).mono ?_
  rintro e w10 ⟨rfl, hb⟩
  have HLw10 := Lib.hid (below_trans HLw9.out hb)
  obtain ⟨a0, a1, a2⟩ := cells3C (blk_on HKzy.out hb)
  obtain ⟨i0, i1, i2⟩ := cells3C (HF.out _ HLw10.out).2.1
  have hE2 := E2.out
  clear hb
  go_wp2_with fail
  go_ret
  exact ⟨rfl, below_trans HB.out HLw10.out⟩
end Go.Proofs.YtgcliijngaohdaaDoor.cookieBackW
