/-
  CookieChecks' walk, over the face.
-/
import Derived.Test.YtgcliijngaohdaaDoorCkFace
import Derived.Laws.StructEq
namespace Go.Proofs.YtgcliijngaohdaaDoor.cookieChecksW
set_option maxRecDepth 10000
open Go.RowKit
set_option linter.unusedVariables false
set_option linter.unusedSimpArgs false

theorem in_neq (a : Int) (b : Bool) (c : Int) (W : World) : (binOp .neq 30 (.agg #[.int .i64 a, .bool b, .int .i64 c]) (.agg #[.int .i64 a, .bool b, .int .i64 c])).run Tryd.prog W = .ok (.bool false) W := by
  rw [run_neq_struct, run_equalIn_struct W 9999 30 _ _ (by kernel_rfl) (by kernel_rfl)]
  go_simp
theorem in_eql (a : Int) (b : Bool) (c : Int) (W : World) : (binOp .eql 30 (.agg #[.int .i64 a, .bool b, .int .i64 c]) (.agg #[.int .i64 a, .bool b, .int .i64 c])).run Tryd.prog W = .ok (.bool true) W := by
  rw [run_eql_struct, run_equalIn_struct W 9999 30 _ _ (by kernel_rfl) (by kernel_rfl)]
  go_simp
theorem xor32_bd (a b : Int) : 0 ≤ bits .xor .u32 a b ∧ bits .xor .u32 a b < 4294967296 := by
  have h : bits .xor .u32 a b = IntKind.u32.wrap ((BitVec.ofInt 32 a ^^^ BitVec.ofInt 32 b).toNat : Int) := rfl
  rw [h, IntKind.wrap_u32]
  omega
set_option maxHeartbeats 4000000 in
theorem walk (fc : ClassF17) (fm : MakeF17) (fk : CheckF17) (w : World) (key : Int) (t : Tu) (cl tick c : Int) (k : Bool) (s n u b : Int) (hk : U64C key) (ht : TuNum t) (hc : 0 ≤ cl ∧ cl < 4294967296) (he : U64C tick) (hi : InfoN c s) (hn : 0 ≤ n ∧ n < 4294967296) (hu : 0 ≤ u ∧ u < 4294967296) (hb : U64C b) (hsz : SzW w) :
    Calls Tryd.prog 4 #[.agg #[.int .u64 key, .int .u8 t.pr, .int .u32 t.sr, .int .u32 t.ds, .int .u16 t.sp, .int .u16 t.dp, .int .u32 cl, .int .u64 tick], .agg #[.int .i64 c, .bool k, .int .i64 s], .agg #[.int .u32 n, .int .u32 u, .int .u64 b]] w fun e w' => e = .returned (.bool true) ∧ Below w.heap.size w w' := by
  obtain ⟨z, hz⟩ : ∃ z, w.heap.size = z := ⟨_, rfl⟩
  obtain ⟨wa, ewa⟩ : ∃ v, w.alloc (.cells #[.int .u64 key, .int .u8 t.pr, .int .u32 t.sr, .int .u32 t.ds, .int .u16 t.sp, .int .u16 t.dp, .int .u32 cl, .int .u64 tick] 28) = v := ⟨_, rfl⟩
  obtain ⟨wb, ewb⟩ : ∃ v, wa.alloc (.cells #[.int .i64 c, .bool k, .int .i64 s] 30) = v := ⟨_, rfl⟩
  obtain ⟨w0, ew⟩ : ∃ v, wb.alloc (.cells #[.int .u32 n, .int .u32 u, .int .u64 b] 47) = v := ⟨_, rfl⟩
  have za : wa.heap.size = z + 1 := by rw [← ewa, ← hz]; simp
  have zb : wb.heap.size = z + 1 + 1 := by rw [← ewb]; simp [za]
  have ha : Below w.heap.size w wa := by rw [← ewa]; exact (Below.refl _ _).alloc (Nat.le_refl _) _
  have hab : Below wa.heap.size wa wb := by rw [← ewb]; exact (Below.refl _ _).alloc (Nat.le_refl _) _
  have hbc : Below wb.heap.size wb w0 := by rw [← ew]; exact (Below.refl _ _).alloc (Nat.le_refl _) _
  have hb0 := below_trans (below_trans ha hab) hbc
  have hk0 : w0.heap[z]? = some (.cells #[.int .u64 key, .int .u8 t.pr, .int .u32 t.sr, .int .u32 t.ds, .int .u16 t.sp, .int .u16 t.dp, .int .u32 cl, .int .u64 tick] 28 (0, 0)) := blk_on (blk_on (by rw [← ewa, ← hz]; exact heap_alloc_new w _) hab) hbc
  have hk1 : w0.heap[z + 1]? = some (.cells #[.int .i64 c, .bool k, .int .i64 s] 30 (0, 0)) := blk_on (by rw [← ewb, ← za]; exact heap_alloc_new wa _) hbc
  have hk2 : w0.heap[z + 1 + 1]? = some (.cells #[.int .u32 n, .int .u32 u, .int .u64 b] 47 (0, 0)) := by rw [← ew, ← zb]; exact heap_alloc_new wb _
  have HF := Lib.hid (fun W (hW : Below w0.heap.size w0 W) => And.intro (blk_on hk0 hW) (And.intro (blk_on hk1 hW) (blk_on hk2 hW)))
  have HLw0 := Lib.hid (Below.refl w0.heap.size w0)
  have HZ := Lib.hid (fun W (hW : Below w0.heap.size w0 W) => (hsz.on hb0).on hW)
  have HB := Lib.hid hb0
  have Ew := Lib.hid ew
  have Ewa := Lib.hid ewa
  have Ewb := Lib.hid ewb
  have Hz := Lib.hid hz
  have Hza := Lib.hid (And.intro za zb)
  obtain ⟨q, eq⟩ : ∃ x, isC key t cl tick n = x := ⟨_, rfl⟩
  obtain ⟨y, ey⟩ : ∃ x, makeV key t cl tick c k s = x := ⟨_, rfl⟩
  obtain ⟨g, eg⟩ : ∃ x, makeE c s = x := ⟨_, rfl⟩
  obtain ⟨d, ed⟩ : ∃ x, bits .xor .u32 y u = x := ⟨_, rfl⟩
  obtain ⟨tb, etb⟩ : ∃ x, IntKind.u64.wrap (tick + b) = x := ⟨_, rfl⟩
  obtain ⟨r, er⟩ : ∃ x, isC key t cl tb d = x := ⟨_, rfl⟩
  have hd : 0 ≤ d ∧ d < 4294967296 := by rw [← ed]; exact xor32_bd _ _
  have htb : U64C tb := by rw [← etb]; exact wrapC_bd _
  have M1 := Lib.hid (fun W => fm key t cl tick c k s y g W hk ht hc he hi ey eg)
  have K1 := Lib.hid (fun W => fk key t cl tick n q W hk ht hc he hn eq)
  have K2 := Lib.hid (fun W => rcheck17_any key t cl tick n q W hk ht hc he hn eq)
  have K3 := Lib.hid (fun W => fk key t cl tb d r W hk ht hc htb hd er)
  have K4 := Lib.hid (fun W => rcheck17_any key t cl tb d r W hk ht hc htb hd er)
  have A1 := Lib.hid (fun W => awake17_any fc fm W)
  clear hsz fc fk fm hk ht hc he hi hn hu hb eq ey eg er hd htb ew ewa ewb hz hb0 hk0 hk1 hk2 za zb ha hab hbc
  have hdx := ed
  have htx := etb
  go_enter Tryd.func4, Tryd.ntmps4
  go_upto_region 1 with (fail)
  rw [Ewa.out, Ewb.out, Ew.out]
  try rw [Hz.out]
  try rw [Hza.out.1]
  try rw [Hza.out.2]
  obtain ⟨s0, s1, s2, s3, s4, s5, s6, s7⟩ := cells8C (HF.out _ HLw0.out).1
  obtain ⟨i0, i1, i2⟩ := cells3C (HF.out _ HLw0.out).2.1
  obtain ⟨l0, l1, l2⟩ := cells3C (HF.out _ HLw0.out).2.2
  go_wp2_with fail
  refine (K1.out _).mono ?_
  rintro e w1 ⟨rfl, hb⟩
  have HLw1 := Lib.hid (below_trans HLw0.out hb)
  clear s0 s1 s2 s3 s4 s5 s6 s7 i0 i1 i2 l0 l1 l2
  clear hb
  obtain ⟨z7, ez⟩ : ∃ z, w1.heap.size = z := ⟨_, rfl⟩
  obtain ⟨w2, ev⟩ : ∃ v, w1.alloc (.cells #[.int .i64 (chkC q n), .bool (chkK q n), .int .i64 (chkS q n)] 30) = v := ⟨_, rfl⟩
  have hba : Below w1.heap.size w1 w2 := by rw [← ev]; exact (Below.refl _ _).alloc (Nat.le_refl _) _
  have HKz7 := Lib.hid (show w2.heap[z7]? = some (.cells #[.int .i64 (chkC q n), .bool (chkK q n), .int .i64 (chkS q n)] 30 (0, 0)) by rw [← ev, ← ez]; exact heap_alloc_new w1 _)
  have HLw2 := Lib.hid (below_trans HLw1.out hba)
  have Hgz7 := Lib.hid (show w0.heap.size ≤ z7 by rw [← ez]; exact HLw1.out.size)
  skip
  clear hba
  go_upto_region 2 with (fail)
  try rw [ev]
  try rw [ez]
  clear ev ez
  obtain ⟨s0, s1, s2, s3, s4, s5, s6, s7⟩ := cells8C (HF.out _ HLw2.out).1
  obtain ⟨i0, i1, i2⟩ := cells3C (HF.out _ HLw2.out).2.1
  obtain ⟨l0, l1, l2⟩ := cells3C (HF.out _ HLw2.out).2.2
  go_wp2_with fail
  refine (K2.out _).mono ?_
  rintro e w3 ⟨rfl, hb⟩
  have HLw3 := Lib.hid (below_trans HLw2.out hb)
  clear s0 s1 s2 s3 s4 s5 s6 s7 i0 i1 i2 l0 l1 l2
  have HKz7 := Lib.hid (blk_on HKz7.out hb)
  clear hb
  obtain ⟨z9, ez⟩ : ∃ z, w3.heap.size = z := ⟨_, rfl⟩
  obtain ⟨w4, ev⟩ : ∃ v, w3.alloc (.cells #[.int .i64 (chkC q n), .bool (chkK q n), .int .i64 (chkS q n)] 42) = v := ⟨_, rfl⟩
  have hba : Below w3.heap.size w3 w4 := by rw [← ev]; exact (Below.refl _ _).alloc (Nat.le_refl _) _
  have HKz9 := Lib.hid (show w4.heap[z9]? = some (.cells #[.int .i64 (chkC q n), .bool (chkK q n), .int .i64 (chkS q n)] 42 (0, 0)) by rw [← ev, ← ez]; exact heap_alloc_new w3 _)
  have HLw4 := Lib.hid (below_trans HLw3.out hba)
  have Hgz9 := Lib.hid (show w0.heap.size ≤ z9 by rw [← ez]; exact HLw3.out.size)
  have Hne := Lib.hid (show z7 < z9 by have := lt_of_block HKz7.out; omega); have HKz7 := Lib.hid (blk_on HKz7.out hba)
  clear hba
  go_upto_region 3 with (fail)
  try rw [ev]
  try rw [ez]
  clear ev ez
  obtain ⟨a0, a1, a2⟩ := cells3C HKz7.out
  obtain ⟨c0, c1, c2⟩ := cells3C HKz9.out
  have hne := in_neq (chkC q n) (chkK q n) (chkS q n)
  obtain ⟨s0, s1, s2, s3, s4, s5, s6, s7⟩ := cells8C (HF.out _ HLw4.out).1
  obtain ⟨i0, i1, i2⟩ := cells3C (HF.out _ HLw4.out).2.1
  obtain ⟨l0, l1, l2⟩ := cells3C (HF.out _ HLw4.out).2.2
  go_wp2_with fail
  refine (M1.out _ (HZ.out _ HLw4.out)).mono ?_
  rintro e w5 ⟨rfl, hb⟩
  have HLw5 := Lib.hid (below_trans HLw4.out hb)
  have HKz7 := Lib.hid (blk_on HKz7.out hb)
  have HKz9 := Lib.hid (blk_on HKz9.out hb)
  clear s0 s1 s2 s3 s4 s5 s6 s7 i0 i1 i2 l0 l1 l2 a0 a1 a2 c0 c1 c2 hne hb
  obtain ⟨s0, s1, s2, s3, s4, s5, s6, s7⟩ := cells8C (HF.out _ HLw5.out).1
  obtain ⟨i0, i1, i2⟩ := cells3C (HF.out _ HLw5.out).2.1
  obtain ⟨l0, l1, l2⟩ := cells3C (HF.out _ HLw5.out).2.2
  go_wp2_with fail
  refine (K3.out _).mono ?_
  rintro e w6 ⟨rfl, hb⟩
  have HLw6 := Lib.hid (below_trans HLw5.out hb)
  clear s0 s1 s2 s3 s4 s5 s6 s7 i0 i1 i2 l0 l1 l2
  have HKz7 := Lib.hid (blk_on HKz7.out hb)
  have HKz9 := Lib.hid (blk_on HKz9.out hb)
  clear hb
  obtain ⟨a0, a1, a2⟩ := cells3C HKz7.out
  have fz := fun i => blk_free HKz7.out i
  have hL := set3C_below HLw6.out Hgz7.out (.int .i64 (chkC r d)) (.bool (chkK r d)) (.int .i64 (chkS r d))
  have hK := set3C HKz7.out (.int .i64 (chkC r d)) (.bool (chkK r d)) (.int .i64 (chkS r d))
  have hO := ((((But.refl (fun g => g = z7) w6).setCell (p := ⟨z7, 0, none⟩) rfl (.int .i64 (chkC r d))).setCell (p := ⟨z7, 1, none⟩) rfl (.bool (chkK r d))).setCell (p := ⟨z7, 2, none⟩) rfl (.int .i64 (chkS r d))).blk HKz9.out (fun e => by have := Hne.out; omega)
  go_upto_region 9 with (fail)
  obtain ⟨w7, ev⟩ : ∃ v, ((w6.setCell ⟨z7, 0, none⟩ (.int .i64 (chkC r d))).setCell ⟨z7, 1, none⟩ (.bool (chkK r d))).setCell ⟨z7, 2, none⟩ (.int .i64 (chkS r d)) = v := ⟨_, rfl⟩
  rw [ev] at hL hK hO ⊢
  have HLw7 := Lib.hid hL
  have HKz7 := Lib.hid hK
  have HKz9 := Lib.hid hO
  clear ev hL hK hO a0 a1 a2 fz
  obtain ⟨s0, s1, s2, s3, s4, s5, s6, s7⟩ := cells8C (HF.out _ HLw7.out).1
  obtain ⟨i0, i1, i2⟩ := cells3C (HF.out _ HLw7.out).2.1
  obtain ⟨l0, l1, l2⟩ := cells3C (HF.out _ HLw7.out).2.2
  go_wp2_with fail
  refine (K4.out _).mono ?_
  rintro e w8 ⟨rfl, hb⟩
  have HLw8 := Lib.hid (below_trans HLw7.out hb)
  clear s0 s1 s2 s3 s4 s5 s6 s7 i0 i1 i2 l0 l1 l2
  have HKz7 := Lib.hid (blk_on HKz7.out hb)
  have HKz9 := Lib.hid (blk_on HKz9.out hb)
  clear hb
  obtain ⟨a0, a1, a2⟩ := cells3C HKz9.out
  have fz := fun i => blk_free HKz9.out i
  have hL := set3C_below HLw8.out Hgz9.out (.int .i64 (chkC r d)) (.bool (chkK r d)) (.int .i64 (chkS r d))
  have hK := set3C HKz9.out (.int .i64 (chkC r d)) (.bool (chkK r d)) (.int .i64 (chkS r d))
  have hO := ((((But.refl (fun g => g = z9) w8).setCell (p := ⟨z9, 0, none⟩) rfl (.int .i64 (chkC r d))).setCell (p := ⟨z9, 1, none⟩) rfl (.bool (chkK r d))).setCell (p := ⟨z9, 2, none⟩) rfl (.int .i64 (chkS r d))).blk HKz7.out (fun e => by have := Hne.out; omega)
  go_upto_region 10 with (fail)
  obtain ⟨w9, ev⟩ : ∃ v, ((w8.setCell ⟨z9, 0, none⟩ (.int .i64 (chkC r d))).setCell ⟨z9, 1, none⟩ (.bool (chkK r d))).setCell ⟨z9, 2, none⟩ (.int .i64 (chkS r d)) = v := ⟨_, rfl⟩
  rw [ev] at hL hK hO ⊢
  have HLw9 := Lib.hid hL
  have HKz9 := Lib.hid hK
  have HKz7 := Lib.hid hO
  clear ev hL hK hO a0 a1 a2 fz
  have hne := in_eql (chkC r d) (chkK r d) (chkS r d)
  go_wp2_with fail
  refine (A1.out _ (HZ.out _ HLw9.out)).mono ?_
  rintro e x1 ⟨rfl, hb⟩
  have HLx1 := Lib.hid (below_trans HLw9.out hb)
  obtain ⟨a0, a1, a2⟩ := cells3C (blk_on HKz7.out hb)
  obtain ⟨c0, c1, c2⟩ := cells3C (blk_on HKz9.out hb)
  clear hb
  go_wp2_with fail
  go_ret
  exact ⟨rfl, below_trans HB.out HLx1.out⟩
end Go.Proofs.YtgcliijngaohdaaDoor.cookieChecksW
