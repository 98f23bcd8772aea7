/-
  CookieEpochs' walk, over the face.
-/
import Derived.Test.YtgcliijngaohdaaDoorCkMay
namespace Go.Proofs.YtgcliijngaohdaaDoor.cookieEpochsW
set_option maxRecDepth 10000
open Go.RowKit
set_option linter.unusedVariables false
set_option linter.unusedSimpArgs false

set_option maxHeartbeats 4000000 in
theorem walk (fc : ClassF17) (fh : HashF17) (fm : MakeF17) (w : World) (key : Int) (t : Tu) (cl tick c : Int) (k : Bool) (s a : Int) (hk : U64C key) (ht : TuNum t) (hc : 0 ≤ cl ∧ cl < 4294967296) (he : U64C tick) (hi : InfoN c s) (ha : 0 ≤ a ∧ a < 256) (hsz : SzW w) :
    Calls Tryd.prog 7 #[.agg #[.int .u64 key, .int .u8 t.pr, .int .u32 t.sr, .int .u32 t.ds, .int .u16 t.sp, .int .u16 t.dp, .int .u32 cl, .int .u64 tick], .agg #[.int .i64 c, .bool k, .int .i64 s], .int .u8 a] w fun e w' => e = .returned (.bool true) ∧ Below w.heap.size w w' := by
  obtain ⟨z, hz⟩ : ∃ z, w.heap.size = z := ⟨_, rfl⟩
  obtain ⟨w0, ew⟩ : ∃ v, (w.alloc (.cells #[.int .u64 key, .int .u8 t.pr, .int .u32 t.sr, .int .u32 t.ds, .int .u16 t.sp, .int .u16 t.dp, .int .u32 cl, .int .u64 tick] 28)).alloc (.cells #[.int .i64 c, .bool k, .int .i64 s] 30) = v := ⟨_, rfl⟩
  have hb0 : Below w.heap.size w w0 := by rw [← ew]; exact ((Below.refl _ _).alloc (Nat.le_refl _) _).alloc (by simp) _
  have hk0 : w0.heap[z]? = some (.cells #[.int .u64 key, .int .u8 t.pr, .int .u32 t.sr, .int .u32 t.ds, .int .u16 t.sp, .int .u16 t.dp, .int .u32 cl, .int .u64 tick] 28 (0, 0)) := by rw [← ew, Below.heap_alloc _ _ _ (by simp [hz]), ← hz]; exact heap_alloc_new w _
  have hk1 : w0.heap[z + 1]? = some (.cells #[.int .i64 c, .bool k, .int .i64 s] 30 (0, 0)) := by rw [← ew, ← hz]; simpa using heap_alloc_new (w.alloc (.cells #[.int .u64 key, .int .u8 t.pr, .int .u32 t.sr, .int .u32 t.ds, .int .u16 t.sp, .int .u16 t.dp, .int .u32 cl, .int .u64 tick] 28)) (.cells #[.int .i64 c, .bool k, .int .i64 s] 30)
  obtain ⟨tk, etk⟩ : ∃ x, tick % 1099511627776 = x := ⟨_, rfl⟩
  obtain ⟨c2, ec2⟩ : ∃ x, c % 8 = x := ⟨_, rfl⟩
  obtain ⟨s2, es2⟩ : ∃ x, s % 16 - 1 = x := ⟨_, rfl⟩
  have htk : 0 ≤ tk ∧ tk < 1099511627776 := by unfold U64C at he; omega
  have hm : mayC c2 s2 := by unfold mayC; omega
  have q1 : Int.tmod tick 1099511627776 = tk := by rw [Int.tmod_eq_emod_of_nonneg he.1]; exact etk
  have q2 : IntKind.u64.wrap tk = tk := by rw [IntKind.wrap_u64]; omega
  obtain ⟨ep, eep⟩ : ∃ x, tk / 64 = x := ⟨_, rfl⟩
  have q3 : Int.tdiv tk 64 = ep := by rw [Int.tdiv_eq_ediv_of_nonneg htk.1]; exact eep
  have q4 : IntKind.u64.wrap ep = ep := by rw [IntKind.wrap_u64]; omega
  have q5 : IntKind.u64.wrap (ep * 64) = ep * 64 := by rw [IntKind.wrap_u64]; omega
  obtain ⟨a2, ea2⟩ : ∃ x, a % 64 = x := ⟨_, rfl⟩
  have q6 : Int.tmod a 64 = a2 := by rw [Int.tmod_eq_emod_of_nonneg ha.1]; exact ea2
  have q7 : IntKind.u8.wrap a2 = a2 := by simp [IntKind.wrap, IntKind.bits, IntKind.signed]; omega
  have q8 : IntKind.u64.wrap a2 = a2 := by rw [IntKind.wrap_u64]; omega
  have q9 : IntKind.u64.wrap (ep * 64 + a2) = ep * 64 + a2 := by rw [IntKind.wrap_u64]; omega
  obtain ⟨y, ey⟩ : ∃ x, makeV key t cl tk c2 k s2 = x := ⟨_, rfl⟩
  have ey2 : makeV key t cl (ep * 64 + a2) c2 k s2 = y := by
    rw [← ey]
    unfold makeV
    rw [show (ep * 64 + a2) / 64 = tk / 64 by omega]
  have eg : makeE c2 s2 = 0 := by unfold makeE; rw [if_pos hm]
  have hy := makeV_bd key t cl tk c2 k s2
  rw [ey] at hy
  obtain ⟨h, eh⟩ : ∃ x, hashC key t cl ep = x := ⟨_, rfl⟩
  have hh : U64C h := by rw [← eh]; exact hashC_bd _ _ _ _
  obtain ⟨g, eg2⟩ : ∃ x, h / 1099511627776 = x := ⟨_, rfl⟩
  have hg : 0 ≤ g ∧ g < 16777216 := by unfold U64C at hh; omega
  have hyg : y / 256 = g := by
    have := (make_parts key t cl tk c2 k s2 hm).1
    rw [ey, eep] at this
    rw [this, ← eg2, ← eh]
    rfl
  have r1 : IntKind.u32.wrap g = g := by rw [IntKind.wrap_u32]; omega
  have r2 : IntKind.u64.wrap g = g := by rw [IntKind.wrap_u64]; omega
  have Eg2 := Lib.hid eg2
  have hin : InfoN c2 s2 := ⟨by omega, by omega⟩
  have M1 := Lib.hid (fun W => fm key t cl tk c2 k s2 y 0 W hk ht hc ⟨by omega, by omega⟩ hin ey eg)
  have M2 := Lib.hid (fun W => fm key t cl (ep * 64 + a2) c2 k s2 y 0 W hk ht hc ⟨by omega, by omega⟩ hin ey2 eg)
  have H1 := Lib.hid (fun W => fh key t cl ep h W hk ht hc ⟨by omega, by omega⟩ eh)
  have A1 := Lib.hid (fun W => awake17_any fc fm W)
  have Y1 := Lib.hid (fun W => may17_any c k s c2 s2 W ec2 es2)
  have Ew := Lib.hid ew
  have Hz := Lib.hid hz
  -- the head: the tick is cut, what is said becomes something that may be
  obtain ⟨w1, ew1⟩ : ∃ v, w0.setCell ⟨z, 7, none⟩ (.int .u64 tk) = v := ⟨_, rfl⟩
  have K0 := Lib.hid (show w1.heap[z]? = some (.cells #[.int .u64 key, .int .u8 t.pr, .int .u32 t.sr, .int .u32 t.ds, .int .u16 t.sp, .int .u16 t.dp, .int .u32 cl, .int .u64 tk] 28 (0, 0)) by rw [← ew1]; simp [World.setCell, Array.getElem?_modify, hk0])
  have K1 := Lib.hid (show w1.heap[z + 1]? = some (.cells #[.int .i64 c, .bool k, .int .i64 s] 30 (0, 0)) by rw [← ew1]; exact ((But.refl (fun g => g = z) w0).setCell (p := ⟨z, 7, none⟩) rfl _).blk hk1 (fun e => by omega))
  have HB := Lib.hid (show Below w.heap.size w w1 by rw [← ew1]; exact hb0.setCell (p := ⟨z, 7, none⟩) (by simp only; omega) _)
  have Ew1 := Lib.hid ew1
  have H00 := Lib.hid hk0
  have HS0 := Lib.hid hsz
  clear hsz fc fh fm hk ht hc he hi ha etk ec2 es2 htk hm eep ea2 ey ey2 eg hy eh hh eg2 hg hin ew hz hb0 hk0 hk1 ew1
  go_enter Tryd.func7, Tryd.ntmps7
  go_upto_region 1 with (fail)
  rw [Ew.out]
  try rw [Hz.out]
  have t7 : w0.cell? ⟨z, 7, none⟩ = some (.int .u64 tick) := by rw [blk_cell H00.out]; rfl
  have fz := fun i => blk_free H00.out i
  go_upto_region 2 with (fail)
  try rw [Ew1.out]
  clear t7 fz
  obtain ⟨i0, i1, i2⟩ := cells3C K1.out
  go_wp2_with fail
  refine (Y1.out _).mono ?_
  rintro e w2 ⟨rfl, hb⟩
  have K0 := Lib.hid (blk_on K0.out hb)
  have K1 := Lib.hid (blk_on K1.out hb)
  have HB := Lib.hid (below_trans HB.out hb)
  clear hb i0 i1 i2
  obtain ⟨i0, i1, i2⟩ := cells3C K1.out
  have fz := fun i => blk_free K1.out i
  have hK := set3C K1.out (.int .i64 c2) (.bool k) (.int .i64 s2)
  have hO := ((((But.refl (fun g => g = z + 1) w2).setCell (p := ⟨z + 1, 0, none⟩) rfl (.int .i64 c2)).setCell (p := ⟨z + 1, 1, none⟩) rfl (.bool k)).setCell (p := ⟨z + 1, 2, none⟩) rfl (.int .i64 s2)).blk K0.out (fun e => by omega)
  have hL := set3C_below HB.out (q := z + 1) (by have := Hz.out; omega) (.int .i64 c2) (.bool k) (.int .i64 s2)
  go_upto_region 3 with (fail)
  obtain ⟨w3, ev⟩ : ∃ v, ((w2.setCell ⟨z + 1, 0, none⟩ (.int .i64 c2)).setCell ⟨z + 1, 1, none⟩ (.bool k)).setCell ⟨z + 1, 2, none⟩ (.int .i64 s2) = v := ⟨_, rfl⟩
  rw [ev] at hL hK hO ⊢
  have HF := Lib.hid (fun W (hW : Below w3.heap.size w3 W) => And.intro (blk_on hO hW) (blk_on hK hW))
  have HB := Lib.hid hL
  have HLw3 := Lib.hid (Below.refl w3.heap.size w3)
  have HZ := Lib.hid (fun W (hW : Below w3.heap.size w3 W) => (HS0.out.on hL).on hW)
  clear ev hL hK hO i0 i1 i2 fz K0 K1
  obtain ⟨s0, s1, s2_, s3, s4, s5, s6, s7⟩ := cells8C (HF.out _ HLw3.out).1
  obtain ⟨i0, i1, i2⟩ := cells3C (HF.out _ HLw3.out).2
  go_wp2_with fail
  refine (M1.out _ (HZ.out _ HLw3.out)).mono ?_
  rintro e w4 ⟨rfl, hb⟩
  have HLw4 := Lib.hid (below_trans HLw3.out hb)
  clear hb s0 s1 s2_ s3 s4 s5 s6 s7 i0 i1 i2
  obtain ⟨s0, s1, s2_, s3, s4, s5, s6, s7⟩ := cells8C (HF.out _ HLw4.out).1
  obtain ⟨i0, i1, i2⟩ := cells3C (HF.out _ HLw4.out).2
  go_wp2_with fail
  refine (M2.out _ (HZ.out _ HLw4.out)).mono ?_
  rintro e w5 ⟨rfl, hb⟩
  have HLw5 := Lib.hid (below_trans HLw4.out hb)
  clear hb s0 s1 s2_ s3 s4 s5 s6 s7 i0 i1 i2
  obtain ⟨s0, s1, s2_, s3, s4, s5, s6, s7⟩ := cells8C (HF.out _ HLw5.out).1
  obtain ⟨i0, i1, i2⟩ := cells3C (HF.out _ HLw5.out).2
  go_wp2_with fail
  refine (H1.out _).mono ?_
  rintro e w6 ⟨rfl, hb⟩
  have HLw6 := Lib.hid (below_trans HLw5.out hb)
  clear hb s0 s1 s2_ s3 s4 s5 s6 s7 i0 i1 i2
  go_wp2_with fail
  refine (A1.out _ (HZ.out _ HLw6.out)).mono ?_
  rintro e w7 ⟨rfl, hb⟩
  have HLw7 := Lib.hid (below_trans HLw6.out hb)
  clear hb
  go_wp2_with fail
  rw [show (g == h / 1099511627776) = true by rw [Eg2.out]; simp]
  go_ret
  exact ⟨rfl, below_trans HB.out HLw7.out⟩
end Go.Proofs.YtgcliijngaohdaaDoor.cookieEpochsW
