/-
  The program's own Check: what a cookie says, whether it is one.
-/
import Derived.Test.YtgcliijngaohdaaDoorTk
import Derived.Test.YtgcliijngaohdaaDoorCkGoC
import Derived.Test.YtgcliijngaohdaaDoorCkMay
namespace Go.Proofs.YtgcliijngaohdaaDoor
set_option maxRecDepth 10000
open Go.RowKit
set_option linter.unusedSimpArgs false
set_option linter.unusedVariables false

set_option maxHeartbeats 1000000 in
theorem info17_any (ck : Int) (w : World) (hck : 0 ≤ ck ∧ ck < 4294967296) :
    Calls Tryd.prog 26 #[.int .u32 ck] w (TellsC (.agg #[.int .i64 (dCls ck), .bool (dSck ck), .int .i64 (dScl ck)]) w) := by
  obtain ⟨z, hz⟩ : ∃ z, w.heap.size = z := ⟨_, rfl⟩
  obtain ⟨w0, ew⟩ : ∃ v, w.alloc (.cells #[.int .i64 0, .bool false, .int .i64 0] 30) = v := ⟨_, rfl⟩
  have hb0 : Below w.heap.size w w0 := by rw [← ew]; exact (Below.refl _ _).alloc (Nat.le_refl _) _
  have hk0 : w0.heap[z]? = some (.cells #[.int .i64 0, .bool false, .int .i64 0] 30 (0, 0)) := by rw [← ew, ← hz]; exact heap_alloc_new w _
  have hz0 : w0.heap.size = z + 1 := by rw [← ew, ← hz]; simp
  obtain ⟨a, ea⟩ : ∃ x, dCls ck = x := ⟨_, rfl⟩
  obtain ⟨d2, ed2⟩ : ∃ x, ck / 16 % 2 = x := ⟨_, rfl⟩
  obtain ⟨s0, es0⟩ : ∃ x, ck % 16 = x := ⟨_, rfl⟩
  have ea2 : ck / 32 % 8 = a := by rw [← ea]; unfold dCls; omega
  have q1 : Int.tdiv ck 32 = ck / 32 := Int.tdiv_eq_ediv_of_nonneg hck.1
  have q2 : IntKind.u32.wrap (ck / 32) = ck / 32 := by rw [IntKind.wrap_u32]; omega
  have q3 : bits .and .u32 (ck / 32) 7 = a := (bits_mask .u32 32 (by decide) wraps_u32C 3 (by decide) (ck / 32) (by omega) (by omega)).trans ea2
  have q4 : wrap64 a = a := IntWalk.wrap64_in _ (by omega)
  have q5 : Int.tdiv ck 16 = ck / 16 := Int.tdiv_eq_ediv_of_nonneg hck.1
  have q6 : IntKind.u32.wrap (ck / 16) = ck / 16 := by rw [IntKind.wrap_u32]; omega
  have q7 : bits .and .u32 (ck / 16) 1 = d2 := (bits_mask .u32 32 (by decide) wraps_u32C 1 (by decide) (ck / 16) (by omega) (by omega)).trans ed2
  have q8 : bits .and .u32 ck 15 = s0 := (bits_mask .u32 32 (by decide) wraps_u32C 4 (by decide) ck (by omega) (by omega)).trans es0
  have q9 : wrap64 s0 = s0 := IntWalk.wrap64_in _ (by omega)
  obtain ⟨kk, ek⟩ : ∃ x, (d2 == 1) = x := ⟨_, rfl⟩
  have hkk : dSck ck = kk := by rw [← ek, ← ed2]; unfold dSck; rw [Bool.eq_iff_iff]; simp
  obtain ⟨w1, ew1⟩ : ∃ v, w0.alloc (.cells #[.int .i64 a, .bool kk, .int .i64 s0] 30) = v := ⟨_, rfl⟩
  have hb1 : Below w0.heap.size w0 w1 := by rw [← ew1]; exact (Below.refl _ _).alloc (Nat.le_refl _) _
  have H0 := Lib.hid (blk_on hk0 hb1)
  have H1 := Lib.hid (show w1.heap[z + 1]? = some (.cells #[.int .i64 a, .bool kk, .int .i64 s0] 30 (0, 0)) by rw [← ew1, ← hz0]; exact heap_alloc_new w0 _)
  have HB := Lib.hid (below_trans hb0 hb1)
  have Ew := Lib.hid ew
  have Hz := Lib.hid hz
  have Ew1 := Lib.hid ew1
  have Hz0 := Lib.hid hz0
  rw [hkk, ea]
  by_cases hs : s0 = 15
  · have hs2 : (s0 == 15) = true := by simpa using hs
    have Hs := Lib.hid (show dScl ck = -1 by unfold dScl; rw [if_pos (by omega)])
    have H0s := Lib.hid (((But.refl (fun g => g = z + 1) w1).setCell (p := ⟨z + 1, 2, none⟩) rfl (.int .i64 (-1))).blk H0.out (fun e => by omega))
    have Ht := Lib.hid (HB.out.setCell (p := ⟨z + 1, 2, none⟩) (by have := Hz.out; simp only; omega) (.int .i64 (-1)))
    clear hs ea ea2 ed2 es0 hck ew hz hb0 hk0 ew1 hb1 hz0 hkk
    rw [Hs.out]
    go_enter Tryd.func26, Tryd.ntmps26
    go_upto_region 1 with (fail)
    rw [Ew.out]
    try rw [Hz.out]
    go_upto_region 2 with (fail)
    rw [Ew1.out]
    try rw [Hz0.out]
    obtain ⟨v0, v1, v2⟩ := cells3C H1.out
    obtain ⟨u0, u1, u2⟩ := cells3C H0.out
    have fz := fun i => blk_free H0.out i
    have fy := fun i => blk_free H1.out i
    have hne : ¬ z = z + 1 := by omega
    have hne2 : ¬ z + 1 = z := by omega
    go_wp2_with fail
    exact bodyPost_ret (v := .agg #[.int .i64 a, .bool kk, .int .i64 (-1)]) (results_rowC rfl _ _ z _ _ _ _ rfl (set3C H0s.out _ _ _) Tryd.underlying30 rfl (by kernel_rfl)) rfl ⟨rfl, set3C_below Ht.out (by have := Hz.out; omega) _ _ _⟩
  · have hs2 : (s0 == 15) = false := by simpa using hs
    have Hs := Lib.hid (show dScl ck = s0 by unfold dScl; rw [if_neg (by omega)]; exact es0)
    clear hs ea ea2 ed2 es0 hck ew hz hb0 hk0 ew1 hb1 hz0 hkk
    rw [Hs.out]
    go_enter Tryd.func26, Tryd.ntmps26
    go_upto_region 1 with (fail)
    rw [Ew.out]
    try rw [Hz.out]
    go_upto_region 2 with (fail)
    rw [Ew1.out]
    try rw [Hz0.out]
    obtain ⟨v0, v1, v2⟩ := cells3C H1.out
    obtain ⟨u0, u1, u2⟩ := cells3C H0.out
    have fz := fun i => blk_free H0.out i
    have fy := fun i => blk_free H1.out i
    have hne : ¬ z = z + 1 := by omega
    have hne2 : ¬ z + 1 = z := by omega
    go_wp2_with fail
    exact bodyPost_ret (v := .agg #[.int .i64 a, .bool kk, .int .i64 s0]) (results_rowC rfl _ _ z _ _ _ _ rfl (set3C H0.out _ _ _) Tryd.underlying30 rfl (by kernel_rfl)) rfl ⟨rfl, set3C_below HB.out (by have := Hz.out; omega) _ _ _⟩
/-- What the closure reads. -/
def IsAt (z : Nat) (key : Int) (t : Tu) (cl ck : Int) (w : World) : Prop :=
  w.cell? ⟨z, 0, none⟩ = some (.int .u64 key) ∧ w.heap[z + 1]? = some (.cells #[.int .u8 t.pr, .int .u32 t.sr, .int .u32 t.ds, .int .u16 t.sp, .int .u16 t.dp] 26 (0, 0)) ∧ w.cell? ⟨z + 2, 0, none⟩ = some (.int .u32 cl) ∧ w.cell? ⟨z + 3, 0, none⟩ = some (.int .u32 ck) ∧ z + 3 < w.heap.size
theorem IsAt.on {z : Nat} {key : Int} {t : Tu} {cl ck : Int} {w w' : World} (h : IsAt z key t cl ck w) (hb : Below w.heap.size w w') : IsAt z key t cl ck w' := by
  obtain ⟨h1, h2, h3, h4, h5⟩ := h
  exact ⟨by rw [hb.cell (p := ⟨z, 0, none⟩) (show z < _ by omega)]; exact h1, blk_on h2 hb, by rw [hb.cell (p := ⟨z + 2, 0, none⟩) (show z + 2 < _ by omega)]; exact h3, by rw [hb.cell (p := ⟨z + 3, 0, none⟩) h5]; exact h4, Nat.lt_of_lt_of_le h5 hb.size⟩
theorem high_bits (ck : Int) (hck : 0 ≤ ck ∧ ck < 4294967296) : bits .andNot .u32 ck 255 = ck / 256 * 256 := by
  rw [u32_andNot ck 255 hck.1 hck.2 (by decide) (by decide)]
  obtain ⟨a, ea⟩ : ∃ a, ck.toNat = a := ⟨_, rfl⟩
  have h1 : (a &&& 4294967040) / 2 ^ 8 = a / 2 ^ 8 := by
    rw [Nat.and_div_two_pow, show 4294967040 / 2 ^ 8 = 2 ^ 24 - 1 by decide, Nat.and_two_pow_sub_one_eq_mod]
    exact Nat.mod_eq_of_lt (by omega)
  have h2 : (a &&& 4294967040) % 2 ^ 8 = 0 := by rw [Nat.and_mod_two_pow]; simp
  have := Nat.div_add_mod (a &&& 4294967040) (2 ^ 8)
  rw [h1, h2] at this
  rw [ea, show (4294967295 - Int.toNat 255 : Nat) = 4294967040 by decide]
  omega
set_option maxHeartbeats 1000000 in
theorem is17_any (z : Nat) (key : Int) (t : Tu) (cl ck ep : Int) (q : Bool) (w : World) (hk : U64C key) (ht : TuNum t) (hc : 0 ≤ cl ∧ cl < 4294967296) (he : U64C ep) (hck : 0 ≤ ck ∧ ck < 4294967296)
    (hq : decide (hiC key t cl ep = ck / 256) = q) (hat : IsAt z key t cl ck w) :
    Calls Tryd.prog 25 #[.int .u64 ep, .pointer (some ⟨z, 0, none⟩), .pointer (some ⟨z + 1, 0, none⟩), .pointer (some ⟨z + 2, 0, none⟩), .pointer (some ⟨z + 3, 0, none⟩)] w (TellsC (.bool q) w) := by
  obtain ⟨h, eh⟩ : ∃ x, hashC key t cl ep = x := ⟨_, rfl⟩
  have hb : U64C h := by rw [← eh]; exact hashC_bd _ _ _ _
  have HH := Lib.hid (fun W => hashf17 key t cl ep h W hk ht hc he eh)
  obtain ⟨m, em⟩ : ∃ x, h / 1099511627776 * 256 = x := ⟨_, rfl⟩
  have HM := Lib.hid (fun W => mark17_any h m W hb em)
  obtain ⟨n, en⟩ : ∃ x, ck / 256 * 256 = x := ⟨_, rfl⟩
  have hn := (high_bits ck hck).trans en
  have hq2 : (m == n) = q := by
    rw [← hq, Bool.eq_iff_iff]
    unfold hiC
    rw [eh]
    simp
    omega
  have HS := Lib.hid hat
  clear hk ht hc he hck hq hat eh hb em en
  go_enter Tryd.func25, Tryd.ntmps25
  go_upto_region 1 with (fail)
  have HS8 := Lib.hid (fun W (hW : Below w.heap.size w W) => HS.out.on hW)
  refine wp_region_held_drew (S := fun w' => w'.cell? ⟨z, 0, none⟩ = some (.int .u64 key) ∧ w'.heap[z + 1]? = some (.cells #[.int .u8 t.pr, .int .u32 t.sr, .int .u32 t.ds, .int .u16 t.sp, .int .u16 t.dp] 26 (0, 0)) ∧ w'.cell? ⟨z + 2, 0, none⟩ = some (.int .u32 cl) ∧ w'.cell? ⟨z + 3, 0, none⟩ = some (.int .u32 ck) ∧ z + 3 < w'.heap.size) (by kernel_rfl) (HS8.out _ ((Below.refl _ _).drew)) (fun hHeld => ?_)
  obtain ⟨x6, ev⟩ : ∃ v, w.drew = v := ⟨_, rfl⟩
  have HLy := Lib.hid (show Below w.heap.size w x6 by rw [← ev]; exact (Below.refl _ _).drew)
  rw [ev] at hHeld ⊢
  clear ev
  refine tk 0 ?_ rfl ?_ ?_
  rotate_left
  · intro w' hSw; (go_simp <;> (with_reducible rfl))
  try simp only [Act.put, putL]
  refine tk 1 (.agg #[.int .u8 t.pr, .int .u32 t.sr, .int .u32 t.ds, .int .u16 t.sp, .int .u16 t.dp]) rfl (fun w' hSw => exec_row 26 (.tmp 2) rfl (z + 1) _ _ _ _ (hSw.2.1) rfl Tryd.underlying26 rfl (by kernel_rfl)) ?_
  try simp only [Act.put, putL]
  refine tk 2 ?_ rfl ?_ ?_
  rotate_left
  · intro w' hSw; (go_simp <;> (with_reducible rfl))
  try simp only [Act.put, putL]
  refine tk 3 ?_ rfl ?_ ?_
  rotate_left
  · intro w' hSw; (go_simp <;> (with_reducible rfl))
  try simp only [Act.put, putL]
  refine tk 6 ?_ rfl ?_ ?_
  rotate_left
  · intro w' hSw; (go_simp <;> (with_reducible rfl))
  try simp only [Act.put, putL]
  refine tk 7 ?_ rfl ?_ ?_
  rotate_left
  · intro w' hSw; (go_simp <;> (with_reducible rfl))
  try simp only [Act.put, putL]
  refine tkC 4 rfl (fun K hK => ?_)
  go_simp
  (refine (HH.out _).mono ?_; rintro e y1 ⟨rfl, hb⟩; have HLy1 := Lib.hid (below_trans HLy.out hb); clear hb)
  refine hK.out _ _ ?_ (fun hHeld => ?_)
  · exact HS8.out _ HLy1.out
  clear hK K
  try simp only [Act.put, putL]
  refine tkC 5 rfl (fun K hK => ?_)
  go_simp
  (refine (HM.out _).mono ?_; rintro e y2 ⟨rfl, hb⟩; have HLy2 := Lib.hid (below_trans HLy1.out hb); clear hb)
  refine hK.out _ _ ?_ (fun hHeld => ?_)
  · exact HS8.out _ HLy2.out
  clear hK K
  try simp only [Act.put, putL]
  refine tk 8 ?_ rfl ?_ ?_
  rotate_left
  · intro w' hSw; (go_simp <;> (with_reducible rfl))
  try simp only [Act.put, putL]
  refine tk 9 ?_ rfl ?_ ?_
  rotate_left
  · intro w' hSw; (go_simp <;> (with_reducible rfl))
  try simp only [Act.put, putL]
  refine wpAnyH_done (by kernel_rfl) ?_ _
  clear hHeld
  go_wp2_with fail
  go_ret
  exact ⟨rfl, HLy2.out⟩
set_option maxHeartbeats 4000000 in
theorem checkf17 : CheckF17 := by
  intro key t cl tick ck b w hk ht hc he hck hbb
  obtain ⟨z, hz⟩ : ∃ z, w.heap.size = z := ⟨_, rfl⟩
  obtain ⟨wa, ewa⟩ : ∃ v, w.alloc (.cells #[.int .u64 key] 22) = v := ⟨_, rfl⟩
  obtain ⟨wb, ewb⟩ : ∃ v, wa.alloc (.cells #[.int .u8 t.pr, .int .u32 t.sr, .int .u32 t.ds, .int .u16 t.sp, .int .u16 t.dp] 26) = v := ⟨_, rfl⟩
  obtain ⟨wc, ewc⟩ : ∃ v, wb.alloc (.cells #[.int .u32 cl] 23) = v := ⟨_, rfl⟩
  obtain ⟨wd, ewd⟩ : ∃ v, wc.alloc (.cells #[.int .u32 ck] 23) = v := ⟨_, rfl⟩
  obtain ⟨w0, ew⟩ : ∃ v, wd.alloc (.cells #[.int .i64 0, .bool false, .int .i64 0] 30) = v := ⟨_, rfl⟩
  have za : wa.heap.size = z + 1 := by rw [← ewa, ← hz]; simp
  have zb : wb.heap.size = z + 2 := by rw [← ewb]; simp [za]
  have zc : wc.heap.size = z + 3 := by rw [← ewc]; simp [zb]
  have zd : wd.heap.size = z + 4 := by rw [← ewd]; simp [zc]
  have ha : Below w.heap.size w wa := by rw [← ewa]; exact (Below.refl _ _).alloc (Nat.le_refl _) _
  have hab : Below wa.heap.size wa wb := by rw [← ewb]; exact (Below.refl _ _).alloc (Nat.le_refl _) _
  have hbc : Below wb.heap.size wb wc := by rw [← ewc]; exact (Below.refl _ _).alloc (Nat.le_refl _) _
  have hcd : Below wc.heap.size wc wd := by rw [← ewd]; exact (Below.refl _ _).alloc (Nat.le_refl _) _
  have hde : Below wd.heap.size wd w0 := by rw [← ew]; exact (Below.refl _ _).alloc (Nat.le_refl _) _
  have k0 : wa.heap[z]? = some (.cells #[.int .u64 key] 22 (0, 0)) := by rw [← ewa, ← hz]; exact heap_alloc_new w _
  have k1 : wb.heap[z + 1]? = some (.cells #[.int .u8 t.pr, .int .u32 t.sr, .int .u32 t.ds, .int .u16 t.sp, .int .u16 t.dp] 26 (0, 0)) := by rw [← ewb, ← za]; exact heap_alloc_new wa _
  have k2 : wc.heap[z + 2]? = some (.cells #[.int .u32 cl] 23 (0, 0)) := by rw [← ewc, ← zb]; exact heap_alloc_new wb _
  have k3 : wd.heap[z + 3]? = some (.cells #[.int .u32 ck] 23 (0, 0)) := by rw [← ewd, ← zc]; exact heap_alloc_new wc _
  have k4 : w0.heap[z + 4]? = some (.cells #[.int .i64 0, .bool false, .int .i64 0] 30 (0, 0)) := by rw [← ew, ← zd]; exact heap_alloc_new wd _
  have hbe := below_trans hbc (below_trans hcd hde)
  have hat : IsAt z key t cl ck w0 := ⟨by rw [blk_cell (blk_on k0 (below_trans hab hbe))]; rfl, blk_on k1 hbe, by rw [blk_cell (blk_on k2 (below_trans hcd hde))]; rfl, by rw [blk_cell (blk_on k3 hde)]; rfl, by have := lt_of_block k4; omega⟩
  have HR := Lib.hid k4
  have HA := Lib.hid (fun W (hW : Below w0.heap.size w0 W) => hat.on hW)
  have HL0 := Lib.hid (Below.refl w0.heap.size w0)
  have HB := Lib.hid (below_trans ha (below_trans hab hbe))
  obtain ⟨ep, eep⟩ : ∃ x, tick / 64 = x := ⟨_, rfl⟩
  have tq : Int.tdiv tick 64 = ep := by rw [Int.tdiv_eq_ediv_of_nonneg he.1]; exact eep
  have hep : 0 ≤ ep ∧ ep < 18446744073709551616 := by unfold U64C at he; omega
  have tw : IntKind.u64.wrap ep = ep := by rw [IntKind.wrap_u64]; omega
  obtain ⟨q1, eq1⟩ : ∃ x, decide (hiC key t cl ep = ck / 256) = x := ⟨_, rfl⟩
  obtain ⟨q2, eq2⟩ : ∃ x, decide (hiC key t cl (ep - 1) = ck / 256) = x := ⟨_, rfl⟩
  have hbq : (q1 || (decide (0 < ep) && q2)) = b := by
    rw [← hbb, ← eq1, ← eq2]
    unfold isC
    rw [eep]
  have I1 := Lib.hid (fun W hW => is17_any z key t cl ck ep q1 W hk ht hc hep hck eq1 hW)
  have I2 := Lib.hid (fun (h0 : 0 < ep) W hW => is17_any z key t cl ck (ep - 1) q2 W hk ht hc ⟨by omega, by omega⟩ hck eq2 hW)
  have IN := Lib.hid (fun W => info17_any ck W hck)
  have hmf : ∀ (fn : Fn) (first cap : Array Value) (w : World), (Instr.makeFunc fn first cap).run Tryd.prog w = .ok (.func fn first cap) w := fun _ _ _ _ => rfl
  have Hep := Lib.hid hep
  have Hz := Lib.hid hz
  have Ew := Lib.hid (show ((((w.alloc (.cells #[.int .u64 key] 22)).alloc (.cells #[.int .u8 t.pr, .int .u32 t.sr, .int .u32 t.ds, .int .u16 t.sp, .int .u16 t.dp] 26)).alloc (.cells #[.int .u32 cl] 23)).alloc (.cells #[.int .u32 ck] 23)).alloc (.cells #[.int .i64 0, .bool false, .int .i64 0] 30) = w0 by rw [ewa, ewb, ewc, ewd, ew])
  clear hbb hck hk ht hc he eep hep eq1 eq2 ewa ewb ewc ewd ew za zb zc zd ha hab hbc hcd hde hbe k0 k1 k2 k3 k4 hat hz
  cases q1
  case true =>
    have Hb := Lib.hid (show b = true by rw [← hbq]; simp)
    clear hbq
    go_enter Tryd.func18, Tryd.ntmps18
    go_upto_region 1 with (fail)
    rw [Ew.out]
    try rw [Hz.out]
    go_wp2_with fail
    refine (I1.out _ (HA.out _ HL0.out)).mono ?_
    rintro e w1 ⟨rfl, hb⟩
    have HL := Lib.hid (below_trans HL0.out hb)
    clear hb
    have hcell := (HA.out _ HL.out).2.2.2.1
    go_wp2_with fail
    refine (IN.out _).mono ?_
    rintro e w9 ⟨rfl, hb⟩
    have HL := Lib.hid (below_trans HL.out hb)
    clear hb hcell
    have HR1 := Lib.hid (blk_on HR.out HL.out)
    obtain ⟨u0, u1, u2⟩ := cells3C HR1.out
    have fz := fun i => blk_free HR1.out i
    go_wp2_with fail
    exact bodyPost_ret (v := .tuple #[.agg #[.int .i64 (dCls ck), .bool (dSck ck), .int .i64 (dScl ck)], .int .i64 0]) (results_row_tmp rfl _ _ (z + 4) _ _ _ _ _ rfl rfl (set3C HR1.out _ _ _) Tryd.underlying30 rfl (by kernel_rfl)) rfl ⟨by rw [Hb.out]; unfold chkC chkK chkS chkE; simp, set3C_below (below_trans HB.out HL.out) (by have := Hz.out; omega) _ _ _⟩
  case false =>
    by_cases hp : 0 < ep
    · have he1 : IntKind.u64.wrap (ep - 1) = ep - 1 := by rw [IntKind.wrap_u64]; have := Hep.out; omega
      have Hp := Lib.hid hp
      cases q2
      case true =>
        have Hb := Lib.hid (show b = true by rw [← hbq]; simp [hp])
        clear hbq
        go_enter Tryd.func18, Tryd.ntmps18
        go_upto_region 1 with (fail)
        rw [Ew.out]
        try rw [Hz.out]
        go_wp2_with fail
        refine (I1.out _ (HA.out _ HL0.out)).mono ?_
        rintro e w1 ⟨rfl, hb⟩
        have HL := Lib.hid (below_trans HL0.out hb)
        clear hb
        go_wp2_with fail
        refine (I2.out Hp.out _ (HA.out _ HL.out)).mono ?_
        rintro e w2 ⟨rfl, hb⟩
        have HL := Lib.hid (below_trans HL.out hb)
        clear hb
        have hcell := (HA.out _ HL.out).2.2.2.1
        go_wp2_with fail
        refine (IN.out _).mono ?_
        rintro e w9 ⟨rfl, hb⟩
        have HL := Lib.hid (below_trans HL.out hb)
        clear hb hcell
        have HR1 := Lib.hid (blk_on HR.out HL.out)
        obtain ⟨u0, u1, u2⟩ := cells3C HR1.out
        have fz := fun i => blk_free HR1.out i
        go_wp2_with fail
        exact bodyPost_ret (v := .tuple #[.agg #[.int .i64 (dCls ck), .bool (dSck ck), .int .i64 (dScl ck)], .int .i64 0]) (results_row_tmp rfl _ _ (z + 4) _ _ _ _ _ rfl rfl (set3C HR1.out _ _ _) Tryd.underlying30 rfl (by kernel_rfl)) rfl ⟨by rw [Hb.out]; unfold chkC chkK chkS chkE; simp, set3C_below (below_trans HB.out HL.out) (by have := Hz.out; omega) _ _ _⟩
      case false =>
        have Hb := Lib.hid (show b = false by rw [← hbq]; simp)
        clear hbq
        go_enter Tryd.func18, Tryd.ntmps18
        go_upto_region 1 with (fail)
        rw [Ew.out]
        try rw [Hz.out]
        go_wp2_with fail
        refine (I1.out _ (HA.out _ HL0.out)).mono ?_
        rintro e w1 ⟨rfl, hb⟩
        have HL := Lib.hid (below_trans HL0.out hb)
        clear hb
        go_wp2_with fail
        refine (I2.out Hp.out _ (HA.out _ HL.out)).mono ?_
        rintro e w2 ⟨rfl, hb⟩
        have HL := Lib.hid (below_trans HL.out hb)
        clear hb
        have HR1 := Lib.hid (blk_on HR.out HL.out)
        obtain ⟨u0, u1, u2⟩ := cells3C HR1.out
        have fz := fun i => blk_free HR1.out i
        go_wp2_with fail
        exact bodyPost_ret (v := .tuple #[.agg #[.int .i64 0, .bool false, .int .i64 0], .int .i64 25]) (results_row_tmp rfl _ _ (z + 4) _ _ _ _ _ rfl rfl (set3C HR1.out _ _ _) Tryd.underlying30 rfl (by kernel_rfl)) rfl ⟨by rw [Hb.out]; rfl, set3C_below (below_trans HB.out HL.out) (by have := Hz.out; omega) _ _ _⟩
    · have Hb := Lib.hid (show b = false by rw [← hbq]; simp [hp])
      clear hbq
      go_enter Tryd.func18, Tryd.ntmps18
      go_upto_region 1 with (fail)
      rw [Ew.out]
      try rw [Hz.out]
      go_wp2_with fail
      refine (I1.out _ (HA.out _ HL0.out)).mono ?_
      rintro e w1 ⟨rfl, hb⟩
      have HL := Lib.hid (below_trans HL0.out hb)
      clear hb
      have HR1 := Lib.hid (blk_on HR.out HL.out)
      obtain ⟨u0, u1, u2⟩ := cells3C HR1.out
      have fz := fun i => blk_free HR1.out i
      go_wp2_with fail
      exact bodyPost_ret (v := .tuple #[.agg #[.int .i64 0, .bool false, .int .i64 0], .int .i64 25]) (results_row_tmp rfl _ _ (z + 4) _ _ _ _ _ rfl rfl (set3C HR1.out _ _ _) Tryd.underlying30 rfl (by kernel_rfl)) rfl ⟨by rw [Hb.out]; rfl, set3C_below (below_trans HB.out HL.out) (by have := Hz.out; omega) _ _ _⟩
end Go.Proofs.YtgcliijngaohdaaDoor
