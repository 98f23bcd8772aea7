/-
  The contracts of package tuple's Reverse, None, Bytes; of cmp.Compare, cmp.Or and tuple.Compare.
-/
import Derived.Test.YthhgdmdobfjipaaTupRefBytes
import Derived.Test.YthhgdmdobfjipaaWireLay
import Derived.Test.YthhgdmdobfjipaaRowInt
import Derived.Deep.CutRange
import Derived.RegionTactic
namespace Go.Proofs.Ythhgdmdobfjipaa
set_option maxRecDepth 10000
open Go.RowKit
set_option linter.unusedSimpArgs false
set_option linter.unusedVariables false

theorem rev_any (t : Tu) (w : World) : Calls Try.prog 9 #[.agg #[.int .u8 t.pr, .int .u32 t.sr, .int .u32 t.ds, .int .u16 t.sp, .int .u16 t.dp]] w (TupIs (revT t) w) := by
  obtain ⟨pr, sr, ds, sp, dp⟩ := t
  simp only
  by_cases h : pr = 1
  · subst h
    go_enter Try.func9, Try.ntmps9
    go_wp2_with fail
    refine bodyPost_ret (v := .agg #[.int .u8 1, .int .u32 ds, .int .u32 sr, .int .u16 sp, .int .u16 dp]) (by simp [results, Try.results9, go_sem]) rfl ?_
    exact ⟨by unfold revT; simp [Nat.add_zero], by repeat (first | exact Below.refl _ _ | refine Below.drew ?_ | (refine Below.alloc ?_ (by simp <;> omega) _) | (refine Below.setCell ?_ (by simp <;> omega) _))⟩
  · have hb : (pr != 1) = true := by simpa using h
    go_enter Try.func9, Try.ntmps9
    go_wp2_with fail
    refine bodyPost_ret (v := .agg #[.int .u8 pr, .int .u32 ds, .int .u32 sr, .int .u16 dp, .int .u16 sp]) (by simp [results, Try.results9, go_sem]) rfl ?_
    exact ⟨by unfold revT; simp [h], by repeat (first | exact Below.refl _ _ | refine Below.drew ?_ | (refine Below.alloc ?_ (by simp <;> omega) _) | (refine Below.setCell ?_ (by simp <;> omega) _))⟩
theorem none_any (t : Tu) (w : World) (x : Bool) (hx : noneT t = x) : Calls Try.prog 13 #[.agg #[.int .u8 t.pr, .int .u32 t.sr, .int .u32 t.ds, .int .u16 t.sp, .int .u16 t.dp]] w (BoolIs x w) := by
  have heq := tu_eql t zeroTu
  have hs : tuSame t zeroTu = x := by rw [← hx, Bool.eq_iff_iff]; unfold tuSame noneT zeroTu; simp
  rw [hs] at heq
  have Hb := Lib.hid ((Below.refl w.heap.size w).alloc (Nat.le_refl _) (.cells #[.int .u8 t.pr, .int .u32 t.sr, .int .u32 t.ds, .int .u16 t.sp, .int .u16 t.dp] 37))
  obtain ⟨pr, sr, ds, sp, dp⟩ := t
  unfold zeroTu at heq
  simp only at heq ⊢
  clear hs hx
  go_enter Try.func13, Try.ntmps13
  go_wp2_with fail
  go_ret
  exact ⟨rfl, Hb.out⟩
theorem b16_be (x : Int) : be16 x = b16 x := rfl
theorem b32_be (x : Int) : be32 x = b32 x := rfl
theorem tu_by0 {t : Tu} (h : TuNum t) : ∀ x ∈ [] ++ [t.pr], 0 ≤ x ∧ x < 256 := fun x hx => tuB_byte h x (by simp at hx; subst hx; exact .head _)
theorem tu_by1 {t : Tu} (h : TuNum t) : ∀ x ∈ [] ++ [t.pr] ++ be32 t.sr, 0 ≤ x ∧ x < 256 := fun x hx => tuB_byte h x (by
  unfold tuB; rw [List.nil_append, List.singleton_append] at hx
  rcases List.mem_cons.1 hx with h1 | h1
  · exact List.mem_cons.2 (.inl h1)
  · exact List.mem_cons.2 (.inr (List.mem_append.2 (.inl h1))))
theorem tu_by2 {t : Tu} (h : TuNum t) : ∀ x ∈ [] ++ [t.pr] ++ be32 t.sr ++ be32 t.ds, 0 ≤ x ∧ x < 256 := fun x hx => by
  rcases List.mem_append.1 hx with h1 | h1
  · exact tu_by1 h x h1
  · exact tuB_byte h x (List.mem_cons.2 (.inr (List.mem_append.2 (.inr (List.mem_append.2 (.inl h1))))))
theorem tu_by3 {t : Tu} (h : TuNum t) : ∀ x ∈ [] ++ [t.pr] ++ be32 t.sr ++ be32 t.ds ++ be16 t.sp, 0 ≤ x ∧ x < 256 := fun x hx => by
  rcases List.mem_append.1 hx with h1 | h1
  · exact tu_by2 h x h1
  · exact tuB_byte h x (List.mem_cons.2 (.inr (List.mem_append.2 (.inr (List.mem_append.2 (.inr (List.mem_append.2 (.inl h1))))))))
set_option maxHeartbeats 1000000 in
theorem tbytes_any (t : Tu) (w : World) (ht : TuNum t) : Calls Try.prog 14 #[.agg #[.int .u8 t.pr, .int .u32 t.sr, .int .u32 t.ds, .int .u16 t.sp, .int .u16 t.dp]] w (RowIs 13 (tuB t) w) := by
  obtain ⟨z, hz⟩ : ∃ z, w.heap.size = z := ⟨_, rfl⟩
  obtain ⟨w0, ew⟩ : ∃ w0, w.alloc (.cells #[.int .u8 t.pr, .int .u32 t.sr, .int .u32 t.ds, .int .u16 t.sp, .int .u16 t.dp] 37) = w0 := ⟨_, rfl⟩
  have hb0 : Below w.heap.size w w0 := by rw [← ew]; exact (Below.refl _ _).alloc (Nat.le_refl _) _
  have hk0 : w0.heap[z]? = some (.cells #[.int .u8 t.pr, .int .u32 t.sr, .int .u32 t.ds, .int .u16 t.sp, .int .u16 t.dp] 37 (0, 0)) := by rw [← ew, ← hz]; exact heap_alloc_new w _
  obtain ⟨c0, c1, c2, c3, c4⟩ := cells5 hk0
  have Hb0 := Lib.hid hb0
  have HK0 := Lib.hid hk0
  have Ew := Lib.hid ew
  have Hz := Lib.hid hz
  have Ht := Lib.hid ht
  clear hb0 hk0 ew hz ht
  go_enter Try.func14, Try.ntmps14
  go_upto_region 1 with (fail)
  rw [Ew.out]
  try rw [Hz.out]
  go_wp2_with fail
  refine (u8_lays none 0 0 [] t.pr _ Ht.out.pr (by simp [maxLen]) (by omega) (Rd.nil _ _)).mono ?_
  rintro e w1 ⟨A1, c1', rfl, hk1, hm1, ho1, hb1⟩
  have HR1 := Lib.hid (ho1.rd (tu_by0 Ht.out))
  have HC1 := Lib.hid (And.intro hk1 hm1)
  have HB1 := Lib.hid (below_trans Hb0.out hb1)
  have HK1 := Lib.hid (blk_on HK0.out hb1)
  clear c0 c1 c2 c3 c4 hk1 hm1 ho1 hb1 Hb0 HK0
  go_upto_region 2 with (fail)
  have Hd := Lib.hid (Below.drew (Below.refl w1.heap.size w1))
  have HRd := Lib.hid (HR1.out.below Hd.out)
  have HKd := Lib.hid (blk_on HK1.out Hd.out)
  have HS := Lib.hid (show ∀ w', Below w1.drew.heap.size w1.drew w' → w'.cell? ⟨z, 1, none⟩ = some (.int .u32 t.sr) ∧ w'.cell? ⟨z, 2, none⟩ = some (.int .u32 t.ds) from
    fun w' hb => ⟨(cells5 (blk_on HKd.out hb)).2.1, (cells5 (blk_on HKd.out hb)).2.2.1⟩)
  have HBd := Lib.hid (Below.refl w1.drew.heap.size w1.drew)
  refine wp_region_held_drew (S := fun w' => w'.cell? ⟨z, 1, none⟩ = some (.int .u32 t.sr) ∧ w'.cell? ⟨z, 2, none⟩ = some (.int .u32 t.ds)) (by kernel_rfl) (HS.out _ HBd.out) (fun hHeld => ?_)
  obtain ⟨wd, ewd⟩ : ∃ wd, w1.drew = wd := ⟨_, rfl⟩
  rw [ewd] at Hd HRd HKd HBd hHeld HS ⊢
  clear ewd
  refine wpAnyH_take (i := 0) (oi := { dst := some 7, op := Go.Op.move (Go.Operand.tmp 3), type := 24, pos := "tuple.go:58", after := #[], guard := none }) (v := ?_) rfl (by kernel_rfl) (by kernel_rfl) (by kernel_rfl) (fun _ _ _ h => h) (Or.inl ⟨by rfl, ?_⟩) (by assumption) ?_
  rotate_left 1
  · intro w' hSw; (go_simp <;> (with_reducible rfl))
  (try simp only [Act.put, List.setIfInBounds_toArray, List.set_cons_zero, List.set_cons_succ])
  refine wpAnyH_take (i := 1) (oi := { dst := some 8, op := Go.Op.fieldAddr 37 (Go.Operand.tmp 1) 1, type := 0, pos := "tuple.go:58", after := #[], guard := none }) (v := ?_) rfl (by kernel_rfl) (by kernel_rfl) (by kernel_rfl) (fun _ _ _ h => h) (Or.inl ⟨by rfl, ?_⟩) (by assumption) ?_
  rotate_left 1
  · intro w' hSw; (go_simp <;> (with_reducible rfl))
  (try simp only [Act.put, List.setIfInBounds_toArray, List.set_cons_zero, List.set_cons_succ])
  refine wpAnyH_take (i := 2) (oi := { dst := some 9, op := Go.Op.load 23 (Go.Operand.tmp 8), type := 23, pos := "tuple.go:58", after := #[{ on := 1, ground := Go.Ground.data }], guard := none }) (v := ?_) rfl (by kernel_rfl) (by kernel_rfl) (by kernel_rfl) (fun _ _ _ h => h) (Or.inl ⟨by rfl, ?_⟩) (by assumption) ?_
  rotate_left 1
  · intro w' hSw; (go_simp <;> (with_reducible rfl))
  (try simp only [Act.put, List.setIfInBounds_toArray, List.set_cons_zero, List.set_cons_succ])
  refine wpAnyH_take (i := 4) (oi := { dst := some 11, op := Go.Op.fieldAddr 37 (Go.Operand.tmp 1) 2, type := 0, pos := "tuple.go:58", after := #[], guard := none }) (v := ?_) rfl (by kernel_rfl) (by kernel_rfl) (by kernel_rfl) (fun _ _ _ h => h) (Or.inl ⟨by rfl, ?_⟩) (by assumption) ?_
  rotate_left 1
  · intro w' hSw; (go_simp <;> (with_reducible rfl))
  (try simp only [Act.put, List.setIfInBounds_toArray, List.set_cons_zero, List.set_cons_succ])
  refine wpAnyH_take (i := 5) (oi := { dst := some 12, op := Go.Op.load 23 (Go.Operand.tmp 11), type := 23, pos := "tuple.go:58", after := #[{ on := 4, ground := Go.Ground.data }], guard := none }) (v := ?_) rfl (by kernel_rfl) (by kernel_rfl) (by kernel_rfl) (fun _ _ _ h => h) (Or.inl ⟨by rfl, ?_⟩) (by assumption) ?_
  rotate_left 1
  · intro w' hSw; (go_simp <;> (with_reducible rfl))
  (try simp only [Act.put, List.setIfInBounds_toArray, List.set_cons_zero, List.set_cons_succ])
  refine wpAnyH_ready (rs := [3]) (by kernel_rfl) (by simp) ?_
  refine AllReadyH.cons (o := { dst := some 10, op := Go.Op.call { callee := Go.Callee.value (Go.Operand.func 24), args := #[Go.Operand.tmp 7, Go.Operand.tmp 9], argTypes := #[24, 23] }, type := 24, pos := "tuple.go:58", after := #[{ on := 0, ground := Go.Ground.data }, { on := 2, ground := Go.Ground.data }], guard := none }) rfl (fun K hK => ?_) AllReadyH.nil
  go_simp
  (refine (u32_lays _ _ _ _ _ _ Ht.out.sr HC1.out (by omega) HRd.out).mono ?_; rintro e w3 ⟨A3, c3, rfl, hk, hm, ho, hb⟩; have HR3 := Lib.hid (ho.rd (tu_by1 Ht.out)); have HC3 := Lib.hid (And.intro hk hm); have HB3 := Lib.hid (below_trans HBd.out hb); clear hk hm ho hb)
  refine hK.out _ _ ?_ (fun hHeld => ?_)
  · exact HS.out _ HB3.out
  clear hK K
  (try simp only [Act.put, List.setIfInBounds_toArray, List.set_cons_zero, List.set_cons_succ])
  refine wpAnyH_ready (rs := [6]) (by kernel_rfl) (by simp) ?_
  refine AllReadyH.cons (o := { dst := some 13, op := Go.Op.call { callee := Go.Callee.value (Go.Operand.func 24), args := #[Go.Operand.tmp 10, Go.Operand.tmp 12], argTypes := #[24, 23] }, type := 24, pos := "tuple.go:58", after := #[{ on := 3, ground := Go.Ground.data }, { on := 5, ground := Go.Ground.data }, { on := 3, ground := Go.Ground.chain }], guard := none }) rfl (fun K hK => ?_) AllReadyH.nil
  go_simp
  (refine (u32_lays _ _ _ _ _ _ Ht.out.ds HC3.out (by omega) HR3.out).mono ?_; rintro e w4 ⟨A4, c4, rfl, hk, hm, ho, hb⟩; have HR4 := Lib.hid (ho.rd (tu_by2 Ht.out)); have HC4 := Lib.hid (And.intro hk hm); have HB4 := Lib.hid (below_trans HB3.out hb); clear hk hm ho hb)
  refine hK.out _ _ ?_ (fun hHeld => ?_)
  · exact HS.out _ HB4.out
  clear hK K
  (try simp only [Act.put, List.setIfInBounds_toArray, List.set_cons_zero, List.set_cons_succ])
  refine wpAnyH_take (i := 7) (oi := { dst := some 3, op := Go.Op.assign (Go.Operand.tmp 13), type := 24, pos := "tuple.go:58", after := #[{ on := 6, ground := Go.Ground.data }, { on := 6, ground := Go.Ground.chain }, { on := 0, ground := Go.Ground.phase }, { on := 1, ground := Go.Ground.phase }, { on := 2, ground := Go.Ground.phase }, { on := 3, ground := Go.Ground.phase }, { on := 4, ground := Go.Ground.phase }, { on := 5, ground := Go.Ground.phase }, { on := 6, ground := Go.Ground.phase }], guard := none }) (v := ?_) rfl (by kernel_rfl) (by kernel_rfl) (by kernel_rfl) (fun _ _ _ h => h) (Or.inl ⟨by rfl, ?_⟩) (by assumption) ?_
  rotate_left 1
  · intro w' hSw; (go_simp <;> (with_reducible rfl))
  (try simp only [Act.put, List.setIfInBounds_toArray, List.set_cons_zero, List.set_cons_succ])
  refine wpAnyH_done (by kernel_rfl) ?_ _
  clear hHeld
  have HB4a := Lib.hid (below_trans HB1.out (below_trans Hd.out HB4.out))
  have HK4 := Lib.hid (blk_on HKd.out HB4.out)
  clear HS HBd HKd HRd Hd HK1 HB1 HR1 HB3 HR3 HB4 HC1 HC3
  go_upto_region 3 with (fail)
  have He := Lib.hid (Below.drew (Below.refl w4.heap.size w4))
  have HRe := Lib.hid (HR4.out.below He.out)
  have HKe := Lib.hid (blk_on HK4.out He.out)
  have HS := Lib.hid (show ∀ w', Below w4.drew.heap.size w4.drew w' → w'.cell? ⟨z, 3, none⟩ = some (.int .u16 t.sp) ∧ w'.cell? ⟨z, 4, none⟩ = some (.int .u16 t.dp) from
    fun w' hb => ⟨(cells5 (blk_on HKe.out hb)).2.2.2.1, (cells5 (blk_on HKe.out hb)).2.2.2.2⟩)
  have HBe := Lib.hid (Below.refl w4.drew.heap.size w4.drew)
  refine wp_region_held_drew (S := fun w' => w'.cell? ⟨z, 3, none⟩ = some (.int .u16 t.sp) ∧ w'.cell? ⟨z, 4, none⟩ = some (.int .u16 t.dp)) (by kernel_rfl) (HS.out _ HBe.out) (fun hHeld => ?_)
  obtain ⟨we, ewe⟩ : ∃ we, w4.drew = we := ⟨_, rfl⟩
  rw [ewe] at He HRe HKe HBe hHeld HS ⊢
  clear ewe
  refine wpAnyH_take (i := 0) (oi := { dst := some 14, op := Go.Op.move (Go.Operand.tmp 3), type := 24, pos := "tuple.go:59", after := #[], guard := none }) (v := ?_) rfl (by kernel_rfl) (by kernel_rfl) (by kernel_rfl) (fun _ _ _ h => h) (Or.inl ⟨by rfl, ?_⟩) (by assumption) ?_
  rotate_left 1
  · intro w' hSw; (go_simp <;> (with_reducible rfl))
  (try simp only [Act.put, List.setIfInBounds_toArray, List.set_cons_zero, List.set_cons_succ])
  refine wpAnyH_take (i := 1) (oi := { dst := some 15, op := Go.Op.fieldAddr 37 (Go.Operand.tmp 1) 3, type := 0, pos := "tuple.go:59", after := #[], guard := none }) (v := ?_) rfl (by kernel_rfl) (by kernel_rfl) (by kernel_rfl) (fun _ _ _ h => h) (Or.inl ⟨by rfl, ?_⟩) (by assumption) ?_
  rotate_left 1
  · intro w' hSw; (go_simp <;> (with_reducible rfl))
  (try simp only [Act.put, List.setIfInBounds_toArray, List.set_cons_zero, List.set_cons_succ])
  refine wpAnyH_take (i := 2) (oi := { dst := some 16, op := Go.Op.load 22 (Go.Operand.tmp 15), type := 22, pos := "tuple.go:59", after := #[{ on := 1, ground := Go.Ground.data }], guard := none }) (v := ?_) rfl (by kernel_rfl) (by kernel_rfl) (by kernel_rfl) (fun _ _ _ h => h) (Or.inl ⟨by rfl, ?_⟩) (by assumption) ?_
  rotate_left 1
  · intro w' hSw; (go_simp <;> (with_reducible rfl))
  (try simp only [Act.put, List.setIfInBounds_toArray, List.set_cons_zero, List.set_cons_succ])
  refine wpAnyH_take (i := 4) (oi := { dst := some 18, op := Go.Op.fieldAddr 37 (Go.Operand.tmp 1) 4, type := 0, pos := "tuple.go:59", after := #[], guard := none }) (v := ?_) rfl (by kernel_rfl) (by kernel_rfl) (by kernel_rfl) (fun _ _ _ h => h) (Or.inl ⟨by rfl, ?_⟩) (by assumption) ?_
  rotate_left 1
  · intro w' hSw; (go_simp <;> (with_reducible rfl))
  (try simp only [Act.put, List.setIfInBounds_toArray, List.set_cons_zero, List.set_cons_succ])
  refine wpAnyH_take (i := 5) (oi := { dst := some 19, op := Go.Op.load 22 (Go.Operand.tmp 18), type := 22, pos := "tuple.go:59", after := #[{ on := 4, ground := Go.Ground.data }], guard := none }) (v := ?_) rfl (by kernel_rfl) (by kernel_rfl) (by kernel_rfl) (fun _ _ _ h => h) (Or.inl ⟨by rfl, ?_⟩) (by assumption) ?_
  rotate_left 1
  · intro w' hSw; (go_simp <;> (with_reducible rfl))
  (try simp only [Act.put, List.setIfInBounds_toArray, List.set_cons_zero, List.set_cons_succ])
  refine wpAnyH_ready (rs := [3]) (by kernel_rfl) (by simp) ?_
  refine AllReadyH.cons (o := { dst := some 17, op := Go.Op.call { callee := Go.Callee.value (Go.Operand.func 25), args := #[Go.Operand.tmp 14, Go.Operand.tmp 16], argTypes := #[24, 22] }, type := 24, pos := "tuple.go:59", after := #[{ on := 0, ground := Go.Ground.data }, { on := 2, ground := Go.Ground.data }], guard := none }) rfl (fun K hK => ?_) AllReadyH.nil
  go_simp
  (refine (u16_lays _ _ _ _ _ _ Ht.out.sp HC4.out (by omega) HRe.out).mono ?_; rintro e w5 ⟨A5, c5, rfl, hk, hm, ho, hb⟩; have HR5 := Lib.hid (ho.rd (tu_by3 Ht.out)); have HC5 := Lib.hid (And.intro hk hm); have HB5 := Lib.hid (below_trans HBe.out hb); clear hk hm ho hb)
  refine hK.out _ _ ?_ (fun hHeld => ?_)
  · exact HS.out _ HB5.out
  clear hK K
  (try simp only [Act.put, List.setIfInBounds_toArray, List.set_cons_zero, List.set_cons_succ])
  refine wpAnyH_ready (rs := [6]) (by kernel_rfl) (by simp) ?_
  refine AllReadyH.cons (o := { dst := some 20, op := Go.Op.call { callee := Go.Callee.value (Go.Operand.func 25), args := #[Go.Operand.tmp 17, Go.Operand.tmp 19], argTypes := #[24, 22] }, type := 24, pos := "tuple.go:59", after := #[{ on := 3, ground := Go.Ground.data }, { on := 5, ground := Go.Ground.data }, { on := 3, ground := Go.Ground.chain }], guard := none }) rfl (fun K hK => ?_) AllReadyH.nil
  go_simp
  (refine (u16_lays _ _ _ _ _ _ Ht.out.dp HC5.out (by omega) HR5.out).mono ?_; rintro e w6 ⟨A6, c6, rfl, hk, hm, ho, hb⟩; have HO6 := Lib.hid ho; have HC6 := Lib.hid (And.intro hk hm); have HB6 := Lib.hid (below_trans HB5.out hb); have Hsz5 := Lib.hid HB5.out.size; clear hk hm ho hb)
  refine hK.out _ _ ?_ (fun hHeld => ?_)
  · exact HS.out _ HB6.out
  clear hK K
  (try simp only [Act.put, List.setIfInBounds_toArray, List.set_cons_zero, List.set_cons_succ])
  refine wpAnyH_take (i := 7) (oi := { dst := some 2, op := Go.Op.assign (Go.Operand.tmp 20), type := 24, pos := "tuple.go:59", after := #[{ on := 6, ground := Go.Ground.data }, { on := 6, ground := Go.Ground.chain }, { on := 0, ground := Go.Ground.phase }, { on := 1, ground := Go.Ground.phase }, { on := 2, ground := Go.Ground.phase }, { on := 3, ground := Go.Ground.phase }, { on := 4, ground := Go.Ground.phase }, { on := 5, ground := Go.Ground.phase }, { on := 6, ground := Go.Ground.phase }], guard := none }) (v := ?_) rfl (by kernel_rfl) (by kernel_rfl) (by kernel_rfl) (fun _ _ _ h => h) (Or.inl ⟨by rfl, ?_⟩) (by assumption) ?_
  rotate_left 1
  · intro w' hSw; (go_simp <;> (with_reducible rfl))
  (try simp only [Act.put, List.setIfInBounds_toArray, List.set_cons_zero, List.set_cons_succ])
  refine wpAnyH_done (by kernel_rfl) ?_ _
  clear hHeld
  have HBf := Lib.hid (HB4a.out.trans ((below_trans He.out HB6.out).mono HB4a.out.size))
  have hle : w.heap.size ≤ w5.heap.size := Nat.le_trans (Nat.le_trans HB4a.out.size He.out.size) Hsz5.out
  go_wp2_with fail
  go_ret
  exact ⟨A6, c6, rfl, HC6.out.1, HC6.out.2, HO6.out.mono hle, HBf.out⟩
end Go.Proofs.Ythhgdmdobfjipaa
