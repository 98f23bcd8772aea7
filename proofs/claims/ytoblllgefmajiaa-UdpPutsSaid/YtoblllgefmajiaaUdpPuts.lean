/-
  UdpPuts holds: datagrams as bytes, and whether two are the same, are the document's; what is handed in stays. For any two addresses, any two datagrams (of their data the first 1600 bytes).
-/
import Derived.Test.YtoblllgefmajiaaUdpRef
import Derived.Test.YtoblllgefmajiaaUdpLaw
import Derived.Test.YtoblllgefmajiaaUdpOpen
import Derived.RegionTactic
import Derived.BigRegion
import Derived.Deep.CutRange
import Derived.Deep.RegionHeld3
import Derived.Laws.BitsLemmas
namespace Go.Proofs.Ytoblllgefmajiaa.udpPuts
set_option maxRecDepth 10000
open Go.ChangeShapes Go.WideShapes Go.ChangeAt Go.RowKit
set_option linter.unusedVariables false
set_option linter.unusedSimpArgs false

/-- One byte's address in a row of the call's own. -/
theorem own_ix {w : World} {B g n c : Nat} {l : List Int} (h : OwnB w B (some ⟨g, 0, none⟩) n c l) (j : Nat) (ji : Int) (hj : j < n) (he : ji = (j : Int)) :
    (∀ W : World, (Instr.indexAt 25 (.slice (some ⟨g, 0, none⟩) n c) (.int .i64 ji)).run Try.prog W = .ok (.pointer (some ⟨g, j, none⟩)) W) ∧ w.cell? ⟨g, j, none⟩ = some (.int .u8 (l.getD j 0)) ∧ w.frozen? ⟨g, j, none⟩ = false := by
  subst he
  have h0 : (0 : Int) ≤ (j : Int) := by omega
  have h1 : (j : Int) < (n : Int) := by omega
  exact ⟨fun W => by go_simp, h.cell j hj, World.ownsRow.frozenAt h j⟩

set_option maxHeartbeats 8000000 in
theorem walk (w : World) (v : Value) (hv : EndsAt w v) (v1 : Value) (hv1 : DgAt w v1) (v2 : Value) (hv2 : DgAt w v2) :
    Calls Try.prog 9 #[v, v1, v2] w fun e w' => e = .returned (.bool true) ∧ Below w.heap.size w w' := by
  obtain ⟨src, dst, rfl, hs, hd⟩ := hv
  obtain ⟨⟨sp, dp, D⟩, A, N, c, rfl, hnum, hc, hr⟩ := hv1
  obtain ⟨⟨sp2, dp2, D2⟩, A2, N2, c2, rfl, hnum2, hc2, hr2⟩ := hv2
  simp only at hr hr2 ⊢
  obtain ⟨n, hmin, hnN, hn1600⟩ := min_nat 1600 N (by omega)
  obtain ⟨n2, hmin2, hnN2, hn1600'⟩ := min_nat 1600 N2 (by omega)
  have hr := hr.take hnN
  have hr2 := hr2.take hnN2
  obtain ⟨d, ed⟩ : ∃ d, D.take n = d := ⟨_, rfl⟩
  obtain ⟨d2, ed2⟩ : ∃ d, D2.take n2 = d := ⟨_, rfl⟩
  rw [ed] at hr
  rw [ed2] at hr2
  have hni : (n : Int) ≤ (c : Int) := by omega
  have hni2 : (n2 : Int) ≤ (c2 : Int) := by omega
  have hn2 : n ≤ 1600 := by omega
  obtain ⟨z, hz⟩ : ∃ z, w.heap.size = z := ⟨_, rfl⟩
  have Hr := Lib.hid hr
  have Hr2 := Lib.hid hr2
  have Hc := Lib.hid (And.intro (show n ≤ c by omega) hc.2)
  clear ed ed2 hc hc2
  obtain ⟨W0, eW0⟩ : ∃ W0, ((w.alloc (.cells #[.int .u32 src, .int .u32 dst] 55)).alloc (.cells #[.int .u16 sp, .int .u16 dp, .slice A n c] 57)).alloc (.cells #[.int .u16 sp2, .int .u16 dp2, .slice A2 n2 c2] 57) = W0 := ⟨_, rfl⟩
  have hbW : Below w.heap.size w W0 := by rw [← eW0]; exact (((Below.refl _ _).alloc (Nat.le_refl _) _).alloc (by simp) _).alloc (by simp; omega) _
  have hk0 : W0.heap[z]? = some (.cells #[.int .u32 src, .int .u32 dst] 55 (0, 0)) := by
    rw [← eW0, Below.heap_alloc _ _ _ (by simp [hz]; omega), Below.heap_alloc _ _ _ (by simp [hz]), ← hz]; exact heap_alloc_new w _
  have hk1 : W0.heap[z + 1]? = some (.cells #[.int .u16 sp, .int .u16 dp, .slice A n c] 57 (0, 0)) := by
    rw [← eW0, Below.heap_alloc _ _ _ (by simp [hz]), ← hz]; simpa using heap_alloc_new (w.alloc (.cells #[.int .u32 src, .int .u32 dst] 55)) (.cells #[.int .u16 sp, .int .u16 dp, .slice A n c] 57)
  have hk2 : W0.heap[z + 2]? = some (.cells #[.int .u16 sp2, .int .u16 dp2, .slice A2 n2 c2] 57 (0, 0)) := by
    rw [← eW0, ← hz]; simpa using heap_alloc_new ((w.alloc (.cells #[.int .u32 src, .int .u32 dst] 55)).alloc (.cells #[.int .u16 sp, .int .u16 dp, .slice A n c] 57)) (.cells #[.int .u16 sp2, .int .u16 dp2, .slice A2 n2 c2] 57)
  have HK := Lib.hid (show ∀ w', Below W0.heap.size W0 w' → (w'.cell? ⟨z, 0, none⟩ = some (.int .u32 src) ∧ w'.cell? ⟨z, 1, none⟩ = some (.int .u32 dst)) ∧ (w'.cell? ⟨z + 1, 0, none⟩ = some (.int .u16 sp) ∧ w'.cell? ⟨z + 1, 1, none⟩ = some (.int .u16 dp) ∧ w'.cell? ⟨z + 1, 2, none⟩ = some (.slice A n c)) ∧ (w'.cell? ⟨z + 2, 0, none⟩ = some (.int .u16 sp2) ∧ w'.cell? ⟨z + 2, 1, none⟩ = some (.int .u16 dp2) ∧ w'.cell? ⟨z + 2, 2, none⟩ = some (.slice A2 n2 c2)) from
    fun w' hb => ⟨⟨by rw [blk_cell (blk_on hk0 hb)]; rfl, by rw [blk_cell (blk_on hk0 hb)]; rfl⟩, cells3 (blk_on hk1 hb), cells3 (blk_on hk2 hb)⟩)
  have HbW := Lib.hid hbW
  have HR0 := Lib.hid (show ∀ w', Below W0.heap.size W0 w' → Rd w' A n d ∧ Rd w' A2 n2 d2 from fun w' hb => ⟨(Hr.out.below hbW).below hb, (Hr2.out.below hbW).below hb⟩)
  have HeW := Lib.hid eW0
  have Hnum := Lib.hid (show DgNum ⟨sp, dp, d⟩ from ⟨hnum.sp, hnum.dp⟩)
  have HdB := Lib.hid hr.byte
  clear hk0 hk1 hk2 hbW eW0 hr hr2 Hr Hr2 hnum hnum2
  obtain ⟨sb, esb⟩ : ∃ sb, dgSame ⟨sp, dp, d⟩ ⟨sp2, dp2, d2⟩ = sb := ⟨_, rfl⟩
  have Esb := Lib.hid esb
  clear esb
  go_enter Try.func9, Try.ntmps9
  go_upto_region 1 with (fail)
  go_region
  go_upto_region 2 with (fail)
  rw [HeW.out]
  have Hb1 := Lib.hid (show Below W0.heap.size W0 W0.drew from Below.drew (Below.refl _ _))
  obtain ⟨w1, ew1⟩ : ∃ w1, W0.drew = w1 := ⟨_, rfl⟩
  rw [ew1] at Hb1 ⊢
  clear ew1 hmin hmin2
  obtain ⟨⟨f0, f1⟩, ⟨q0, q1, q2⟩, p0, p1, p2⟩ := HK.out _ Hb1.out
  have HE := Lib.hid (OwnB.made (w := w1.alloc (.cells #[] 5)) (B := w1.heap.size) (g := w1.heap.size) (cap := 0) (cur := #[]) (heap_alloc_new w1 _) (Nat.le_refl _) (by simp [maxLen]) rfl)
  have hbA : Below w1.heap.size w1 (w1.alloc (.cells #[] 5)) := (Below.refl _ _).alloc (Nat.le_refl _) _
  have HbA := Lib.hid hbA
  have HrA := Lib.hid (HR0.out _ (below_trans Hb1.out hbA)).1
  have hsA : w1.heap.size ≤ (w1.alloc (.cells #[] 5)).heap.size := by simp
  obtain ⟨_, ⟨_, _, q2a⟩, _⟩ := HK.out _ (below_trans Hb1.out hbA)
  clear hbA
  go_upto_region 3 with (refine wpList_app rfl (.tmp 30) (.tmp 32) rfl w1.heap.size (some ⟨w1.heap.size, 0, none⟩) A 0 0 n c [] d rfl rfl HE.out HrA.out (by omega) hsA ?_; intro A7 c7 w2 ho2 hg2 hb2 hat2)
  have HO := Lib.hid (show OwnB w2 w1.heap.size A7 n c7 d by simpa using ho2)
  have Hb := Lib.hid (below_trans Hb1.out (HbA.out.trans hb2))
  have Hc7 := Lib.hid (And.intro HO.out.cap HO.out.capMax)
  clear ho2 hg2 hb2 hat2 HE HbA HrA hsA f0 f1 q0 q1 q2 p0 p1 p2 q2a
  obtain ⟨⟨f0, f1⟩, ⟨q0, q1, q2⟩, p0, p1, p2⟩ := HK.out _ Hb.out
  try simp only [Nat.zero_add]
  go_wp2_with fail
  by_cases h1472 : 1472 < n
  · as_aux_lemma =>
      refine (uput_bad src dst sp dp A7 n c7 _ h1472).mono ?_
      rintro e w3 ⟨rfl, hb3⟩
      have Hb := Lib.hid (below_trans Hb.out hb3)
      have HO := Lib.hid (HO.out.on hb3)
      clear f0 f1 q0 q1 q2 p0 p1 p2 hb3
      obtain ⟨⟨f0, f1⟩, ⟨q0, q1, q2⟩, p0, p1, p2⟩ := HK.out _ Hb.out
      go_wp2_with fail
      refine (ruput_bad src dst sp dp A n c _ h1472 (by omega)).mono ?_
      rintro e w4 ⟨rfl, hb4⟩
      have Hb := Lib.hid (below_trans Hb.out hb4)
      have HO := Lib.hid (HO.out.on hb4)
      clear f0 f1 q0 q1 q2 p0 p1 p2 hb4
      obtain ⟨⟨f0, f1⟩, ⟨q0, q1, q2⟩, p0, p1, p2⟩ := HK.out _ Hb.out
      go_wp2_with fail
      refine (bequal_any none none 0 0 0 0 [] [] _ true (Rd.nil _ _) (Rd.nil _ _) rfl).mono ?_
      rintro e w5 ⟨rfl, rfl⟩
      go_wp2_with fail
      go_loopg [62] 0 (fun gk i wr => i = .int .i64 0 ∧ w4 = wr)
      case atStart => exact ⟨rfl, rfl⟩
      case round =>
        obtain ⟨rfl, rfl⟩ := hrel
        go_wp2_with fail
        as_aux_lemma =>
          have hsb : (sb == sb) = true := by simp
          clear f0 f1 q0 q1 q2 p0 p1 p2
          refine wp_region_noPanic ?_
          have Hb := Lib.hid (below_trans Hb.out (Below.drew (Below.refl _ _)))
          have HO := Lib.hid (HO.out.on (Below.drew (Below.refl _ _)))
          refine wp_region_held_drew (S := fun w' => (w'.cell? ⟨z, 0, none⟩ = some (.int .u32 src) ∧ w'.cell? ⟨z, 1, none⟩ = some (.int .u32 dst)) ∧ (w'.cell? ⟨z + 1, 0, none⟩ = some (.int .u16 sp) ∧ w'.cell? ⟨z + 1, 1, none⟩ = some (.int .u16 dp) ∧ w'.cell? ⟨z + 1, 2, none⟩ = some (.slice A n c)) ∧ (w'.cell? ⟨z + 2, 0, none⟩ = some (.int .u16 sp2) ∧ w'.cell? ⟨z + 2, 1, none⟩ = some (.int .u16 dp2) ∧ w'.cell? ⟨z + 2, 2, none⟩ = some (.slice A2 n2 c2))) (by kernel_rfl) (HK.out _ Hb.out) (fun hHeld => ?_)
          refine wpAnyH_ready (rs := [0]) (by kernel_rfl) (by simp) ?_
          refine AllReadyH.cons (o := { dst := some 72, op := Go.Op.call { callee := Go.Callee.value (Go.Operand.func 36), args := #[], argTypes := #[] }, type := 4, pos := "law.go:34", after := #[], guard := none }) rfl (fun K hK => ?_) AllReadyH.nil
          go_simp
          (go_at_call 36; refine (uawake_any _).mono ?_; rintro e w6 ⟨rfl, hb6⟩; have Hb := Lib.hid (below_trans Hb.out hb6); have HO := Lib.hid (HO.out.on hb6); clear hb6)
          refine hK.out _ _ ?_ (fun hHeld => ?_)
          · exact HK.out _ Hb.out
          clear hK K
          (try simp only [Act.put, List.setIfInBounds_toArray, List.set_cons_zero, List.set_cons_succ])
          refine wpAnyH_take (i := 1) (oi := { dst := some 73, op := Go.Op.move (Go.Operand.tmp 72), type := 4, pos := "law.go:34", after := #[{ on := 0, ground := Go.Ground.data }, { on := 0, ground := Go.Ground.chain }], guard := none }) (v := ?_) rfl (by kernel_rfl) (by kernel_rfl) (by kernel_rfl) (fun _ _ _ h => h) (Or.inl ⟨by rfl, ?_⟩) (by assumption) ?_
          rotate_left 1
          · intro w' hSw; (go_simp <;> (with_reducible rfl))
          (try simp only [Act.put, List.setIfInBounds_toArray, List.set_cons_zero, List.set_cons_succ])
          refine wpAnyH_take (i := 2) (oi := { dst := some 74, op := Go.Op.move (Go.Operand.tmp 12), type := 4, pos := "law.go:34", after := #[{ on := 1, ground := Go.Ground.guard }], guard := some (1, true) }) (v := ?_) rfl (by kernel_rfl) (by kernel_rfl) (by kernel_rfl) (fun _ _ _ h => h) (Or.inl ⟨by rfl, ?_⟩) (by assumption) ?_
          rotate_left 1
          · intro w' hSw; (go_simp <;> (with_reducible rfl))
          (try simp only [Act.put, List.setIfInBounds_toArray, List.set_cons_zero, List.set_cons_succ])
          refine wpAnyH_take (i := 3) (oi := { dst := some 75, op := Go.Op.pick (Go.Operand.tmp 73) (Go.Operand.tmp 74) (Go.Operand.const (Go.Value.bool false)), type := 4, pos := "law.go:34", after := #[{ on := 1, ground := Go.Ground.data }, { on := 2, ground := Go.Ground.data }], guard := none }) (v := ?_) rfl (by kernel_rfl) (by kernel_rfl) (by kernel_rfl) (fun _ _ _ h => h) (Or.inl ⟨by rfl, ?_⟩) (by assumption) ?_
          rotate_left 1
          · intro w' hSw; (go_simp <;> (with_reducible rfl))
          (try simp only [Act.put, List.setIfInBounds_toArray, List.set_cons_zero, List.set_cons_succ])
          refine wpAnyH_take (i := 4) (oi := { dst := some 76, op := Go.Op.move (Go.Operand.tmp 75), type := 4, pos := "law.go:34", after := #[{ on := 3, ground := Go.Ground.data }, { on := 1, ground := Go.Ground.chain }], guard := none }) (v := ?_) rfl (by kernel_rfl) (by kernel_rfl) (by kernel_rfl) (fun _ _ _ h => h) (Or.inl ⟨by rfl, ?_⟩) (by assumption) ?_
          rotate_left 1
          · intro w' hSw; (go_simp <;> (with_reducible rfl))
          (try simp only [Act.put, List.setIfInBounds_toArray, List.set_cons_zero, List.set_cons_succ])
          refine wpAnyH_take (i := 5) (oi := { dst := some 77, op := Go.Op.move (Go.Operand.tmp 9), type := 28, pos := "law.go:34", after := #[{ on := 4, ground := Go.Ground.guard }], guard := some (4, true) }) (v := ?_) rfl (by kernel_rfl) (by kernel_rfl) (by kernel_rfl) (fun _ _ _ h => h) (Or.inl ⟨by rfl, ?_⟩) (by assumption) ?_
          rotate_left 1
          · intro w' hSw; (go_simp <;> (with_reducible rfl))
          (try simp only [Act.put, List.setIfInBounds_toArray, List.set_cons_zero, List.set_cons_succ])
          refine wpAnyH_take (i := 6) (oi := { dst := some 78, op := Go.Op.move (Go.Operand.tmp 11), type := 3, pos := "law.go:34", after := #[{ on := 4, ground := Go.Ground.guard }], guard := some (4, true) }) (v := ?_) rfl (by kernel_rfl) (by kernel_rfl) (by kernel_rfl) (fun _ _ _ h => h) (Or.inl ⟨by rfl, ?_⟩) (by assumption) ?_
          rotate_left 1
          · intro w' hSw; (go_simp <;> (with_reducible rfl))
          (try simp only [Act.put, List.setIfInBounds_toArray, List.set_cons_zero, List.set_cons_succ])
          refine wpAnyH_take (i := 7) (oi := { dst := some 79, op := Go.Op.binOp Go.BinOp.eql 3 (Go.Operand.tmp 77) (Go.Operand.tmp 78) 3, type := 4, pos := "law.go:34", after := #[{ on := 5, ground := Go.Ground.data }, { on := 6, ground := Go.Ground.data }, { on := 4, ground := Go.Ground.guard }], guard := some (4, true) }) (v := ?_) rfl (by kernel_rfl) (by kernel_rfl) (by kernel_rfl) (fun _ _ _ h => h) (Or.inl ⟨by rfl, ?_⟩) (by assumption) ?_
          rotate_left 1
          · intro w' hSw; (go_simp <;> (with_reducible rfl))
          (try simp only [Act.put, List.setIfInBounds_toArray, List.set_cons_zero, List.set_cons_succ])
          refine wpAnyH_take (i := 8) (oi := { dst := some 80, op := Go.Op.pick (Go.Operand.tmp 76) (Go.Operand.tmp 79) (Go.Operand.const (Go.Value.bool false)), type := 4, pos := "law.go:34", after := #[{ on := 4, ground := Go.Ground.data }, { on := 7, ground := Go.Ground.data }], guard := none }) (v := ?_) rfl (by kernel_rfl) (by kernel_rfl) (by kernel_rfl) (fun _ _ _ h => h) (Or.inl ⟨by rfl, ?_⟩) (by assumption) ?_
          rotate_left 1
          · intro w' hSw; (go_simp <;> (with_reducible rfl))
          (try simp only [Act.put, List.setIfInBounds_toArray, List.set_cons_zero, List.set_cons_succ])
          refine wpAnyH_take (i := 9) (oi := { dst := some 81, op := Go.Op.move (Go.Operand.tmp 80), type := 4, pos := "law.go:34", after := #[{ on := 8, ground := Go.Ground.data }, { on := 4, ground := Go.Ground.chain }], guard := none }) (v := ?_) rfl (by kernel_rfl) (by kernel_rfl) (by kernel_rfl) (fun _ _ _ h => h) (Or.inl ⟨by rfl, ?_⟩) (by assumption) ?_
          rotate_left 1
          · intro w' hSw; (go_simp <;> (with_reducible rfl))
          (try simp only [Act.put, List.setIfInBounds_toArray, List.set_cons_zero, List.set_cons_succ])
          refine wpAnyH_take (i := 10) (oi := { dst := some 82, op := Go.Op.move (Go.Operand.tmp 7), type := 25, pos := "law.go:34", after := #[{ on := 9, ground := Go.Ground.guard }], guard := some (9, true) }) (v := ?_) rfl (by kernel_rfl) (by kernel_rfl) (by kernel_rfl) (fun _ _ _ h => h) (Or.inl ⟨by rfl, ?_⟩) (by assumption) ?_
          rotate_left 1
          · intro w' hSw; (go_simp <;> (with_reducible rfl))
          (try simp only [Act.put, List.setIfInBounds_toArray, List.set_cons_zero, List.set_cons_succ])
          refine wpAnyH_take (i := 11) (oi := { dst := some 83, op := Go.Op.fieldAddr 57 (Go.Operand.tmp 4) 2, type := 0, pos := "law.go:34", after := #[{ on := 9, ground := Go.Ground.guard }], guard := some (9, true) }) (v := ?_) rfl (by kernel_rfl) (by kernel_rfl) (by kernel_rfl) (fun _ _ _ h => h) (Or.inl ⟨by rfl, ?_⟩) (by assumption) ?_
          rotate_left 1
          · intro w' hSw; (go_simp <;> (with_reducible rfl))
          (try simp only [Act.put, List.setIfInBounds_toArray, List.set_cons_zero, List.set_cons_succ])
          refine wpAnyH_take (i := 12) (oi := { dst := some 84, op := Go.Op.load 25 (Go.Operand.tmp 83), type := 25, pos := "law.go:34", after := #[{ on := 11, ground := Go.Ground.data }, { on := 9, ground := Go.Ground.guard }], guard := some (9, true) }) (v := ?_) rfl (by kernel_rfl) (by kernel_rfl) (by kernel_rfl) (fun _ _ _ h => h) (Or.inl ⟨by rfl, ?_⟩) (by assumption) ?_
          rotate_left 1
          · intro w' hSw; (go_simp <;> (with_reducible rfl))
          (try simp only [Act.put, List.setIfInBounds_toArray, List.set_cons_zero, List.set_cons_succ])
          refine wpAnyH_ready (rs := [13]) (by kernel_rfl) (by simp) ?_
          refine AllReadyH.cons (o := { dst := some 85, op := Go.Op.call { callee := Go.Callee.value (Go.Operand.func 35), args := #[Go.Operand.tmp 82, Go.Operand.tmp 84], argTypes := #[25, 25] }, type := 4, pos := "law.go:34", after := #[{ on := 10, ground := Go.Ground.data }, { on := 12, ground := Go.Ground.data }, { on := 9, ground := Go.Ground.chain }, { on := 9, ground := Go.Ground.guard }], guard := some (9, true) }) rfl (fun K hK => ?_) AllReadyH.nil
          go_simp
          (go_at_call 35; refine (bequal_any A7 A n n c7 c d d _ true (HO.out.rd HdB.out) (HR0.out _ Hb.out).1 (by simp)).mono ?_; rintro e w7 ⟨rfl, rfl⟩)
          refine hK.out _ _ ?_ (fun hHeld => ?_)
          · exact HK.out _ Hb.out
          clear hK K
          (try simp only [Act.put, List.setIfInBounds_toArray, List.set_cons_zero, List.set_cons_succ])
          refine wpAnyH_take (i := 14) (oi := { dst := some 86, op := Go.Op.pick (Go.Operand.tmp 81) (Go.Operand.tmp 85) (Go.Operand.const (Go.Value.bool false)), type := 4, pos := "law.go:34", after := #[{ on := 9, ground := Go.Ground.data }, { on := 13, ground := Go.Ground.data }], guard := none }) (v := ?_) rfl (by kernel_rfl) (by kernel_rfl) (by kernel_rfl) (fun _ _ _ h => h) (Or.inl ⟨by rfl, ?_⟩) (by assumption) ?_
          rotate_left 1
          · intro w' hSw; (go_simp <;> (with_reducible rfl))
          (try simp only [Act.put, List.setIfInBounds_toArray, List.set_cons_zero, List.set_cons_succ])
          refine wpAnyH_take (i := 15) (oi := { dst := some 87, op := Go.Op.move (Go.Operand.tmp 86), type := 4, pos := "law.go:34", after := #[{ on := 14, ground := Go.Ground.data }, { on := 13, ground := Go.Ground.chain }], guard := none }) (v := ?_) rfl (by kernel_rfl) (by kernel_rfl) (by kernel_rfl) (fun _ _ _ h => h) (Or.inl ⟨by rfl, ?_⟩) (by assumption) ?_
          rotate_left 1
          · intro w' hSw; (go_simp <;> (with_reducible rfl))
          (try simp only [Act.put, List.setIfInBounds_toArray, List.set_cons_zero, List.set_cons_succ])
          refine wpAnyH_take (i := 16) (oi := { dst := some 88, op := Go.Op.load 57 (Go.Operand.tmp 4), type := 57, pos := "law.go:34", after := #[{ on := 15, ground := Go.Ground.guard }], guard := some (15, true) }) (v := ?_) rfl (by kernel_rfl) (by kernel_rfl) (by kernel_rfl) (fun _ _ _ h => h) (Or.inl ⟨by rfl, ?_⟩) (by assumption) ?_
          rotate_left 1
          · intro w' hSw; (go_simp <;> (with_reducible rfl))
          (try simp only [Act.put, List.setIfInBounds_toArray, List.set_cons_zero, List.set_cons_succ])
          refine wpAnyH_take (i := 17) (oi := { dst := some 89, op := Go.Op.load 57 (Go.Operand.tmp 5), type := 57, pos := "law.go:34", after := #[{ on := 15, ground := Go.Ground.guard }], guard := some (15, true) }) (v := ?_) rfl (by kernel_rfl) (by kernel_rfl) (by kernel_rfl) (fun _ _ _ h => h) (Or.inl ⟨by rfl, ?_⟩) (by assumption) ?_
          rotate_left 1
          · intro w' hSw; (go_simp <;> (with_reducible rfl))
          (try simp only [Act.put, List.setIfInBounds_toArray, List.set_cons_zero, List.set_cons_succ])
          refine wpAnyH_take (i := 19) (oi := { dst := some 91, op := Go.Op.load 57 (Go.Operand.tmp 4), type := 57, pos := "law.go:34", after := #[{ on := 15, ground := Go.Ground.guard }], guard := some (15, true) }) (v := ?_) rfl (by kernel_rfl) (by kernel_rfl) (by kernel_rfl) (fun _ _ _ h => h) (Or.inl ⟨by rfl, ?_⟩) (by assumption) ?_
          rotate_left 1
          · intro w' hSw; (go_simp <;> (with_reducible rfl))
          (try simp only [Act.put, List.setIfInBounds_toArray, List.set_cons_zero, List.set_cons_succ])
          refine wpAnyH_take (i := 20) (oi := { dst := some 92, op := Go.Op.load 57 (Go.Operand.tmp 5), type := 57, pos := "law.go:34", after := #[{ on := 15, ground := Go.Ground.guard }], guard := some (15, true) }) (v := ?_) rfl (by kernel_rfl) (by kernel_rfl) (by kernel_rfl) (fun _ _ _ h => h) (Or.inl ⟨by rfl, ?_⟩) (by assumption) ?_
          rotate_left 1
          · intro w' hSw; (go_simp <;> (with_reducible rfl))
          (try simp only [Act.put, List.setIfInBounds_toArray, List.set_cons_zero, List.set_cons_succ])
          refine wpAnyH_ready (rs := [18]) (by kernel_rfl) (by simp) ?_
          refine AllReadyH.cons (o := { dst := some 90, op := Go.Op.call { callee := Go.Callee.value (Go.Operand.func 37), args := #[Go.Operand.tmp 88, Go.Operand.tmp 89], argTypes := #[57, 57] }, type := 4, pos := "law.go:34", after := #[{ on := 16, ground := Go.Ground.data }, { on := 17, ground := Go.Ground.data }, { on := 15, ground := Go.Ground.chain }, { on := 15, ground := Go.Ground.guard }], guard := some (15, true) }) rfl (fun K hK => ?_) AllReadyH.nil
          go_simp
          (go_at_call 37; refine (usame_any ⟨sp, dp, d⟩ ⟨sp2, dp2, d2⟩ A n c A2 n2 c2 _ sb (HR0.out _ Hb.out).1 (HR0.out _ Hb.out).2 Esb.out).mono ?_; rintro e w8 ⟨rfl, hb8⟩; have Hb := Lib.hid (below_trans Hb.out hb8); clear hb8)
          refine hK.out _ _ ?_ (fun hHeld => ?_)
          · exact HK.out _ Hb.out
          clear hK K
          (try simp only [Act.put, List.setIfInBounds_toArray, List.set_cons_zero, List.set_cons_succ])
          refine wpAnyH_ready (rs := [21]) (by kernel_rfl) (by simp) ?_
          refine AllReadyH.cons (o := { dst := some 93, op := Go.Op.call { callee := Go.Callee.value (Go.Operand.func 38), args := #[Go.Operand.tmp 91, Go.Operand.tmp 92], argTypes := #[57, 57] }, type := 4, pos := "law.go:34", after := #[{ on := 19, ground := Go.Ground.data }, { on := 20, ground := Go.Ground.data }, { on := 18, ground := Go.Ground.chain }, { on := 15, ground := Go.Ground.guard }], guard := some (15, true) }) rfl (fun K hK => ?_) AllReadyH.nil
          go_simp
          (go_at_call 38; refine (rusame_any ⟨sp, dp, d⟩ ⟨sp2, dp2, d2⟩ A n c A2 n2 c2 _ sb (HR0.out _ Hb.out).1 (HR0.out _ Hb.out).2 Esb.out).mono ?_; rintro e w9 ⟨rfl, hb9⟩; have Hb := Lib.hid (below_trans Hb.out hb9); clear hb9)
          refine hK.out _ _ ?_ (fun hHeld => ?_)
          · exact HK.out _ Hb.out
          clear hK K
          (try simp only [Act.put, List.setIfInBounds_toArray, List.set_cons_zero, List.set_cons_succ])
          refine wpAnyH_take (i := 22) (oi := { dst := some 94, op := Go.Op.binOp Go.BinOp.eql 4 (Go.Operand.tmp 90) (Go.Operand.tmp 93) 4, type := 4, pos := "law.go:34", after := #[{ on := 18, ground := Go.Ground.data }, { on := 21, ground := Go.Ground.data }, { on := 15, ground := Go.Ground.guard }], guard := some (15, true) }) (v := ?_) rfl (by kernel_rfl) (by kernel_rfl) (by kernel_rfl) (fun _ _ _ h => h) (Or.inl ⟨by rfl, ?_⟩) (by assumption) ?_
          rotate_left 1
          · intro w' hSw; (go_simp <;> (with_reducible rfl))
          (try simp only [Act.put, List.setIfInBounds_toArray, List.set_cons_zero, List.set_cons_succ])
          refine wpAnyH_take (i := 23) (oi := { dst := some 95, op := Go.Op.pick (Go.Operand.tmp 87) (Go.Operand.tmp 94) (Go.Operand.const (Go.Value.bool false)), type := 4, pos := "law.go:34", after := #[{ on := 15, ground := Go.Ground.data }, { on := 22, ground := Go.Ground.data }], guard := none }) (v := ?_) rfl (by kernel_rfl) (by kernel_rfl) (by kernel_rfl) (fun _ _ _ h => h) (Or.inl ⟨by rfl, ?_⟩) (by assumption) ?_
          rotate_left 1
          · intro w' hSw; (go_simp <;> (with_reducible rfl))
          (try simp only [Act.put, List.setIfInBounds_toArray, List.set_cons_zero, List.set_cons_succ])
          refine wpAnyH_take (i := 24) (oi := { dst := some 96, op := Go.Op.move (Go.Operand.tmp 95), type := 4, pos := "law.go:34", after := #[{ on := 23, ground := Go.Ground.data }, { on := 21, ground := Go.Ground.chain }], guard := none }) (v := ?_) rfl (by kernel_rfl) (by kernel_rfl) (by kernel_rfl) (fun _ _ _ h => h) (Or.inl ⟨by rfl, ?_⟩) (by assumption) ?_
          rotate_left 1
          · intro w' hSw; (go_simp <;> (with_reducible rfl))
          (try simp only [Act.put, List.setIfInBounds_toArray, List.set_cons_zero, List.set_cons_succ])
          refine wpAnyH_take (i := 25) (oi := { dst := some 97, op := Go.Op.load 57 (Go.Operand.tmp 4), type := 57, pos := "law.go:34", after := #[{ on := 24, ground := Go.Ground.guard }], guard := some (24, true) }) (v := ?_) rfl (by kernel_rfl) (by kernel_rfl) (by kernel_rfl) (fun _ _ _ h => h) (Or.inl ⟨by rfl, ?_⟩) (by assumption) ?_
          rotate_left 1
          · intro w' hSw; (go_simp <;> (with_reducible rfl))
          (try simp only [Act.put, List.setIfInBounds_toArray, List.set_cons_zero, List.set_cons_succ])
          refine wpAnyH_take (i := 26) (oi := { dst := some 98, op := Go.Op.load 57 (Go.Operand.tmp 4), type := 57, pos := "law.go:34", after := #[{ on := 24, ground := Go.Ground.guard }], guard := some (24, true) }) (v := ?_) rfl (by kernel_rfl) (by kernel_rfl) (by kernel_rfl) (fun _ _ _ h => h) (Or.inl ⟨by rfl, ?_⟩) (by assumption) ?_
          rotate_left 1
          · intro w' hSw; (go_simp <;> (with_reducible rfl))
          (try simp only [Act.put, List.setIfInBounds_toArray, List.set_cons_zero, List.set_cons_succ])
          refine wpAnyH_ready (rs := [27]) (by kernel_rfl) (by simp) ?_
          refine AllReadyH.cons (o := { dst := some 99, op := Go.Op.call { callee := Go.Callee.value (Go.Operand.func 37), args := #[Go.Operand.tmp 97, Go.Operand.tmp 98], argTypes := #[57, 57] }, type := 4, pos := "law.go:34", after := #[{ on := 25, ground := Go.Ground.data }, { on := 26, ground := Go.Ground.data }, { on := 24, ground := Go.Ground.chain }, { on := 24, ground := Go.Ground.guard }], guard := some (24, true) }) rfl (fun K hK => ?_) AllReadyH.nil
          go_simp
          (go_at_call 37; refine (usame_any ⟨sp, dp, d⟩ ⟨sp, dp, d⟩ A n c A n c _ true (HR0.out _ Hb.out).1 (HR0.out _ Hb.out).1 (dgSame_self _)).mono ?_; rintro e w10 ⟨rfl, hb10⟩; have Hb := Lib.hid (below_trans Hb.out hb10); clear hb10)
          refine hK.out _ _ ?_ (fun hHeld => ?_)
          · exact HK.out _ Hb.out
          clear hK K
          (try simp only [Act.put, List.setIfInBounds_toArray, List.set_cons_zero, List.set_cons_succ])
          refine wpAnyH_take (i := 28) (oi := { dst := some 100, op := Go.Op.pick (Go.Operand.tmp 96) (Go.Operand.tmp 99) (Go.Operand.const (Go.Value.bool false)), type := 4, pos := "law.go:34", after := #[{ on := 24, ground := Go.Ground.data }, { on := 27, ground := Go.Ground.data }], guard := none }) (v := ?_) rfl (by kernel_rfl) (by kernel_rfl) (by kernel_rfl) (fun _ _ _ h => h) (Or.inl ⟨by rfl, ?_⟩) (by assumption) ?_
          rotate_left 1
          · intro w' hSw; (go_simp <;> (with_reducible rfl))
          (try simp only [Act.put, List.setIfInBounds_toArray, List.set_cons_zero, List.set_cons_succ])
          refine wpAnyH_take (i := 29) (oi := { dst := some 6, op := Go.Op.assign (Go.Operand.tmp 100), type := 4, pos := "law.go:34", after := #[{ on := 28, ground := Go.Ground.data }, { on := 27, ground := Go.Ground.chain }, { on := 0, ground := Go.Ground.phase }, { on := 1, ground := Go.Ground.phase }, { on := 2, ground := Go.Ground.phase }, { on := 3, ground := Go.Ground.phase }, { on := 4, ground := Go.Ground.phase }, { on := 5, ground := Go.Ground.phase }, { on := 6, ground := Go.Ground.phase }, { on := 7, ground := Go.Ground.phase }, { on := 8, ground := Go.Ground.phase }, { on := 9, ground := Go.Ground.phase }, { on := 10, ground := Go.Ground.phase }, { on := 11, ground := Go.Ground.phase }, { on := 12, ground := Go.Ground.phase }, { on := 13, ground := Go.Ground.phase }, { on := 14, ground := Go.Ground.phase }, { on := 15, ground := Go.Ground.phase }, { on := 16, ground := Go.Ground.phase }, { on := 17, ground := Go.Ground.phase }, { on := 18, ground := Go.Ground.phase }, { on := 19, ground := Go.Ground.phase }, { on := 20, ground := Go.Ground.phase }, { on := 21, ground := Go.Ground.phase }, { on := 22, ground := Go.Ground.phase }, { on := 23, ground := Go.Ground.phase }, { on := 24, ground := Go.Ground.phase }, { on := 25, ground := Go.Ground.phase }, { on := 26, ground := Go.Ground.phase }, { on := 27, ground := Go.Ground.phase }, { on := 28, ground := Go.Ground.phase }], guard := none }) (v := ?_) rfl (by kernel_rfl) (by kernel_rfl) (by kernel_rfl) (fun _ _ _ h => h) (Or.inl ⟨by rfl, ?_⟩) (by assumption) ?_
          rotate_left 1
          · intro w' hSw; (go_simp <;> (with_reducible rfl))
          (try simp only [Act.put, List.setIfInBounds_toArray, List.set_cons_zero, List.set_cons_succ])
          refine wpAnyH_done (by kernel_rfl) ?_ _
          refine NoPanic.normal ?_
          have Hb := Lib.hid (below_trans HbW.out Hb.out)
          go_wp2_with fail
          go_ret
          exact ⟨rfl, Hb.out⟩
  · as_aux_lemma =>
      have hle : n ≤ 1472 := by omega
      refine (uput_told src dst sp dp d A7 n c7 (8 + n) _ _ Hnum.out Hc7.out (HO.out.rd HdB.out) hle rfl rfl).mono ?_
      rintro e w3 ⟨A8, c8, rfl, k8, m8, ho8, hb3⟩
      obtain ⟨g8, rfl, hg8, -⟩ := ho8.addr (by omega)
      have hbL := dgB_bytes src dst (s := ⟨sp, dp, d⟩) Hnum.out (by have := HO.out.len; simp only; omega) HdB.out
      obtain ⟨L, eL⟩ : ∃ L, dgB src dst ⟨sp, dp, d⟩ = L := ⟨_, rfl⟩
      rw [eL] at ho8 hbL
      have HeL := Lib.hid eL
      have HbL := Lib.hid hbL
      have H8 := Lib.hid ho8
      obtain ⟨B8, eB8⟩ : ∃ B8, w2.heap.size = B8 := ⟨_, rfl⟩
      rw [eB8] at H8 hg8
      have Hlo := Lib.hid (show Below B8 w2 w3 by rw [← eB8]; exact hb3)
      have HbP := Hb
      have HOP := HO
      have EB8 := Lib.hid eB8
      have Hb := Lib.hid (below_trans Hb.out hb3)
      have Hg8 := Lib.hid hg8
      have k8i : 8 + (n : Int) ≤ (c8 : Int) := by omega
      clear f0 f1 q0 q1 q2 p0 p1 p2 hb3 ho8 hbL eL eB8 m8 hg8 HO
      obtain ⟨⟨f0, f1⟩, ⟨q0, q1, q2⟩, p0, p1, p2⟩ := HK.out _ Hb.out
      go_wp2_with fail
      refine (ruput_ok src dst ⟨sp, dp, d⟩ A n c _ Hnum.out (HR0.out _ Hb.out).1 hle).mono ?_
      rintro e w4 ⟨A9, c9, rfl, k9, m9, ho9, hb4⟩
      rw [HeL.out] at ho9
      have Hr9 := Lib.hid (ho9.rd HbL.out)
      have Hb := Lib.hid (below_trans Hb.out hb4)
      have Hlo := Lib.hid (Hlo.out.trans (hb4.mono (by rw [← EB8.out]; have := Hlo.out.size; exact this)))
      have H8 := Lib.hid (H8.out.on hb4)
      clear f0 f1 q0 q1 q2 p0 p1 p2 hb4 ho9 k9 m9
      obtain ⟨⟨f0, f1⟩, ⟨q0, q1, q2⟩, p0, p1, p2⟩ := HK.out _ Hb.out
      go_wp2_with fail
      refine (bequal_any (some ⟨g8, 0, none⟩) A9 (8 + n) (8 + n) c8 c9 L L _ true (H8.out.rd HbL.out) Hr9.out (by simp)).mono ?_
      rintro e w5 ⟨rfl, rfl⟩
      clear f0 f1 q0 q1 q2 p0 p1 p2 Hr9 Hb
      go_wp2_with fail
      go_loopg [62] (8 + n) (fun gk i wr => ∃ j : Nat, Hid (gk + j = 8 + n) ∧ j ≤ 8 + n ∧ i = .int .i64 (j : Int) ∧ Hid (∃ l, OwnB wr B8 (some ⟨g8, 0, none⟩) (8 + n) c8 l) ∧ Hid (Below B8 w2 wr))
      case atStart => exact ⟨0, rfl, Nat.zero_le _, rfl, Lib.hid ⟨L, H8.out⟩, Hlo⟩
      case round =>
        obtain ⟨j, hgk, hj, rfl, h8, hlo⟩ := hrel
        by_cases hjn : j < 8 + n
        · obtain ⟨l, hl⟩ := h8.out
          obtain ⟨hix, hcj, hfj⟩ := own_ix hl j (j : Int) hjn rfl
          obtain ⟨y, ey⟩ : ∃ y, l.getD j 0 = y := ⟨_, rfl⟩
          rw [ey] at hcj
          have Hset := Lib.hid (fun v : Int => hl.set_ j v)
          have Hlo2 := Lib.hid (fun v : Value => hlo.out.setCell (p := ⟨g8, j, none⟩) Hg8.out v)
          have hji : (j : Int) < 8 + (n : Int) := by omega
          clear hl ey h8
          go_wp2_with fail
          go_roundg (gk - 1)
          case measure => have := hgk.out; omega
          case rel => exact ⟨j + 1, by have := hgk.out; show gk - 1 + (j + 1) = _; omega, by omega, by go_num, Lib.hid ⟨_, Hset.out _⟩, Lib.hid (Hlo2.out _)⟩
        · obtain rfl : j = 8 + n := by omega
          have hlo2 := hlo.out
          rw [← EB8.out] at hlo2
          have Hb := Lib.hid (below_trans HbP.out hlo2)
          have HO := Lib.hid (HOP.out.on hlo2)
          clear h8 hlo2
          obtain ⟨⟨f0, f1⟩, ⟨q0, q1, q2⟩, p0, p1, p2⟩ := HK.out _ Hb.out
          go_wp2_with fail
          as_aux_lemma =>
            have hsb : (sb == sb) = true := by simp
            clear f0 f1 q0 q1 q2 p0 p1 p2
            refine wp_region_noPanic ?_
            have Hb := Lib.hid (below_trans Hb.out (Below.drew (Below.refl _ _)))
            have HO := Lib.hid (HO.out.on (Below.drew (Below.refl _ _)))
            refine wp_region_held_drew (S := fun w' => (w'.cell? ⟨z, 0, none⟩ = some (.int .u32 src) ∧ w'.cell? ⟨z, 1, none⟩ = some (.int .u32 dst)) ∧ (w'.cell? ⟨z + 1, 0, none⟩ = some (.int .u16 sp) ∧ w'.cell? ⟨z + 1, 1, none⟩ = some (.int .u16 dp) ∧ w'.cell? ⟨z + 1, 2, none⟩ = some (.slice A n c)) ∧ (w'.cell? ⟨z + 2, 0, none⟩ = some (.int .u16 sp2) ∧ w'.cell? ⟨z + 2, 1, none⟩ = some (.int .u16 dp2) ∧ w'.cell? ⟨z + 2, 2, none⟩ = some (.slice A2 n2 c2))) (by kernel_rfl) (HK.out _ Hb.out) (fun hHeld => ?_)
            refine wpAnyH_ready (rs := [0]) (by kernel_rfl) (by simp) ?_
            refine AllReadyH.cons (o := { dst := some 72, op := Go.Op.call { callee := Go.Callee.value (Go.Operand.func 36), args := #[], argTypes := #[] }, type := 4, pos := "law.go:34", after := #[], guard := none }) rfl (fun K hK => ?_) AllReadyH.nil
            go_simp
            (go_at_call 36; refine (uawake_any _).mono ?_; rintro e w6 ⟨rfl, hb6⟩; have Hb := Lib.hid (below_trans Hb.out hb6); have HO := Lib.hid (HO.out.on hb6); clear hb6)
            refine hK.out _ _ ?_ (fun hHeld => ?_)
            · exact HK.out _ Hb.out
            clear hK K
            (try simp only [Act.put, List.setIfInBounds_toArray, List.set_cons_zero, List.set_cons_succ])
            refine wpAnyH_take (i := 1) (oi := { dst := some 73, op := Go.Op.move (Go.Operand.tmp 72), type := 4, pos := "law.go:34", after := #[{ on := 0, ground := Go.Ground.data }, { on := 0, ground := Go.Ground.chain }], guard := none }) (v := ?_) rfl (by kernel_rfl) (by kernel_rfl) (by kernel_rfl) (fun _ _ _ h => h) (Or.inl ⟨by rfl, ?_⟩) (by assumption) ?_
            rotate_left 1
            · intro w' hSw; (go_simp <;> (with_reducible rfl))
            (try simp only [Act.put, List.setIfInBounds_toArray, List.set_cons_zero, List.set_cons_succ])
            refine wpAnyH_take (i := 2) (oi := { dst := some 74, op := Go.Op.move (Go.Operand.tmp 12), type := 4, pos := "law.go:34", after := #[{ on := 1, ground := Go.Ground.guard }], guard := some (1, true) }) (v := ?_) rfl (by kernel_rfl) (by kernel_rfl) (by kernel_rfl) (fun _ _ _ h => h) (Or.inl ⟨by rfl, ?_⟩) (by assumption) ?_
            rotate_left 1
            · intro w' hSw; (go_simp <;> (with_reducible rfl))
            (try simp only [Act.put, List.setIfInBounds_toArray, List.set_cons_zero, List.set_cons_succ])
            refine wpAnyH_take (i := 3) (oi := { dst := some 75, op := Go.Op.pick (Go.Operand.tmp 73) (Go.Operand.tmp 74) (Go.Operand.const (Go.Value.bool false)), type := 4, pos := "law.go:34", after := #[{ on := 1, ground := Go.Ground.data }, { on := 2, ground := Go.Ground.data }], guard := none }) (v := ?_) rfl (by kernel_rfl) (by kernel_rfl) (by kernel_rfl) (fun _ _ _ h => h) (Or.inl ⟨by rfl, ?_⟩) (by assumption) ?_
            rotate_left 1
            · intro w' hSw; (go_simp <;> (with_reducible rfl))
            (try simp only [Act.put, List.setIfInBounds_toArray, List.set_cons_zero, List.set_cons_succ])
            refine wpAnyH_take (i := 4) (oi := { dst := some 76, op := Go.Op.move (Go.Operand.tmp 75), type := 4, pos := "law.go:34", after := #[{ on := 3, ground := Go.Ground.data }, { on := 1, ground := Go.Ground.chain }], guard := none }) (v := ?_) rfl (by kernel_rfl) (by kernel_rfl) (by kernel_rfl) (fun _ _ _ h => h) (Or.inl ⟨by rfl, ?_⟩) (by assumption) ?_
            rotate_left 1
            · intro w' hSw; (go_simp <;> (with_reducible rfl))
            (try simp only [Act.put, List.setIfInBounds_toArray, List.set_cons_zero, List.set_cons_succ])
            refine wpAnyH_take (i := 5) (oi := { dst := some 77, op := Go.Op.move (Go.Operand.tmp 9), type := 28, pos := "law.go:34", after := #[{ on := 4, ground := Go.Ground.guard }], guard := some (4, true) }) (v := ?_) rfl (by kernel_rfl) (by kernel_rfl) (by kernel_rfl) (fun _ _ _ h => h) (Or.inl ⟨by rfl, ?_⟩) (by assumption) ?_
            rotate_left 1
            · intro w' hSw; (go_simp <;> (with_reducible rfl))
            (try simp only [Act.put, List.setIfInBounds_toArray, List.set_cons_zero, List.set_cons_succ])
            refine wpAnyH_take (i := 6) (oi := { dst := some 78, op := Go.Op.move (Go.Operand.tmp 11), type := 3, pos := "law.go:34", after := #[{ on := 4, ground := Go.Ground.guard }], guard := some (4, true) }) (v := ?_) rfl (by kernel_rfl) (by kernel_rfl) (by kernel_rfl) (fun _ _ _ h => h) (Or.inl ⟨by rfl, ?_⟩) (by assumption) ?_
            rotate_left 1
            · intro w' hSw; (go_simp <;> (with_reducible rfl))
            (try simp only [Act.put, List.setIfInBounds_toArray, List.set_cons_zero, List.set_cons_succ])
            refine wpAnyH_take (i := 7) (oi := { dst := some 79, op := Go.Op.binOp Go.BinOp.eql 3 (Go.Operand.tmp 77) (Go.Operand.tmp 78) 3, type := 4, pos := "law.go:34", after := #[{ on := 5, ground := Go.Ground.data }, { on := 6, ground := Go.Ground.data }, { on := 4, ground := Go.Ground.guard }], guard := some (4, true) }) (v := ?_) rfl (by kernel_rfl) (by kernel_rfl) (by kernel_rfl) (fun _ _ _ h => h) (Or.inl ⟨by rfl, ?_⟩) (by assumption) ?_
            rotate_left 1
            · intro w' hSw; (go_simp <;> (with_reducible rfl))
            (try simp only [Act.put, List.setIfInBounds_toArray, List.set_cons_zero, List.set_cons_succ])
            refine wpAnyH_take (i := 8) (oi := { dst := some 80, op := Go.Op.pick (Go.Operand.tmp 76) (Go.Operand.tmp 79) (Go.Operand.const (Go.Value.bool false)), type := 4, pos := "law.go:34", after := #[{ on := 4, ground := Go.Ground.data }, { on := 7, ground := Go.Ground.data }], guard := none }) (v := ?_) rfl (by kernel_rfl) (by kernel_rfl) (by kernel_rfl) (fun _ _ _ h => h) (Or.inl ⟨by rfl, ?_⟩) (by assumption) ?_
            rotate_left 1
            · intro w' hSw; (go_simp <;> (with_reducible rfl))
            (try simp only [Act.put, List.setIfInBounds_toArray, List.set_cons_zero, List.set_cons_succ])
            refine wpAnyH_take (i := 9) (oi := { dst := some 81, op := Go.Op.move (Go.Operand.tmp 80), type := 4, pos := "law.go:34", after := #[{ on := 8, ground := Go.Ground.data }, { on := 4, ground := Go.Ground.chain }], guard := none }) (v := ?_) rfl (by kernel_rfl) (by kernel_rfl) (by kernel_rfl) (fun _ _ _ h => h) (Or.inl ⟨by rfl, ?_⟩) (by assumption) ?_
            rotate_left 1
            · intro w' hSw; (go_simp <;> (with_reducible rfl))
            (try simp only [Act.put, List.setIfInBounds_toArray, List.set_cons_zero, List.set_cons_succ])
            refine wpAnyH_take (i := 10) (oi := { dst := some 82, op := Go.Op.move (Go.Operand.tmp 7), type := 25, pos := "law.go:34", after := #[{ on := 9, ground := Go.Ground.guard }], guard := some (9, true) }) (v := ?_) rfl (by kernel_rfl) (by kernel_rfl) (by kernel_rfl) (fun _ _ _ h => h) (Or.inl ⟨by rfl, ?_⟩) (by assumption) ?_
            rotate_left 1
            · intro w' hSw; (go_simp <;> (with_reducible rfl))
            (try simp only [Act.put, List.setIfInBounds_toArray, List.set_cons_zero, List.set_cons_succ])
            refine wpAnyH_take (i := 11) (oi := { dst := some 83, op := Go.Op.fieldAddr 57 (Go.Operand.tmp 4) 2, type := 0, pos := "law.go:34", after := #[{ on := 9, ground := Go.Ground.guard }], guard := some (9, true) }) (v := ?_) rfl (by kernel_rfl) (by kernel_rfl) (by kernel_rfl) (fun _ _ _ h => h) (Or.inl ⟨by rfl, ?_⟩) (by assumption) ?_
            rotate_left 1
            · intro w' hSw; (go_simp <;> (with_reducible rfl))
            (try simp only [Act.put, List.setIfInBounds_toArray, List.set_cons_zero, List.set_cons_succ])
            refine wpAnyH_take (i := 12) (oi := { dst := some 84, op := Go.Op.load 25 (Go.Operand.tmp 83), type := 25, pos := "law.go:34", after := #[{ on := 11, ground := Go.Ground.data }, { on := 9, ground := Go.Ground.guard }], guard := some (9, true) }) (v := ?_) rfl (by kernel_rfl) (by kernel_rfl) (by kernel_rfl) (fun _ _ _ h => h) (Or.inl ⟨by rfl, ?_⟩) (by assumption) ?_
            rotate_left 1
            · intro w' hSw; (go_simp <;> (with_reducible rfl))
            (try simp only [Act.put, List.setIfInBounds_toArray, List.set_cons_zero, List.set_cons_succ])
            refine wpAnyH_ready (rs := [13]) (by kernel_rfl) (by simp) ?_
            refine AllReadyH.cons (o := { dst := some 85, op := Go.Op.call { callee := Go.Callee.value (Go.Operand.func 35), args := #[Go.Operand.tmp 82, Go.Operand.tmp 84], argTypes := #[25, 25] }, type := 4, pos := "law.go:34", after := #[{ on := 10, ground := Go.Ground.data }, { on := 12, ground := Go.Ground.data }, { on := 9, ground := Go.Ground.chain }, { on := 9, ground := Go.Ground.guard }], guard := some (9, true) }) rfl (fun K hK => ?_) AllReadyH.nil
            go_simp
            (go_at_call 35; refine (bequal_any A7 A n n c7 c d d _ true (HO.out.rd HdB.out) (HR0.out _ Hb.out).1 (by simp)).mono ?_; rintro e w7 ⟨rfl, rfl⟩)
            refine hK.out _ _ ?_ (fun hHeld => ?_)
            · exact HK.out _ Hb.out
            clear hK K
            (try simp only [Act.put, List.setIfInBounds_toArray, List.set_cons_zero, List.set_cons_succ])
            refine wpAnyH_take (i := 14) (oi := { dst := some 86, op := Go.Op.pick (Go.Operand.tmp 81) (Go.Operand.tmp 85) (Go.Operand.const (Go.Value.bool false)), type := 4, pos := "law.go:34", after := #[{ on := 9, ground := Go.Ground.data }, { on := 13, ground := Go.Ground.data }], guard := none }) (v := ?_) rfl (by kernel_rfl) (by kernel_rfl) (by kernel_rfl) (fun _ _ _ h => h) (Or.inl ⟨by rfl, ?_⟩) (by assumption) ?_
            rotate_left 1
            · intro w' hSw; (go_simp <;> (with_reducible rfl))
            (try simp only [Act.put, List.setIfInBounds_toArray, List.set_cons_zero, List.set_cons_succ])
            refine wpAnyH_take (i := 15) (oi := { dst := some 87, op := Go.Op.move (Go.Operand.tmp 86), type := 4, pos := "law.go:34", after := #[{ on := 14, ground := Go.Ground.data }, { on := 13, ground := Go.Ground.chain }], guard := none }) (v := ?_) rfl (by kernel_rfl) (by kernel_rfl) (by kernel_rfl) (fun _ _ _ h => h) (Or.inl ⟨by rfl, ?_⟩) (by assumption) ?_
            rotate_left 1
            · intro w' hSw; (go_simp <;> (with_reducible rfl))
            (try simp only [Act.put, List.setIfInBounds_toArray, List.set_cons_zero, List.set_cons_succ])
            refine wpAnyH_take (i := 16) (oi := { dst := some 88, op := Go.Op.load 57 (Go.Operand.tmp 4), type := 57, pos := "law.go:34", after := #[{ on := 15, ground := Go.Ground.guard }], guard := some (15, true) }) (v := ?_) rfl (by kernel_rfl) (by kernel_rfl) (by kernel_rfl) (fun _ _ _ h => h) (Or.inl ⟨by rfl, ?_⟩) (by assumption) ?_
            rotate_left 1
            · intro w' hSw; (go_simp <;> (with_reducible rfl))
            (try simp only [Act.put, List.setIfInBounds_toArray, List.set_cons_zero, List.set_cons_succ])
            refine wpAnyH_take (i := 17) (oi := { dst := some 89, op := Go.Op.load 57 (Go.Operand.tmp 5), type := 57, pos := "law.go:34", after := #[{ on := 15, ground := Go.Ground.guard }], guard := some (15, true) }) (v := ?_) rfl (by kernel_rfl) (by kernel_rfl) (by kernel_rfl) (fun _ _ _ h => h) (Or.inl ⟨by rfl, ?_⟩) (by assumption) ?_
            rotate_left 1
            · intro w' hSw; (go_simp <;> (with_reducible rfl))
            (try simp only [Act.put, List.setIfInBounds_toArray, List.set_cons_zero, List.set_cons_succ])
            refine wpAnyH_take (i := 19) (oi := { dst := some 91, op := Go.Op.load 57 (Go.Operand.tmp 4), type := 57, pos := "law.go:34", after := #[{ on := 15, ground := Go.Ground.guard }], guard := some (15, true) }) (v := ?_) rfl (by kernel_rfl) (by kernel_rfl) (by kernel_rfl) (fun _ _ _ h => h) (Or.inl ⟨by rfl, ?_⟩) (by assumption) ?_
            rotate_left 1
            · intro w' hSw; (go_simp <;> (with_reducible rfl))
            (try simp only [Act.put, List.setIfInBounds_toArray, List.set_cons_zero, List.set_cons_succ])
            refine wpAnyH_take (i := 20) (oi := { dst := some 92, op := Go.Op.load 57 (Go.Operand.tmp 5), type := 57, pos := "law.go:34", after := #[{ on := 15, ground := Go.Ground.guard }], guard := some (15, true) }) (v := ?_) rfl (by kernel_rfl) (by kernel_rfl) (by kernel_rfl) (fun _ _ _ h => h) (Or.inl ⟨by rfl, ?_⟩) (by assumption) ?_
            rotate_left 1
            · intro w' hSw; (go_simp <;> (with_reducible rfl))
            (try simp only [Act.put, List.setIfInBounds_toArray, List.set_cons_zero, List.set_cons_succ])
            refine wpAnyH_ready (rs := [18]) (by kernel_rfl) (by simp) ?_
            refine AllReadyH.cons (o := { dst := some 90, op := Go.Op.call { callee := Go.Callee.value (Go.Operand.func 37), args := #[Go.Operand.tmp 88, Go.Operand.tmp 89], argTypes := #[57, 57] }, type := 4, pos := "law.go:34", after := #[{ on := 16, ground := Go.Ground.data }, { on := 17, ground := Go.Ground.data }, { on := 15, ground := Go.Ground.chain }, { on := 15, ground := Go.Ground.guard }], guard := some (15, true) }) rfl (fun K hK => ?_) AllReadyH.nil
            go_simp
            (go_at_call 37; refine (usame_any ⟨sp, dp, d⟩ ⟨sp2, dp2, d2⟩ A n c A2 n2 c2 _ sb (HR0.out _ Hb.out).1 (HR0.out _ Hb.out).2 Esb.out).mono ?_; rintro e w8 ⟨rfl, hb8⟩; have Hb := Lib.hid (below_trans Hb.out hb8); clear hb8)
            refine hK.out _ _ ?_ (fun hHeld => ?_)
            · exact HK.out _ Hb.out
            clear hK K
            (try simp only [Act.put, List.setIfInBounds_toArray, List.set_cons_zero, List.set_cons_succ])
            refine wpAnyH_ready (rs := [21]) (by kernel_rfl) (by simp) ?_
            refine AllReadyH.cons (o := { dst := some 93, op := Go.Op.call { callee := Go.Callee.value (Go.Operand.func 38), args := #[Go.Operand.tmp 91, Go.Operand.tmp 92], argTypes := #[57, 57] }, type := 4, pos := "law.go:34", after := #[{ on := 19, ground := Go.Ground.data }, { on := 20, ground := Go.Ground.data }, { on := 18, ground := Go.Ground.chain }, { on := 15, ground := Go.Ground.guard }], guard := some (15, true) }) rfl (fun K hK => ?_) AllReadyH.nil
            go_simp
            (go_at_call 38; refine (rusame_any ⟨sp, dp, d⟩ ⟨sp2, dp2, d2⟩ A n c A2 n2 c2 _ sb (HR0.out _ Hb.out).1 (HR0.out _ Hb.out).2 Esb.out).mono ?_; rintro e w9 ⟨rfl, hb9⟩; have Hb := Lib.hid (below_trans Hb.out hb9); clear hb9)
            refine hK.out _ _ ?_ (fun hHeld => ?_)
            · exact HK.out _ Hb.out
            clear hK K
            (try simp only [Act.put, List.setIfInBounds_toArray, List.set_cons_zero, List.set_cons_succ])
            refine wpAnyH_take (i := 22) (oi := { dst := some 94, op := Go.Op.binOp Go.BinOp.eql 4 (Go.Operand.tmp 90) (Go.Operand.tmp 93) 4, type := 4, pos := "law.go:34", after := #[{ on := 18, ground := Go.Ground.data }, { on := 21, ground := Go.Ground.data }, { on := 15, ground := Go.Ground.guard }], guard := some (15, true) }) (v := ?_) rfl (by kernel_rfl) (by kernel_rfl) (by kernel_rfl) (fun _ _ _ h => h) (Or.inl ⟨by rfl, ?_⟩) (by assumption) ?_
            rotate_left 1
            · intro w' hSw; (go_simp <;> (with_reducible rfl))
            (try simp only [Act.put, List.setIfInBounds_toArray, List.set_cons_zero, List.set_cons_succ])
            refine wpAnyH_take (i := 23) (oi := { dst := some 95, op := Go.Op.pick (Go.Operand.tmp 87) (Go.Operand.tmp 94) (Go.Operand.const (Go.Value.bool false)), type := 4, pos := "law.go:34", after := #[{ on := 15, ground := Go.Ground.data }, { on := 22, ground := Go.Ground.data }], guard := none }) (v := ?_) rfl (by kernel_rfl) (by kernel_rfl) (by kernel_rfl) (fun _ _ _ h => h) (Or.inl ⟨by rfl, ?_⟩) (by assumption) ?_
            rotate_left 1
            · intro w' hSw; (go_simp <;> (with_reducible rfl))
            (try simp only [Act.put, List.setIfInBounds_toArray, List.set_cons_zero, List.set_cons_succ])
            refine wpAnyH_take (i := 24) (oi := { dst := some 96, op := Go.Op.move (Go.Operand.tmp 95), type := 4, pos := "law.go:34", after := #[{ on := 23, ground := Go.Ground.data }, { on := 21, ground := Go.Ground.chain }], guard := none }) (v := ?_) rfl (by kernel_rfl) (by kernel_rfl) (by kernel_rfl) (fun _ _ _ h => h) (Or.inl ⟨by rfl, ?_⟩) (by assumption) ?_
            rotate_left 1
            · intro w' hSw; (go_simp <;> (with_reducible rfl))
            (try simp only [Act.put, List.setIfInBounds_toArray, List.set_cons_zero, List.set_cons_succ])
            refine wpAnyH_take (i := 25) (oi := { dst := some 97, op := Go.Op.load 57 (Go.Operand.tmp 4), type := 57, pos := "law.go:34", after := #[{ on := 24, ground := Go.Ground.guard }], guard := some (24, true) }) (v := ?_) rfl (by kernel_rfl) (by kernel_rfl) (by kernel_rfl) (fun _ _ _ h => h) (Or.inl ⟨by rfl, ?_⟩) (by assumption) ?_
            rotate_left 1
            · intro w' hSw; (go_simp <;> (with_reducible rfl))
            (try simp only [Act.put, List.setIfInBounds_toArray, List.set_cons_zero, List.set_cons_succ])
            refine wpAnyH_take (i := 26) (oi := { dst := some 98, op := Go.Op.load 57 (Go.Operand.tmp 4), type := 57, pos := "law.go:34", after := #[{ on := 24, ground := Go.Ground.guard }], guard := some (24, true) }) (v := ?_) rfl (by kernel_rfl) (by kernel_rfl) (by kernel_rfl) (fun _ _ _ h => h) (Or.inl ⟨by rfl, ?_⟩) (by assumption) ?_
            rotate_left 1
            · intro w' hSw; (go_simp <;> (with_reducible rfl))
            (try simp only [Act.put, List.setIfInBounds_toArray, List.set_cons_zero, List.set_cons_succ])
            refine wpAnyH_ready (rs := [27]) (by kernel_rfl) (by simp) ?_
            refine AllReadyH.cons (o := { dst := some 99, op := Go.Op.call { callee := Go.Callee.value (Go.Operand.func 37), args := #[Go.Operand.tmp 97, Go.Operand.tmp 98], argTypes := #[57, 57] }, type := 4, pos := "law.go:34", after := #[{ on := 25, ground := Go.Ground.data }, { on := 26, ground := Go.Ground.data }, { on := 24, ground := Go.Ground.chain }, { on := 24, ground := Go.Ground.guard }], guard := some (24, true) }) rfl (fun K hK => ?_) AllReadyH.nil
            go_simp
            (go_at_call 37; refine (usame_any ⟨sp, dp, d⟩ ⟨sp, dp, d⟩ A n c A n c _ true (HR0.out _ Hb.out).1 (HR0.out _ Hb.out).1 (dgSame_self _)).mono ?_; rintro e w10 ⟨rfl, hb10⟩; have Hb := Lib.hid (below_trans Hb.out hb10); clear hb10)
            refine hK.out _ _ ?_ (fun hHeld => ?_)
            · exact HK.out _ Hb.out
            clear hK K
            (try simp only [Act.put, List.setIfInBounds_toArray, List.set_cons_zero, List.set_cons_succ])
            refine wpAnyH_take (i := 28) (oi := { dst := some 100, op := Go.Op.pick (Go.Operand.tmp 96) (Go.Operand.tmp 99) (Go.Operand.const (Go.Value.bool false)), type := 4, pos := "law.go:34", after := #[{ on := 24, ground := Go.Ground.data }, { on := 27, ground := Go.Ground.data }], guard := none }) (v := ?_) rfl (by kernel_rfl) (by kernel_rfl) (by kernel_rfl) (fun _ _ _ h => h) (Or.inl ⟨by rfl, ?_⟩) (by assumption) ?_
            rotate_left 1
            · intro w' hSw; (go_simp <;> (with_reducible rfl))
            (try simp only [Act.put, List.setIfInBounds_toArray, List.set_cons_zero, List.set_cons_succ])
            refine wpAnyH_take (i := 29) (oi := { dst := some 6, op := Go.Op.assign (Go.Operand.tmp 100), type := 4, pos := "law.go:34", after := #[{ on := 28, ground := Go.Ground.data }, { on := 27, ground := Go.Ground.chain }, { on := 0, ground := Go.Ground.phase }, { on := 1, ground := Go.Ground.phase }, { on := 2, ground := Go.Ground.phase }, { on := 3, ground := Go.Ground.phase }, { on := 4, ground := Go.Ground.phase }, { on := 5, ground := Go.Ground.phase }, { on := 6, ground := Go.Ground.phase }, { on := 7, ground := Go.Ground.phase }, { on := 8, ground := Go.Ground.phase }, { on := 9, ground := Go.Ground.phase }, { on := 10, ground := Go.Ground.phase }, { on := 11, ground := Go.Ground.phase }, { on := 12, ground := Go.Ground.phase }, { on := 13, ground := Go.Ground.phase }, { on := 14, ground := Go.Ground.phase }, { on := 15, ground := Go.Ground.phase }, { on := 16, ground := Go.Ground.phase }, { on := 17, ground := Go.Ground.phase }, { on := 18, ground := Go.Ground.phase }, { on := 19, ground := Go.Ground.phase }, { on := 20, ground := Go.Ground.phase }, { on := 21, ground := Go.Ground.phase }, { on := 22, ground := Go.Ground.phase }, { on := 23, ground := Go.Ground.phase }, { on := 24, ground := Go.Ground.phase }, { on := 25, ground := Go.Ground.phase }, { on := 26, ground := Go.Ground.phase }, { on := 27, ground := Go.Ground.phase }, { on := 28, ground := Go.Ground.phase }], guard := none }) (v := ?_) rfl (by kernel_rfl) (by kernel_rfl) (by kernel_rfl) (fun _ _ _ h => h) (Or.inl ⟨by rfl, ?_⟩) (by assumption) ?_
            rotate_left 1
            · intro w' hSw; (go_simp <;> (with_reducible rfl))
            (try simp only [Act.put, List.setIfInBounds_toArray, List.set_cons_zero, List.set_cons_succ])
            refine wpAnyH_done (by kernel_rfl) ?_ _
            refine NoPanic.normal ?_
            have Hb := Lib.hid (below_trans HbW.out Hb.out)
            go_wp2_with fail
            go_ret
            exact ⟨rfl, Hb.out⟩
theorem own : ownKnob Try.prog.godebug = none := by kernel_rfl
theorem laidOut : laidOutB Try.prog = true := by kernel_rfl

set_option maxRecDepth 100000 in
theorem lifted (os : Os) (started : os.Started) (H : Type) (enc : TypeId × Value → H) :
    ReturnsInHanded {} Try.checked os 9 .any (Rows.udpPutsSpec.pre6 enc Try.prog Try.f9 Rows.udpPutsRow.domain false) (Rows.udpPutsSpec.post enc Try.prog Try.f9 false true false false) := by
  refine returnsInHanded_of_change (C := Try.checked) own started (by kernel_rfl) Try.func9
    (ChangeSpec.witness6 (enc := enc) (C := Try.checked) false ⟨#[], #[(.agg #[.int .u32 0, .int .u32 0]), (.agg #[.int .u16 0, .int .u16 0, .slice none 0 0]), (.agg #[.int .u16 0, .int .u16 0, .slice none 0 0])], []⟩ 8 (by kernel_rfl) (by kernel_rfl) (by kernel_rfl) (by kernel_rfl)) ?_
  intro W base args ds gs before hval0 hW hcnd _
  have hval : ∀ (j : Nat) t v, Try.f9.params[j]? = some t → args[j]? = some v → Value.okWide Try.prog W .any base t v := hval0
  have hW' := hW
  obtain ⟨p, q, hA0, hV, rfl, hfz, hnd⟩ := hW
  have hA : DataW.TrodAll enc Try.prog W 0 (fun _ => true) true Try.f9.params.toList args.toList ds p := hA0
  rw [Try.params9] at hA hval
  obtain ⟨v0, vs0, d0, ds0, p0, q0, hargs, rfl, rfl, h0, r0⟩ := trodAll_cons hA
  obtain ⟨v1, vs1, d1, ds1, p1, q1, rfl, rfl, rfl, h1, r1⟩ := trodAll_cons r0
  obtain ⟨v2, vs2, d2, ds2, p2, q2, rfl, rfl, rfl, h2, r2⟩ := trodAll_cons r1
  obtain ⟨rfl, rfl, rfl⟩ := trodAll_nil r2
  obtain rfl : args = #[v0, v1, v2] := by cases args; simp_all
  obtain ⟨rfl, rfl⟩ := trodVars_none hV
  have k0 := ends_open (hval 0 55 v0 rfl rfl) h0
  have lt0 : ∀ x ∈ p0, x.block < W.heap.size := by obtain ⟨m, hm⟩ := h0; exact DataW.trod_lt m _ _ _ hm
  have k1 := dg_open (hval 1 57 v1 rfl rfl) h1
  have lt1 : ∀ x ∈ p1, x.block < W.heap.size := by obtain ⟨m, hm⟩ := h1; exact DataW.trod_lt m _ _ _ hm
  have k2 := dg_open (hval 2 57 v2 rfl rfl) h2
  have lt2 : ∀ x ∈ p2, x.block < W.heap.size := by obtain ⟨m, hm⟩ := h2; exact DataW.trod_lt m _ _ _ hm
  clear hA0 hval0
  refine (walk W v0 k0 v1 k1 v2 k2).mono fun e W' ⟨he, bel⟩ => ?_
  subst he
  exact ⟨_, rfl, _, _, _, [], _, [], hW', trodAll_mk1 (shut_bool Try.underlying4 _), (trodAll_cons_mk (Below.trod laidOut (by kernel_rfl) (of_decide_eq_true (by kernel_rfl)) h0 bel lt0) (trodAll_cons_mk (Below.trod laidOut (by kernel_rfl) (of_decide_eq_true (by kernel_rfl)) h1 bel lt1) (trodAll_cons_mk (Below.trod laidOut (by kernel_rfl) (of_decide_eq_true (by kernel_rfl)) h2 bel lt2) trodAll_mk0))), rfl, bel.frame _, fun h => by cases h⟩

theorem over : Rows.udpPutsRow.holds Try.pinned (OpenSpec.ofChange Rows.udpPutsSpec) :=
  OpenClaim.holds_of_wide 9 Try.f9 rfl rfl rfl rfl rfl rfl rfl ⟨rfl, rfl, rfl, rfl, rfl⟩ rfl rfl rfl rfl rfl (by kernel_rfl) Try.func9 (by kernel_rfl)
    (of_decide_eq_true (by kernel_rfl)) (by unfold Func.isWrapper; first | (rw [if_pos (by decide +kernel)]; kernel_rfl) | (rw [if_neg (by decide +kernel)]; exact ⟨rfl, rfl⟩))
    (fun os started H enc _ => lifted os started H enc)

/-- The statement. -/
theorem proved : Rows.UdpPutsSaid := over
#print axioms proved
end Go.Proofs.Ytoblllgefmajiaa.udpPuts
