/-
  WheelPlays, over the face of a wheel: any calls tell what the document's wheel tells; copies live apart.
-/
import Derived.Test.YtlpgabbnldalhaaWhPair
import Derived.Test.YtlpgabbnldalhaaWhOpen
import Derived.Deep.CutRange
import Derived.Deep.CutBlock
import Derived.Deep.DeepCutAuto
import Derived.BigQuiet
import Derived.Deep.RegionHeld3
import Derived.Deep.LoopGhost
import Derived.BigRegion
namespace Go.Proofs.Ytlpgabbnldalhaa.wheelPlaysW
set_option maxRecDepth 10000
open Go.ChangeShapes Go.WideShapes Go.ChangeAt Go.RowKit
set_option linter.unusedVariables false
set_option linter.unusedSimpArgs false
variable {WAt : WA}

/-- The document's wheel that the walk has just laid. -/
theorem pair_new (F : WFace WAt) {w w1 : World} {g z : Nat} (hp : WOwn WAt w.heap.size w1 g 0 []) (hb : Below w.heap.size w w1) (hz : w1.heap.size = z) :
    PairZ WAt (fun k => k < w.heap.size) (w1.alloc (.cells #[.int .u64 0, .slice none 0 0] 29)) g 0 [] z 0 [] ∧ Below w.heap.size w (w1.alloc (.cells #[.int .u64 0, .slice none 0 0] 29)) := by
  obtain ⟨S, h1, hS⟩ := hp
  have l1 := F.lt h1
  have hs := hb.size
  have h0 := heap_alloc_new w1 (.cells #[.int .u64 0, .slice none 0 0] 29)
  rw [hz] at h0
  have hsz : (w1.alloc (.cells #[.int .u64 0, .slice none 0 0] 29)).heap.size = w1.heap.size + 1 := by simp
  refine ⟨⟨S, fun k => k = z, F.but h1 (T := fun _ => False) ((But.refl _ _).alloc _) (fun _ _ h => h), ⟨.slice none 0 0, h0, .inl ⟨rfl, rfl, rfl⟩, rfl, fun b hb => (by cases hb), fun k hk => (by omega)⟩, fun k hk => ⟨fun e => ?_, fun e => ?_⟩, fun k hk e => by omega, fun k hk => by omega⟩, hb.alloc hs _⟩
  · have := l1 k hk; omega
  · have := hS k hk; omega
theorem PairZ.clock {Z : Nat → Prop} {w : World} {g gr : Nat} {ck cr : Int} {L R : AL} (h : PairZ WAt Z w g ck L gr cr R) : w.cell? ⟨gr, 0, none⟩ = some (.int .u64 cr) ∧ ∃ A c, w.cell? ⟨gr, 1, none⟩ = some (.slice A R.length c) := by
  obtain ⟨S, SR, _, ⟨v, hg, hs, _⟩, _⟩ := h
  obtain ⟨A, c, rfl⟩ := hs.form
  exact ⟨blk_cell hg 0, A, c, blk_cell hg 1⟩
theorem belZ {Z : Nat → Prop} {w w' : World} {B : Nat} (hb : But (fun k => ¬ Z k) w w') (hZ : ∀ k, k < B → Z k) (hB : B ≤ w.heap.size) : Below B w w' :=
  hb.below (fun k hk => by rcases Nat.lt_or_ge k B with h | h; exact absurd (hZ k h) hk; exact h) hB
def ZB (B zA : Nat) : Nat → Prop := fun k => k < B ∨ k = zA
theorem op_cells {w : World} {zA : Nat} {kd ido ato : Int} {T : TypeId} (h : w.heap[zA]? = some (.cells #[.int .i64 kd, .int .u64 ido, .int .u64 ato] T (0, 0))) : w.cell? ⟨zA, 1, none⟩ = some (.int .u64 ido) ∧ w.cell? ⟨zA, 2, none⟩ = some (.int .u64 ato) := ⟨blk_cell h 1, blk_cell h 2⟩
theorem atV_pair (id : Int) (L : AL) : ∃ y b, atV id L = (y, b) := ⟨_, _, rfl⟩
theorem wrap64_u (x : Int) : 0 ≤ IntKind.u64.wrap x ∧ IntKind.u64.wrap x < topW := by
  have e : IntKind.u64.wrap x = x % 18446744073709551616 := by simp [IntKind.wrap, IntKind.bits, IntKind.signed]
  rw [e]
  show _ ∧ _ < (18446744073709551616 : Int)
  omega
set_option maxHeartbeats 4000000 in
theorem walk (F : WFace WAt) (w : World) (vl : Value) (hl : OpsAt w vl) (id : Int) (hid : 0 ≤ id ∧ id < topW) :
    Calls Try.prog 3 #[vl, .int .u64 id] w fun e w' => e = .returned (.bool true) ∧ Below w.heap.size w w' := by
  obtain ⟨A, n, c, rfl, hnc, hcm, hrd⟩ := hl
  have Hrd := Lib.hid hrd
  have Hn := Lib.hid (new_ownW F w)
  obtain ⟨B, eB⟩ : ∃ B, w.heap.size = B := ⟨_, rfl⟩
  clear hrd hnc
  go_enter Try.func3, Try.ntmps3
  go_wp2_with fail
  refine Hn.out.mono ?_
  rintro e w1 ⟨g, rfl, hp, hb⟩
  obtain ⟨z, hz⟩ : ∃ z, w1.heap.size = z := ⟨_, rfl⟩
  obtain ⟨hpp, hbb⟩ := pair_new F hp hb hz
  obtain ⟨w2, ew2⟩ : ∃ w2, w1.alloc (.cells #[.int .u64 0, .slice none 0 0] 29) = w2 := ⟨_, rfl⟩
  rw [ew2] at hpp hbb
  have HP := Lib.hid hpp
  have HB := Lib.hid hbb
  clear hp hb hpp hbb Hn
  go_upto_region 2 with (fail)
  clear ew2 hz
  have Hwk := Lib.hid (whwake_any F)
  rw [eB] at HP
  go_wp2_with fail
  go_loopg [5, 7] n (fun gk s5 i wr => ∃ (j gq : Nat) (ck : Int) (L : AL), Hid (gk + j = n) ∧ j ≤ n ∧ j ≤ 100 ∧ i = .int .i64 (j : Int) ∧ s5 = .pointer (some ⟨gq, 0, none⟩) ∧ Hid (PairZ WAt (fun k => k < B) wr gq ck L z ck L) ∧ Hid (L.length ≤ j) ∧ Hid (Below w.heap.size w wr))
  case atStart => exact ⟨0, g, 0, [], rfl, Nat.zero_le _, by omega, rfl, rfl, HP, Lib.hid (by simp), HB⟩
  case round =>
    obtain ⟨j, gq, ck, L, hgk, hj, hj100, rfl, rfl, HP, HL, HB⟩ := hrel
    by_cases hjn : j < n ∧ j < 100
    · obtain ⟨b, pp, kd, ido, ato, hidx, hbl, hc0, hc1, hc2, hido, hato⟩ := (Hrd.out.below HB.out).index (c := c) hjn.1
      have i0 : (0 : Int) ≤ (j : Int) := by omega
      have i1 : (j : Int) < (n : Int) := by omega
      have i2 : (j : Int) < 100 := by omega
      obtain ⟨zA, ezA⟩ : ∃ zA, wr.heap.size = zA := ⟨_, rfl⟩
      obtain ⟨wa, ewa⟩ : ∃ wa, wr.alloc (.cells #[.int .i64 kd, .int .u64 ido, .int .u64 ato] 31) = wa := ⟨_, rfl⟩
      have hba : Below wr.heap.size wr wa := by rw [← ewa]; exact (Below.refl _ _).alloc (Nat.le_refl _) _
      have HKa := Lib.hid (show wa.heap[zA]? = some (.cells #[.int .i64 kd, .int .u64 ido, .int .u64 ato] 31 (0, 0)) by rw [← ewa, ← ezA]; exact heap_alloc_new wr _)
      have HPa := Lib.hid (show PairZ WAt (ZB B zA) wa gq ck L z ck L by rw [← ewa, ← ezA]; exact HP.out.alloc F _)
      have HBa := Lib.hid (HB.out.trans (hba.mono HB.out.size))
      have HSa := Lib.hid (show B ≤ wa.heap.size by rw [← eB]; exact HBa.out.size)
      have hck := (HP.out.ok F).2
      rw [eB] at HBa
      clear hba HP HB
      go_upto_region 7 with (fail)
      clear ewa ezA hidx hc0 hc1 hc2 i0 i1 i2 hbl
      have a0 := blk_cell HKa.out 0
      have a1 := blk_cell HKa.out 1
      have a2 := blk_cell HKa.out 2
      simp at a0 a1 a2
      have c0 := (PairZ.clock HPa.out).1
      go_upto_block 2 with (fail)
      go_cut [5, 9] (fun s5 s9 wx => ∃ (g' : Nat) (ck' : Int) (L' : AL), s5 = .pointer (some ⟨g', 0, none⟩) ∧ s9 = .bool true ∧ Hid (PairZ WAt (fun k => k < B) wx g' ck' L' z ck' L') ∧ Hid (L'.length ≤ j + 1) ∧ Hid (Below B w wx ∧ B ≤ wx.heap.size))
      case first =>
        by_cases hk0 : kd = 0
        · subst hk0
          as_aux_lemma =>
            obtain ⟨x, ex⟩ : ∃ x, setE ato = x := ⟨_, rfl⟩
            obtain ⟨L', eL⟩ : ∃ L', setA ido ato L = L' := ⟨_, rfl⟩
            have hL'n := setA_le ido ato L
            rw [eL] at hL'n
            go_upto_region 11 with (fail)
            have HPd := Lib.hid (HPa.out.but F (T := fun _ => False) ((But.refl _ _).drewN 1) (fun _ h => h.elim))
            have HKd := Lib.hid (((But.refl (fun _ => False) wa).drewN 1).blk HKa.out (fun h => h))
            have HBd := Lib.hid (HBa.out.trans (((But.refl (fun _ => False) wa).drewN 1).below (fun _ h => h.elim) HSa.out))
            obtain ⟨wd, ewd⟩ : ∃ wd, wa.drew = wd := ⟨_, rfl⟩
            have ewd1 : wa.drewN 1 = wd := ewd
            rw [ewd1] at HPd HKd HBd
            have HSd := Lib.hid (show B ≤ wd.heap.size by rw [← ewd]; exact HSa.out)
            clear a0 a1 a2
            refine wp_region_noPanic ?_
            refine wp_region_held_drew (S := fun w' => (w'.cell? ⟨zA, 1, none⟩ = some (.int .u64 ido) ∧ w'.cell? ⟨zA, 2, none⟩ = some (.int .u64 ato))) (by kernel_rfl) (by rw [ewd]; exact op_cells HKd.out) (fun hHeld => ?_)
            rw [ewd] at hHeld ⊢
            clear ewd ewd1 HPa HKa HBa HSa
            have Hs := Lib.hid (pset F _ gq z ck ck L L wd HPd.out ido ato x L' (by have := HL.out; omega) hido hato ex eL)
            have Hr := Lib.hid (fun W (h : PairZ WAt (ZB B zA) W gq ck L' z ck L) => prset F _ gq z ck ck L' L W h ido ato x L' (by have := HL.out; omega) ex eL)
            have HN := Lib.hid (show L'.length ≤ j + 1 by have := HL.out; omega)
            have hxx : (x == x) = true := by simp
            clear ex eL hL'n
            refine wpAnyH_take (i := 0) (oi := { dst := some 48, op := Go.Op.move (Go.Operand.tmp 5), type := 24, pos := "law.go:44", after := #[], guard := none }) (v := ?_) rfl (by kernel_rfl) (by kernel_rfl) (by kernel_rfl) (fun _ _ _ h => h) (Or.inl ⟨by rfl, ?_⟩) (by assumption) ?_
            rotate_left 1
            · intro w' hSw; (go_simp <;> (with_reducible rfl))
            (try simp only [Act.put, List.setIfInBounds_toArray, List.set_cons_zero, List.set_cons_succ])
            refine wpAnyH_take (i := 1) (oi := { dst := some 49, op := Go.Op.fieldAddr 31 (Go.Operand.tmp 8) 1, type := 0, pos := "law.go:44", after := #[], guard := none }) (v := ?_) rfl (by kernel_rfl) (by kernel_rfl) (by kernel_rfl) (fun _ _ _ h => h) (Or.inl ⟨by rfl, ?_⟩) (by assumption) ?_
            rotate_left 1
            · intro w' hSw; (go_simp <;> (with_reducible rfl))
            (try simp only [Act.put, List.setIfInBounds_toArray, List.set_cons_zero, List.set_cons_succ])
            refine wpAnyH_take (i := 2) (oi := { dst := some 50, op := Go.Op.load 23 (Go.Operand.tmp 49), type := 23, pos := "law.go:44", after := #[{ on := 1, ground := Go.Ground.data }], guard := none }) (v := ?_) rfl (by kernel_rfl) (by kernel_rfl) (by kernel_rfl) (fun _ _ _ h => h) (Or.inl ⟨by rfl, ?_⟩) (by assumption) ?_
            rotate_left 1
            · intro w' hSw; (go_simp <;> (with_reducible rfl))
            (try simp only [Act.put, List.setIfInBounds_toArray, List.set_cons_zero, List.set_cons_succ])
            refine wpAnyH_take (i := 3) (oi := { dst := some 51, op := Go.Op.fieldAddr 31 (Go.Operand.tmp 8) 2, type := 0, pos := "law.go:44", after := #[], guard := none }) (v := ?_) rfl (by kernel_rfl) (by kernel_rfl) (by kernel_rfl) (fun _ _ _ h => h) (Or.inl ⟨by rfl, ?_⟩) (by assumption) ?_
            rotate_left 1
            · intro w' hSw; (go_simp <;> (with_reducible rfl))
            (try simp only [Act.put, List.setIfInBounds_toArray, List.set_cons_zero, List.set_cons_succ])
            refine wpAnyH_take (i := 4) (oi := { dst := some 52, op := Go.Op.load 23 (Go.Operand.tmp 51), type := 23, pos := "law.go:44", after := #[{ on := 3, ground := Go.Ground.data }], guard := none }) (v := ?_) rfl (by kernel_rfl) (by kernel_rfl) (by kernel_rfl) (fun _ _ _ h => h) (Or.inl ⟨by rfl, ?_⟩) (by assumption) ?_
            rotate_left 1
            · intro w' hSw; (go_simp <;> (with_reducible rfl))
            (try simp only [Act.put, List.setIfInBounds_toArray, List.set_cons_zero, List.set_cons_succ])
            refine wpAnyH_take (i := 6) (oi := { dst := some 54, op := Go.Op.move (Go.Operand.tmp 6), type := 26, pos := "law.go:44", after := #[], guard := none }) (v := ?_) rfl (by kernel_rfl) (by kernel_rfl) (by kernel_rfl) (fun _ _ _ h => h) (Or.inl ⟨by rfl, ?_⟩) (by assumption) ?_
            rotate_left 1
            · intro w' hSw; (go_simp <;> (with_reducible rfl))
            (try simp only [Act.put, List.setIfInBounds_toArray, List.set_cons_zero, List.set_cons_succ])
            refine wpAnyH_take (i := 7) (oi := { dst := some 55, op := Go.Op.fieldAddr 31 (Go.Operand.tmp 8) 1, type := 0, pos := "law.go:44", after := #[], guard := none }) (v := ?_) rfl (by kernel_rfl) (by kernel_rfl) (by kernel_rfl) (fun _ _ _ h => h) (Or.inl ⟨by rfl, ?_⟩) (by assumption) ?_
            rotate_left 1
            · intro w' hSw; (go_simp <;> (with_reducible rfl))
            (try simp only [Act.put, List.setIfInBounds_toArray, List.set_cons_zero, List.set_cons_succ])
            refine wpAnyH_take (i := 8) (oi := { dst := some 56, op := Go.Op.load 23 (Go.Operand.tmp 55), type := 23, pos := "law.go:44", after := #[{ on := 7, ground := Go.Ground.data }], guard := none }) (v := ?_) rfl (by kernel_rfl) (by kernel_rfl) (by kernel_rfl) (fun _ _ _ h => h) (Or.inl ⟨by rfl, ?_⟩) (by assumption) ?_
            rotate_left 1
            · intro w' hSw; (go_simp <;> (with_reducible rfl))
            (try simp only [Act.put, List.setIfInBounds_toArray, List.set_cons_zero, List.set_cons_succ])
            refine wpAnyH_take (i := 9) (oi := { dst := some 57, op := Go.Op.fieldAddr 31 (Go.Operand.tmp 8) 2, type := 0, pos := "law.go:44", after := #[], guard := none }) (v := ?_) rfl (by kernel_rfl) (by kernel_rfl) (by kernel_rfl) (fun _ _ _ h => h) (Or.inl ⟨by rfl, ?_⟩) (by assumption) ?_
            rotate_left 1
            · intro w' hSw; (go_simp <;> (with_reducible rfl))
            (try simp only [Act.put, List.setIfInBounds_toArray, List.set_cons_zero, List.set_cons_succ])
            refine wpAnyH_take (i := 10) (oi := { dst := some 58, op := Go.Op.load 23 (Go.Operand.tmp 57), type := 23, pos := "law.go:44", after := #[{ on := 9, ground := Go.Ground.data }], guard := none }) (v := ?_) rfl (by kernel_rfl) (by kernel_rfl) (by kernel_rfl) (fun _ _ _ h => h) (Or.inl ⟨by rfl, ?_⟩) (by assumption) ?_
            rotate_left 1
            · intro w' hSw; (go_simp <;> (with_reducible rfl))
            (try simp only [Act.put, List.setIfInBounds_toArray, List.set_cons_zero, List.set_cons_succ])
            refine wpAnyH_ready (rs := [5]) (by kernel_rfl) (by simp) ?_
            refine AllReadyH.cons (o := { dst := some 53, op := Go.Op.call { callee := Go.Callee.value (Go.Operand.func 9), args := #[Go.Operand.tmp 48, Go.Operand.tmp 50, Go.Operand.tmp 52], argTypes := #[24, 23, 23] }, type := 32, pos := "law.go:44", after := #[{ on := 0, ground := Go.Ground.data }, { on := 2, ground := Go.Ground.data }, { on := 4, ground := Go.Ground.data }], guard := none }) rfl (fun K hK => ?_) AllReadyH.nil
            go_simp
            (refine Hs.out.mono ?_; rintro e wb ⟨rfl, hp, hb⟩; have HPb := Lib.hid hp; have HBb := Lib.hid (HBd.out.trans (belZ hb (fun k hk => .inl hk) HSd.out)); have HKb := Lib.hid (hb.blk HKd.out (fun e => e (.inr rfl))); have HSb := Lib.hid (Nat.le_trans HSd.out hb.size); clear hp hb)
            refine hK.out _ _ ?_ (fun hHeld => ?_)
            · exact op_cells HKb.out
            clear hK K
            (try simp only [Act.put, List.setIfInBounds_toArray, List.set_cons_zero, List.set_cons_succ])
            refine wpAnyH_ready (rs := [11]) (by kernel_rfl) (by simp) ?_
            refine AllReadyH.cons (o := { dst := some 59, op := Go.Op.call { callee := Go.Callee.value (Go.Operand.func 10), args := #[Go.Operand.tmp 54, Go.Operand.tmp 56, Go.Operand.tmp 58], argTypes := #[26, 23, 23] }, type := 3, pos := "law.go:44", after := #[{ on := 6, ground := Go.Ground.data }, { on := 8, ground := Go.Ground.data }, { on := 10, ground := Go.Ground.data }, { on := 5, ground := Go.Ground.chain }], guard := none }) rfl (fun K hK => ?_) AllReadyH.nil
            go_simp
            (refine (Hr.out _ HPb.out).mono ?_; rintro e wc ⟨rfl, hp, hb⟩; have HPc := Lib.hid (hp.sub (Z' := fun k => k < B) (fun k hk => .inl hk)); have HBc := Lib.hid (HBb.out.trans (belZ hb (fun k hk => .inl hk) HSb.out)); have HKc := Lib.hid (hb.blk HKb.out (fun e => e (.inr rfl))); clear hp hb)
            refine hK.out _ _ ?_ (fun hHeld => ?_)
            · exact op_cells HKc.out
            clear hK K
            (try simp only [Act.put, List.setIfInBounds_toArray, List.set_cons_zero, List.set_cons_succ])
            refine wpAnyH_take (i := 12) (oi := { dst := some 60, op := Go.Op.binOp Go.BinOp.eql 3 (Go.Operand.tmp 53) (Go.Operand.tmp 59) 3, type := 4, pos := "law.go:44", after := #[{ on := 5, ground := Go.Ground.data }, { on := 11, ground := Go.Ground.data }], guard := none }) (v := ?_) rfl (by kernel_rfl) (by kernel_rfl) (by kernel_rfl) (fun _ _ _ h => h) (Or.inl ⟨by rfl, ?_⟩) (by assumption) ?_
            rotate_left 1
            · intro w' hSw; (go_simp <;> (with_reducible rfl))
            (try simp only [Act.put, List.setIfInBounds_toArray, List.set_cons_zero, List.set_cons_succ])
            refine wpAnyH_take (i := 13) (oi := { dst := some 9, op := Go.Op.assign (Go.Operand.tmp 60), type := 4, pos := "law.go:44", after := #[{ on := 12, ground := Go.Ground.data }, { on := 11, ground := Go.Ground.chain }, { on := 0, ground := Go.Ground.phase }, { on := 1, ground := Go.Ground.phase }, { on := 2, ground := Go.Ground.phase }, { on := 3, ground := Go.Ground.phase }, { on := 4, ground := Go.Ground.phase }, { on := 5, ground := Go.Ground.phase }, { on := 6, ground := Go.Ground.phase }, { on := 7, ground := Go.Ground.phase }, { on := 8, ground := Go.Ground.phase }, { on := 9, ground := Go.Ground.phase }, { on := 10, ground := Go.Ground.phase }, { on := 11, ground := Go.Ground.phase }, { on := 12, ground := Go.Ground.phase }], guard := none }) (v := ?_) rfl (by kernel_rfl) (by kernel_rfl) (by kernel_rfl) (fun _ _ _ h => h) (Or.inl ⟨by rfl, ?_⟩) (by assumption) ?_
            rotate_left 1
            · intro w' hSw; (go_simp <;> (with_reducible rfl))
            (try simp only [Act.put, List.setIfInBounds_toArray, List.set_cons_zero, List.set_cons_succ])
            refine wpAnyH_done (by kernel_rfl) ?_ _
            refine NoPanic.normal ?_
            clear hHeld
            go_wp2_with fail
            go_meet
            case rel => exact ⟨gq, ck, L', rfl, rfl, HPc, HN, Lib.hid ⟨HBc.out, by have h := HBc.out.size; rw [eB] at h; exact h⟩⟩
        by_cases hk1 : kd = 1
        · subst hk1
          as_aux_lemma =>
            obtain ⟨x, ex⟩ : ∃ x, setE ato = x := ⟨_, rfl⟩
            obtain ⟨L', eL⟩ : ∃ L', setA ido ato L = L' := ⟨_, rfl⟩
            have hL'n := setA_le ido ato L
            rw [eL] at hL'n
            go_upto_region 11 with (fail)
            have HPd := Lib.hid (HPa.out.but F (T := fun _ => False) ((But.refl _ _).drewN 1) (fun _ h => h.elim))
            have HKd := Lib.hid (((But.refl (fun _ => False) wa).drewN 1).blk HKa.out (fun h => h))
            have HBd := Lib.hid (HBa.out.trans (((But.refl (fun _ => False) wa).drewN 1).below (fun _ h => h.elim) HSa.out))
            obtain ⟨wd, ewd⟩ : ∃ wd, wa.drew = wd := ⟨_, rfl⟩
            have ewd1 : wa.drewN 1 = wd := ewd
            rw [ewd1] at HPd HKd HBd
            have HSd := Lib.hid (show B ≤ wd.heap.size by rw [← ewd]; exact HSa.out)
            clear a0 a1 a2
            refine wp_region_noPanic ?_
            refine wp_region_held_drew (S := fun w' => (w'.cell? ⟨zA, 1, none⟩ = some (.int .u64 ido) ∧ w'.cell? ⟨zA, 2, none⟩ = some (.int .u64 ato))) (by kernel_rfl) (by rw [ewd]; exact op_cells HKd.out) (fun hHeld => ?_)
            rw [ewd] at hHeld ⊢
            clear ewd ewd1 HPa HKa HBa HSa
            have Hs := Lib.hid (pset F _ gq z ck ck L L wd HPd.out ido ato x L' (by have := HL.out; omega) hido hato ex eL)
            have Hr := Lib.hid (fun W (h : PairZ WAt (ZB B zA) W gq ck L' z ck L) => prset F _ gq z ck ck L' L W h ido ato x L' (by have := HL.out; omega) ex eL)
            have HN := Lib.hid (show L'.length ≤ j + 1 by have := HL.out; omega)
            have hxx : (x == x) = true := by simp
            clear ex eL hL'n
            refine wpAnyH_take (i := 0) (oi := { dst := some 48, op := Go.Op.move (Go.Operand.tmp 5), type := 24, pos := "law.go:44", after := #[], guard := none }) (v := ?_) rfl (by kernel_rfl) (by kernel_rfl) (by kernel_rfl) (fun _ _ _ h => h) (Or.inl ⟨by rfl, ?_⟩) (by assumption) ?_
            rotate_left 1
            · intro w' hSw; (go_simp <;> (with_reducible rfl))
            (try simp only [Act.put, List.setIfInBounds_toArray, List.set_cons_zero, List.set_cons_succ])
            refine wpAnyH_take (i := 1) (oi := { dst := some 49, op := Go.Op.fieldAddr 31 (Go.Operand.tmp 8) 1, type := 0, pos := "law.go:44", after := #[], guard := none }) (v := ?_) rfl (by kernel_rfl) (by kernel_rfl) (by kernel_rfl) (fun _ _ _ h => h) (Or.inl ⟨by rfl, ?_⟩) (by assumption) ?_
            rotate_left 1
            · intro w' hSw; (go_simp <;> (with_reducible rfl))
            (try simp only [Act.put, List.setIfInBounds_toArray, List.set_cons_zero, List.set_cons_succ])
            refine wpAnyH_take (i := 2) (oi := { dst := some 50, op := Go.Op.load 23 (Go.Operand.tmp 49), type := 23, pos := "law.go:44", after := #[{ on := 1, ground := Go.Ground.data }], guard := none }) (v := ?_) rfl (by kernel_rfl) (by kernel_rfl) (by kernel_rfl) (fun _ _ _ h => h) (Or.inl ⟨by rfl, ?_⟩) (by assumption) ?_
            rotate_left 1
            · intro w' hSw; (go_simp <;> (with_reducible rfl))
            (try simp only [Act.put, List.setIfInBounds_toArray, List.set_cons_zero, List.set_cons_succ])
            refine wpAnyH_take (i := 3) (oi := { dst := some 51, op := Go.Op.fieldAddr 31 (Go.Operand.tmp 8) 2, type := 0, pos := "law.go:44", after := #[], guard := none }) (v := ?_) rfl (by kernel_rfl) (by kernel_rfl) (by kernel_rfl) (fun _ _ _ h => h) (Or.inl ⟨by rfl, ?_⟩) (by assumption) ?_
            rotate_left 1
            · intro w' hSw; (go_simp <;> (with_reducible rfl))
            (try simp only [Act.put, List.setIfInBounds_toArray, List.set_cons_zero, List.set_cons_succ])
            refine wpAnyH_take (i := 4) (oi := { dst := some 52, op := Go.Op.load 23 (Go.Operand.tmp 51), type := 23, pos := "law.go:44", after := #[{ on := 3, ground := Go.Ground.data }], guard := none }) (v := ?_) rfl (by kernel_rfl) (by kernel_rfl) (by kernel_rfl) (fun _ _ _ h => h) (Or.inl ⟨by rfl, ?_⟩) (by assumption) ?_
            rotate_left 1
            · intro w' hSw; (go_simp <;> (with_reducible rfl))
            (try simp only [Act.put, List.setIfInBounds_toArray, List.set_cons_zero, List.set_cons_succ])
            refine wpAnyH_take (i := 6) (oi := { dst := some 54, op := Go.Op.move (Go.Operand.tmp 6), type := 26, pos := "law.go:44", after := #[], guard := none }) (v := ?_) rfl (by kernel_rfl) (by kernel_rfl) (by kernel_rfl) (fun _ _ _ h => h) (Or.inl ⟨by rfl, ?_⟩) (by assumption) ?_
            rotate_left 1
            · intro w' hSw; (go_simp <;> (with_reducible rfl))
            (try simp only [Act.put, List.setIfInBounds_toArray, List.set_cons_zero, List.set_cons_succ])
            refine wpAnyH_take (i := 7) (oi := { dst := some 55, op := Go.Op.fieldAddr 31 (Go.Operand.tmp 8) 1, type := 0, pos := "law.go:44", after := #[], guard := none }) (v := ?_) rfl (by kernel_rfl) (by kernel_rfl) (by kernel_rfl) (fun _ _ _ h => h) (Or.inl ⟨by rfl, ?_⟩) (by assumption) ?_
            rotate_left 1
            · intro w' hSw; (go_simp <;> (with_reducible rfl))
            (try simp only [Act.put, List.setIfInBounds_toArray, List.set_cons_zero, List.set_cons_succ])
            refine wpAnyH_take (i := 8) (oi := { dst := some 56, op := Go.Op.load 23 (Go.Operand.tmp 55), type := 23, pos := "law.go:44", after := #[{ on := 7, ground := Go.Ground.data }], guard := none }) (v := ?_) rfl (by kernel_rfl) (by kernel_rfl) (by kernel_rfl) (fun _ _ _ h => h) (Or.inl ⟨by rfl, ?_⟩) (by assumption) ?_
            rotate_left 1
            · intro w' hSw; (go_simp <;> (with_reducible rfl))
            (try simp only [Act.put, List.setIfInBounds_toArray, List.set_cons_zero, List.set_cons_succ])
            refine wpAnyH_take (i := 9) (oi := { dst := some 57, op := Go.Op.fieldAddr 31 (Go.Operand.tmp 8) 2, type := 0, pos := "law.go:44", after := #[], guard := none }) (v := ?_) rfl (by kernel_rfl) (by kernel_rfl) (by kernel_rfl) (fun _ _ _ h => h) (Or.inl ⟨by rfl, ?_⟩) (by assumption) ?_
            rotate_left 1
            · intro w' hSw; (go_simp <;> (with_reducible rfl))
            (try simp only [Act.put, List.setIfInBounds_toArray, List.set_cons_zero, List.set_cons_succ])
            refine wpAnyH_take (i := 10) (oi := { dst := some 58, op := Go.Op.load 23 (Go.Operand.tmp 57), type := 23, pos := "law.go:44", after := #[{ on := 9, ground := Go.Ground.data }], guard := none }) (v := ?_) rfl (by kernel_rfl) (by kernel_rfl) (by kernel_rfl) (fun _ _ _ h => h) (Or.inl ⟨by rfl, ?_⟩) (by assumption) ?_
            rotate_left 1
            · intro w' hSw; (go_simp <;> (with_reducible rfl))
            (try simp only [Act.put, List.setIfInBounds_toArray, List.set_cons_zero, List.set_cons_succ])
            refine wpAnyH_ready (rs := [5]) (by kernel_rfl) (by simp) ?_
            refine AllReadyH.cons (o := { dst := some 53, op := Go.Op.call { callee := Go.Callee.value (Go.Operand.func 9), args := #[Go.Operand.tmp 48, Go.Operand.tmp 50, Go.Operand.tmp 52], argTypes := #[24, 23, 23] }, type := 32, pos := "law.go:44", after := #[{ on := 0, ground := Go.Ground.data }, { on := 2, ground := Go.Ground.data }, { on := 4, ground := Go.Ground.data }], guard := none }) rfl (fun K hK => ?_) AllReadyH.nil
            go_simp
            (refine Hs.out.mono ?_; rintro e wb ⟨rfl, hp, hb⟩; have HPb := Lib.hid hp; have HBb := Lib.hid (HBd.out.trans (belZ hb (fun k hk => .inl hk) HSd.out)); have HKb := Lib.hid (hb.blk HKd.out (fun e => e (.inr rfl))); have HSb := Lib.hid (Nat.le_trans HSd.out hb.size); clear hp hb)
            refine hK.out _ _ ?_ (fun hHeld => ?_)
            · exact op_cells HKb.out
            clear hK K
            (try simp only [Act.put, List.setIfInBounds_toArray, List.set_cons_zero, List.set_cons_succ])
            refine wpAnyH_ready (rs := [11]) (by kernel_rfl) (by simp) ?_
            refine AllReadyH.cons (o := { dst := some 59, op := Go.Op.call { callee := Go.Callee.value (Go.Operand.func 10), args := #[Go.Operand.tmp 54, Go.Operand.tmp 56, Go.Operand.tmp 58], argTypes := #[26, 23, 23] }, type := 3, pos := "law.go:44", after := #[{ on := 6, ground := Go.Ground.data }, { on := 8, ground := Go.Ground.data }, { on := 10, ground := Go.Ground.data }, { on := 5, ground := Go.Ground.chain }], guard := none }) rfl (fun K hK => ?_) AllReadyH.nil
            go_simp
            (refine (Hr.out _ HPb.out).mono ?_; rintro e wc ⟨rfl, hp, hb⟩; have HPc := Lib.hid (hp.sub (Z' := fun k => k < B) (fun k hk => .inl hk)); have HBc := Lib.hid (HBb.out.trans (belZ hb (fun k hk => .inl hk) HSb.out)); have HKc := Lib.hid (hb.blk HKb.out (fun e => e (.inr rfl))); clear hp hb)
            refine hK.out _ _ ?_ (fun hHeld => ?_)
            · exact op_cells HKc.out
            clear hK K
            (try simp only [Act.put, List.setIfInBounds_toArray, List.set_cons_zero, List.set_cons_succ])
            refine wpAnyH_take (i := 12) (oi := { dst := some 60, op := Go.Op.binOp Go.BinOp.eql 3 (Go.Operand.tmp 53) (Go.Operand.tmp 59) 3, type := 4, pos := "law.go:44", after := #[{ on := 5, ground := Go.Ground.data }, { on := 11, ground := Go.Ground.data }], guard := none }) (v := ?_) rfl (by kernel_rfl) (by kernel_rfl) (by kernel_rfl) (fun _ _ _ h => h) (Or.inl ⟨by rfl, ?_⟩) (by assumption) ?_
            rotate_left 1
            · intro w' hSw; (go_simp <;> (with_reducible rfl))
            (try simp only [Act.put, List.setIfInBounds_toArray, List.set_cons_zero, List.set_cons_succ])
            refine wpAnyH_take (i := 13) (oi := { dst := some 9, op := Go.Op.assign (Go.Operand.tmp 60), type := 4, pos := "law.go:44", after := #[{ on := 12, ground := Go.Ground.data }, { on := 11, ground := Go.Ground.chain }, { on := 0, ground := Go.Ground.phase }, { on := 1, ground := Go.Ground.phase }, { on := 2, ground := Go.Ground.phase }, { on := 3, ground := Go.Ground.phase }, { on := 4, ground := Go.Ground.phase }, { on := 5, ground := Go.Ground.phase }, { on := 6, ground := Go.Ground.phase }, { on := 7, ground := Go.Ground.phase }, { on := 8, ground := Go.Ground.phase }, { on := 9, ground := Go.Ground.phase }, { on := 10, ground := Go.Ground.phase }, { on := 11, ground := Go.Ground.phase }, { on := 12, ground := Go.Ground.phase }], guard := none }) (v := ?_) rfl (by kernel_rfl) (by kernel_rfl) (by kernel_rfl) (fun _ _ _ h => h) (Or.inl ⟨by rfl, ?_⟩) (by assumption) ?_
            rotate_left 1
            · intro w' hSw; (go_simp <;> (with_reducible rfl))
            (try simp only [Act.put, List.setIfInBounds_toArray, List.set_cons_zero, List.set_cons_succ])
            refine wpAnyH_done (by kernel_rfl) ?_ _
            refine NoPanic.normal ?_
            clear hHeld
            go_wp2_with fail
            go_meet
            case rel => exact ⟨gq, ck, L', rfl, rfl, HPc, HN, Lib.hid ⟨HBc.out, by have h := HBc.out.size; rw [eB] at h; exact h⟩⟩
        by_cases hk2 : kd = 2
        · subst hk2
          as_aux_lemma =>
            obtain ⟨x, ex⟩ : ∃ x, setE ato = x := ⟨_, rfl⟩
            obtain ⟨L', eL⟩ : ∃ L', setA ido ato L = L' := ⟨_, rfl⟩
            have hL'n := setA_le ido ato L
            rw [eL] at hL'n
            go_upto_region 11 with (fail)
            have HPd := Lib.hid (HPa.out.but F (T := fun _ => False) ((But.refl _ _).drewN 1) (fun _ h => h.elim))
            have HKd := Lib.hid (((But.refl (fun _ => False) wa).drewN 1).blk HKa.out (fun h => h))
            have HBd := Lib.hid (HBa.out.trans (((But.refl (fun _ => False) wa).drewN 1).below (fun _ h => h.elim) HSa.out))
            obtain ⟨wd, ewd⟩ : ∃ wd, wa.drew = wd := ⟨_, rfl⟩
            have ewd1 : wa.drewN 1 = wd := ewd
            rw [ewd1] at HPd HKd HBd
            have HSd := Lib.hid (show B ≤ wd.heap.size by rw [← ewd]; exact HSa.out)
            clear a0 a1 a2
            refine wp_region_noPanic ?_
            refine wp_region_held_drew (S := fun w' => (w'.cell? ⟨zA, 1, none⟩ = some (.int .u64 ido) ∧ w'.cell? ⟨zA, 2, none⟩ = some (.int .u64 ato))) (by kernel_rfl) (by rw [ewd]; exact op_cells HKd.out) (fun hHeld => ?_)
            rw [ewd] at hHeld ⊢
            clear ewd ewd1 HPa HKa HBa HSa
            have Hs := Lib.hid (pset F _ gq z ck ck L L wd HPd.out ido ato x L' (by have := HL.out; omega) hido hato ex eL)
            have Hr := Lib.hid (fun W (h : PairZ WAt (ZB B zA) W gq ck L' z ck L) => prset F _ gq z ck ck L' L W h ido ato x L' (by have := HL.out; omega) ex eL)
            have HN := Lib.hid (show L'.length ≤ j + 1 by have := HL.out; omega)
            have hxx : (x == x) = true := by simp
            clear ex eL hL'n
            refine wpAnyH_take (i := 0) (oi := { dst := some 48, op := Go.Op.move (Go.Operand.tmp 5), type := 24, pos := "law.go:44", after := #[], guard := none }) (v := ?_) rfl (by kernel_rfl) (by kernel_rfl) (by kernel_rfl) (fun _ _ _ h => h) (Or.inl ⟨by rfl, ?_⟩) (by assumption) ?_
            rotate_left 1
            · intro w' hSw; (go_simp <;> (with_reducible rfl))
            (try simp only [Act.put, List.setIfInBounds_toArray, List.set_cons_zero, List.set_cons_succ])
            refine wpAnyH_take (i := 1) (oi := { dst := some 49, op := Go.Op.fieldAddr 31 (Go.Operand.tmp 8) 1, type := 0, pos := "law.go:44", after := #[], guard := none }) (v := ?_) rfl (by kernel_rfl) (by kernel_rfl) (by kernel_rfl) (fun _ _ _ h => h) (Or.inl ⟨by rfl, ?_⟩) (by assumption) ?_
            rotate_left 1
            · intro w' hSw; (go_simp <;> (with_reducible rfl))
            (try simp only [Act.put, List.setIfInBounds_toArray, List.set_cons_zero, List.set_cons_succ])
            refine wpAnyH_take (i := 2) (oi := { dst := some 50, op := Go.Op.load 23 (Go.Operand.tmp 49), type := 23, pos := "law.go:44", after := #[{ on := 1, ground := Go.Ground.data }], guard := none }) (v := ?_) rfl (by kernel_rfl) (by kernel_rfl) (by kernel_rfl) (fun _ _ _ h => h) (Or.inl ⟨by rfl, ?_⟩) (by assumption) ?_
            rotate_left 1
            · intro w' hSw; (go_simp <;> (with_reducible rfl))
            (try simp only [Act.put, List.setIfInBounds_toArray, List.set_cons_zero, List.set_cons_succ])
            refine wpAnyH_take (i := 3) (oi := { dst := some 51, op := Go.Op.fieldAddr 31 (Go.Operand.tmp 8) 2, type := 0, pos := "law.go:44", after := #[], guard := none }) (v := ?_) rfl (by kernel_rfl) (by kernel_rfl) (by kernel_rfl) (fun _ _ _ h => h) (Or.inl ⟨by rfl, ?_⟩) (by assumption) ?_
            rotate_left 1
            · intro w' hSw; (go_simp <;> (with_reducible rfl))
            (try simp only [Act.put, List.setIfInBounds_toArray, List.set_cons_zero, List.set_cons_succ])
            refine wpAnyH_take (i := 4) (oi := { dst := some 52, op := Go.Op.load 23 (Go.Operand.tmp 51), type := 23, pos := "law.go:44", after := #[{ on := 3, ground := Go.Ground.data }], guard := none }) (v := ?_) rfl (by kernel_rfl) (by kernel_rfl) (by kernel_rfl) (fun _ _ _ h => h) (Or.inl ⟨by rfl, ?_⟩) (by assumption) ?_
            rotate_left 1
            · intro w' hSw; (go_simp <;> (with_reducible rfl))
            (try simp only [Act.put, List.setIfInBounds_toArray, List.set_cons_zero, List.set_cons_succ])
            refine wpAnyH_take (i := 6) (oi := { dst := some 54, op := Go.Op.move (Go.Operand.tmp 6), type := 26, pos := "law.go:44", after := #[], guard := none }) (v := ?_) rfl (by kernel_rfl) (by kernel_rfl) (by kernel_rfl) (fun _ _ _ h => h) (Or.inl ⟨by rfl, ?_⟩) (by assumption) ?_
            rotate_left 1
            · intro w' hSw; (go_simp <;> (with_reducible rfl))
            (try simp only [Act.put, List.setIfInBounds_toArray, List.set_cons_zero, List.set_cons_succ])
            refine wpAnyH_take (i := 7) (oi := { dst := some 55, op := Go.Op.fieldAddr 31 (Go.Operand.tmp 8) 1, type := 0, pos := "law.go:44", after := #[], guard := none }) (v := ?_) rfl (by kernel_rfl) (by kernel_rfl) (by kernel_rfl) (fun _ _ _ h => h) (Or.inl ⟨by rfl, ?_⟩) (by assumption) ?_
            rotate_left 1
            · intro w' hSw; (go_simp <;> (with_reducible rfl))
            (try simp only [Act.put, List.setIfInBounds_toArray, List.set_cons_zero, List.set_cons_succ])
            refine wpAnyH_take (i := 8) (oi := { dst := some 56, op := Go.Op.load 23 (Go.Operand.tmp 55), type := 23, pos := "law.go:44", after := #[{ on := 7, ground := Go.Ground.data }], guard := none }) (v := ?_) rfl (by kernel_rfl) (by kernel_rfl) (by kernel_rfl) (fun _ _ _ h => h) (Or.inl ⟨by rfl, ?_⟩) (by assumption) ?_
            rotate_left 1
            · intro w' hSw; (go_simp <;> (with_reducible rfl))
            (try simp only [Act.put, List.setIfInBounds_toArray, List.set_cons_zero, List.set_cons_succ])
            refine wpAnyH_take (i := 9) (oi := { dst := some 57, op := Go.Op.fieldAddr 31 (Go.Operand.tmp 8) 2, type := 0, pos := "law.go:44", after := #[], guard := none }) (v := ?_) rfl (by kernel_rfl) (by kernel_rfl) (by kernel_rfl) (fun _ _ _ h => h) (Or.inl ⟨by rfl, ?_⟩) (by assumption) ?_
            rotate_left 1
            · intro w' hSw; (go_simp <;> (with_reducible rfl))
            (try simp only [Act.put, List.setIfInBounds_toArray, List.set_cons_zero, List.set_cons_succ])
            refine wpAnyH_take (i := 10) (oi := { dst := some 58, op := Go.Op.load 23 (Go.Operand.tmp 57), type := 23, pos := "law.go:44", after := #[{ on := 9, ground := Go.Ground.data }], guard := none }) (v := ?_) rfl (by kernel_rfl) (by kernel_rfl) (by kernel_rfl) (fun _ _ _ h => h) (Or.inl ⟨by rfl, ?_⟩) (by assumption) ?_
            rotate_left 1
            · intro w' hSw; (go_simp <;> (with_reducible rfl))
            (try simp only [Act.put, List.setIfInBounds_toArray, List.set_cons_zero, List.set_cons_succ])
            refine wpAnyH_ready (rs := [5]) (by kernel_rfl) (by simp) ?_
            refine AllReadyH.cons (o := { dst := some 53, op := Go.Op.call { callee := Go.Callee.value (Go.Operand.func 9), args := #[Go.Operand.tmp 48, Go.Operand.tmp 50, Go.Operand.tmp 52], argTypes := #[24, 23, 23] }, type := 32, pos := "law.go:44", after := #[{ on := 0, ground := Go.Ground.data }, { on := 2, ground := Go.Ground.data }, { on := 4, ground := Go.Ground.data }], guard := none }) rfl (fun K hK => ?_) AllReadyH.nil
            go_simp
            (refine Hs.out.mono ?_; rintro e wb ⟨rfl, hp, hb⟩; have HPb := Lib.hid hp; have HBb := Lib.hid (HBd.out.trans (belZ hb (fun k hk => .inl hk) HSd.out)); have HKb := Lib.hid (hb.blk HKd.out (fun e => e (.inr rfl))); have HSb := Lib.hid (Nat.le_trans HSd.out hb.size); clear hp hb)
            refine hK.out _ _ ?_ (fun hHeld => ?_)
            · exact op_cells HKb.out
            clear hK K
            (try simp only [Act.put, List.setIfInBounds_toArray, List.set_cons_zero, List.set_cons_succ])
            refine wpAnyH_ready (rs := [11]) (by kernel_rfl) (by simp) ?_
            refine AllReadyH.cons (o := { dst := some 59, op := Go.Op.call { callee := Go.Callee.value (Go.Operand.func 10), args := #[Go.Operand.tmp 54, Go.Operand.tmp 56, Go.Operand.tmp 58], argTypes := #[26, 23, 23] }, type := 3, pos := "law.go:44", after := #[{ on := 6, ground := Go.Ground.data }, { on := 8, ground := Go.Ground.data }, { on := 10, ground := Go.Ground.data }, { on := 5, ground := Go.Ground.chain }], guard := none }) rfl (fun K hK => ?_) AllReadyH.nil
            go_simp
            (refine (Hr.out _ HPb.out).mono ?_; rintro e wc ⟨rfl, hp, hb⟩; have HPc := Lib.hid (hp.sub (Z' := fun k => k < B) (fun k hk => .inl hk)); have HBc := Lib.hid (HBb.out.trans (belZ hb (fun k hk => .inl hk) HSb.out)); have HKc := Lib.hid (hb.blk HKb.out (fun e => e (.inr rfl))); clear hp hb)
            refine hK.out _ _ ?_ (fun hHeld => ?_)
            · exact op_cells HKc.out
            clear hK K
            (try simp only [Act.put, List.setIfInBounds_toArray, List.set_cons_zero, List.set_cons_succ])
            refine wpAnyH_take (i := 12) (oi := { dst := some 60, op := Go.Op.binOp Go.BinOp.eql 3 (Go.Operand.tmp 53) (Go.Operand.tmp 59) 3, type := 4, pos := "law.go:44", after := #[{ on := 5, ground := Go.Ground.data }, { on := 11, ground := Go.Ground.data }], guard := none }) (v := ?_) rfl (by kernel_rfl) (by kernel_rfl) (by kernel_rfl) (fun _ _ _ h => h) (Or.inl ⟨by rfl, ?_⟩) (by assumption) ?_
            rotate_left 1
            · intro w' hSw; (go_simp <;> (with_reducible rfl))
            (try simp only [Act.put, List.setIfInBounds_toArray, List.set_cons_zero, List.set_cons_succ])
            refine wpAnyH_take (i := 13) (oi := { dst := some 9, op := Go.Op.assign (Go.Operand.tmp 60), type := 4, pos := "law.go:44", after := #[{ on := 12, ground := Go.Ground.data }, { on := 11, ground := Go.Ground.chain }, { on := 0, ground := Go.Ground.phase }, { on := 1, ground := Go.Ground.phase }, { on := 2, ground := Go.Ground.phase }, { on := 3, ground := Go.Ground.phase }, { on := 4, ground := Go.Ground.phase }, { on := 5, ground := Go.Ground.phase }, { on := 6, ground := Go.Ground.phase }, { on := 7, ground := Go.Ground.phase }, { on := 8, ground := Go.Ground.phase }, { on := 9, ground := Go.Ground.phase }, { on := 10, ground := Go.Ground.phase }, { on := 11, ground := Go.Ground.phase }, { on := 12, ground := Go.Ground.phase }], guard := none }) (v := ?_) rfl (by kernel_rfl) (by kernel_rfl) (by kernel_rfl) (fun _ _ _ h => h) (Or.inl ⟨by rfl, ?_⟩) (by assumption) ?_
            rotate_left 1
            · intro w' hSw; (go_simp <;> (with_reducible rfl))
            (try simp only [Act.put, List.setIfInBounds_toArray, List.set_cons_zero, List.set_cons_succ])
            refine wpAnyH_done (by kernel_rfl) ?_ _
            refine NoPanic.normal ?_
            clear hHeld
            go_wp2_with fail
            go_meet
            case rel => exact ⟨gq, ck, L', rfl, rfl, HPc, HN, Lib.hid ⟨HBc.out, by have h := HBc.out.size; rw [eB] at h; exact h⟩⟩
        by_cases hk3 : kd = 3
        · subst hk3
          as_aux_lemma =>
            obtain ⟨x, ex⟩ : ∃ x, stopE ido L = x := ⟨_, rfl⟩
            obtain ⟨L', eL⟩ : ∃ L', stopW ido L = L' := ⟨_, rfl⟩
            have hL'n := stopW_le ido L
            rw [eL] at hL'n
            go_upto_region 13 with (fail)
            have HPd := Lib.hid (HPa.out.but F (T := fun _ => False) ((But.refl _ _).drewN 1) (fun _ h => h.elim))
            have HKd := Lib.hid (((But.refl (fun _ => False) wa).drewN 1).blk HKa.out (fun h => h))
            have HBd := Lib.hid (HBa.out.trans (((But.refl (fun _ => False) wa).drewN 1).below (fun _ h => h.elim) HSa.out))
            obtain ⟨wd, ewd⟩ : ∃ wd, wa.drew = wd := ⟨_, rfl⟩
            have ewd1 : wa.drewN 1 = wd := ewd
            rw [ewd1] at HPd HKd HBd
            have HSd := Lib.hid (show B ≤ wd.heap.size by rw [← ewd]; exact HSa.out)
            clear a0 a1 a2
            refine wp_region_noPanic ?_
            refine wp_region_held_drew (S := fun w' => (w'.cell? ⟨zA, 1, none⟩ = some (.int .u64 ido) ∧ w'.cell? ⟨zA, 2, none⟩ = some (.int .u64 ato))) (by kernel_rfl) (by rw [ewd]; exact op_cells HKd.out) (fun hHeld => ?_)
            rw [ewd] at hHeld ⊢
            clear ewd ewd1 HPa HKa HBa HSa
            have Hs := Lib.hid (pstop F _ gq z ck ck L L wd HPd.out ido x L' (by have := HL.out; omega) hido ex eL)
            have Hr := Lib.hid (fun W (h : PairZ WAt (ZB B zA) W gq ck L' z ck L) => prstop F _ gq z ck ck L' L W h ido x L' (by have := HL.out; omega) ex eL)
            have HN := Lib.hid (show L'.length ≤ j + 1 by have := HL.out; omega)
            have hxx : (x == x) = true := by simp
            clear ex eL hL'n
            refine wpAnyH_take (i := 0) (oi := { dst := some 63, op := Go.Op.move (Go.Operand.tmp 5), type := 24, pos := "law.go:46", after := #[], guard := none }) (v := ?_) rfl (by kernel_rfl) (by kernel_rfl) (by kernel_rfl) (fun _ _ _ h => h) (Or.inl ⟨by rfl, ?_⟩) (by assumption) ?_
            rotate_left 1
            · intro w' hSw; (go_simp <;> (with_reducible rfl))
            (try simp only [Act.put, List.setIfInBounds_toArray, List.set_cons_zero, List.set_cons_succ])
            refine wpAnyH_take (i := 1) (oi := { dst := some 64, op := Go.Op.fieldAddr 31 (Go.Operand.tmp 8) 1, type := 0, pos := "law.go:46", after := #[], guard := none }) (v := ?_) rfl (by kernel_rfl) (by kernel_rfl) (by kernel_rfl) (fun _ _ _ h => h) (Or.inl ⟨by rfl, ?_⟩) (by assumption) ?_
            rotate_left 1
            · intro w' hSw; (go_simp <;> (with_reducible rfl))
            (try simp only [Act.put, List.setIfInBounds_toArray, List.set_cons_zero, List.set_cons_succ])
            refine wpAnyH_take (i := 2) (oi := { dst := some 65, op := Go.Op.load 23 (Go.Operand.tmp 64), type := 23, pos := "law.go:46", after := #[{ on := 1, ground := Go.Ground.data }], guard := none }) (v := ?_) rfl (by kernel_rfl) (by kernel_rfl) (by kernel_rfl) (fun _ _ _ h => h) (Or.inl ⟨by rfl, ?_⟩) (by assumption) ?_
            rotate_left 1
            · intro w' hSw; (go_simp <;> (with_reducible rfl))
            (try simp only [Act.put, List.setIfInBounds_toArray, List.set_cons_zero, List.set_cons_succ])
            refine wpAnyH_take (i := 4) (oi := { dst := some 67, op := Go.Op.move (Go.Operand.tmp 6), type := 26, pos := "law.go:46", after := #[], guard := none }) (v := ?_) rfl (by kernel_rfl) (by kernel_rfl) (by kernel_rfl) (fun _ _ _ h => h) (Or.inl ⟨by rfl, ?_⟩) (by assumption) ?_
            rotate_left 1
            · intro w' hSw; (go_simp <;> (with_reducible rfl))
            (try simp only [Act.put, List.setIfInBounds_toArray, List.set_cons_zero, List.set_cons_succ])
            refine wpAnyH_take (i := 5) (oi := { dst := some 68, op := Go.Op.fieldAddr 31 (Go.Operand.tmp 8) 1, type := 0, pos := "law.go:46", after := #[], guard := none }) (v := ?_) rfl (by kernel_rfl) (by kernel_rfl) (by kernel_rfl) (fun _ _ _ h => h) (Or.inl ⟨by rfl, ?_⟩) (by assumption) ?_
            rotate_left 1
            · intro w' hSw; (go_simp <;> (with_reducible rfl))
            (try simp only [Act.put, List.setIfInBounds_toArray, List.set_cons_zero, List.set_cons_succ])
            refine wpAnyH_take (i := 6) (oi := { dst := some 69, op := Go.Op.load 23 (Go.Operand.tmp 68), type := 23, pos := "law.go:46", after := #[{ on := 5, ground := Go.Ground.data }], guard := none }) (v := ?_) rfl (by kernel_rfl) (by kernel_rfl) (by kernel_rfl) (fun _ _ _ h => h) (Or.inl ⟨by rfl, ?_⟩) (by assumption) ?_
            rotate_left 1
            · intro w' hSw; (go_simp <;> (with_reducible rfl))
            (try simp only [Act.put, List.setIfInBounds_toArray, List.set_cons_zero, List.set_cons_succ])
            refine wpAnyH_ready (rs := [3]) (by kernel_rfl) (by simp) ?_
            refine AllReadyH.cons (o := { dst := some 66, op := Go.Op.call { callee := Go.Callee.value (Go.Operand.func 11), args := #[Go.Operand.tmp 63, Go.Operand.tmp 65], argTypes := #[24, 23] }, type := 32, pos := "law.go:46", after := #[{ on := 0, ground := Go.Ground.data }, { on := 2, ground := Go.Ground.data }], guard := none }) rfl (fun K hK => ?_) AllReadyH.nil
            go_simp
            (refine Hs.out.mono ?_; rintro e wb ⟨rfl, hp, hb⟩; have HPb := Lib.hid hp; have HBb := Lib.hid (HBd.out.trans (belZ hb (fun k hk => .inl hk) HSd.out)); have HKb := Lib.hid (hb.blk HKd.out (fun e => e (.inr rfl))); have HSb := Lib.hid (Nat.le_trans HSd.out hb.size); clear hp hb)
            refine hK.out _ _ ?_ (fun hHeld => ?_)
            · exact op_cells HKb.out
            clear hK K
            (try simp only [Act.put, List.setIfInBounds_toArray, List.set_cons_zero, List.set_cons_succ])
            refine wpAnyH_ready (rs := [7]) (by kernel_rfl) (by simp) ?_
            refine AllReadyH.cons (o := { dst := some 70, op := Go.Op.call { callee := Go.Callee.value (Go.Operand.func 12), args := #[Go.Operand.tmp 67, Go.Operand.tmp 69], argTypes := #[26, 23] }, type := 3, pos := "law.go:46", after := #[{ on := 4, ground := Go.Ground.data }, { on := 6, ground := Go.Ground.data }, { on := 3, ground := Go.Ground.chain }], guard := none }) rfl (fun K hK => ?_) AllReadyH.nil
            go_simp
            (refine (Hr.out _ HPb.out).mono ?_; rintro e wc ⟨rfl, hp, hb⟩; have HPc := Lib.hid (hp.sub (Z' := fun k => k < B) (fun k hk => .inl hk)); have HBc := Lib.hid (HBb.out.trans (belZ hb (fun k hk => .inl hk) HSb.out)); have HKc := Lib.hid (hb.blk HKb.out (fun e => e (.inr rfl))); clear hp hb)
            refine hK.out _ _ ?_ (fun hHeld => ?_)
            · exact op_cells HKc.out
            clear hK K
            (try simp only [Act.put, List.setIfInBounds_toArray, List.set_cons_zero, List.set_cons_succ])
            refine wpAnyH_take (i := 8) (oi := { dst := some 71, op := Go.Op.binOp Go.BinOp.eql 3 (Go.Operand.tmp 66) (Go.Operand.tmp 70) 3, type := 4, pos := "law.go:46", after := #[{ on := 3, ground := Go.Ground.data }, { on := 7, ground := Go.Ground.data }], guard := none }) (v := ?_) rfl (by kernel_rfl) (by kernel_rfl) (by kernel_rfl) (fun _ _ _ h => h) (Or.inl ⟨by rfl, ?_⟩) (by assumption) ?_
            rotate_left 1
            · intro w' hSw; (go_simp <;> (with_reducible rfl))
            (try simp only [Act.put, List.setIfInBounds_toArray, List.set_cons_zero, List.set_cons_succ])
            refine wpAnyH_take (i := 9) (oi := { dst := some 9, op := Go.Op.assign (Go.Operand.tmp 71), type := 4, pos := "law.go:46", after := #[{ on := 8, ground := Go.Ground.data }, { on := 7, ground := Go.Ground.chain }, { on := 0, ground := Go.Ground.phase }, { on := 1, ground := Go.Ground.phase }, { on := 2, ground := Go.Ground.phase }, { on := 3, ground := Go.Ground.phase }, { on := 4, ground := Go.Ground.phase }, { on := 5, ground := Go.Ground.phase }, { on := 6, ground := Go.Ground.phase }, { on := 7, ground := Go.Ground.phase }, { on := 8, ground := Go.Ground.phase }], guard := none }) (v := ?_) rfl (by kernel_rfl) (by kernel_rfl) (by kernel_rfl) (fun _ _ _ h => h) (Or.inl ⟨by rfl, ?_⟩) (by assumption) ?_
            rotate_left 1
            · intro w' hSw; (go_simp <;> (with_reducible rfl))
            (try simp only [Act.put, List.setIfInBounds_toArray, List.set_cons_zero, List.set_cons_succ])
            refine wpAnyH_done (by kernel_rfl) ?_ _
            refine NoPanic.normal ?_
            clear hHeld
            go_wp2_with fail
            go_meet
            case rel => exact ⟨gq, ck, L', rfl, rfl, HPc, HN, Lib.hid ⟨HBc.out, by have h := HBc.out.size; rw [eB] at h; exact h⟩⟩
        by_cases hk4 : kd = 4
        · subst hk4
          as_aux_lemma =>
            obtain ⟨x, ex⟩ : ∃ x, tickE ck ato = x := ⟨_, rfl⟩
            obtain ⟨L', eL⟩ : ∃ L', tickA ck ato L = L' := ⟨_, rfl⟩
            obtain ⟨l, el⟩ : ∃ l, tickL ck ato L = l := ⟨_, rfl⟩
            obtain ⟨ck', ec⟩ : ∃ ck', tickC ck ato = ck' := ⟨_, rfl⟩
            have hL'n := tickA_le ck ato L
            rw [eL] at hL'n
            have hln := tickL_le ck ato L
            rw [el] at hln
            have Hs := Lib.hid (ptick F _ gq z ck ck L L wa HPa.out ato ck' x L' l (by have := HL.out; omega) hato ec ex eL el)
            have Hr := Lib.hid (fun Z W (h : PairZ WAt Z W gq ck' L' z ck L) => prtick F Z gq z ck' ck L' L W h ato ck' x L' l (by have := HL.out; omega) ec ex eL el)
            have HN := Lib.hid (show L'.length ≤ j + 1 by have := HL.out; omega)
            have Hln := Lib.hid (show l.length ≤ 1000000 by have := HL.out; omega)
            have hxx : (x == x) = true := by simp
            clear ex eL el ec hL'n hln
            go_wp2_with fail
            refine Hs.out.mono ?_
            rintro e wb ⟨v1, rfl, hl1, hp, hb⟩
            have HPb := Lib.hid hp
            have Hl1 := Lib.hid hl1
            have HBb := Lib.hid (HBa.out.trans (belZ hb (fun k hk => .inl hk) HSa.out))
            have HSb := Lib.hid (Nat.le_trans HSa.out hb.size)
            clear hp hb hl1 a0 a1 a2 c0
            go_wp2_with fail
            refine (Hr.out _ _ HPb.out).mono ?_
            rintro e wc ⟨v2, rfl, hl2, hp, hb⟩
            have HPc := Lib.hid (hp.sub (Z' := fun k => k < B) (fun k hk => .inl (.inl (.inl hk))))
            have Hsame := Lib.hid (same12_any v1 v2 l l true wc (Hl1.out.but hb (fun k hk e => e (.inr hk))) hl2 Hln.out (by simp))
            have HBc := Lib.hid (HBb.out.trans (belZ hb (fun k hk => .inl (.inl hk)) HSb.out))
            have HSc := Lib.hid (Nat.le_trans HSb.out hb.size)
            clear hp hb hl2
            go_wp2_with fail
            refine Hsame.out.mono ?_
            rintro e wd ⟨rfl, m, rfl⟩
            have HPd := Lib.hid (HPc.out.but F (T := fun _ => False) ((But.refl _ _).drewN m) (fun _ h => h.elim))
            have HBd := Lib.hid (HBc.out.trans ((But.refl (fun _ => False) wc).drewN m |>.below (fun _ h => h.elim) HSc.out))
            go_wp2_with fail
            go_meet
            case rel => exact ⟨gq, ck', L', rfl, rfl, HPd, HN, Lib.hid ⟨HBd.out, by have h := HBd.out.size; rw [eB] at h; exact h⟩⟩
        by_cases hk5 : kd = 5
        · subst hk5
          as_aux_lemma =>
            obtain ⟨x, ex⟩ : ∃ x, tickE ck ato = x := ⟨_, rfl⟩
            obtain ⟨L', eL⟩ : ∃ L', tickA ck ato L = L' := ⟨_, rfl⟩
            obtain ⟨l, el⟩ : ∃ l, tickL ck ato L = l := ⟨_, rfl⟩
            obtain ⟨ck', ec⟩ : ∃ ck', tickC ck ato = ck' := ⟨_, rfl⟩
            have hL'n := tickA_le ck ato L
            rw [eL] at hL'n
            have hln := tickL_le ck ato L
            rw [el] at hln
            have Hs := Lib.hid (ptick F _ gq z ck ck L L wa HPa.out ato ck' x L' l (by have := HL.out; omega) hato ec ex eL el)
            have Hr := Lib.hid (fun Z W (h : PairZ WAt Z W gq ck' L' z ck L) => prtick F Z gq z ck' ck L' L W h ato ck' x L' l (by have := HL.out; omega) ec ex eL el)
            have HN := Lib.hid (show L'.length ≤ j + 1 by have := HL.out; omega)
            have Hln := Lib.hid (show l.length ≤ 1000000 by have := HL.out; omega)
            have hxx : (x == x) = true := by simp
            clear ex eL el ec hL'n hln
            go_wp2_with fail
            refine Hs.out.mono ?_
            rintro e wb ⟨v1, rfl, hl1, hp, hb⟩
            have HPb := Lib.hid hp
            have Hl1 := Lib.hid hl1
            have HBb := Lib.hid (HBa.out.trans (belZ hb (fun k hk => .inl hk) HSa.out))
            have HSb := Lib.hid (Nat.le_trans HSa.out hb.size)
            clear hp hb hl1 a0 a1 a2 c0
            go_wp2_with fail
            refine (Hr.out _ _ HPb.out).mono ?_
            rintro e wc ⟨v2, rfl, hl2, hp, hb⟩
            have HPc := Lib.hid (hp.sub (Z' := fun k => k < B) (fun k hk => .inl (.inl (.inl hk))))
            have Hsame := Lib.hid (same12_any v1 v2 l l true wc (Hl1.out.but hb (fun k hk e => e (.inr hk))) hl2 Hln.out (by simp))
            have HBc := Lib.hid (HBb.out.trans (belZ hb (fun k hk => .inl (.inl hk)) HSb.out))
            have HSc := Lib.hid (Nat.le_trans HSb.out hb.size)
            clear hp hb hl2
            go_wp2_with fail
            refine Hsame.out.mono ?_
            rintro e wd ⟨rfl, m, rfl⟩
            have HPd := Lib.hid (HPc.out.but F (T := fun _ => False) ((But.refl _ _).drewN m) (fun _ h => h.elim))
            have HBd := Lib.hid (HBc.out.trans ((But.refl (fun _ => False) wc).drewN m |>.below (fun _ h => h.elim) HSc.out))
            go_wp2_with fail
            go_meet
            case rel => exact ⟨gq, ck', L', rfl, rfl, HPd, HN, Lib.hid ⟨HBd.out, by have h := HBd.out.size; rw [eB] at h; exact h⟩⟩
        by_cases hk6 : kd = 6
        · subst hk6
          obtain ⟨t6, et6⟩ : ∃ t, ck + ato % 100 = t := ⟨_, rfl⟩
          have hmod : 0 ≤ ato % 100 ∧ ato % 100 < 100 := by omega
          have q6 : IntKind.u64.wrap (ck + ato % 100) = t6 := by
            have := hck
            unfold bigW at this
            rw [← et6]
            simp [IntKind.wrap, IntKind.bits, IntKind.signed]
            omega
          have ht6 : 0 ≤ t6 ∧ t6 < topW := by
            have := hck
            unfold bigW at this
            unfold topW
            omega
          clear et6 hmod
          go_wp2_with fail
          go_quiet (fail)
          have HPq := Lib.hid (HPa.out.but F (T := fun _ => False) ((But.refl _ _).drewN nq) (fun _ h => h.elim))
          have HBq := Lib.hid (HBa.out.trans (((But.refl (fun _ => False) wa).drewN nq).below (fun _ h => h.elim) HSa.out))
          obtain ⟨wq, ewq⟩ : ∃ wq, wa.drewN nq = wq := ⟨_, rfl⟩
          have HSq := Lib.hid (show B ≤ wq.heap.size by rw [← ewq]; exact HSa.out)
          rw [ewq] at HPq HBq ⊢
          clear ewq
          as_aux_lemma =>
            obtain ⟨x, ex⟩ : ∃ x, tickE ck t6 = x := ⟨_, rfl⟩
            obtain ⟨L', eL⟩ : ∃ L', tickA ck t6 L = L' := ⟨_, rfl⟩
            obtain ⟨l, el⟩ : ∃ l, tickL ck t6 L = l := ⟨_, rfl⟩
            obtain ⟨ck', ec⟩ : ∃ ck', tickC ck t6 = ck' := ⟨_, rfl⟩
            have hL'n := tickA_le ck t6 L
            rw [eL] at hL'n
            have hln := tickL_le ck t6 L
            rw [el] at hln
            have Hs := Lib.hid (ptick F _ gq z ck ck L L wq HPq.out t6 ck' x L' l (by have := HL.out; omega) ht6 ec ex eL el)
            have Hr := Lib.hid (fun Z W (h : PairZ WAt Z W gq ck' L' z ck L) => prtick F Z gq z ck' ck L' L W h t6 ck' x L' l (by have := HL.out; omega) ec ex eL el)
            have HN := Lib.hid (show L'.length ≤ j + 1 by have := HL.out; omega)
            have Hln := Lib.hid (show l.length ≤ 1000000 by have := HL.out; omega)
            have hxx : (x == x) = true := by simp
            clear ex eL el ec hL'n hln
            go_wp2_with fail
            refine Hs.out.mono ?_
            rintro e wb ⟨v1, rfl, hl1, hp, hb⟩
            have HPb := Lib.hid hp
            have Hl1 := Lib.hid hl1
            have HBb := Lib.hid (HBq.out.trans (belZ hb (fun k hk => .inl hk) HSq.out))
            have HSb := Lib.hid (Nat.le_trans HSq.out hb.size)
            clear hp hb hl1 a0 a1 a2 c0
            go_wp2_with fail
            refine (Hr.out _ _ HPb.out).mono ?_
            rintro e wc ⟨v2, rfl, hl2, hp, hb⟩
            have HPc := Lib.hid (hp.sub (Z' := fun k => k < B) (fun k hk => .inl (.inl (.inl hk))))
            have Hsame := Lib.hid (same12_any v1 v2 l l true wc (Hl1.out.but hb (fun k hk e => e (.inr hk))) hl2 Hln.out (by simp))
            have HBc := Lib.hid (HBb.out.trans (belZ hb (fun k hk => .inl (.inl hk)) HSb.out))
            have HSc := Lib.hid (Nat.le_trans HSb.out hb.size)
            clear hp hb hl2
            go_wp2_with fail
            refine Hsame.out.mono ?_
            rintro e wd ⟨rfl, m, rfl⟩
            have HPd := Lib.hid (HPc.out.but F (T := fun _ => False) ((But.refl _ _).drewN m) (fun _ h => h.elim))
            have HBd := Lib.hid (HBc.out.trans ((But.refl (fun _ => False) wc).drewN m |>.below (fun _ h => h.elim) HSc.out))
            go_wp2_with fail
            go_meet
            case rel => exact ⟨gq, ck', L', rfl, rfl, HPd, HN, Lib.hid ⟨HBd.out, by have h := HBd.out.size; rw [eB] at h; exact h⟩⟩
        by_cases hk7 : kd = 7
        · subst hk7
          as_aux_lemma =>
            have Hcp := Lib.hid (pcopy F _ gq z ck ck L L wa HPa.out (by have := HL.out; omega))
            go_wp2_with fail
            refine Hcp.out.mono ?_
            rintro e wb ⟨g2, S1, S2, rfl, hb, ⟨hA1, hZ1, hP1⟩, ⟨hA2, hZ2, hP2⟩⟩
            have HPb := Lib.hid hP2
            have HAb := Lib.hid hA2
            have HZb := Lib.hid hZ2
            have HBb := Lib.hid (HBa.out.trans (belZ hb (fun k hk => .inl hk) HSa.out))
            have HKb := Lib.hid (hb.blk HKa.out (fun e => e (.inr rfl)))
            have HSb := Lib.hid (Nat.le_trans HSa.out hb.size)
            clear hb hA1 hZ1 hP1 hA2 hZ2 hP2 a0 a1 a2 c0 Hcp
            have b1 := (op_cells HKb.out).1
            have b2 := (op_cells HKb.out).2
            have hn1 := setA_le ido ato L
            have Hs := Lib.hid (pset F _ gq z ck ck L L wb HPb.out ido ato _ _ (by have := HL.out; omega) hido hato rfl rfl)
            go_wp2_with fail
            refine Hs.out.mono ?_
            rintro e wc ⟨rfl, hp, hb⟩
            have HPc := Lib.hid hp
            have HHc := Lib.hid hb
            have HBc := Lib.hid (HBb.out.trans (belZ hb (fun k hk => .inl (.inl hk)) HSb.out))
            have HSc := Lib.hid (Nat.le_trans HSb.out hb.size)
            clear hp hb b1 b2 Hs
            obtain ⟨t9, et9⟩ : ∃ t, ck + 9 = t := ⟨_, rfl⟩
            have q9 : IntKind.u64.wrap (ck + 9) = t9 := by
              have := hck.2
              unfold bigW at this
              rw [← et9]
              simp [IntKind.wrap, IntKind.bits, IntKind.signed]
              omega
            have ht9 : 0 ≤ t9 ∧ t9 < topW := by
              have := hck.2
              unfold bigW at this
              unfold topW
              omega
            have c0 := (PairZ.clock HPc.out).1
            have Ht := Lib.hid (ptick F _ gq z ck ck (setA ido ato L) L wc HPc.out t9 _ _ _ _ (by have := HL.out; omega) ht9 rfl rfl rfl rfl)
            clear et9
            go_wp2_with fail
            refine Ht.out.mono ?_
            rintro e wz ⟨v, rfl, -, hp, hb⟩
            have HPz := Lib.hid ((PairZ.back F HAb.out HZb.out (HHc.out.trans hb) (hp.sub (fun k hk => .inl hk))).sub (Z' := fun k => k < B) (fun k hk => .inl hk))
            have HBz := Lib.hid (HBc.out.trans (belZ hb (fun k hk => .inl (.inl hk)) HSc.out))
            have HNz := Lib.hid (show L.length ≤ j + 1 by have := HL.out; omega)
            clear hp hb
            go_wp2_with fail
            go_meet
            case rel => exact ⟨g2, ck, L, rfl, rfl, HPz, HNz, Lib.hid ⟨HBz.out, by have h := HBz.out.size; rw [eB] at h; exact h⟩⟩
        by_cases hk8 : kd = 8
        · subst hk8
          as_aux_lemma =>
            have Hcp := Lib.hid (pcopy F _ gq z ck ck L L wa HPa.out (by have := HL.out; omega))
            go_wp2_with fail
            refine Hcp.out.mono ?_
            rintro e wb ⟨g2, S1, S2, rfl, hb, ⟨hA1, hZ1, hP1⟩, ⟨hA2, hZ2, hP2⟩⟩
            have HPb := Lib.hid hP1
            have HAb := Lib.hid hA1
            have HZb := Lib.hid hZ1
            have HBb := Lib.hid (HBa.out.trans (belZ hb (fun k hk => .inl hk) HSa.out))
            have HKb := Lib.hid (hb.blk HKa.out (fun e => e (.inr rfl)))
            have HSb := Lib.hid (Nat.le_trans HSa.out hb.size)
            clear hb hA1 hZ1 hP1 hA2 hZ2 hP2 a0 a1 a2 c0 Hcp
            have b1 := (op_cells HKb.out).1
            have b2 := (op_cells HKb.out).2
            have hn0 := stopW_le ido L
            have hn1 := setA_le (IntKind.u64.wrap (ido + 1)) ato (stopW ido L)
            have hw1 := wrap64_u (ido + 1)
            have Hs := Lib.hid (pstop F _ g2 z ck ck L L wb HPb.out ido _ _ (by have := HL.out; omega) hido rfl rfl)
            go_wp2_with fail
            refine Hs.out.mono ?_
            rintro e wc ⟨rfl, hp, hb⟩
            have HPc := Lib.hid hp
            have HHc := Lib.hid hb
            have HBc := Lib.hid (HBb.out.trans (belZ hb (fun k hk => .inl (.inl hk)) HSb.out))
            have HSc := Lib.hid (Nat.le_trans HSb.out hb.size)
            have HKc := Lib.hid (hb.blk HKb.out (fun e => e (.inl (.inr rfl))))
            clear hp hb b1 b2 Hs
            have b1 := (op_cells HKc.out).1
            have b2 := (op_cells HKc.out).2
            obtain ⟨i1, ei1⟩ : ∃ i, IntKind.u64.wrap (ido + 1) = i := ⟨_, rfl⟩
            rw [ei1] at hn1 hw1
            have Hs := Lib.hid (pset F _ g2 z ck ck (stopW ido L) L wc HPc.out i1 ato _ _ (by have := HL.out; omega) hw1 hato rfl rfl)
            go_wp2_with fail
            refine Hs.out.mono ?_
            rintro e wd ⟨rfl, hp, hb⟩
            have HPd := Lib.hid hp
            have HHd := Lib.hid (HHc.out.trans hb)
            have HBd := Lib.hid (HBc.out.trans (belZ hb (fun k hk => .inl (.inl hk)) HSc.out))
            have HSd := Lib.hid (Nat.le_trans HSc.out hb.size)
            clear hp hb b1 b2 Hs
            obtain ⟨t9, et9⟩ : ∃ t, ck + 9 = t := ⟨_, rfl⟩
            have q9 : IntKind.u64.wrap (ck + 9) = t9 := by
              have := hck.2
              unfold bigW at this
              rw [← et9]
              simp [IntKind.wrap, IntKind.bits, IntKind.signed]
              omega
            have ht9 : 0 ≤ t9 ∧ t9 < topW := by
              have := hck.2
              unfold bigW at this
              unfold topW
              omega
            have c0 := (PairZ.clock HPd.out).1
            have Ht := Lib.hid (ptick F _ g2 z ck ck (setA i1 ato (stopW ido L)) L wd HPd.out t9 _ _ _ _ (by have := HL.out; omega) ht9 rfl rfl rfl rfl)
            clear et9
            go_wp2_with fail
            refine Ht.out.mono ?_
            rintro e wz ⟨v, rfl, -, hp, hb⟩
            have HPz := Lib.hid ((PairZ.back F HAb.out HZb.out (HHd.out.trans hb) (hp.sub (fun k hk => .inl hk))).sub (Z' := fun k => k < B) (fun k hk => .inl hk))
            have HBz := Lib.hid (HBd.out.trans (belZ hb (fun k hk => .inl (.inl hk)) HSd.out))
            have HNz := Lib.hid (show L.length ≤ j + 1 by have := HL.out; omega)
            clear hp hb
            go_wp2_with fail
            go_meet
            case rel => exact ⟨gq, ck, L, rfl, rfl, HPz, HNz, Lib.hid ⟨HBz.out, by have h := HBz.out.size; rw [eB] at h; exact h⟩⟩
        have kb0 : (kd == 0) = false := by simpa using hk0
        have kb1 : (kd == 1) = false := by simpa using hk1
        have kb2 : (kd == 2) = false := by simpa using hk2
        have kb3 : (kd == 3) = false := by simpa using hk3
        have kb4 : (kd == 4) = false := by simpa using hk4
        have kb5 : (kd == 5) = false := by simpa using hk5
        have kb6 : (kd == 6) = false := by simpa using hk6
        have kb7 : (kd == 7) = false := by simpa using hk7
        have kb8 : (kd == 8) = false := by simpa using hk8
        have HPz := Lib.hid (HPa.out.sub (Z' := fun k => k < B) (fun k hk => .inl hk))
        have HNz := Lib.hid (show L.length ≤ j + 1 by have := HL.out; omega)
        clear hk0 hk1 hk2 hk3 hk4 hk5 hk6 hk7 hk8
        go_wp2_with fail
        go_meet
        case rel => exact ⟨gq, ck, L, rfl, rfl, HPz, HNz, Lib.hid ⟨HBa.out, by have h := HBa.out.size; rw [eB] at h; exact h⟩⟩
      case rest =>
       as_aux_lemma =>
        obtain ⟨g', ck', L', rfl, rfl, HPx, HNx, HBS⟩ := hcut
        have HBx := Lib.hid HBS.out.1
        have HSx := Lib.hid HBS.out.2
        clear HPa HKa HBa HL a0 a1 a2 c0 hck
        obtain ⟨y1, s1, e1⟩ : ∃ y s, nextW L' = (y, s) := ⟨_, _, rfl⟩
        obtain ⟨y2, s2, e2⟩ : ∃ y s, atV id L' = (y, s) := ⟨_, _, rfl⟩
        obtain ⟨nl, enl⟩ : ∃ nl, L'.length = nl := ⟨_, rfl⟩
        have Hnl := Lib.hid (show L'.length ≤ 1000000 by have := HNx.out; omega)
        have X1 := Lib.hid (fun W h => pnext F (fun k => k < B) g' z ck' ck' L' L' W h y1 s1 Hnl.out e1)
        have X2 := Lib.hid (fun W h => prnext F (fun k => k < B) g' z ck' ck' L' L' W h y1 s1 e1)
        have X3 := Lib.hid (fun W h => pat F (fun k => k < B) g' z ck' ck' L' L' W h id y2 s2 Hnl.out hid e2)
        have X4 := Lib.hid (fun W h => prat F (fun k => k < B) g' z ck' ck' L' L' W h id y2 s2 Hnl.out e2)
        have X5 := Lib.hid (fun W h => pnow F (fun k => k < B) g' z ck' ck' L' L' W h)
        have X6 := Lib.hid (fun W h => plen F (fun k => k < B) g' z ck' ck' L' L' W h nl Hnl.out enl)
        clear e1 e2
        go_wp2_with fail
        refine (X1.out _ HPx.out).mono ?_
        rintro e wd ⟨rfl, hp, hb⟩
        have HP2 := Lib.hid hp
        have HB2 := Lib.hid (HBx.out.trans (belZ hb (fun k hk => hk) HSx.out))
        have HS2 := Lib.hid (Nat.le_trans HSx.out hb.size)
        clear hp hb HPx HBx HSx
        have HPx := HP2
        have HBx := HB2
        have HSx := HS2
        clear HP2 HB2 HS2
        go_wp2_with fail
        refine (X2.out _ HPx.out).mono ?_
        rintro e we ⟨rfl, hp, hb⟩
        have HP2 := Lib.hid hp
        have HB2 := Lib.hid (HBx.out.trans (belZ hb (fun k hk => hk) HSx.out))
        have HS2 := Lib.hid (Nat.le_trans HSx.out hb.size)
        clear hp hb HPx HBx HSx
        have HPx := HP2
        have HBx := HB2
        have HSx := HS2
        clear HP2 HB2 HS2
        go_wp2_with fail
        refine (X3.out _ HPx.out).mono ?_
        rintro e wf ⟨rfl, hp, hb⟩
        have HP2 := Lib.hid hp
        have HB2 := Lib.hid (HBx.out.trans (belZ hb (fun k hk => hk) HSx.out))
        have HS2 := Lib.hid (Nat.le_trans HSx.out hb.size)
        clear hp hb HPx HBx HSx
        have HPx := HP2
        have HBx := HB2
        have HSx := HS2
        clear HP2 HB2 HS2
        go_wp2_with fail
        refine (X4.out _ HPx.out).mono ?_
        rintro e wg ⟨rfl, hp, hb⟩
        have HP2 := Lib.hid hp
        have HB2 := Lib.hid (HBx.out.trans (belZ hb (fun k hk => hk) HSx.out))
        have HS2 := Lib.hid (Nat.le_trans HSx.out hb.size)
        clear hp hb HPx HBx HSx
        have HPx := HP2
        have HBx := HB2
        have HSx := HS2
        clear HP2 HB2 HS2
        have c0 := (PairZ.clock HPx.out).1
        obtain ⟨Ac, cc, c1⟩ := (PairZ.clock HPx.out).2
        rw [enl] at c1
        have HPq : ∀ k, PairZ WAt (fun k => k < B) (wg.drewN k) g' ck' L' z ck' L' := fun k => HPx.out.but F (T := fun _ => False) ((But.refl _ _).drewN k) (fun _ h => h.elim)
        have Hc1 := Lib.hid (fun k => (show Calls Try.prog 21 #[.pointer (some ⟨g', 0, none⟩)] (wg.drewN k) (fun e w' => e = .returned (.int .u64 ck') ∧ ∃ m, w' = (wg.drewN k).drewN m) from X5.out _ (HPq k)))
        have Hc2 := Lib.hid (fun k => (show Calls Try.prog 22 #[.pointer (some ⟨g', 0, none⟩)] (wg.drewN k) (fun e w' => e = .returned (.int .i64 (nl : Int)) ∧ ∃ m, w' = (wg.drewN k).drewN m) from X6.out _ (HPq k)))
        have r1 : (y1 != y1) = false := by simp
        have r2 : (s1 != s1) = false := by simp
        have r3 : (y2 != y2) = false := by simp
        have r4 : (s2 != s2) = false := by simp
        have r5 : (ck' != ck') = false := by simp
        have r6 : ((nl : Int) != (nl : Int)) = false := by simp
        clear enl X1 X2 X3 X4 X5 X6 HPq
        go_upto_region 37 with (fail)
        go_quiet (first | (with_reducible exact Calls.quiet_of (Hc1.out _)) | (with_reducible exact Calls.quiet_of (Hc2.out _)))
        go_wp2_with fail
        go_roundg (gk - 1)
        case measure => have := hgk.out; omega
        case rel => exact ⟨j + 1, g', ck', L', by have := hgk.out; show gk - 1 + (j + 1) = _; omega, by omega, by omega, by go_num, rfl, Lib.hid (HPx.out.but F (T := fun _ => False) ((But.refl _ _).drewN nq) (fun _ h => h.elim)), HNx, Lib.hid (by rw [eB]; exact HBx.out.trans (((But.refl (fun _ => False) wg).drewN nq).below (fun _ h => h.elim) HSx.out))⟩
    · have HW := Lib.hid (Hwk.out)
      have HE := Lib.hid (show ¬ ((j : Int) < (n : Int) ∧ (j : Int) < 100) by omega)
      by_cases h1 : (j : Int) < (n : Int)
      · have h2 : ¬ (j : Int) < 100 := by omega
        clear hjn
        go_wp2_with fail
        refine (Hwk.out _).mono ?_
        rintro e w4 ⟨rfl, hb4⟩
        have HB4 := Lib.hid (HB.out.trans (hb4.mono HB.out.size))
        clear hb4
        go_wp2_with fail
        go_ret
        exact ⟨rfl, HB4.out⟩
      · clear hjn
        go_wp2_with fail
        refine (Hwk.out _).mono ?_
        rintro e w4 ⟨rfl, hb4⟩
        have HB4 := Lib.hid (HB.out.trans (hb4.mono HB.out.size))
        clear hb4
        go_wp2_with fail
        go_ret
        exact ⟨rfl, HB4.out⟩
end Go.Proofs.Ytlpgabbnldalhaa.wheelPlaysW
