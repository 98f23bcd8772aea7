/-
  The contract of package table's Copy, over a table in memory.
-/
import Derived.Test.YtnhlbohdlnjaaaaTbNew
import Derived.Test.YtnhlbohdlnjaaaaTbTurn
namespace Go.Proofs.Ytnhlbohdlnjaaaa
set_option maxRecDepth 10000
open Go.RowKit
set_option linter.unusedSimpArgs false
set_option linter.unusedVariables false

def CopiesM (S : Nat → Prop) (g : Nat) (M last : Int) (L : TL) (mi mo : Nat) (u : Value) (KI : Tu → Prop) (RI : Tu → Value) (KO : Tu → Prop) (RO : Tu → Value) (w : World) (e : Ending) (w' : World) : Prop :=
  ∃ g2 mi2 mo2 u2 S2, e = .returned (.pointer (some ⟨g2, 0, none⟩)) ∧ TMem w' S g M last L mi mo u KI RI KO RO ∧ TMem w' S2 g2 M last L mi2 mo2 u2 KI RI KO RO ∧ Below w.heap.size w w' ∧ ∀ k, S2 k → w.heap.size ≤ k
theorem MTP.blk {w : World} {b : Nat} {K : Tu → Prop} {R : Tu → Value} (h : MTP w b K R) : ∃ es clock, w.heap[b]? = some (.map es clock) := by
  obtain ⟨es, clock, h⟩ := h
  exact ⟨es, clock, h.at_⟩
set_option maxHeartbeats 2000000 in
theorem copy_at (S : Nat → Prop) (g : Nat) (M last : Int) (L : TL) (mi mo : Nat) (u : Value) (KI : Tu → Prop) (RI : Tu → Value) (KO : Tu → Prop) (RO : Tu → Value) (w : World) (h : TMem w S g M last L mi mo u KI RI KO RO) (hn : L.length ≤ 1000000) :
    Calls Try.prog 22 #[.pointer (some ⟨g, 0, none⟩)] w (CopiesM S g M last L mi mo u KI RI KO RO w) := by
  have Hno := Lib.hid (tnone_no g w h.k0)
  have k0 := h.k0
  have k1 := h.k1
  have k2 := h.k2
  have k3 := h.k3
  have k4 := h.k4
  have k5 := h.k5
  obtain ⟨g2, eg2⟩ : ∃ g2, w.heap.size = g2 := ⟨_, rfl⟩
  obtain ⟨A, c, rfl⟩ := h.row.form
  obtain ⟨n, en⟩ : ∃ n, L.length = n := ⟨_, rfl⟩
  rw [en] at h k5 ⊢
  obtain ⟨w0, ew0⟩ : ∃ w0, w.alloc (.cells #[.pointer (some ⟨g2, 0, none⟩), .int .i64 M, .int .u64 last, .map (some mi), .map (some mo), .slice A n c] 72) = w0 := ⟨_, rfl⟩
  have hb0 : Below w.heap.size w w0 := by rw [← ew0]; exact (Below.refl _ _).alloc (Nat.le_refl _) _
  have hc0 : w0.heap[g2]? = some (.cells #[.pointer (some ⟨g2, 0, none⟩), .int .i64 M, .int .u64 last, .map (some mi), .map (some mo), .slice A n c] 72 (0, 0)) := by rw [← ew0, ← eg2]; exact heap_alloc_new w _
  have h0 := h.below hb0
  obtain ⟨wd, ewd⟩ : ∃ wd, w0.drew = wd := ⟨_, rfl⟩
  have hbd : But (fun _ => False) w0 wd := by rw [← ewd]; exact (But.refl (fun _ => False) w0).drew
  have Hd := Lib.hid (h0.but hbd (fun _ _ h => h))
  have hcd := hbd.blk hc0 (fun x => x)
  have Hcd := Lib.hid hcd
  obtain ⟨m1, em1⟩ : ∃ m, wd.heap.size = m := ⟨_, rfl⟩
  have Hm1 := Lib.hid em1
  have HSt := Lib.hid (show ∀ W, Below wd.heap.size wd W → W.cell? ⟨g, 3, none⟩ = some (.map (some mi)) ∧ W.cell? ⟨g, 4, none⟩ = some (.map (some mo)) from fun W hb => ⟨(Hd.out.below hb).k3, (Hd.out.below hb).k4⟩)
  have Hbd := Lib.hid (show Below w.heap.size w wd by rw [← ewd]; exact hb0.drew)
  have hg2 : g ≠ g2 := fun e => by have := h.lt g h.sg; omega
  have hg2d : g2 < wd.heap.size := lt_of_block hcd
  have HCell := Lib.hid (show ∀ W, Below wd.heap.size wd W → ∀ x y : Value, (W.cell? ⟨g2, 3, none⟩ = some (.map (some mi)) ∧ W.frozen? ⟨g2, 3, none⟩ = false) ∧
      ((W.setCell ⟨g2, 3, none⟩ x).cell? ⟨g, 3, none⟩ = some (.map (some mi)) ∧ (W.setCell ⟨g2, 3, none⟩ x).cell? ⟨g, 4, none⟩ = some (.map (some mo))) ∧
      ((W.setCell ⟨g2, 3, none⟩ x).cell? ⟨g2, 4, none⟩ = some (.map (some mo)) ∧ (W.setCell ⟨g2, 3, none⟩ x).frozen? ⟨g2, 4, none⟩ = false) ∧
      (((W.setCell ⟨g2, 3, none⟩ x).setCell ⟨g2, 4, none⟩ y).cell? ⟨g, 3, none⟩ = some (.map (some mi)) ∧ ((W.setCell ⟨g2, 3, none⟩ x).setCell ⟨g2, 4, none⟩ y).cell? ⟨g, 4, none⟩ = some (.map (some mo))) ∧
      (((W.setCell ⟨g2, 3, none⟩ x).setCell ⟨g2, 4, none⟩ y).heap[g2]? = some (.cells #[.pointer (some ⟨g2, 0, none⟩), .int .i64 M, .int .u64 last, x, y, .slice A n c] 72 (0, 0)) ∧ TMem ((W.setCell ⟨g2, 3, none⟩ x).setCell ⟨g2, 4, none⟩ y) S g M last L mi mo (.slice A n c) KI RI KO RO ∧ But (fun k => k = g2) W ((W.setCell ⟨g2, 3, none⟩ x).setCell ⟨g2, 4, none⟩ y)) from fun W hb x y => by
    have hc := blk_on Hcd.out hb
    have h3 := heap_setCell_at hc 3 x
    have h4 := heap_setCell_at h3 4 y
    have hW := Hd.out.below hb
    have b3 : But (fun k => k = g2) W (W.setCell ⟨g2, 3, none⟩ x) := (But.refl (fun k => k = g2) W).setCell (p := ⟨g2, 3, none⟩) rfl _
    have b4 : But (fun k => k = g2) W ((W.setCell ⟨g2, 3, none⟩ x).setCell ⟨g2, 4, none⟩ y) := b3.setCell (p := ⟨g2, 4, none⟩) rfl _
    have hS2 : ∀ k, S k → ¬ k = g2 := fun k hk e => by have := h.lt k hk; omega
    have w3 := hW.but b3 hS2
    have w4 := hW.but b4 hS2
    exact ⟨⟨blk_cell hc 3, blk_free hc 3⟩, ⟨w3.k3, w3.k4⟩, ⟨by rw [blk_cell h3]; rfl, blk_free h3 4⟩, ⟨w4.k3, w4.k4⟩, by simpa using h4, w4, b4⟩)
  have Ew0 := Lib.hid ew0
  have Ewd := Lib.hid ewd
  have Eg2 := Lib.hid eg2
  have Hlt := Lib.hid h.lt
  have H := Lib.hid h
  have Hn := Lib.hid hn
  have Hen := Lib.hid en
  clear h h0 hb0 hc0 hbd hcd ew0 ewd em1 hn en
  go_enter Try.func22, Try.ntmps22
  go_wp2_with fail
  refine Hno.out.mono ?_
  rintro e w1 ⟨rfl, rfl⟩
  go_upto_region 5 with (fail)
  rw [Ew0.out]
  refine wp_region_held_drew (S := fun W => W.cell? ⟨g, 3, none⟩ = some (.map (some mi)) ∧ W.cell? ⟨g, 4, none⟩ = some (.map (some mo))) (by kernel_rfl) (by rw [Ewd.out]; exact HSt.out wd (Below.refl _ _)) (fun hHeld => ?_)
  rw [Ewd.out] at hHeld ⊢
  clear k0 k1 k2 k3 k4 k5
  refine wpAnyH_take (i := 0) (oi := { dst := some 10, op := Go.Op.move (Go.Operand.tmp 0), type := 23, pos := "table.go:159", after := #[], guard := none }) (v := ?_) rfl (by kernel_rfl) (by kernel_rfl) (by kernel_rfl) (fun _ _ _ h => h) (Or.inl ⟨by rfl, ?_⟩) (by assumption) ?_
  rotate_left 1
  · intro w' hSw; (go_simp <;> (with_reducible rfl))
  (try simp only [Act.put, List.setIfInBounds_toArray, List.set_cons_zero, List.set_cons_succ])
  refine wpAnyH_take (i := 1) (oi := { dst := some 11, op := Go.Op.nilCheck (Go.Operand.tmp 10), type := 0, pos := "table.go:159", after := #[{ on := 0, ground := Go.Ground.data }], guard := none }) (v := ?_) rfl (by kernel_rfl) (by kernel_rfl) (by kernel_rfl) (fun _ _ _ h => h) (Or.inl ⟨by rfl, ?_⟩) (by assumption) ?_
  rotate_left 1
  · intro w' hSw; (go_simp <;> (with_reducible rfl))
  (try simp only [Act.put, List.setIfInBounds_toArray, List.set_cons_zero, List.set_cons_succ])
  refine wpAnyH_take (i := 2) (oi := { dst := some 12, op := Go.Op.fieldAddr 72 (Go.Operand.tmp 11) 3, type := 0, pos := "table.go:159", after := #[{ on := 1, ground := Go.Ground.data }], guard := none }) (v := ?_) rfl (by kernel_rfl) (by kernel_rfl) (by kernel_rfl) (fun _ _ _ h => h) (Or.inl ⟨by rfl, ?_⟩) (by assumption) ?_
  rotate_left 1
  · intro w' hSw; (go_simp <;> (with_reducible rfl))
  (try simp only [Act.put, List.setIfInBounds_toArray, List.set_cons_zero, List.set_cons_succ])
  refine wpAnyH_take (i := 3) (oi := { dst := some 13, op := Go.Op.load 70 (Go.Operand.tmp 12), type := 70, pos := "table.go:159", after := #[{ on := 2, ground := Go.Ground.data }], guard := none }) (v := ?_) rfl (by kernel_rfl) (by kernel_rfl) (by kernel_rfl) (fun _ _ _ h => h) (Or.inl ⟨by rfl, ?_⟩) (by assumption) ?_
  rotate_left 1
  · intro w' hSw; (go_simp <;> (with_reducible rfl))
  (try simp only [Act.put, List.setIfInBounds_toArray, List.set_cons_zero, List.set_cons_succ])
  refine wpAnyH_take (i := 5) (oi := { dst := some 15, op := Go.Op.move (Go.Operand.tmp 0), type := 23, pos := "table.go:159", after := #[], guard := none }) (v := ?_) rfl (by kernel_rfl) (by kernel_rfl) (by kernel_rfl) (fun _ _ _ h => h) (Or.inl ⟨by rfl, ?_⟩) (by assumption) ?_
  rotate_left 1
  · intro w' hSw; (go_simp <;> (with_reducible rfl))
  (try simp only [Act.put, List.setIfInBounds_toArray, List.set_cons_zero, List.set_cons_succ])
  refine wpAnyH_take (i := 6) (oi := { dst := some 16, op := Go.Op.nilCheck (Go.Operand.tmp 15), type := 0, pos := "table.go:159", after := #[{ on := 5, ground := Go.Ground.data }], guard := none }) (v := ?_) rfl (by kernel_rfl) (by kernel_rfl) (by kernel_rfl) (fun _ _ _ h => h) (Or.inl ⟨by rfl, ?_⟩) (by assumption) ?_
  rotate_left 1
  · intro w' hSw; (go_simp <;> (with_reducible rfl))
  (try simp only [Act.put, List.setIfInBounds_toArray, List.set_cons_zero, List.set_cons_succ])
  refine wpAnyH_take (i := 7) (oi := { dst := some 17, op := Go.Op.fieldAddr 72 (Go.Operand.tmp 16) 4, type := 0, pos := "table.go:159", after := #[{ on := 6, ground := Go.Ground.data }], guard := none }) (v := ?_) rfl (by kernel_rfl) (by kernel_rfl) (by kernel_rfl) (fun _ _ _ h => h) (Or.inl ⟨by rfl, ?_⟩) (by assumption) ?_
  rotate_left 1
  · intro w' hSw; (go_simp <;> (with_reducible rfl))
  (try simp only [Act.put, List.setIfInBounds_toArray, List.set_cons_zero, List.set_cons_succ])
  refine wpAnyH_take (i := 8) (oi := { dst := some 18, op := Go.Op.load 70 (Go.Operand.tmp 17), type := 70, pos := "table.go:159", after := #[{ on := 7, ground := Go.Ground.data }], guard := none }) (v := ?_) rfl (by kernel_rfl) (by kernel_rfl) (by kernel_rfl) (fun _ _ _ h => h) (Or.inl ⟨by rfl, ?_⟩) (by assumption) ?_
  rotate_left 1
  · intro w' hSw; (go_simp <;> (with_reducible rfl))
  (try simp only [Act.put, List.setIfInBounds_toArray, List.set_cons_zero, List.set_cons_succ])
  refine wpAnyH_ready (rs := [4]) (by kernel_rfl) (by simp) ?_
  refine AllReadyH.cons (o := { dst := some 14, op := Go.Op.call { callee := Go.Callee.value (Go.Operand.func 42), args := #[Go.Operand.tmp 13], argTypes := #[70] }, type := 70, pos := "table.go:159", after := #[{ on := 3, ground := Go.Ground.data }], guard := none }) rfl (fun K hK => ?_) AllReadyH.nil
  go_simp
  (refine (mclone_t mi m1 KI RI wd Hd.out.inn Hm1.out).mono ?_; rintro e w2 ⟨rfl, hM2, hB2⟩; have HM2 := Lib.hid hM2; have HB2 := Lib.hid hB2; clear hM2 hB2; obtain ⟨m2, em2⟩ : ∃ m, w2.heap.size = m := ⟨_, rfl⟩; have Hm2 := Lib.hid em2; clear em2)
  refine hK.out _ _ ?_ (fun hHeld => ?_)
  · exact HSt.out w2 HB2.out
  clear hK K
  (try simp only [Act.put, List.setIfInBounds_toArray, List.set_cons_zero, List.set_cons_succ])
  refine wpAnyH_ready (rs := [9]) (by kernel_rfl) (by simp) ?_
  refine AllReadyH.cons (o := { dst := some 19, op := Go.Op.call { callee := Go.Callee.value (Go.Operand.func 42), args := #[Go.Operand.tmp 18], argTypes := #[70] }, type := 70, pos := "table.go:159", after := #[{ on := 8, ground := Go.Ground.data }, { on := 4, ground := Go.Ground.chain }], guard := none }) rfl (fun K hK => ?_) AllReadyH.nil
  go_simp
  (refine (mclone_t mo m2 KO RO w2 (Hd.out.below HB2.out).out Hm2.out).mono ?_; rintro e w3 ⟨rfl, hM3, hB3⟩; have HM3 := Lib.hid hM3; have HB3 := Lib.hid (below_trans HB2.out hB3); have HM23 := Lib.hid (HM2.out.but (But.of (S := fun _ => False) hB3) (fun h => h)); have Hw2 := Lib.hid (lt_of_block (MTP.blk HM2.out).choose_spec.choose_spec); have HX := Lib.hid (HCell.out w3 HB3.out (.map (some m1)) (.map (some m2))); clear hM3 hB3)
  refine hK.out _ _ ?_ (fun hHeld => ?_)
  · exact HSt.out w3 HB3.out
  clear hK K
  (try simp only [Act.put, List.setIfInBounds_toArray, List.set_cons_zero, List.set_cons_succ])
  refine wpAnyH_take (i := 10) (oi := { dst := some 20, op := Go.Op.fieldAddr 72 (Go.Operand.tmp 3) 3, type := 0, pos := "table.go:159", after := #[{ on := 0, ground := Go.Ground.phase }, { on := 1, ground := Go.Ground.phase }, { on := 2, ground := Go.Ground.phase }, { on := 3, ground := Go.Ground.phase }, { on := 4, ground := Go.Ground.phase }, { on := 5, ground := Go.Ground.textOnly Go.Departure.lateStores }, { on := 6, ground := Go.Ground.textOnly Go.Departure.lateStoresUnsure }, { on := 7, ground := Go.Ground.textOnly Go.Departure.lateStoresUnsure }, { on := 8, ground := Go.Ground.phase }, { on := 9, ground := Go.Ground.phase }], guard := none }) (v := ?_) rfl (by kernel_rfl) (by kernel_rfl) (by kernel_rfl) (fun _ _ _ h => h) (Or.inl ⟨by rfl, ?_⟩) (by assumption) ?_
  rotate_left 1
  · intro w' hSw; (go_simp <;> (with_reducible rfl))
  (try simp only [Act.put, List.setIfInBounds_toArray, List.set_cons_zero, List.set_cons_succ])
  obtain ⟨⟨x3, y3⟩, s4, -, -, -⟩ := HX.out
  refine wpAnyH_ready (rs := [11]) (by kernel_rfl) (by simp) ?_
  refine AllReadyH.cons (o := { dst := none, op := Go.Op.store 70 (Go.Operand.tmp 20) (Go.Operand.tmp 14), type := 0, pos := "table.go:159", after := #[{ on := 10, ground := Go.Ground.data }, { on := 4, ground := Go.Ground.data }, { on := 9, ground := Go.Ground.chain }, { on := 0, ground := Go.Ground.phase }, { on := 1, ground := Go.Ground.phase }, { on := 2, ground := Go.Ground.phase }, { on := 3, ground := Go.Ground.phase }, { on := 4, ground := Go.Ground.phase }, { on := 5, ground := Go.Ground.textOnly Go.Departure.lateStores }, { on := 6, ground := Go.Ground.textOnly Go.Departure.lateStoresUnsure }, { on := 7, ground := Go.Ground.textOnly Go.Departure.lateStoresUnsure }, { on := 8, ground := Go.Ground.phase }, { on := 9, ground := Go.Ground.phase }], guard := none }) rfl (fun K hK => ?_) AllReadyH.nil
  go_simp
  skip
  refine hK.out _ _ ?_ (fun hHeld => ?_)
  · exact s4
  clear hK K
  (try simp only [Act.put, List.setIfInBounds_toArray, List.set_cons_zero, List.set_cons_succ])
  clear x3 y3 s4
  refine wpAnyH_take (i := 12) (oi := { dst := some 21, op := Go.Op.fieldAddr 72 (Go.Operand.tmp 3) 4, type := 0, pos := "table.go:159", after := #[{ on := 0, ground := Go.Ground.phase }, { on := 1, ground := Go.Ground.phase }, { on := 2, ground := Go.Ground.phase }, { on := 3, ground := Go.Ground.phase }, { on := 4, ground := Go.Ground.phase }, { on := 5, ground := Go.Ground.phase }, { on := 6, ground := Go.Ground.phase }, { on := 7, ground := Go.Ground.phase }, { on := 8, ground := Go.Ground.phase }, { on := 9, ground := Go.Ground.phase }, { on := 10, ground := Go.Ground.phase }, { on := 11, ground := Go.Ground.phase }], guard := none }) (v := ?_) rfl (by kernel_rfl) (by kernel_rfl) (by kernel_rfl) (fun _ _ _ h => h) (Or.inl ⟨by rfl, ?_⟩) (by assumption) ?_
  rotate_left 1
  · intro w' hSw; (go_simp <;> (with_reducible rfl))
  (try simp only [Act.put, List.setIfInBounds_toArray, List.set_cons_zero, List.set_cons_succ])
  obtain ⟨-, -, ⟨x4, y4⟩, s5, -⟩ := HX.out
  refine wpAnyH_ready (rs := [13]) (by kernel_rfl) (by simp) ?_
  refine AllReadyH.cons (o := { dst := none, op := Go.Op.store 70 (Go.Operand.tmp 21) (Go.Operand.tmp 19), type := 0, pos := "table.go:159", after := #[{ on := 12, ground := Go.Ground.data }, { on := 9, ground := Go.Ground.data }, { on := 11, ground := Go.Ground.chain }, { on := 0, ground := Go.Ground.phase }, { on := 1, ground := Go.Ground.phase }, { on := 2, ground := Go.Ground.phase }, { on := 3, ground := Go.Ground.phase }, { on := 4, ground := Go.Ground.phase }, { on := 5, ground := Go.Ground.phase }, { on := 6, ground := Go.Ground.phase }, { on := 7, ground := Go.Ground.phase }, { on := 8, ground := Go.Ground.phase }, { on := 9, ground := Go.Ground.phase }, { on := 10, ground := Go.Ground.phase }, { on := 11, ground := Go.Ground.phase }], guard := none }) rfl (fun K hK => ?_) AllReadyH.nil
  go_simp
  skip
  refine hK.out _ _ ?_ (fun hHeld => ?_)
  · exact s5
  clear hK K
  (try simp only [Act.put, List.setIfInBounds_toArray, List.set_cons_zero, List.set_cons_succ])
  clear x4 y4 s5
  refine wpAnyH_done (by kernel_rfl) ?_ _
  clear hHeld
  obtain ⟨-, -, -, -, hbox, hM4, hB4⟩ := HX.out
  obtain ⟨w5, ew5⟩ : ∃ w5, (w3.setCell ⟨g2, 3, none⟩ (.map (some m1))).setCell ⟨g2, 4, none⟩ (.map (some m2)) = w5 := ⟨_, rfl⟩
  rw [ew5] at hbox hM4 hB4 ⊢
  have hmne : m1 ≠ m2 := by have h1 := Hw2.out; have h2 := Hm2.out; omega
  have hm1g : m1 ≠ g2 := by have h1 := Hm1.out; omega
  have hm2g : m2 ≠ g2 := by have h1 := Hm2.out; have h2 := HB2.out.size; omega
  have hI := HM23.out.but hB4 hm1g
  have hO := HM3.out.but hB4 hm2g
  have k5 := hM4.k5
  have hr := hM4.row
  rw [Hen.out] at hr
  have Hcl := Lib.hid (clone_anyF A n c L w5 hr Hen.out (by have h1 := Hn.out; have h2 := Hen.out; omega))
  have hB05 : Below w.heap.size w w5 := (Hbd.out.trans (HB3.out.mono Hbd.out.size)).trans (hB4.below (fun k hk => by rw [hk, Eg2.out]; exact Nat.le_refl _) (by have h1 := Hbd.out.size; have h2 := HB3.out.size; omega))
  have c5 : w5.cell? ⟨g2, 5, none⟩ = some (.slice A n c) := blk_cell hbox 5
  have f5 : w5.frozen? ⟨g2, 5, none⟩ = false := blk_free hbox 5
  have HF := Lib.hid (fun (w6 : World) (A2 : Option Addr) (c2 : Nat) (hs : SlV w6 51 12 (.slice A2 L.length c2) L.length (flatF L)) (ho : ∀ b, (Value.slice A2 L.length c2).ownBlock = some b → w5.heap.size ≤ b) (hb : Below w5.heap.size w5 w6) =>
    show (w6.cell? ⟨g2, 5, none⟩ = some (.slice A n c) ∧ w6.frozen? ⟨g2, 5, none⟩ = false) ∧ CopiesM S g M last L mi mo (.slice A n c) KI RI KO RO w (.returned (.pointer (some ⟨g2, 0, none⟩))) (w6.setCell ⟨g2, 5, none⟩ (.slice A2 L.length c2)) from by
      have hbox6 := blk_on hbox hb
      have h5 := heap_setCell_at hbox6 5 (.slice A2 L.length c2)
      have b5 : But (fun k => k = g2) w6 (w6.setCell ⟨g2, 5, none⟩ (.slice A2 L.length c2)) := (But.refl (fun k => k = g2) w6).setCell (p := ⟨g2, 5, none⟩) rfl _
      have hg25 : g2 < w5.heap.size := lt_of_block hbox
      have hf : But (fun _ => False) w5 w6 := But.of hb
      have hBf : Below w.heap.size w (w6.setCell ⟨g2, 5, none⟩ (.slice A2 L.length c2)) := (below_trans hB05 hb).trans (b5.below (B := w.heap.size) (fun k hk => by rw [hk, Eg2.out]; exact Nat.le_refl _) (below_trans hB05 hb).size)
      refine ⟨⟨(blk_cell hbox6 5), blk_free hbox6 5⟩, g2, m1, m2, .slice A2 L.length c2, fun k => w.heap.size ≤ k ∧ k < (w6.setCell ⟨g2, 5, none⟩ (.slice A2 L.length c2)).heap.size, rfl, (hM4.but hf (fun _ _ h => h)).but b5 (fun k hk e => by have := Hlt.out k hk; have := Eg2.out; omega), ?_, hBf, fun k hk => hk.1⟩
      have hI6 := (hI.but hf (fun h => h)).but b5 hm1g
      have hO6 := (hO.but hf (fun h => h)).but b5 hm2g
      refine ⟨by simpa using h5, hI6, hO6, hs.but b5 (fun b hb2 e => by have := ho b hb2; omega), hmne, ⟨by rw [Eg2.out]; exact Nat.le_refl _, lt_of_block h5⟩, ⟨?_, hI6.lt⟩, ⟨?_, hO6.lt⟩, fun b hb2 => ⟨?_, (hs.but b5 (fun b hb2 e => by have := ho b hb2; omega)).lt hb2⟩, fun k hk => hk.2⟩
      · have h1 := Hbd.out.size; have h2 := Hm1.out; omega
      · have h1 := Hbd.out.size; have h2 := Hm2.out; have h3 := HB2.out.size; omega
      · have h1 := ho b hb2; have h2 := hB05.size; omega)
  clear hbox hM4 hB4 hI hO hr hB05 HX HM23 HM3 HM2 ew5 hmne hm1g hm2g
  go_wp2_with fail
  refine Hcl.out.mono ?_
  rintro e w6 ⟨A2, c2, rfl, hs, ho, hb⟩
  obtain ⟨⟨x5, y5⟩, hC⟩ := HF.out w6 A2 c2 hs ho hb
  have HC := Lib.hid hC
  clear hs ho hb hC c5 f5
  go_wp2_with fail
  go_ret
  exact HC.out
end Go.Proofs.Ytnhlbohdlnjaaaa
