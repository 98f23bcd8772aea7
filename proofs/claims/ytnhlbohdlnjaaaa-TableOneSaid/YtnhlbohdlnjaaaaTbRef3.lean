/-
  The document's own table (culvertref13): Touch, Lead, Add.
-/
import Derived.Test.YtnhlbohdlnjaaaaTbRef2
namespace Go.Proofs.Ytnhlbohdlnjaaaa
set_option maxRecDepth 10000
open Go.RowKit
set_option linter.unusedSimpArgs false
set_option linter.unusedVariables false

section
variable (S : Nat → Prop) (g : Nat) (M last : Int) (L : TL) (w : World) (h : RefT w S g M last L) (hn : L.length ≤ 1000000)
include h hn
set_option maxHeartbeats 2000000 in
theorem rtouch_some (id : Int) (k : Nat) (he : atF id L = some k) : Calls Try.prog 17 #[.pointer (some ⟨g, 0, none⟩), .int .u64 id] w (RDoes S g M last (touchF k L) (.int .i64 0) w) := by
  have Hp := Lib.hid (rat_any S g M last L id (k : Int) w h hn (by rw [he]; rfl))
  have hk := (atF_some he).1
  obtain ⟨gu, o, c, hg, hr, hSu, hne, -⟩ := RefT.spot S g M last L w h k hk
  obtain ⟨gu', o', e', hidx, hfl, -⟩ := fl_index_r (A := some ⟨gu, o, none⟩) (c := c) (.inr ⟨gu, o, c, rfl, hr⟩) rfl hk
  injection e' with e'
  injection e' with e1 e2
  subst e1; subst e2
  obtain ⟨p, ep⟩ : ∃ p, o + k * 12 = p := ⟨_, rfl⟩
  obtain ⟨f, ef⟩ : ∃ f, L.getD k f0 = f := ⟨_, rfl⟩
  obtain ⟨n, en⟩ : ∃ n, L.length = n := ⟨_, rfl⟩
  rw [ep] at hidx hfl
  rw [ef] at hfl
  rw [en] at hidx
  have k0 := blk_cell hg 0
  simp at k0
  rw [en] at k0
  have i0 : ¬ (k : Int) < 0 := by omega
  have i1 : (0 : Int) ≤ (k : Int) := by omega
  have i2 : (k : Int) < (n : Int) := by omega
  obtain ⟨c0, c1, c2, c3, c4, c5, c6, c7, c8, c9, ca, cb⟩ := hfl
  obtain ⟨wz, ewz⟩ : ∃ wz, w.alloc (.cells #[.int .u64 f.id, .int .u8 f.i.pr, .int .u32 f.i.sr, .int .u32 f.i.ds, .int .u16 f.i.sp, .int .u16 f.i.dp, .int .u8 f.o.pr, .int .u32 f.o.sr, .int .u32 f.o.ds, .int .u16 f.o.sp, .int .u16 f.o.dp, .bool f.em] 54) = wz := ⟨_, rfl⟩
  obtain ⟨z, hz⟩ : ∃ z, w.heap.size = z := ⟨_, rfl⟩
  have hbz : Below w.heap.size w wz := by rw [← ewz]; exact (Below.refl _ _).alloc (Nat.le_refl _) _
  have hkz : wz.heap[z]? = some (.cells (flV f).toArray 54 (0, 0)) := by rw [← ewz, ← hz]; exact heap_alloc_new w _
  obtain ⟨wd, ewd⟩ : ∃ wd, wz.drew = wd := ⟨_, rfl⟩
  have hbd : Below w.heap.size w wd := by rw [← ewd]; exact hbz.drew
  have hd := h.below hbd
  have hkd : wd.heap[z]? = some (.cells (flV f).toArray 54 (0, 0)) := by rw [← ewd]; exact hkz
  have hgd := blk_on hg hbd
  have HBel := Lib.hid (show ∀ wx, Below wd.heap.size wd wx → (wx.heap[g]? = some (.cells #[.slice (some ⟨gu, o, none⟩) L.length c, .int .i64 M, .int .u64 last] 59 (0, 0))) ∧ (wx.cell? ⟨g, 0, none⟩ = some (.slice (some ⟨gu, o, none⟩) n c) ∧
      (wx.cell? ⟨z, 0, none⟩ = some (.int .u64 f.id) ∧ wx.cell? ⟨z, 1, none⟩ = some (.int .u8 f.i.pr) ∧ wx.cell? ⟨z, 2, none⟩ = some (.int .u32 f.i.sr) ∧ wx.cell? ⟨z, 3, none⟩ = some (.int .u32 f.i.ds) ∧ wx.cell? ⟨z, 4, none⟩ = some (.int .u16 f.i.sp) ∧ wx.cell? ⟨z, 5, none⟩ = some (.int .u16 f.i.dp) ∧
        wx.cell? ⟨z, 6, none⟩ = some (.int .u8 f.o.pr) ∧ wx.cell? ⟨z, 7, none⟩ = some (.int .u32 f.o.sr) ∧ wx.cell? ⟨z, 8, none⟩ = some (.int .u32 f.o.ds) ∧ wx.cell? ⟨z, 9, none⟩ = some (.int .u16 f.o.sp) ∧ wx.cell? ⟨z, 10, none⟩ = some (.int .u16 f.o.dp) ∧ wx.cell? ⟨z, 11, none⟩ = some (.bool f.em))) from fun wx hB => by
    have hk' := blk_on hkd hB
    have hg' := blk_on hgd hB
    exact ⟨hg', by rw [← en]; exact blk_cell hg' 0, blk_cell hk' 0, blk_cell hk' 1, blk_cell hk' 2, blk_cell hk' 3, blk_cell hk' 4, blk_cell hk' 5, blk_cell hk' 6, blk_cell hk' 7, blk_cell hk' 8, blk_cell hk' 9, blk_cell hk' 10, blk_cell hk' 11⟩)
  have HEnd := Lib.hid (fun (wx w4 : World) (A3 : Option Addr) (c3 : Nat) (A4 : Option Addr) (c4 : Nat) (hBx : Below wd.heap.size wd wx) (hox : ∀ b, (Value.slice A3 (L.eraseIdx k).length c3).ownBlock = some b → wd.heap.size ≤ b)
      (hs4 : SlV w4 54 12 (.slice A4 ((L.eraseIdx k).length + 1) c4) ((L.eraseIdx k).length + 1) (flatF (L.eraseIdx k ++ [f]))) (hB4 : But (fun b => (Value.slice A3 (L.eraseIdx k).length c3).ownBlock = some b) wx w4)
      (ho4 : (Value.slice A4 ((L.eraseIdx k).length + 1) c4).ownBlock = (Value.slice A3 (L.eraseIdx k).length c3).ownBlock ∨ (Value.slice A4 ((L.eraseIdx k).length + 1) c4).ownBlock = some wx.heap.size) =>
    show (w4.cell? ⟨g, 0, none⟩ = some (.slice (some ⟨gu, o, none⟩) n c) ∧ (w4.cell? ⟨z, 0, none⟩ = some (.int .u64 f.id) ∧ w4.cell? ⟨z, 1, none⟩ = some (.int .u8 f.i.pr) ∧ w4.cell? ⟨z, 2, none⟩ = some (.int .u32 f.i.sr) ∧ w4.cell? ⟨z, 3, none⟩ = some (.int .u32 f.i.ds) ∧ w4.cell? ⟨z, 4, none⟩ = some (.int .u16 f.i.sp) ∧ w4.cell? ⟨z, 5, none⟩ = some (.int .u16 f.i.dp) ∧
        w4.cell? ⟨z, 6, none⟩ = some (.int .u8 f.o.pr) ∧ w4.cell? ⟨z, 7, none⟩ = some (.int .u32 f.o.sr) ∧ w4.cell? ⟨z, 8, none⟩ = some (.int .u32 f.o.ds) ∧ w4.cell? ⟨z, 9, none⟩ = some (.int .u16 f.o.sp) ∧ w4.cell? ⟨z, 10, none⟩ = some (.int .u16 f.o.dp) ∧ w4.cell? ⟨z, 11, none⟩ = some (.bool f.em))) ∧
      w4.frozen? ⟨g, 0, none⟩ = false ∧ RDoes S g M last (touchF k L) (.int .i64 0) w (.returned (.int .i64 0)) (w4.setCell ⟨g, 0, none⟩ (.slice A4 ((L.eraseIdx k).length + 1) c4)) from by
    have hB : Below wd.heap.size wd w4 := hBx.trans (hB4.below hox hBx.size)
    have hlen : (touchF k L).length = (L.eraseIdx k).length + 1 := by unfold touchF; simp
    have htf : touchF k L = L.eraseIdx k ++ [f] := by unfold touchF; rw [ef]
    obtain ⟨g1, g2⟩ := HBel.out w4 hB
    obtain ⟨r1, r2, r3⟩ := hd.lay hB g1 (v := .slice A4 ((L.eraseIdx k).length + 1) c4) (L' := touchF k L) (by rw [hlen, htf]; exact hs4) (fun b hb => by
      rcases ho4 with e | e
      · exact hox b (e ▸ hb)
      · rw [e] at hb; injection hb with hb; have := hBx.size; omega)
    refine ⟨g2, blk_free g1 0, rfl, _, r1, (But.of hbd).trans r2, fun b hb => ?_⟩
    rcases r3 b hb with e | e
    · exact .inl e
    · have := hbd.size; exact .inr (by omega))
  have HWo := Lib.hid (fun (W : World) (hW : Below wd.heap.size wd W) => rwithout_any S g M last L k W (hd.below hW) hn)
  have Ewz := Lib.hid ewz
  have Ewd := Lib.hid ewd
  have Hz := Lib.hid hz
  have Hen := Lib.hid en
  have Hn := Lib.hid hn
  clear h hg hr hSu hne he ep ef en ewz hz hbz hkz ewd hbd hd hkd hgd hk hn
  go_enter Try.func17, Try.ntmps17
  go_wp2_with fail
  refine Hp.out.mono ?_
  rintro e w1 ⟨rfl, rfl⟩
  go_upto_region 5 with (fail)
  rw [Ewz.out]
  try rw [Hz.out]
  clear k0 c0 c1 c2 c3 c4 c5 c6 c7 c8 c9 ca cb hidx
  refine wp_region_heldL (S := fun wx => wx.cell? ⟨g, 0, none⟩ = some (.slice (some ⟨gu, o, none⟩) n c) ∧
      (wx.cell? ⟨z, 0, none⟩ = some (.int .u64 f.id) ∧ wx.cell? ⟨z, 1, none⟩ = some (.int .u8 f.i.pr) ∧ wx.cell? ⟨z, 2, none⟩ = some (.int .u32 f.i.sr) ∧ wx.cell? ⟨z, 3, none⟩ = some (.int .u32 f.i.ds) ∧ wx.cell? ⟨z, 4, none⟩ = some (.int .u16 f.i.sp) ∧ wx.cell? ⟨z, 5, none⟩ = some (.int .u16 f.i.dp) ∧
        wx.cell? ⟨z, 6, none⟩ = some (.int .u8 f.o.pr) ∧ wx.cell? ⟨z, 7, none⟩ = some (.int .u32 f.o.sr) ∧ wx.cell? ⟨z, 8, none⟩ = some (.int .u32 f.o.ds) ∧ wx.cell? ⟨z, 9, none⟩ = some (.int .u16 f.o.sp) ∧ wx.cell? ⟨z, 10, none⟩ = some (.int .u16 f.o.dp) ∧ wx.cell? ⟨z, 11, none⟩ = some (.bool f.em))) 9 (by kernel_rfl) (by rw [Ewd.out]; exact (HBel.out wd (Below.refl _ _)).2) (fun hHeld => ?_)
  rw [Ewd.out] at hHeld ⊢
  refine anyHL_take (i := 0) (oi := { dst := some 19, op := Go.Op.move (Go.Operand.tmp 0), type := 27, pos := "ref.go:132", after := #[], guard := none }) (v := ?_) rfl (by kernel_rfl) (by kernel_rfl) (by kernel_rfl) (by kernel_rfl) (fun _ _ _ h => h) (Or.inl ⟨by rfl, ?_⟩) (by assumption) ?_
  rotate_left 1
  · intro w' hSw; (go_simp <;> (with_reducible rfl))
  (try simp only [Act.put, List.setIfInBounds_toArray, List.set_cons_zero, List.set_cons_succ])
  refine anyHL_take (i := 1) (oi := { dst := some 20, op := Go.Op.move (Go.Operand.tmp 0), type := 27, pos := "ref.go:132", after := #[], guard := none }) (v := ?_) rfl (by kernel_rfl) (by kernel_rfl) (by kernel_rfl) (by kernel_rfl) (fun _ _ _ h => h) (Or.inl ⟨by rfl, ?_⟩) (by assumption) ?_
  rotate_left 1
  · intro w' hSw; (go_simp <;> (with_reducible rfl))
  (try simp only [Act.put, List.setIfInBounds_toArray, List.set_cons_zero, List.set_cons_succ])
  refine anyHL_take (i := 2) (oi := { dst := some 21, op := Go.Op.move (Go.Operand.tmp 5), type := 3, pos := "ref.go:132", after := #[], guard := none }) (v := ?_) rfl (by kernel_rfl) (by kernel_rfl) (by kernel_rfl) (by kernel_rfl) (fun _ _ _ h => h) (Or.inl ⟨by rfl, ?_⟩) (by assumption) ?_
  rotate_left 1
  · intro w' hSw; (go_simp <;> (with_reducible rfl))
  (try simp only [Act.put, List.setIfInBounds_toArray, List.set_cons_zero, List.set_cons_succ])
  refine anyHL_take (i := 4) (oi := { dst := some 23, op := Go.Op.load 54 (Go.Operand.tmp 6), type := 54, pos := "ref.go:132", after := #[], guard := none }) (v := ?_) rfl (by kernel_rfl) (by kernel_rfl) (by kernel_rfl) (by kernel_rfl) (fun _ _ _ h => h) (Or.inl ⟨by rfl, ?_⟩) (by assumption) ?_
  rotate_left 1
  · intro w' hSw; (go_simp <;> (with_reducible rfl))
  (try simp only [Act.put, List.setIfInBounds_toArray, List.set_cons_zero, List.set_cons_succ])
  refine anyHL_two (i := 3) (j := 5) (oi := { dst := some 22, op := Go.Op.call { callee := Go.Callee.value (Go.Operand.func 39), args := #[Go.Operand.tmp 20, Go.Operand.tmp 21], argTypes := #[27, 3] }, type := 57, pos := "ref.go:132", after := #[{ on := 1, ground := Go.Ground.data }, { on := 2, ground := Go.Ground.data }], guard := none }) (oj := { dst := some 24, op := Go.Op.buildSlice 57 1 #[(0, Go.Operand.tmp 23)], type := 57, pos := "ref.go:132", after := #[{ on := 4, ground := Go.Ground.data }], guard := none }) (by kernel_rfl) rfl rfl (by kernel_rfl) (by kernel_rfl) (fun K hK => ?_) (fun K hK => ?_)
  · go_simp
    refine (HWo.out wd (Below.refl _ _)).mono ?_
    rintro e w3 ⟨A3, c3, rfl, hs3, ho3, hB3⟩
    refine hK.out _ _ ?_ (fun hHeld => ?_)
    · exact (HBel.out w3 hB3).2
    clear hK K
    (try simp only [Act.put, List.setIfInBounds_toArray, List.set_cons_zero, List.set_cons_succ])
    refine anyHL_one (i := 5) (o := { dst := some 24, op := Go.Op.buildSlice 57 1 #[(0, Go.Operand.tmp 23)], type := 57, pos := "ref.go:132", after := #[{ on := 4, ground := Go.Ground.data }], guard := none }) (by kernel_rfl) rfl (by kernel_rfl) (fun K hK => ?_)
    go_simp
    obtain ⟨wx, ewx⟩ : ∃ wx, w3.alloc (.cells #[.int .u64 f.id, .int .u8 f.i.pr, .int .u32 f.i.sr, .int .u32 f.i.ds, .int .u16 f.i.sp, .int .u16 f.i.dp, .int .u8 f.o.pr, .int .u32 f.o.sr, .int .u32 f.o.ds, .int .u16 f.o.sp, .int .u16 f.o.dp, .bool f.em] 54) = wx := ⟨_, rfl⟩
    obtain ⟨q, eq⟩ : ∃ q, w3.heap.size = q := ⟨_, rfl⟩
    have hba : But (fun _ => False) w3 wx := by rw [← ewx]; exact (But.refl (fun _ => False) w3).alloc _
    have HBx := Lib.hid (show Below wd.heap.size wd wx from hB3.trans (hba.below (fun _ h => h.elim) hB3.size))
    have Hsx := Lib.hid (hs3.but hba (fun _ _ h => h))
    have Hox := Lib.hid ho3
    have Hlx := Lib.hid (show wx.heap[q]? = some (.cells (flV f).toArray 54 (0, 0)) by rw [← ewx, ← eq]; exact heap_alloc_new w3 _)
    have HSx := Lib.hid (HBel.out wx HBx.out).2
    rw [ewx, eq]
    clear ewx eq hba hB3 ho3 hs3
    refine hK.out _ _ ?_ (fun hHeld => ?_)
    · exact HSx.out
    clear hK K
    (try simp only [Act.put, List.setIfInBounds_toArray, List.set_cons_zero, List.set_cons_succ])
    obtain ⟨A4, c4, w4, hr4, hs4, hB4, ho4⟩ := flow_app_r wx A3 (L.eraseIdx k).length c3 q (L.eraseIdx k) f Hsx.out Hlx.out (by rw [List.length_eraseIdx, Hen.out]; have := Hn.out; have := Hen.out; split <;> omega)
    obtain ⟨hS4, hf4, hF4⟩ := HEnd.out wx w4 A3 c3 A4 c4 HBx.out Hox.out hs4 hB4 ho4
    have Hr4 := Lib.hid hr4
    have HS4 := Lib.hid hS4
    have HF4 := Lib.hid hF4
    have q5 := hS4.1
    clear hr4 hs4 hB4 ho4 hF4 hS4
    refine anyHL_one (i := 6) (o := { dst := some 25, op := Go.Op.call { callee := Go.Callee.builtin Go.Builtin.append, args := #[Go.Operand.tmp 22, Go.Operand.tmp 24], argTypes := #[57, 57] }, type := 57, pos := "ref.go:132", after := #[{ on := 3, ground := Go.Ground.data }, { on := 5, ground := Go.Ground.data }, { on := 3, ground := Go.Ground.chain }], guard := none }) (by kernel_rfl) rfl (by kernel_rfl) (fun K hK => ?_)
    refine step_appX rfl (.tmp 22) (.tmp 24) _ _ rfl rfl _ _ _ w4 rfl rfl Hr4.out ?_
    refine hK.out _ _ ?_ (fun hHeld => ?_)
    · exact HS4.out
    clear hK K
    (try simp only [Act.put, List.setIfInBounds_toArray, List.set_cons_zero, List.set_cons_succ])
    refine anyHL_one (i := 7) (o := { dst := some 26, op := Go.Op.nilCheck (Go.Operand.tmp 19), type := 0, pos := "ref.go:132", after := #[{ on := 0, ground := Go.Ground.data }, { on := 0, ground := Go.Ground.phase }, { on := 1, ground := Go.Ground.phase }, { on := 2, ground := Go.Ground.phase }, { on := 3, ground := Go.Ground.phase }, { on := 4, ground := Go.Ground.phase }, { on := 5, ground := Go.Ground.phase }, { on := 6, ground := Go.Ground.phase }], guard := none }) (by kernel_rfl) rfl (by kernel_rfl) (fun K hK => ?_)
    go_simp
    skip
    refine hK.out _ _ ?_ (fun hHeld => ?_)
    · exact HS4.out
    clear hK K
    (try simp only [Act.put, List.setIfInBounds_toArray, List.set_cons_zero, List.set_cons_succ])
    refine anyHL_take (i := 8) (oi := { dst := some 27, op := Go.Op.fieldAddr 59 (Go.Operand.tmp 26) 0, type := 0, pos := "ref.go:132", after := #[{ on := 7, ground := Go.Ground.data }, { on := 0, ground := Go.Ground.phase }, { on := 1, ground := Go.Ground.phase }, { on := 2, ground := Go.Ground.phase }, { on := 3, ground := Go.Ground.phase }, { on := 4, ground := Go.Ground.phase }, { on := 5, ground := Go.Ground.phase }, { on := 6, ground := Go.Ground.phase }], guard := none }) (v := ?_) rfl (by kernel_rfl) (by kernel_rfl) (by kernel_rfl) (by kernel_rfl) (fun _ _ _ h => h) (Or.inl ⟨by rfl, ?_⟩) (by assumption) ?_
    rotate_left 1
    · intro w' hSw; (go_simp <;> (with_reducible rfl))
    (try simp only [Act.put, List.setIfInBounds_toArray, List.set_cons_zero, List.set_cons_succ])
    refine anyHL_last (o := { dst := none, op := Go.Op.store 57 (Go.Operand.tmp 27) (Go.Operand.tmp 25), type := 0, pos := "ref.go:132", after := #[{ on := 8, ground := Go.Ground.data }, { on := 6, ground := Go.Ground.data }, { on := 6, ground := Go.Ground.chain }, { on := 0, ground := Go.Ground.phase }, { on := 1, ground := Go.Ground.phase }, { on := 2, ground := Go.Ground.phase }, { on := 3, ground := Go.Ground.phase }, { on := 4, ground := Go.Ground.phase }, { on := 5, ground := Go.Ground.phase }, { on := 6, ground := Go.Ground.phase }], guard := none }) (by kernel_rfl) rfl (by kernel_rfl) (fun K hK => ?_)
    go_simp
    skip
    refine hK.out _ _ ?_
    clear hK K
    (try simp only [Act.put, List.setIfInBounds_toArray, List.set_cons_zero, List.set_cons_succ])
    go_wp2_with fail
    go_ret
    exact HF4.out
  · go_simp
    obtain ⟨wl, ewl⟩ : ∃ wl, wd.alloc (.cells #[.int .u64 f.id, .int .u8 f.i.pr, .int .u32 f.i.sr, .int .u32 f.i.ds, .int .u16 f.i.sp, .int .u16 f.i.dp, .int .u8 f.o.pr, .int .u32 f.o.sr, .int .u32 f.o.ds, .int .u16 f.o.sp, .int .u16 f.o.dp, .bool f.em] 54) = wl := ⟨_, rfl⟩
    obtain ⟨q, eq⟩ : ∃ q, wd.heap.size = q := ⟨_, rfl⟩
    have hba : Below wd.heap.size wd wl := by rw [← ewl]; exact (Below.refl _ _).alloc (Nat.le_refl _) _
    have hlx : wl.heap[q]? = some (.cells (flV f).toArray 54 (0, 0)) := by rw [← ewl, ← eq]; exact heap_alloc_new wd _
    have Hlx := Lib.hid hlx
    have Hba := Lib.hid hba
    rw [ewl, eq]
    clear ewl eq hba hlx
    refine hK.out _ _ ?_ (fun hHeld => ?_)
    · exact (HBel.out wl Hba.out).2
    clear hK K
    (try simp only [Act.put, List.setIfInBounds_toArray, List.set_cons_zero, List.set_cons_succ])
    refine anyHL_one (i := 3) (o := { dst := some 22, op := Go.Op.call { callee := Go.Callee.value (Go.Operand.func 39), args := #[Go.Operand.tmp 20, Go.Operand.tmp 21], argTypes := #[27, 3] }, type := 57, pos := "ref.go:132", after := #[{ on := 1, ground := Go.Ground.data }, { on := 2, ground := Go.Ground.data }], guard := none }) (by kernel_rfl) rfl (by kernel_rfl) (fun K hK => ?_)
    go_simp
    refine (HWo.out wl Hba.out).mono ?_
    rintro e wx ⟨A3, c3, rfl, hs3, ho3, hB3⟩
    have HBx := Lib.hid (below_trans Hba.out hB3)
    have Hsx := Lib.hid hs3
    have Hox := Lib.hid (show ∀ b, (Value.slice A3 (L.eraseIdx k).length c3).ownBlock = some b → wd.heap.size ≤ b from fun b hb => by have := ho3 b hb; have := Hba.out.size; omega)
    have Hlx := Lib.hid (blk_on Hlx.out hB3)
    have HSx := Lib.hid (HBel.out wx HBx.out).2
    clear hB3 ho3 hs3
    refine hK.out _ _ ?_ (fun hHeld => ?_)
    · exact HSx.out
    clear hK K
    (try simp only [Act.put, List.setIfInBounds_toArray, List.set_cons_zero, List.set_cons_succ])
    obtain ⟨A4, c4, w4, hr4, hs4, hB4, ho4⟩ := flow_app_r wx A3 (L.eraseIdx k).length c3 q (L.eraseIdx k) f Hsx.out Hlx.out (by rw [List.length_eraseIdx, Hen.out]; have := Hn.out; have := Hen.out; split <;> omega)
    obtain ⟨hS4, hf4, hF4⟩ := HEnd.out wx w4 A3 c3 A4 c4 HBx.out Hox.out hs4 hB4 ho4
    have Hr4 := Lib.hid hr4
    have HS4 := Lib.hid hS4
    have HF4 := Lib.hid hF4
    have q5 := hS4.1
    clear hr4 hs4 hB4 ho4 hF4 hS4
    refine anyHL_one (i := 6) (o := { dst := some 25, op := Go.Op.call { callee := Go.Callee.builtin Go.Builtin.append, args := #[Go.Operand.tmp 22, Go.Operand.tmp 24], argTypes := #[57, 57] }, type := 57, pos := "ref.go:132", after := #[{ on := 3, ground := Go.Ground.data }, { on := 5, ground := Go.Ground.data }, { on := 3, ground := Go.Ground.chain }], guard := none }) (by kernel_rfl) rfl (by kernel_rfl) (fun K hK => ?_)
    refine step_appX rfl (.tmp 22) (.tmp 24) _ _ rfl rfl _ _ _ w4 rfl rfl Hr4.out ?_
    refine hK.out _ _ ?_ (fun hHeld => ?_)
    · exact HS4.out
    clear hK K
    (try simp only [Act.put, List.setIfInBounds_toArray, List.set_cons_zero, List.set_cons_succ])
    refine anyHL_one (i := 7) (o := { dst := some 26, op := Go.Op.nilCheck (Go.Operand.tmp 19), type := 0, pos := "ref.go:132", after := #[{ on := 0, ground := Go.Ground.data }, { on := 0, ground := Go.Ground.phase }, { on := 1, ground := Go.Ground.phase }, { on := 2, ground := Go.Ground.phase }, { on := 3, ground := Go.Ground.phase }, { on := 4, ground := Go.Ground.phase }, { on := 5, ground := Go.Ground.phase }, { on := 6, ground := Go.Ground.phase }], guard := none }) (by kernel_rfl) rfl (by kernel_rfl) (fun K hK => ?_)
    go_simp
    skip
    refine hK.out _ _ ?_ (fun hHeld => ?_)
    · exact HS4.out
    clear hK K
    (try simp only [Act.put, List.setIfInBounds_toArray, List.set_cons_zero, List.set_cons_succ])
    refine anyHL_take (i := 8) (oi := { dst := some 27, op := Go.Op.fieldAddr 59 (Go.Operand.tmp 26) 0, type := 0, pos := "ref.go:132", after := #[{ on := 7, ground := Go.Ground.data }, { on := 0, ground := Go.Ground.phase }, { on := 1, ground := Go.Ground.phase }, { on := 2, ground := Go.Ground.phase }, { on := 3, ground := Go.Ground.phase }, { on := 4, ground := Go.Ground.phase }, { on := 5, ground := Go.Ground.phase }, { on := 6, ground := Go.Ground.phase }], guard := none }) (v := ?_) rfl (by kernel_rfl) (by kernel_rfl) (by kernel_rfl) (by kernel_rfl) (fun _ _ _ h => h) (Or.inl ⟨by rfl, ?_⟩) (by assumption) ?_
    rotate_left 1
    · intro w' hSw; (go_simp <;> (with_reducible rfl))
    (try simp only [Act.put, List.setIfInBounds_toArray, List.set_cons_zero, List.set_cons_succ])
    refine anyHL_last (o := { dst := none, op := Go.Op.store 57 (Go.Operand.tmp 27) (Go.Operand.tmp 25), type := 0, pos := "ref.go:132", after := #[{ on := 8, ground := Go.Ground.data }, { on := 6, ground := Go.Ground.data }, { on := 6, ground := Go.Ground.chain }, { on := 0, ground := Go.Ground.phase }, { on := 1, ground := Go.Ground.phase }, { on := 2, ground := Go.Ground.phase }, { on := 3, ground := Go.Ground.phase }, { on := 4, ground := Go.Ground.phase }, { on := 5, ground := Go.Ground.phase }, { on := 6, ground := Go.Ground.phase }], guard := none }) (by kernel_rfl) rfl (by kernel_rfl) (fun K hK => ?_)
    go_simp
    skip
    refine hK.out _ _ ?_
    clear hK K
    (try simp only [Act.put, List.setIfInBounds_toArray, List.set_cons_zero, List.set_cons_succ])
    go_wp2_with fail
    go_ret
    exact HF4.out
theorem rlead_none (id : Int) (x : Tu) (he : atF id L = none) : Calls Try.prog 16 #[.pointer (some ⟨g, 0, none⟩), .int .u64 id, .agg #[.int .u8 x.pr, .int .u32 x.sr, .int .u32 x.ds, .int .u16 x.sp, .int .u16 x.dp]] w (TellsT (.int .i64 6) w) := by
  obtain ⟨w0, ew⟩ : ∃ w0, w.alloc (.cells #[.int .u8 x.pr, .int .u32 x.sr, .int .u32 x.ds, .int .u16 x.sp, .int .u16 x.dp] 37) = w0 := ⟨_, rfl⟩
  obtain ⟨z, hz⟩ : ∃ z, w.heap.size = z := ⟨_, rfl⟩
  have hb0 : Below w.heap.size w w0 := by rw [← ew]; exact (Below.refl _ _).alloc (Nat.le_refl _) _
  have hk0 : w0.heap[z]? = some (.cells #[.int .u8 x.pr, .int .u32 x.sr, .int .u32 x.ds, .int .u16 x.sp, .int .u16 x.dp] 37 (0, 0)) := by rw [← ew, ← hz]; exact heap_alloc_new w _
  have h0 := h.below hb0
  have Hp := Lib.hid (rat_any S g M last L id (-1) w0 h0 hn (by rw [he]; rfl))
  have Ew := Lib.hid ew
  have Hb0 := Lib.hid hb0
  clear h h0 hb0 hk0 ew hz he
  go_enter Try.func16, Try.ntmps16
  go_upto_region 1 with (fail)
  rw [Ew.out]
  go_wp2_with fail
  refine Hp.out.mono ?_
  rintro e w1 ⟨rfl, rfl⟩
  go_wp2_with fail
  go_ret
  exact ⟨rfl, Hb0.out⟩
set_option maxHeartbeats 2000000 in
theorem rlead_at (id i2 er : Int) (b2 : Bool) (k : Nat) (x : Tu) (L' : TL) (he : atF id L = some k) (h1 : idOf (outF x L) = i2) (h2 : isOf (outF x L) = b2) (hr' : (b2 = true ∧ i2 ≠ id ∧ er = 9 ∧ L' = L) ∨ ((b2 = true → i2 = id) ∧ er = 0 ∧ L' = leadF k x L)) :
    Calls Try.prog 16 #[.pointer (some ⟨g, 0, none⟩), .int .u64 id, .agg #[.int .u8 x.pr, .int .u32 x.sr, .int .u32 x.ds, .int .u16 x.sp, .int .u16 x.dp]] w (RDoes S g M last L' (.int .i64 er) w) := by
  obtain ⟨w0, ew⟩ : ∃ w0, w.alloc (.cells #[.int .u8 x.pr, .int .u32 x.sr, .int .u32 x.ds, .int .u16 x.sp, .int .u16 x.dp] 37) = w0 := ⟨_, rfl⟩
  obtain ⟨z, hz⟩ : ∃ z, w.heap.size = z := ⟨_, rfl⟩
  have hb0 : Below w.heap.size w w0 := by rw [← ew]; exact (Below.refl _ _).alloc (Nat.le_refl _) _
  have hk0 : w0.heap[z]? = some (.cells #[.int .u8 x.pr, .int .u32 x.sr, .int .u32 x.ds, .int .u16 x.sp, .int .u16 x.dp] 37 (0, 0)) := by rw [← ew, ← hz]; exact heap_alloc_new w _
  have h0 := h.below hb0
  have hk := (atF_some he).1
  have Hp := Lib.hid (rat_any S g M last L id (k : Int) w0 h0 hn (by rw [he]; rfl))
  have Ho := Lib.hid (router_any S g M last L x i2 b2 w0 h0 hn h1 h2)
  have H0 := Lib.hid h0
  have HK0 := Lib.hid hk0
  have i0 : ¬ (k : Int) < 0 := by omega
  have Hn := Lib.hid hn
  have Hk := Lib.hid hk
  have Ew := Lib.hid ew
  have Hz := Lib.hid hz
  have Hb0 := Lib.hid hb0
  have Hh := Lib.hid h
  have Hr := Lib.hid hr'
  clear h h0 hb0 hk0 ew hz he h1 h2 hn hr' hk
  go_enter Try.func16, Try.ntmps16
  go_upto_region 1 with (fail)
  rw [Ew.out]
  try rw [Hz.out]
  go_wp2_with fail
  refine Hp.out.mono ?_
  rintro e w1 ⟨rfl, rfl⟩
  obtain ⟨a0, a1, a2, a3, a4⟩ := cells5 HK0.out
  go_wp2_with fail
  refine Ho.out.mono ?_
  rintro e w1 ⟨rfl, hb1⟩
  have hk1 := blk_on HK0.out hb1
  have h1 := H0.out.below hb1
  have hb01 := below_trans Hb0.out hb1
  clear a0 a1 a2 a3 a4
  rcases Hr.out with ⟨rfl, hne, rfl, hL⟩ | ⟨hid, rfl, hL⟩
  · have hnb : (i2 != id) = true := by simpa using hne
    have HF := Lib.hid (show RDoes S g M last L' (.int .i64 9) w (.returned (.int .i64 9)) w1 from by rw [hL]; exact Hh.out.tells ⟨rfl, hb01⟩)
    clear hk1 h1 hb01 hb1 hne
    go_wp2_with fail
    go_ret
    exact HF.out
  · have hcond : (b2 = true ∧ (i2 != id) = false) ∨ b2 = false := by
      cases b2 with
      | true => exact .inl ⟨rfl, by have := hid rfl; simpa using this⟩
      | false => exact .inr rfl
    obtain ⟨wd, ewd⟩ : ∃ wd, w1.drew = wd := ⟨_, rfl⟩
    have hbd : But (fun _ => False) w1 wd := by rw [← ewd]; exact (But.refl (fun _ => False) w1).drew
    have hd := h1.but hbd (fun _ _ h => h)
    have hkd := hbd.blk hk1 (fun x => x)
    obtain ⟨gu, o, c, hg, hrow, hSu, hne, hfin⟩ := RefT.spot S g M last L wd hd k Hk.out
    obtain ⟨gu', o', e', hidx, hfl, -⟩ := fl_index_r (A := some ⟨gu, o, none⟩) (c := c) (.inr ⟨gu, o, c, rfl, hrow⟩) rfl Hk.out
    injection e' with e'
    injection e' with e1 e2
    subst e1; subst e2
    obtain ⟨p, ep⟩ : ∃ p, o + k * 12 = p := ⟨_, rfl⟩
    rw [ep] at hidx hfl
    obtain ⟨w2, ew2⟩ : ∃ w2, ((((wd.setCell ⟨gu, p + 6, none⟩ (.int .u8 x.pr)).setCell ⟨gu, p + 7, none⟩ (.int .u32 x.sr)).setCell ⟨gu, p + 8, none⟩ (.int .u32 x.ds)).setCell ⟨gu, p + 9, none⟩ (.int .u16 x.sp)).setCell ⟨gu, p + 10, none⟩ (.int .u16 x.dp) = w2 := ⟨_, rfl⟩
    obtain ⟨hr2, hB2, -⟩ := hrow.lead rfl Hk.out x ep ew2
    have hl : (leadF k x L).length = L.length := by unfold leadF; rw [List.length_set]
    obtain ⟨s1, s2⟩ := hfin hB2 hl hr2
    have HF := Lib.hid (show RDoes S g M last L' (.int .i64 0) w (.returned (.int .i64 0)) w2 from by rw [hL]; exact ⟨rfl, S, s1, ((But.of hb01).trans (hbd.mono (fun _ _ h => h.elim))).trans s2, fun k hk => .inl hk⟩)
    have hzu : z ≠ gu := fun e => by
      subst e
      obtain ⟨C, hC, _⟩ := hrow
      rw [hkd] at hC
      injection hC with e
      injection e with _ e
      revert e; decide
    have hk2 := hB2.blk hkd hzu
    have hg2 := hB2.blk hg (fun e => hne e.symm)
    obtain ⟨f, ef⟩ : ∃ f, L.getD k f0 = f := ⟨_, rfl⟩
    rw [ef] at hfl
    have c6 := hfl.c6
    have c7 := hfl.c7
    have c8 := hfl.c8
    have c9 := hfl.c9
    have ca := hfl.ca
    have f6 := hrow.free (p + 6)
    have f7 := hrow.free (p + 7)
    have f8 := hrow.free (p + 8)
    have f9 := hrow.free (p + 9)
    have fa := hrow.free (p + 10)
    have HSd := Lib.hid (show wd.cell? ⟨g, 0, none⟩ = some (.slice (some ⟨gu, o, none⟩) L.length c) ∧ (wd.cell? ⟨z, 0, none⟩ = some (.int .u8 x.pr) ∧ wd.cell? ⟨z, 1, none⟩ = some (.int .u32 x.sr) ∧ wd.cell? ⟨z, 2, none⟩ = some (.int .u32 x.ds) ∧ wd.cell? ⟨z, 3, none⟩ = some (.int .u16 x.sp) ∧ wd.cell? ⟨z, 4, none⟩ = some (.int .u16 x.dp)) from ⟨blk_cell hg 0, cells5 hkd⟩)
    have HS2 := Lib.hid (show w2.cell? ⟨g, 0, none⟩ = some (.slice (some ⟨gu, o, none⟩) L.length c) ∧ (w2.cell? ⟨z, 0, none⟩ = some (.int .u8 x.pr) ∧ w2.cell? ⟨z, 1, none⟩ = some (.int .u32 x.sr) ∧ w2.cell? ⟨z, 2, none⟩ = some (.int .u32 x.ds) ∧ w2.cell? ⟨z, 3, none⟩ = some (.int .u16 x.sp) ∧ w2.cell? ⟨z, 4, none⟩ = some (.int .u16 x.dp)) from ⟨blk_cell hg2 0, cells5 hk2⟩)
    obtain ⟨n, en⟩ : ∃ n, L.length = n := ⟨_, rfl⟩
    have i1 : (0 : Int) ≤ (k : Int) := by omega
    have i2' : (k : Int) < (n : Int) := by have := Hk.out; omega
    rw [en] at hidx HSd HS2
    have Ew2 := Lib.hid ew2
    have Ewd := Lib.hid ewd
    clear hk1 h1 hb01 hb1 hid hbd hd hkd hg hrow hSu hne hfin ep ew2 hr2 hB2 hl s1 s2 hzu hk2 hg2 ef hfl ewd en
    rcases hcond with ⟨rfl, hnb⟩ | rfl
    all_goals
      go_wp2_with fail
      refine wp_region_held_drew (S := fun wd => wd.cell? ⟨g, 0, none⟩ = some (.slice (some ⟨gu, o, none⟩) n c) ∧ (wd.cell? ⟨z, 0, none⟩ = some (.int .u8 x.pr) ∧ wd.cell? ⟨z, 1, none⟩ = some (.int .u32 x.sr) ∧ wd.cell? ⟨z, 2, none⟩ = some (.int .u32 x.ds) ∧ wd.cell? ⟨z, 3, none⟩ = some (.int .u16 x.sp) ∧ wd.cell? ⟨z, 4, none⟩ = some (.int .u16 x.dp))) (by kernel_rfl) (by rw [Ewd.out]; exact HSd.out) (fun hHeld => ?_)
      rw [Ewd.out] at hHeld ⊢
      refine wpAnyH_take (i := 0) (oi := { dst := some 27, op := Go.Op.move (Go.Operand.tmp 0), type := 27, pos := "ref.go:121", after := #[], guard := none }) (v := ?_) rfl (by kernel_rfl) (by kernel_rfl) (by kernel_rfl) (fun _ _ _ h => h) (Or.inl ⟨by rfl, ?_⟩) (by assumption) ?_
      rotate_left 1
      · intro w' hSw; (go_simp <;> (with_reducible rfl))
      (try simp only [Act.put, List.setIfInBounds_toArray, List.set_cons_zero, List.set_cons_succ])
      refine wpAnyH_take (i := 1) (oi := { dst := some 28, op := Go.Op.nilCheck (Go.Operand.tmp 27), type := 0, pos := "ref.go:121", after := #[{ on := 0, ground := Go.Ground.data }], guard := none }) (v := ?_) rfl (by kernel_rfl) (by kernel_rfl) (by kernel_rfl) (fun _ _ _ h => h) (Or.inl ⟨by rfl, ?_⟩) (by assumption) ?_
      rotate_left 1
      · intro w' hSw; (go_simp <;> (with_reducible rfl))
      (try simp only [Act.put, List.setIfInBounds_toArray, List.set_cons_zero, List.set_cons_succ])
      refine wpAnyH_take (i := 2) (oi := { dst := some 29, op := Go.Op.fieldAddr 59 (Go.Operand.tmp 28) 0, type := 0, pos := "ref.go:121", after := #[{ on := 1, ground := Go.Ground.data }], guard := none }) (v := ?_) rfl (by kernel_rfl) (by kernel_rfl) (by kernel_rfl) (fun _ _ _ h => h) (Or.inl ⟨by rfl, ?_⟩) (by assumption) ?_
      rotate_left 1
      · intro w' hSw; (go_simp <;> (with_reducible rfl))
      (try simp only [Act.put, List.setIfInBounds_toArray, List.set_cons_zero, List.set_cons_succ])
      refine wpAnyH_take (i := 3) (oi := { dst := some 30, op := Go.Op.load 57 (Go.Operand.tmp 29), type := 57, pos := "ref.go:121", after := #[{ on := 2, ground := Go.Ground.data }], guard := none }) (v := ?_) rfl (by kernel_rfl) (by kernel_rfl) (by kernel_rfl) (fun _ _ _ h => h) (Or.inl ⟨by rfl, ?_⟩) (by assumption) ?_
      rotate_left 1
      · intro w' hSw; (go_simp <;> (with_reducible rfl))
      (try simp only [Act.put, List.setIfInBounds_toArray, List.set_cons_zero, List.set_cons_succ])
      refine wpAnyH_take (i := 4) (oi := { dst := some 31, op := Go.Op.move (Go.Operand.tmp 7), type := 3, pos := "ref.go:121", after := #[], guard := none }) (v := ?_) rfl (by kernel_rfl) (by kernel_rfl) (by kernel_rfl) (fun _ _ _ h => h) (Or.inl ⟨by rfl, ?_⟩) (by assumption) ?_
      rotate_left 1
      · intro w' hSw; (go_simp <;> (with_reducible rfl))
      (try simp only [Act.put, List.setIfInBounds_toArray, List.set_cons_zero, List.set_cons_succ])
      refine wpAnyH_take (i := 5) (oi := { dst := some 32, op := Go.Op.load 37 (Go.Operand.tmp 5), type := 37, pos := "ref.go:121", after := #[], guard := none }) (v := ?_) rfl (by kernel_rfl) (by kernel_rfl) (by kernel_rfl) (fun _ _ _ h => h) (Or.inl ⟨by rfl, ?_⟩) (by assumption) ?_
      rotate_left 1
      · intro w' hSw; (go_simp <;> (with_reducible rfl))
      (try simp only [Act.put, List.setIfInBounds_toArray, List.set_cons_zero, List.set_cons_succ])
      refine wpAnyH_take (i := 6) (oi := { dst := some 33, op := Go.Op.indexAddr 57 (Go.Operand.tmp 30) (Go.Operand.tmp 31), type := 0, pos := "ref.go:121", after := #[{ on := 3, ground := Go.Ground.data }, { on := 4, ground := Go.Ground.data }, { on := 0, ground := Go.Ground.phase }, { on := 1, ground := Go.Ground.phase }, { on := 2, ground := Go.Ground.phase }, { on := 3, ground := Go.Ground.phase }, { on := 4, ground := Go.Ground.phase }, { on := 5, ground := Go.Ground.phase }], guard := none }) (v := ?_) rfl (by kernel_rfl) (by kernel_rfl) (by kernel_rfl) (fun _ _ _ h => h) (Or.inl ⟨by rfl, ?_⟩) (by assumption) ?_
      rotate_left 1
      · intro w' hSw; (go_simp <;> (with_reducible rfl))
      (try simp only [Act.put, List.setIfInBounds_toArray, List.set_cons_zero, List.set_cons_succ])
      refine wpAnyH_take (i := 7) (oi := { dst := some 34, op := Go.Op.fieldAddr 54 (Go.Operand.tmp 33) 2, type := 0, pos := "ref.go:121", after := #[{ on := 6, ground := Go.Ground.data }, { on := 0, ground := Go.Ground.phase }, { on := 1, ground := Go.Ground.phase }, { on := 2, ground := Go.Ground.phase }, { on := 3, ground := Go.Ground.phase }, { on := 4, ground := Go.Ground.phase }, { on := 5, ground := Go.Ground.phase }], guard := none }) (v := ?_) rfl (by kernel_rfl) (by kernel_rfl) (by kernel_rfl) (fun _ _ _ h => h) (Or.inl ⟨by rfl, ?_⟩) (by assumption) ?_
      rotate_left 1
      · intro w' hSw; (go_simp <;> (with_reducible rfl))
      (try simp only [Act.put, List.setIfInBounds_toArray, List.set_cons_zero, List.set_cons_succ])
      refine wpAnyH_ready (rs := [8]) (by kernel_rfl) (by simp) ?_
      refine AllReadyH.cons (o := { dst := none, op := Go.Op.store 37 (Go.Operand.tmp 34) (Go.Operand.tmp 32), type := 0, pos := "ref.go:121", after := #[{ on := 7, ground := Go.Ground.data }, { on := 5, ground := Go.Ground.data }, { on := 0, ground := Go.Ground.phase }, { on := 1, ground := Go.Ground.phase }, { on := 2, ground := Go.Ground.phase }, { on := 3, ground := Go.Ground.phase }, { on := 4, ground := Go.Ground.phase }, { on := 5, ground := Go.Ground.phase }], guard := none }) rfl (fun K hK => ?_) AllReadyH.nil
      go_simp
      rw [Ew2.out]
      refine hK.out _ _ ?_ (fun hHeld => ?_)
      · exact HS2.out
      clear hK K
      (try simp only [Act.put, List.setIfInBounds_toArray, List.set_cons_zero, List.set_cons_succ])
      refine wpAnyH_done (by kernel_rfl) ?_ _
      clear hHeld
      go_wp2_with fail
      go_ret
      exact HF.out
end
end Go.Proofs.Ytnhlbohdlnjaaaa
