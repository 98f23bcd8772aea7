/-
  The contracts of package table's Touch, Ready, Drop, Lead, over a table in memory.
-/
import Derived.Test.YtnhlbohdlnjaaaaTbRoom
import Derived.Test.YtnhlbohdlnjaaaaHeldLast
namespace Go.Proofs.Ytnhlbohdlnjaaaa
set_option maxRecDepth 10000
open Go.RowKit
set_option linter.unusedSimpArgs false
set_option linter.unusedVariables false

theorem flow_app_t (w : World) (A : Option Addr) (m c q : Nat) (E : TL) (f : Fl) (hs : SlV w 51 12 (.slice A m c) m (flatF E)) (hl : w.heap[q]? = some (.cells (flV f).toArray 51 (0, 0))) (hb : m ≤ 1000000) :
    ∃ A4 c4 w4, (Builtin.append_ #[61, 61] 61 #[.slice A m c, .slice (some ⟨q, 0, none⟩) 1 1]).run Try.prog w = .ok (.slice A4 (m + 1) c4) w4 ∧ SlV w4 51 12 (.slice A4 (m + 1) c4) (m + 1) (flatF (E ++ [f])) ∧
      But (fun k => (Value.slice A m c).ownBlock = some k) w w4 ∧ ((Value.slice A4 (m + 1) c4).ownBlock = (Value.slice A m c).ownBlock ∨ (Value.slice A4 (m + 1) c4).ownBlock = some w.heap.size) := by
  have hlit : SlV w 51 12 (.slice (some ⟨q, 0, none⟩) 1 1) 1 (flV f) := .inr ⟨q, 0, 1, rfl, _, hl, by simp [flV], rfl, Nat.le_refl _, by simp [maxLen], fun i hi => by simp⟩
  obtain ⟨A4, c4, w4, hr4, hs4, hb4, ho4, _⟩ := sv_app (P := Try.prog) w 61 61 51 _ 12 48 Try.underlying61 info_tflow (by omega) rfl _ _ m 1 _ _ hs hlit (fun u hu => flatF_one [f] u (by simpa [flatF] using hu)) (by omega)
  refine ⟨A4, c4, w4, hr4, ?_, hb4, ho4⟩
  rw [flatF_append, show flatF [f] = flV f by simp [flatF]]
  exact hs4
theorem flow_app_r (w : World) (A : Option Addr) (m c q : Nat) (E : TL) (f : Fl) (hs : SlV w 54 12 (.slice A m c) m (flatF E)) (hl : w.heap[q]? = some (.cells (flV f).toArray 54 (0, 0))) (hb : m ≤ 1000000) :
    ∃ A4 c4 w4, (Builtin.append_ #[57, 57] 57 #[.slice A m c, .slice (some ⟨q, 0, none⟩) 1 1]).run Try.prog w = .ok (.slice A4 (m + 1) c4) w4 ∧ SlV w4 54 12 (.slice A4 (m + 1) c4) (m + 1) (flatF (E ++ [f])) ∧
      But (fun k => (Value.slice A m c).ownBlock = some k) w w4 ∧ ((Value.slice A4 (m + 1) c4).ownBlock = (Value.slice A m c).ownBlock ∨ (Value.slice A4 (m + 1) c4).ownBlock = some w.heap.size) := by
  have hlit : SlV w 54 12 (.slice (some ⟨q, 0, none⟩) 1 1) 1 (flV f) := .inr ⟨q, 0, 1, rfl, _, hl, by simp [flV], rfl, Nat.le_refl _, by simp [maxLen], fun i hi => by simp⟩
  obtain ⟨A4, c4, w4, hr4, hs4, hb4, ho4, _⟩ := sv_app (P := Try.prog) w 57 57 54 _ 12 48 Try.underlying57 info_rflow (by omega) rfl _ _ m 1 _ _ hs hlit (fun u hu => flatF_one [f] u (by simpa [flatF] using hu)) (by omega)
  refine ⟨A4, c4, w4, hr4, ?_, hb4, ho4⟩
  rw [flatF_append, show flatF [f] = flV f by simp [flatF]]
  exact hs4
section
variable (S : Nat → Prop) (g : Nat) (M last : Int) (L : TL) (mi mo : Nat) (u : Value) (KI : Tu → Prop) (RI : Tu → Value) (KO : Tu → Prop) (RO : Tu → Value) (w : World) (h : TMem w S g M last L mi mo u KI RI KO RO)
include h
theorem touch_none (id : Int) (hn : L.length ≤ 1000000) (he : atF id L = none) : Calls Try.prog 11 #[.pointer (some ⟨g, 0, none⟩), .int .u64 id] w (TellsT (.int .i64 6) w) := by
  have Hp := Lib.hid (place_at S g M last L mi mo u KI RI KO RO w h id 0 6 hn (by rw [he]; rfl))
  clear h
  go_enter Try.func11, Try.ntmps11
  go_wp2_with fail
  refine Hp.out.mono ?_
  rintro e w1 ⟨rfl, hb⟩
  have Hb := Lib.hid hb
  clear hb
  go_wp2_with fail
  go_ret
  exact ⟨rfl, Hb.out⟩
theorem ready_none (id : Int) (hn : L.length ≤ 1000000) (he : atF id L = none) : Calls Try.prog 18 #[.pointer (some ⟨g, 0, none⟩), .int .u64 id] w (TellsT (.int .i64 6) w) := by
  have Hp := Lib.hid (place_at S g M last L mi mo u KI RI KO RO w h id 0 6 hn (by rw [he]; rfl))
  clear h
  go_enter Try.func18, Try.ntmps18
  go_wp2_with fail
  refine Hp.out.mono ?_
  rintro e w1 ⟨rfl, hb⟩
  have Hb := Lib.hid hb
  clear hb
  go_wp2_with fail
  go_ret
  exact ⟨rfl, Hb.out⟩
theorem drop_none (id : Int) (hn : L.length ≤ 1000000) (he : atF id L = none) : Calls Try.prog 20 #[.pointer (some ⟨g, 0, none⟩), .int .u64 id] w (TellsT (.int .i64 6) w) := by
  have Hp := Lib.hid (place_at S g M last L mi mo u KI RI KO RO w h id 0 6 hn (by rw [he]; rfl))
  clear h
  go_enter Try.func20, Try.ntmps20
  go_wp2_with fail
  refine Hp.out.mono ?_
  rintro e w1 ⟨rfl, hb⟩
  have Hb := Lib.hid hb
  clear hb
  go_wp2_with fail
  go_ret
  exact ⟨rfl, Hb.out⟩
theorem drop_some (id : Int) (k : Nat) (hn : L.length ≤ 1000000) (he : atF id L = some k) : Calls Try.prog 20 #[.pointer (some ⟨g, 0, none⟩), .int .u64 id] w
    (DropsM S g M last (L.eraseIdx k) mi mo (fun a => a ≠ (L.getD k f0).i ∧ KI a) RI (fun a => a ≠ (L.getD k f0).o ∧ KO a) RO (.int .i64 0) w) := by
  have Hp := Lib.hid (place_at S g M last L mi mo u KI RI KO RO w h id k 0 hn (by rw [he]; rfl))
  have Hd := Lib.hid (fun W (hb : Below w.heap.size w W) => drop_any S g M last L mi mo k u KI RI KO RO W (h.below hb) (atF_some he).1 hn)
  clear h he
  go_enter Try.func20, Try.ntmps20
  go_wp2_with fail
  refine Hp.out.mono ?_
  rintro e w1 ⟨rfl, hb⟩
  have Hb := Lib.hid hb
  have Hd1 := Lib.hid (Hd.out w1 hb)
  clear hb
  go_wp2_with fail
  refine Hd1.out.mono ?_
  rintro e w3 ⟨rfl, S3, u3, hM, hB, hS⟩
  have HF := Lib.hid (show DropsM S g M last (L.eraseIdx k) mi mo (fun a => a ≠ (L.getD k f0).i ∧ KI a) RI (fun a => a ≠ (L.getD k f0).o ∧ KO a) RO (.int .i64 0) w (.returned (.int .i64 0)) w3 from
    ⟨rfl, S3, u3, hM, (But.of Hb.out).trans hB, fun b hb => by
      have := Hb.out.size
      rcases hS b hb with e | e
      · exact .inl e
      · exact .inr (by omega)⟩)
  clear hM hB hS
  go_wp2_with fail
  go_ret
  exact HF.out
theorem ready_some (id : Int) (k : Nat) (hn : L.length ≤ 1000000) (he : atF id L = some k) : Calls Try.prog 18 #[.pointer (some ⟨g, 0, none⟩), .int .u64 id] w
    (DropsM S g M last (readyF k L) mi mo KI RI KO RO (.int .i64 0) w) := by
  have Hp := Lib.hid (place_at S g M last L mi mo u KI RI KO RO w h id k 0 hn (by rw [he]; rfl))
  have hk := (atF_some he).1
  obtain ⟨A, c, rfl⟩ := h.row.form
  obtain ⟨gu, o, rfl, hidx, -, -⟩ := fl_index_t h.row rfl hk
  obtain ⟨p, ep⟩ : ∃ p, o + k * 12 = p := ⟨_, rfl⟩
  rw [ep] at hidx
  have Hx := Lib.hid (fun W (hb : Below w.heap.size w W) => show (W.cell? ⟨g, 5, none⟩ = some (.slice (some ⟨gu, o, none⟩) L.length c) ∧ W.cell? ⟨gu, p + 11, none⟩ = some (.bool (L.getD k f0).em) ∧ W.frozen? ⟨gu, p + 11, none⟩ = false) ∧
      DropsM S g M last (readyF k L) mi mo KI RI KO RO (.int .i64 0) w (.returned (.int .i64 0)) (W.setCell ⟨gu, p + 11, none⟩ (.bool false)) from by
    have hW := h.below hb
    have hr : RowV W 51 12 gu o L.length (flatF L) c := by
      rcases hW.row with ⟨e, _⟩ | ⟨g', o', c', e, hr⟩
      · cases e
      · injection e with e1 _ e3
        injection e1 with e1
        injection e1 with e1 e2
        subst e1; subst e2; subst e3
        exact hr
    have hfl := hr.fl rfl hk
    rw [ep] at hfl
    obtain ⟨r1, r2⟩ := hr.ready (w' := W.setCell ⟨gu, p + 11, none⟩ (.bool false)) rfl hk ep rfl
    have hl : (readyF k L).length = L.length := by unfold readyF; rw [List.length_set]
    refine ⟨⟨hW.k5, hfl.cb, hr.free _⟩, rfl, S, _, hW.relist (r2.mono (fun k _ e => by rw [e]; rfl)) (.inr ⟨gu, o, c, by rw [hl], by rw [hl]; exact r1⟩), (But.of hb).trans (r2.mono (fun k _ e => e ▸ h.su gu rfl)), fun b hb => .inl hb⟩)
  obtain ⟨em, eem⟩ : ∃ em, (L.getD k f0).em = em := ⟨_, rfl⟩
  rw [eem] at Hx
  have i0 : (0 : Int) ≤ (k : Int) := by omega
  have i1 : (k : Int) < (L.length : Int) := by omega
  clear h he eem ep
  go_enter Try.func18, Try.ntmps18
  go_wp2_with fail
  refine Hp.out.mono ?_
  rintro e w1 ⟨rfl, hb⟩
  obtain ⟨⟨q1, q2, q3⟩, q4⟩ := Hx.out w1 hb
  have HF := Lib.hid q4
  clear hb q4
  go_wp2_with fail
  go_ret
  exact HF.out
set_option maxHeartbeats 2000000 in
theorem touch_some (id : Int) (k : Nat) (hn : L.length ≤ 1000000) (he : atF id L = some k) : Calls Try.prog 11 #[.pointer (some ⟨g, 0, none⟩), .int .u64 id] w
    (DropsM S g M last (touchF k L) mi mo KI RI KO RO (.int .i64 0) w) := by
  have Hp := Lib.hid (place_at S g M last L mi mo u KI RI KO RO w h id k 0 hn (by rw [he]; rfl))
  have hk := (atF_some he).1
  obtain ⟨A, c, rfl⟩ := h.row.form
  obtain ⟨gu, o, rfl, hidx, -, -⟩ := fl_index_t h.row rfl hk
  obtain ⟨p, ep⟩ : ∃ p, o + k * 12 = p := ⟨_, rfl⟩
  rw [ep] at hidx
  obtain ⟨f, ef⟩ : ∃ f, L.getD k f0 = f := ⟨_, rfl⟩
  obtain ⟨n, en⟩ : ∃ n, L.length = n := ⟨_, rfl⟩
  rw [en] at hidx hk hn
  have Hw := Lib.hid (fun W (hb : Below w.heap.size w W) => h.below hb)
  have Hrow := Lib.hid (fun W (hW : TMem W S g M last L mi mo (.slice (some ⟨gu, o, none⟩) L.length c) KI RI KO RO) => show RowV W 51 12 gu o n (flatF L) c from by
    rcases hW.row with ⟨e, _⟩ | ⟨g', o', c', e, hr⟩
    · cases e
    · injection e with e1 _ e3
      injection e1 with e1
      injection e1 with e1 e2
      subst e1; subst e2; subst e3
      rw [en] at hr
      exact hr)
  have i0 : (0 : Int) ≤ (k : Int) := by omega
  have i1 : (k : Int) < (n : Int) := by omega
  have hwr : IntKind.i64.wrap ((k : Int) + 1) = (k : Int) + 1 := by rw [IntKind.wrap_i64]; omega
  have Hlt := Lib.hid h.lt
  have Hef := Lib.hid ef
  have Hen := Lib.hid en
  have Hep := Lib.hid ep
  have Hn := Lib.hid hn
  have Hk := Lib.hid hk
  clear h he ef en ep
  go_enter Try.func11, Try.ntmps11
  go_wp2_with fail
  refine Hp.out.mono ?_
  rintro e w1 ⟨rfl, hb⟩
  have h1 := Hw.out w1 hb
  have k5 := h1.k5
  rw [Hen.out] at k5
  have hr1 := Hrow.out w1 h1
  have hfl := hr1.fl Hen.out hk
  rw [Hep.out, Hef.out] at hfl
  obtain ⟨c0, c1, c2, c3, c4, c5, c6, c7, c8, c9, ca, cb⟩ := hfl
  obtain ⟨wz, ewz⟩ : ∃ wz, w1.alloc (.cells #[.int .u64 f.id, .int .u8 f.i.pr, .int .u32 f.i.sr, .int .u32 f.i.ds, .int .u16 f.i.sp, .int .u16 f.i.dp, .int .u8 f.o.pr, .int .u32 f.o.sr, .int .u32 f.o.ds, .int .u16 f.o.sp, .int .u16 f.o.dp, .bool f.em] 51) = wz := ⟨_, rfl⟩
  obtain ⟨z, hz⟩ : ∃ z, w1.heap.size = z := ⟨_, rfl⟩
  have hbz : Below w1.heap.size w1 wz := by rw [← ewz]; exact (Below.refl _ _).alloc (Nat.le_refl _) _
  have hkz : wz.heap[z]? = some (.cells (flV f).toArray 51 (0, 0)) := by rw [← ewz, ← hz]; exact heap_alloc_new w1 _
  have Hz := Lib.hid hz
  have Ewz := Lib.hid ewz
  have Hbz := Lib.hid (below_trans hb hbz)
  have Hkz := Lib.hid hkz
  have Hsz := Lib.hid hb.size
  clear hb hbz hkz ewz hz h1 hr1
  go_upto_region 5 with (fail)
  rw [Ewz.out]
  try rw [Hz.out]
  clear k5 c0 c1 c2 c3 c4 c5 c6 c7 c8 c9 ca cb hidx
  -- the drawn region
  obtain ⟨wd, ewd⟩ : ∃ wd, wz.drew = wd := ⟨_, rfl⟩
  have hbd : Below w.heap.size w wd := by rw [← ewd]; exact Hbz.out.drew
  have hd := Hw.out wd hbd
  have hkd : wd.heap[z]? = some (.cells (flV f).toArray 51 (0, 0)) := by rw [← ewd]; exact Hkz.out
  have hzl : ∀ b, S b → b < z := fun b hb => by have := Hlt.out b hb; have := Hsz.out; have h3 := Hz.out; omega
  have hgu : (Value.slice (some ⟨gu, o, none⟩) L.length c).ownBlock = some gu := rfl
  have HBut := Lib.hid (show ∀ wx, But (fun b => b = gu) wd wx → (wx.heap[z]? = some (.cells (flV f).toArray 51 (0, 0)) ∧ (wx.cell? ⟨g, 5, none⟩ = some (.slice (some ⟨gu, o, none⟩) n c) ∧
      (wx.cell? ⟨z, 0, none⟩ = some (.int .u64 f.id) ∧ wx.cell? ⟨z, 1, none⟩ = some (.int .u8 f.i.pr) ∧ wx.cell? ⟨z, 2, none⟩ = some (.int .u32 f.i.sr) ∧ wx.cell? ⟨z, 3, none⟩ = some (.int .u32 f.i.ds) ∧ wx.cell? ⟨z, 4, none⟩ = some (.int .u16 f.i.sp) ∧ wx.cell? ⟨z, 5, none⟩ = some (.int .u16 f.i.dp) ∧
        wx.cell? ⟨z, 6, none⟩ = some (.int .u8 f.o.pr) ∧ wx.cell? ⟨z, 7, none⟩ = some (.int .u32 f.o.sr) ∧ wx.cell? ⟨z, 8, none⟩ = some (.int .u32 f.o.ds) ∧ wx.cell? ⟨z, 9, none⟩ = some (.int .u16 f.o.sp) ∧ wx.cell? ⟨z, 10, none⟩ = some (.int .u16 f.o.dp) ∧ wx.cell? ⟨z, 11, none⟩ = some (.bool f.em)))) from fun wx hB => by
    have hk := hB.blk hkd (fun e => by have := hzl gu (hd.su gu rfl); omega)
    have h5 : wx.cell? ⟨g, 5, none⟩ = some (.slice (some ⟨gu, o, none⟩) n c) := by
      have := hd.k5
      rw [Hen.out] at this
      exact (hB.cell (p := ⟨g, 5, none⟩) (hd.lt g hd.sg) (fun e => hd.gu rfl e)).trans this
    exact ⟨hk, h5, blk_cell hk 0, blk_cell hk 1, blk_cell hk 2, blk_cell hk 3, blk_cell hk 4, blk_cell hk 5, blk_cell hk 6, blk_cell hk 7, blk_cell hk 8, blk_cell hk 9, blk_cell hk 10, blk_cell hk 11⟩)
  have HEnd := Lib.hid (fun (wx w4 : World) (A3 : Option Addr) (c3 : Nat) (A4 : Option Addr) (c4 : Nat) (hBx : But (fun b => b = gu) wd wx) (hox : ∀ b, (Value.slice A3 (L.eraseIdx k).length c3).ownBlock = some b → b = gu ∨ wd.heap.size ≤ b)
      (hs4 : SlV w4 51 12 (.slice A4 ((L.eraseIdx k).length + 1) c4) ((L.eraseIdx k).length + 1) (flatF (L.eraseIdx k ++ [f]))) (hB4 : But (fun b => (Value.slice A3 (L.eraseIdx k).length c3).ownBlock = some b) wx w4)
      (ho4 : (Value.slice A4 ((L.eraseIdx k).length + 1) c4).ownBlock = (Value.slice A3 (L.eraseIdx k).length c3).ownBlock ∨ (Value.slice A4 ((L.eraseIdx k).length + 1) c4).ownBlock = some wx.heap.size) (_ : wx.heap[z]? = some (.cells (flV f).toArray 51 (0, 0))) =>
    show (w4.cell? ⟨g, 5, none⟩ = some (.slice (some ⟨gu, o, none⟩) n c) ∧ (w4.cell? ⟨z, 0, none⟩ = some (.int .u64 f.id) ∧ w4.cell? ⟨z, 1, none⟩ = some (.int .u8 f.i.pr) ∧ w4.cell? ⟨z, 2, none⟩ = some (.int .u32 f.i.sr) ∧ w4.cell? ⟨z, 3, none⟩ = some (.int .u32 f.i.ds) ∧ w4.cell? ⟨z, 4, none⟩ = some (.int .u16 f.i.sp) ∧ w4.cell? ⟨z, 5, none⟩ = some (.int .u16 f.i.dp) ∧
        w4.cell? ⟨z, 6, none⟩ = some (.int .u8 f.o.pr) ∧ w4.cell? ⟨z, 7, none⟩ = some (.int .u32 f.o.sr) ∧ w4.cell? ⟨z, 8, none⟩ = some (.int .u32 f.o.ds) ∧ w4.cell? ⟨z, 9, none⟩ = some (.int .u16 f.o.sp) ∧ w4.cell? ⟨z, 10, none⟩ = some (.int .u16 f.o.dp) ∧ w4.cell? ⟨z, 11, none⟩ = some (.bool f.em))) ∧
      w4.frozen? ⟨g, 5, none⟩ = false ∧ DropsM S g M last (touchF k L) mi mo KI RI KO RO (.int .i64 0) w (.returned (.int .i64 0)) (w4.setCell ⟨g, 5, none⟩ (.slice A4 ((L.eraseIdx k).length + 1) c4)) from by
    have hB : But (fun b => b = gu) wd w4 := hBx.trans2 hB4 (fun b hb e => by
      rcases hox b e with h1 | h1
      · exact h1
      · omega)
    have hlen : (touchF k L).length = (L.eraseIdx k).length + 1 := by unfold touchF; simp
    have htf : touchF k L = L.eraseIdx k ++ [f] := by unfold touchF; rw [Hef.out]
    have ho : ∀ b, (Value.slice A4 ((L.eraseIdx k).length + 1) c4).ownBlock = some b → (Value.slice (some ⟨gu, o, none⟩) L.length c).ownBlock = some b ∨ wd.heap.size ≤ b := fun b hb => by
      rcases ho4 with e | e
      · rw [e] at hb
        rcases hox b hb with h1 | h1
        · exact .inl (by rw [h1]; rfl)
        · exact .inr h1
      · rw [e] at hb
        injection hb with hb
        have := hBx.size
        exact .inr (by omega)
    obtain ⟨r1, r2, r3, r4, r5⟩ := hd.lay (hB.mono (S' := fun b => (Value.slice (some ⟨gu, o, none⟩) L.length c).ownBlock = some b) (fun b _ e => by rw [e]; rfl)) (u' := .slice A4 ((L.eraseIdx k).length + 1) c4) (L' := touchF k L) (by rw [hlen, htf]; exact hs4) ho
    refine ⟨(HBut.out w4 hB).2, r4, rfl, _, _, r1, (But.of hbd).trans r2, fun b hb => ?_⟩
    rcases r3 b hb with e | e
    · exact .inl e
    · have := hbd.size; exact .inr (by omega))
  have HDel := Lib.hid (fun (W : World) (hW : Below wd.heap.size wd W) => del_anyF gu o c k n (n - k - 1) ((k : Int) + 1) L W ((Hrow.out wd hd).but (But.of (S := fun _ => False) hW) (fun x => x)) Hen.out (by have := Hn.out; omega) (by omega) (by omega))
  have Ewd := Lib.hid ewd
  refine wp_region_heldL (S := fun wx => wx.cell? ⟨g, 5, none⟩ = some (.slice (some ⟨gu, o, none⟩) n c) ∧
      (wx.cell? ⟨z, 0, none⟩ = some (.int .u64 f.id) ∧ wx.cell? ⟨z, 1, none⟩ = some (.int .u8 f.i.pr) ∧ wx.cell? ⟨z, 2, none⟩ = some (.int .u32 f.i.sr) ∧ wx.cell? ⟨z, 3, none⟩ = some (.int .u32 f.i.ds) ∧ wx.cell? ⟨z, 4, none⟩ = some (.int .u16 f.i.sp) ∧ wx.cell? ⟨z, 5, none⟩ = some (.int .u16 f.i.dp) ∧
        wx.cell? ⟨z, 6, none⟩ = some (.int .u8 f.o.pr) ∧ wx.cell? ⟨z, 7, none⟩ = some (.int .u32 f.o.sr) ∧ wx.cell? ⟨z, 8, none⟩ = some (.int .u32 f.o.ds) ∧ wx.cell? ⟨z, 9, none⟩ = some (.int .u16 f.o.sp) ∧ wx.cell? ⟨z, 10, none⟩ = some (.int .u16 f.o.dp) ∧ wx.cell? ⟨z, 11, none⟩ = some (.bool f.em))) 14 (by kernel_rfl) (by rw [Ewd.out]; exact (HBut.out wd (But.refl _ _)).2) (fun hHeld => ?_)
  rw [Ewd.out] at hHeld ⊢
  have hgo : But (fun k => (Value.slice (some ⟨gu, o, none⟩) n c).ownBlock = some k) wd wd := But.refl _ _
  clear hd hkd hbd ewd hgo
  refine anyHL_take (i := 0) (oi := { dst := some 24, op := Go.Op.move (Go.Operand.tmp 0), type := 23, pos := "table.go:84", after := #[], guard := none }) (v := ?_) rfl (by kernel_rfl) (by kernel_rfl) (by kernel_rfl) (by kernel_rfl) (fun _ _ _ h => h) (Or.inl ⟨by rfl, ?_⟩) (by assumption) ?_
  rotate_left 1
  · intro w' hSw; (go_simp <;> (with_reducible rfl))
  (try simp only [Act.put, List.setIfInBounds_toArray, List.set_cons_zero, List.set_cons_succ])
  refine anyHL_take (i := 1) (oi := { dst := some 25, op := Go.Op.move (Go.Operand.tmp 0), type := 23, pos := "table.go:84", after := #[], guard := none }) (v := ?_) rfl (by kernel_rfl) (by kernel_rfl) (by kernel_rfl) (by kernel_rfl) (fun _ _ _ h => h) (Or.inl ⟨by rfl, ?_⟩) (by assumption) ?_
  rotate_left 1
  · intro w' hSw; (go_simp <;> (with_reducible rfl))
  (try simp only [Act.put, List.setIfInBounds_toArray, List.set_cons_zero, List.set_cons_succ])
  refine anyHL_take (i := 2) (oi := { dst := some 26, op := Go.Op.nilCheck (Go.Operand.tmp 25), type := 0, pos := "table.go:84", after := #[{ on := 1, ground := Go.Ground.data }], guard := none }) (v := ?_) rfl (by kernel_rfl) (by kernel_rfl) (by kernel_rfl) (by kernel_rfl) (fun _ _ _ h => h) (Or.inl ⟨by rfl, ?_⟩) (by assumption) ?_
  rotate_left 1
  · intro w' hSw; (go_simp <;> (with_reducible rfl))
  (try simp only [Act.put, List.setIfInBounds_toArray, List.set_cons_zero, List.set_cons_succ])
  refine anyHL_take (i := 3) (oi := { dst := some 27, op := Go.Op.fieldAddr 72 (Go.Operand.tmp 26) 5, type := 0, pos := "table.go:84", after := #[{ on := 2, ground := Go.Ground.data }], guard := none }) (v := ?_) rfl (by kernel_rfl) (by kernel_rfl) (by kernel_rfl) (by kernel_rfl) (fun _ _ _ h => h) (Or.inl ⟨by rfl, ?_⟩) (by assumption) ?_
  rotate_left 1
  · intro w' hSw; (go_simp <;> (with_reducible rfl))
  (try simp only [Act.put, List.setIfInBounds_toArray, List.set_cons_zero, List.set_cons_succ])
  refine anyHL_take (i := 4) (oi := { dst := some 28, op := Go.Op.load 61 (Go.Operand.tmp 27), type := 61, pos := "table.go:84", after := #[{ on := 3, ground := Go.Ground.data }], guard := none }) (v := ?_) rfl (by kernel_rfl) (by kernel_rfl) (by kernel_rfl) (by kernel_rfl) (fun _ _ _ h => h) (Or.inl ⟨by rfl, ?_⟩) (by assumption) ?_
  rotate_left 1
  · intro w' hSw; (go_simp <;> (with_reducible rfl))
  (try simp only [Act.put, List.setIfInBounds_toArray, List.set_cons_zero, List.set_cons_succ])
  refine anyHL_take (i := 5) (oi := { dst := some 29, op := Go.Op.move (Go.Operand.tmp 5), type := 3, pos := "table.go:84", after := #[], guard := none }) (v := ?_) rfl (by kernel_rfl) (by kernel_rfl) (by kernel_rfl) (by kernel_rfl) (fun _ _ _ h => h) (Or.inl ⟨by rfl, ?_⟩) (by assumption) ?_
  rotate_left 1
  · intro w' hSw; (go_simp <;> (with_reducible rfl))
  (try simp only [Act.put, List.setIfInBounds_toArray, List.set_cons_zero, List.set_cons_succ])
  refine anyHL_take (i := 6) (oi := { dst := some 30, op := Go.Op.move (Go.Operand.tmp 5), type := 3, pos := "table.go:84", after := #[], guard := none }) (v := ?_) rfl (by kernel_rfl) (by kernel_rfl) (by kernel_rfl) (by kernel_rfl) (fun _ _ _ h => h) (Or.inl ⟨by rfl, ?_⟩) (by assumption) ?_
  rotate_left 1
  · intro w' hSw; (go_simp <;> (with_reducible rfl))
  (try simp only [Act.put, List.setIfInBounds_toArray, List.set_cons_zero, List.set_cons_succ])
  refine anyHL_take (i := 7) (oi := { dst := some 31, op := Go.Op.binOp Go.BinOp.add 3 (Go.Operand.tmp 30) (Go.Operand.const (Go.Value.int Go.IntKind.i64 1)) 3, type := 3, pos := "table.go:84", after := #[{ on := 6, ground := Go.Ground.data }], guard := none }) (v := ?_) rfl (by kernel_rfl) (by kernel_rfl) (by kernel_rfl) (by kernel_rfl) (fun _ _ _ h => h) (Or.inl ⟨by rfl, ?_⟩) (by assumption) ?_
  rotate_left 1
  · intro w' hSw; (go_simp <;> (with_reducible rfl))
  (try simp only [Act.put, List.setIfInBounds_toArray, List.set_cons_zero, List.set_cons_succ])
  refine anyHL_take (i := 9) (oi := { dst := some 33, op := Go.Op.load 51 (Go.Operand.tmp 7), type := 51, pos := "table.go:84", after := #[], guard := none }) (v := ?_) rfl (by kernel_rfl) (by kernel_rfl) (by kernel_rfl) (by kernel_rfl) (fun _ _ _ h => h) (Or.inl ⟨by rfl, ?_⟩) (by assumption) ?_
  rotate_left 1
  · intro w' hSw; (go_simp <;> (with_reducible rfl))
  (try simp only [Act.put, List.setIfInBounds_toArray, List.set_cons_zero, List.set_cons_succ])
  refine anyHL_two (i := 8) (j := 10) (oi := { dst := some 32, op := Go.Op.call { callee := Go.Callee.value (Go.Operand.func 33), args := #[Go.Operand.tmp 28, Go.Operand.tmp 29, Go.Operand.tmp 31], argTypes := #[61, 3, 3] }, type := 61, pos := "table.go:84", after := #[{ on := 4, ground := Go.Ground.data }, { on := 5, ground := Go.Ground.data }, { on := 7, ground := Go.Ground.data }], guard := none }) (oj := { dst := some 34, op := Go.Op.buildSlice 61 1 #[(0, Go.Operand.tmp 33)], type := 61, pos := "table.go:84", after := #[{ on := 9, ground := Go.Ground.data }], guard := none }) (by kernel_rfl) rfl rfl (by kernel_rfl) (by kernel_rfl) (fun K hK => ?_) (fun K hK => ?_)
  · go_simp
    refine (HDel.out wd (Below.refl _ _)).mono ?_
    rintro e w3 ⟨A3, c3, rfl, hs3, hB3, ho3⟩
    have hB3' : But (fun b => b = gu) wd w3 := hB3.mono (fun b _ e => by injection e with e; exact e.symm)
    refine hK.out _ _ ?_ (fun hHeld => ?_)
    · exact (HBut.out w3 hB3').2
    clear hK K
    (try simp only [Act.put, List.setIfInBounds_toArray, List.set_cons_zero, List.set_cons_succ])
    refine anyHL_one (i := 10) (o := { dst := some 34, op := Go.Op.buildSlice 61 1 #[(0, Go.Operand.tmp 33)], type := 61, pos := "table.go:84", after := #[{ on := 9, ground := Go.Ground.data }], guard := none }) (by kernel_rfl) rfl (by kernel_rfl) (fun K hK => ?_)
    go_simp
    obtain ⟨wx, ewx⟩ : ∃ wx, w3.alloc (.cells #[.int .u64 f.id, .int .u8 f.i.pr, .int .u32 f.i.sr, .int .u32 f.i.ds, .int .u16 f.i.sp, .int .u16 f.i.dp, .int .u8 f.o.pr, .int .u32 f.o.sr, .int .u32 f.o.ds, .int .u16 f.o.sp, .int .u16 f.o.dp, .bool f.em] 51) = wx := ⟨_, rfl⟩
    obtain ⟨q, eq⟩ : ∃ q, w3.heap.size = q := ⟨_, rfl⟩
    have hba : But (fun _ => False) w3 wx := by rw [← ewx]; exact (But.refl (fun _ => False) w3).alloc _
    have HBx := Lib.hid (hB3'.trans (hba.mono (fun _ _ h => h.elim)))
    have Hsx := Lib.hid (hs3.but hba (fun _ _ h => h))
    have Hox := Lib.hid (show ∀ b, (Value.slice A3 (L.eraseIdx k).length c3).ownBlock = some b → b = gu ∨ wd.heap.size ≤ b from fun b hb => by
      rcases ho3 b hb with e | e
      · injection e with e; exact .inl e.symm
      · exact .inr e)
    have Hlx := Lib.hid (show wx.heap[q]? = some (.cells (flV f).toArray 51 (0, 0)) by rw [← ewx, ← eq]; exact heap_alloc_new w3 _)
    have Hkx := Lib.hid (HBut.out wx HBx.out).1
    have HSx := Lib.hid (HBut.out wx HBx.out).2
    rw [ewx, eq]
    clear ewx eq hba hB3 hB3' ho3 hs3
    refine hK.out _ _ ?_ (fun hHeld => ?_)
    · exact HSx.out
    clear hK K
    (try simp only [Act.put, List.setIfInBounds_toArray, List.set_cons_zero, List.set_cons_succ])
    obtain ⟨A4, c4, w4, hr4, hs4, hB4, ho4⟩ := flow_app_t wx A3 (L.eraseIdx k).length c3 q (L.eraseIdx k) f Hsx.out Hlx.out (by rw [List.length_eraseIdx, Hen.out]; have := Hn.out; split <;> omega)
    obtain ⟨hS4, hf4, hF4⟩ := HEnd.out wx w4 A3 c3 A4 c4 HBx.out Hox.out hs4 hB4 ho4 Hkx.out
    have Hr4 := Lib.hid hr4
    have HS4 := Lib.hid hS4
    have HF4 := Lib.hid hF4
    have q5 := hS4.1
    clear hr4 hs4 hB4 ho4 hF4 hS4
    refine anyHL_one (i := 11) (o := { dst := some 35, op := Go.Op.call { callee := Go.Callee.builtin Go.Builtin.append, args := #[Go.Operand.tmp 32, Go.Operand.tmp 34], argTypes := #[61, 61] }, type := 61, pos := "table.go:84", after := #[{ on := 8, ground := Go.Ground.data }, { on := 10, ground := Go.Ground.data }, { on := 8, ground := Go.Ground.chain }], guard := none }) (by kernel_rfl) rfl (by kernel_rfl) (fun K hK => ?_)
    refine step_appX rfl (.tmp 32) (.tmp 34) _ _ rfl rfl _ _ _ w4 rfl rfl Hr4.out ?_
    refine hK.out _ _ ?_ (fun hHeld => ?_)
    · exact HS4.out
    clear hK K
    (try simp only [Act.put, List.setIfInBounds_toArray, List.set_cons_zero, List.set_cons_succ])
    refine anyHL_one (i := 12) (o := { dst := some 36, op := Go.Op.nilCheck (Go.Operand.tmp 24), type := 0, pos := "table.go:84", after := #[{ on := 0, ground := Go.Ground.data }, { on := 0, ground := Go.Ground.phase }, { on := 1, ground := Go.Ground.phase }, { on := 2, ground := Go.Ground.phase }, { on := 3, ground := Go.Ground.phase }, { on := 4, ground := Go.Ground.phase }, { on := 5, ground := Go.Ground.phase }, { on := 6, ground := Go.Ground.phase }, { on := 7, ground := Go.Ground.phase }, { on := 8, ground := Go.Ground.phase }, { on := 9, ground := Go.Ground.phase }, { on := 10, ground := Go.Ground.phase }, { on := 11, ground := Go.Ground.phase }], guard := none }) (by kernel_rfl) rfl (by kernel_rfl) (fun K hK => ?_)
    go_simp
    skip
    refine hK.out _ _ ?_ (fun hHeld => ?_)
    · exact HS4.out
    clear hK K
    (try simp only [Act.put, List.setIfInBounds_toArray, List.set_cons_zero, List.set_cons_succ])
    refine anyHL_take (i := 13) (oi := { dst := some 37, op := Go.Op.fieldAddr 72 (Go.Operand.tmp 36) 5, type := 0, pos := "table.go:84", after := #[{ on := 12, ground := Go.Ground.data }, { on := 0, ground := Go.Ground.phase }, { on := 1, ground := Go.Ground.phase }, { on := 2, ground := Go.Ground.phase }, { on := 3, ground := Go.Ground.phase }, { on := 4, ground := Go.Ground.phase }, { on := 5, ground := Go.Ground.phase }, { on := 6, ground := Go.Ground.phase }, { on := 7, ground := Go.Ground.phase }, { on := 8, ground := Go.Ground.phase }, { on := 9, ground := Go.Ground.phase }, { on := 10, ground := Go.Ground.phase }, { on := 11, ground := Go.Ground.phase }], guard := none }) (v := ?_) rfl (by kernel_rfl) (by kernel_rfl) (by kernel_rfl) (by kernel_rfl) (fun _ _ _ h => h) (Or.inl ⟨by rfl, ?_⟩) (by assumption) ?_
    rotate_left 1
    · intro w' hSw; (go_simp <;> (with_reducible rfl))
    (try simp only [Act.put, List.setIfInBounds_toArray, List.set_cons_zero, List.set_cons_succ])
    refine anyHL_last (o := { dst := none, op := Go.Op.store 61 (Go.Operand.tmp 37) (Go.Operand.tmp 35), type := 0, pos := "table.go:84", after := #[{ on := 13, ground := Go.Ground.data }, { on := 11, ground := Go.Ground.data }, { on := 11, ground := Go.Ground.chain }, { on := 0, ground := Go.Ground.phase }, { on := 1, ground := Go.Ground.phase }, { on := 2, ground := Go.Ground.phase }, { on := 3, ground := Go.Ground.phase }, { on := 4, ground := Go.Ground.phase }, { on := 5, ground := Go.Ground.phase }, { on := 6, ground := Go.Ground.phase }, { on := 7, ground := Go.Ground.phase }, { on := 8, ground := Go.Ground.phase }, { on := 9, ground := Go.Ground.phase }, { on := 10, ground := Go.Ground.phase }, { on := 11, ground := Go.Ground.phase }], guard := none }) (by kernel_rfl) rfl (by kernel_rfl) (fun K hK => ?_)
    go_simp
    skip
    refine hK.out _ _ ?_
    clear hK K
    (try simp only [Act.put, List.setIfInBounds_toArray, List.set_cons_zero, List.set_cons_succ])
    go_wp2_with fail
    go_ret
    exact HF4.out
  · go_simp
    obtain ⟨wl, ewl⟩ : ∃ wl, wd.alloc (.cells #[.int .u64 f.id, .int .u8 f.i.pr, .int .u32 f.i.sr, .int .u32 f.i.ds, .int .u16 f.i.sp, .int .u16 f.i.dp, .int .u8 f.o.pr, .int .u32 f.o.sr, .int .u32 f.o.ds, .int .u16 f.o.sp, .int .u16 f.o.dp, .bool f.em] 51) = wl := ⟨_, rfl⟩
    obtain ⟨q, eq⟩ : ∃ q, wd.heap.size = q := ⟨_, rfl⟩
    have hba : Below wd.heap.size wd wl := by rw [← ewl]; exact (Below.refl _ _).alloc (Nat.le_refl _) _
    have hlx : wl.heap[q]? = some (.cells (flV f).toArray 51 (0, 0)) := by rw [← ewl, ← eq]; exact heap_alloc_new wd _
    have Hlx := Lib.hid hlx
    have Hq := Lib.hid eq
    have Hba := Lib.hid hba
    rw [ewl, eq]
    clear ewl eq hba hlx
    refine hK.out _ _ ?_ (fun hHeld => ?_)
    · exact (HBut.out wl (But.of Hba.out)).2
    clear hK K
    (try simp only [Act.put, List.setIfInBounds_toArray, List.set_cons_zero, List.set_cons_succ])
    refine anyHL_one (i := 8) (o := { dst := some 32, op := Go.Op.call { callee := Go.Callee.value (Go.Operand.func 33), args := #[Go.Operand.tmp 28, Go.Operand.tmp 29, Go.Operand.tmp 31], argTypes := #[61, 3, 3] }, type := 61, pos := "table.go:84", after := #[{ on := 4, ground := Go.Ground.data }, { on := 5, ground := Go.Ground.data }, { on := 7, ground := Go.Ground.data }], guard := none }) (by kernel_rfl) rfl (by kernel_rfl) (fun K hK => ?_)
    go_simp
    refine (HDel.out wl Hba.out).mono ?_
    rintro e wx ⟨A3, c3, rfl, hs3, hB3, ho3⟩
    have hB3' : But (fun b => b = gu) wl wx := hB3.mono (fun b _ e => by injection e with e; exact e.symm)
    have HBx := Lib.hid ((But.of Hba.out).trans hB3')
    have Hsx := Lib.hid hs3
    have hqs := lt_of_block Hlx.out
    have hguz : gu < wd.heap.size := lt_of_block ((Hrow.out wd (Hw.out wd (by rw [← Ewd.out]; exact Hbz.out.drew))).flsize Hen.out).choose_spec.1
    have Hox := Lib.hid (show ∀ b, (Value.slice A3 (L.eraseIdx k).length c3).ownBlock = some b → b = gu ∨ wd.heap.size ≤ b from fun b hb => by
      rcases ho3 b hb with e | e
      · injection e with e; exact .inl e.symm
      · have := Hba.out.size; exact .inr (by omega))
    have Hlx := Lib.hid (hB3'.blk Hlx.out (fun e => by have := Hq.out; omega))
    have Hkx := Lib.hid (HBut.out wx HBx.out).1
    have HSx := Lib.hid (HBut.out wx HBx.out).2
    clear hB3 hB3' ho3 hs3 hqs hguz
    refine hK.out _ _ ?_ (fun hHeld => ?_)
    · exact HSx.out
    clear hK K
    (try simp only [Act.put, List.setIfInBounds_toArray, List.set_cons_zero, List.set_cons_succ])
    obtain ⟨A4, c4, w4, hr4, hs4, hB4, ho4⟩ := flow_app_t wx A3 (L.eraseIdx k).length c3 q (L.eraseIdx k) f Hsx.out Hlx.out (by rw [List.length_eraseIdx, Hen.out]; have := Hn.out; split <;> omega)
    obtain ⟨hS4, hf4, hF4⟩ := HEnd.out wx w4 A3 c3 A4 c4 HBx.out Hox.out hs4 hB4 ho4 Hkx.out
    have Hr4 := Lib.hid hr4
    have HS4 := Lib.hid hS4
    have HF4 := Lib.hid hF4
    have q5 := hS4.1
    clear hr4 hs4 hB4 ho4 hF4 hS4
    refine anyHL_one (i := 11) (o := { dst := some 35, op := Go.Op.call { callee := Go.Callee.builtin Go.Builtin.append, args := #[Go.Operand.tmp 32, Go.Operand.tmp 34], argTypes := #[61, 61] }, type := 61, pos := "table.go:84", after := #[{ on := 8, ground := Go.Ground.data }, { on := 10, ground := Go.Ground.data }, { on := 8, ground := Go.Ground.chain }], guard := none }) (by kernel_rfl) rfl (by kernel_rfl) (fun K hK => ?_)
    refine step_appX rfl (.tmp 32) (.tmp 34) _ _ rfl rfl _ _ _ w4 rfl rfl Hr4.out ?_
    refine hK.out _ _ ?_ (fun hHeld => ?_)
    · exact HS4.out
    clear hK K
    (try simp only [Act.put, List.setIfInBounds_toArray, List.set_cons_zero, List.set_cons_succ])
    refine anyHL_one (i := 12) (o := { dst := some 36, op := Go.Op.nilCheck (Go.Operand.tmp 24), type := 0, pos := "table.go:84", after := #[{ on := 0, ground := Go.Ground.data }, { on := 0, ground := Go.Ground.phase }, { on := 1, ground := Go.Ground.phase }, { on := 2, ground := Go.Ground.phase }, { on := 3, ground := Go.Ground.phase }, { on := 4, ground := Go.Ground.phase }, { on := 5, ground := Go.Ground.phase }, { on := 6, ground := Go.Ground.phase }, { on := 7, ground := Go.Ground.phase }, { on := 8, ground := Go.Ground.phase }, { on := 9, ground := Go.Ground.phase }, { on := 10, ground := Go.Ground.phase }, { on := 11, ground := Go.Ground.phase }], guard := none }) (by kernel_rfl) rfl (by kernel_rfl) (fun K hK => ?_)
    go_simp
    skip
    refine hK.out _ _ ?_ (fun hHeld => ?_)
    · exact HS4.out
    clear hK K
    (try simp only [Act.put, List.setIfInBounds_toArray, List.set_cons_zero, List.set_cons_succ])
    refine anyHL_take (i := 13) (oi := { dst := some 37, op := Go.Op.fieldAddr 72 (Go.Operand.tmp 36) 5, type := 0, pos := "table.go:84", after := #[{ on := 12, ground := Go.Ground.data }, { on := 0, ground := Go.Ground.phase }, { on := 1, ground := Go.Ground.phase }, { on := 2, ground := Go.Ground.phase }, { on := 3, ground := Go.Ground.phase }, { on := 4, ground := Go.Ground.phase }, { on := 5, ground := Go.Ground.phase }, { on := 6, ground := Go.Ground.phase }, { on := 7, ground := Go.Ground.phase }, { on := 8, ground := Go.Ground.phase }, { on := 9, ground := Go.Ground.phase }, { on := 10, ground := Go.Ground.phase }, { on := 11, ground := Go.Ground.phase }], guard := none }) (v := ?_) rfl (by kernel_rfl) (by kernel_rfl) (by kernel_rfl) (by kernel_rfl) (fun _ _ _ h => h) (Or.inl ⟨by rfl, ?_⟩) (by assumption) ?_
    rotate_left 1
    · intro w' hSw; (go_simp <;> (with_reducible rfl))
    (try simp only [Act.put, List.setIfInBounds_toArray, List.set_cons_zero, List.set_cons_succ])
    refine anyHL_last (o := { dst := none, op := Go.Op.store 61 (Go.Operand.tmp 37) (Go.Operand.tmp 35), type := 0, pos := "table.go:84", after := #[{ on := 13, ground := Go.Ground.data }, { on := 11, ground := Go.Ground.data }, { on := 11, ground := Go.Ground.chain }, { on := 0, ground := Go.Ground.phase }, { on := 1, ground := Go.Ground.phase }, { on := 2, ground := Go.Ground.phase }, { on := 3, ground := Go.Ground.phase }, { on := 4, ground := Go.Ground.phase }, { on := 5, ground := Go.Ground.phase }, { on := 6, ground := Go.Ground.phase }, { on := 7, ground := Go.Ground.phase }, { on := 8, ground := Go.Ground.phase }, { on := 9, ground := Go.Ground.phase }, { on := 10, ground := Go.Ground.phase }, { on := 11, ground := Go.Ground.phase }], guard := none }) (by kernel_rfl) rfl (by kernel_rfl) (fun K hK => ?_)
    go_simp
    skip
    refine hK.out _ _ ?_
    clear hK K
    (try simp only [Act.put, List.setIfInBounds_toArray, List.set_cons_zero, List.set_cons_succ])
    go_wp2_with fail
    go_ret
    exact HF4.out
end
end Go.Proofs.Ytnhlbohdlnjaaaa
