/-
  The contracts of package table's New, Flow, All, Copy, over a table in memory.
-/
import Derived.Test.YtnhlbohdlnjaaaaTbRead
import Derived.Test.YtnhlbohdlnjaaaaFlClone
import Derived.Test.YtnhlbohdlnjaaaaTbClone
import Derived.Test.YtnhlbohdlnjaaaaWhole
namespace Go.Proofs.Ytnhlbohdlnjaaaa
set_option maxRecDepth 10000
open Go.RowKit
set_option linter.unusedSimpArgs false
set_option linter.unusedVariables false

def NewsM (M : Int) (w : World) (e : Ending) (w' : World) : Prop := ∃ g mi mo S, e = .returned (.tuple #[.pointer (some ⟨g, 0, none⟩), .int .i64 0]) ∧ TMem w' S g M 0 [] mi mo (.slice none 0 0) (fun _ => False) (fun _ => .int .u64 0) (fun _ => False) (fun _ => .int .u64 0) ∧ Below w.heap.size w w' ∧ ∀ k, S k → w.heap.size ≤ k
theorem new_bad (M : Int) (w : World) (h : M < 1 ∨ 1024 < M) : Calls Try.prog 8 #[.int .i64 M] w (JustIs (.tuple #[.pointer none, .int .i64 1]) w) := by
  by_cases h1 : M < 1
  · go_enter Try.func8, Try.ntmps8
    go_wp2_with fail
    go_ret2
    exact ⟨rfl, rfl⟩
  · have h2 : 1024 < M := by omega
    go_enter Try.func8, Try.ntmps8
    go_wp2_with fail
    go_ret2
    exact ⟨rfl, rfl⟩
theorem new_mem (M : Int) (w : World) (h : 1 ≤ M ∧ M ≤ 1024) : Calls Try.prog 8 #[.int .i64 M] w (NewsM M w) := by
  have hm1 := run_makeMap_plain (P := Try.prog) w 70
  obtain ⟨m, em⟩ : ∃ m, w.heap.size = m := ⟨_, rfl⟩
  obtain ⟨w1, ew1⟩ : ∃ w1, w.alloc (.map #[] 0) = w1 := ⟨_, rfl⟩
  have hm2 := run_makeMap_plain (P := Try.prog) w1 70
  obtain ⟨w2, ew2⟩ : ∃ w2, w1.alloc (.map #[] 0) = w2 := ⟨_, rfl⟩
  have hs1 : w1.heap.size = m + 1 := by rw [← ew1]; simp [em]
  have hs2 : w2.heap.size = m + 2 := by rw [← ew2]; simp [hs1]
  have hB1 : Below w.heap.size w w1 := by rw [← ew1]; exact (Below.refl _ _).alloc (Nat.le_refl _) _
  have hB2 : Below w.heap.size w w2 := by rw [← ew2]; exact hB1.alloc hB1.size _
  have hM1 : MTP w1 m (fun _ => False) (fun _ => .int .u64 0) := by rw [← ew1]; exact MTP.made w _ m em
  have hM2 : MTP w2 (m + 1) (fun _ => False) (fun _ => .int .u64 0) := by rw [← ew2]; exact MTP.made w1 _ (m + 1) hs1
  have hB12 : But (fun _ => False) w1 w2 := by rw [← ew2]; exact (But.refl (fun _ => False) w1).alloc _
  have hM12 := hM1.but hB12 (fun h => h)
  obtain ⟨w3, ew3⟩ : ∃ w3, w2.alloc (.cells #[.pointer none, .int .i64 M, .int .u64 0, .map (some m), .map (some (m + 1)), .slice none 0 0] 72) = w3 := ⟨_, rfl⟩
  have hk3 : w3.heap[m + 2]? = some (.cells #[.pointer none, .int .i64 M, .int .u64 0, .map (some m), .map (some (m + 1)), .slice none 0 0] 72 (0, 0)) := by rw [← ew3, ← hs2]; exact heap_alloc_new w2 _
  have hB3 : But (fun _ => False) w2 w3 := by rw [← ew3]; exact (But.refl (fun _ => False) w2).alloc _
  obtain ⟨w4, ew4⟩ : ∃ w4, w3.setCell ⟨m + 2, 0, none⟩ (.pointer (some ⟨m + 2, 0, none⟩)) = w4 := ⟨_, rfl⟩
  have hk4 : w4.heap[m + 2]? = some (.cells #[.pointer (some ⟨m + 2, 0, none⟩), .int .i64 M, .int .u64 0, .map (some m), .map (some (m + 1)), .slice none 0 0] 72 (0, 0)) := by
    have := heap_setCell_at hk3 0 (.pointer (some ⟨m + 2, 0, none⟩))
    rw [ew4] at this
    simpa using this
  have hB4 : But (fun k => k = m + 2) w3 w4 := by rw [← ew4]; exact (But.refl (fun k => k = m + 2) w3).setCell (p := ⟨m + 2, 0, none⟩) rfl _
  have hc0 : w3.cell? ⟨m + 2, 0, none⟩ = some (.pointer none) := blk_cell hk3 0
  have hf0 := blk_free hk3 0
  have HN := Lib.hid (show NewsM M w (.returned (.tuple #[.pointer (some ⟨m + 2, 0, none⟩), .int .i64 0])) w4 from by
    refine ⟨m + 2, m, m + 1, fun k => k = m ∨ k = m + 1 ∨ k = m + 2, rfl, ⟨hk4, (hM12.but hB3 (fun h => h)).but hB4 (by omega), (hM2.but hB3 (fun h => h)).but hB4 (by omega), .inl ⟨rfl, rfl, rfl⟩, by omega, .inr (.inr rfl), .inl rfl, .inr (.inl rfl), fun b hb => (by cases hb), fun k hk => ?_⟩, ?_, fun k hk => by omega⟩
    · have := lt_of_block hk4; omega
    · exact hB2.trans ((hB3.mono (S' := fun k => k = m + 2) (fun _ _ h => h.elim)).trans hB4 |>.below (fun k hk => by omega) (by omega)))
  have Ew3 := Lib.hid ew3
  have Ew4 := Lib.hid ew4
  have hl1 : ¬ M < 1 := by omega
  have hl2 : ¬ 1024 < M := by omega
  clear hB1 hB2 hM1 hM2 hB12 hM12 hk3 hB3 hk4 hB4 ew3 ew4 h
  go_enter Try.func8, Try.ntmps8
  go_upto_region 4 with (fail)
  rw [Ew3.out]
  go_upto_region 5 with (fail)
  rw [Ew4.out]
  go_wp2_with fail
  go_ret2
  exact HN.out
theorem set12_blk {w : World} {q : Nat} {C : Array Value} {t : TypeId} (h : w.heap[q]? = some (.cells C t (0, 0))) (hC : C.size = 12) (v0 v1 v2 v3 v4 v5 v6 v7 v8 v9 va vb : Value) :
    ((((((((((((w.setCell ⟨q, 0, none⟩ v0).setCell ⟨q, 1, none⟩ v1).setCell ⟨q, 2, none⟩ v2).setCell ⟨q, 3, none⟩ v3).setCell ⟨q, 4, none⟩ v4).setCell ⟨q, 5, none⟩ v5).setCell ⟨q, 6, none⟩ v6).setCell ⟨q, 7, none⟩ v7).setCell ⟨q, 8, none⟩ v8).setCell ⟨q, 9, none⟩ v9).setCell ⟨q, 10, none⟩ va).setCell ⟨q, 11, none⟩ vb).heap[q]? = some (.cells #[v0, v1, v2, v3, v4, v5, v6, v7, v8, v9, va, vb] t (0, 0)) := by
  obtain ⟨l⟩ := C
  match l, hC with
  | [c0, c1, c2, c3, c4, c5, c6, c7, c8, c9, ca, cb], _ => simp [World.setCell, Array.getElem?_modify, h]
theorem set12_below {B : Nat} {w0 w : World} {q : Nat} (h : Below B w0 w) (hq : B ≤ q) (v0 v1 v2 v3 v4 v5 v6 v7 v8 v9 va vb : Value) :
    Below B w0 ((((((((((((w.setCell ⟨q, 0, none⟩ v0).setCell ⟨q, 1, none⟩ v1).setCell ⟨q, 2, none⟩ v2).setCell ⟨q, 3, none⟩ v3).setCell ⟨q, 4, none⟩ v4).setCell ⟨q, 5, none⟩ v5).setCell ⟨q, 6, none⟩ v6).setCell ⟨q, 7, none⟩ v7).setCell ⟨q, 8, none⟩ v8).setCell ⟨q, 9, none⟩ v9).setCell ⟨q, 10, none⟩ va).setCell ⟨q, 11, none⟩ vb) :=
  ((((((((((((h.setCell (p := ⟨q, 0, none⟩) hq v0).setCell (p := ⟨q, 1, none⟩) hq v1).setCell (p := ⟨q, 2, none⟩) hq v2).setCell (p := ⟨q, 3, none⟩) hq v3).setCell (p := ⟨q, 4, none⟩) hq v4).setCell (p := ⟨q, 5, none⟩) hq v5).setCell (p := ⟨q, 6, none⟩) hq v6).setCell (p := ⟨q, 7, none⟩) hq v7).setCell (p := ⟨q, 8, none⟩) hq v8).setCell (p := ⟨q, 9, none⟩) hq v9).setCell (p := ⟨q, 10, none⟩) hq va).setCell (p := ⟨q, 11, none⟩) hq vb)
theorem fl_arr (f : Fl) : (flV f).toArray = #[.int .u64 f.id, .int .u8 f.i.pr, .int .u32 f.i.sr, .int .u32 f.i.ds, .int .u16 f.i.sp, .int .u16 f.i.dp, .int .u8 f.o.pr, .int .u32 f.o.sr, .int .u32 f.o.ds, .int .u16 f.o.sp, .int .u16 f.o.dp, .bool f.em] := rfl
section
variable (S : Nat → Prop) (g : Nat) (M last : Int) (L : TL) (mi mo : Nat) (u : Value) (KI : Tu → Prop) (RI : Tu → Value) (KO : Tu → Prop) (RO : Tu → Value) (w : World) (h : TMem w S g M last L mi mo u KI RI KO RO)
include h
theorem all_at (hn : L.length ≤ 1000000) : Calls Try.prog 30 #[.pointer (some ⟨g, 0, none⟩)] w (CloneIsF L w) := by
  have Hno := Lib.hid (tnone_no g w h.k0)
  obtain ⟨A, c, ev⟩ := h.row.form
  have k5 := h.k5
  have hr := h.row
  rw [ev] at k5 hr
  have Hc := Lib.hid (clone_anyF A L.length c L w hr rfl hn)
  obtain ⟨n, en⟩ : ∃ n, L.length = n := ⟨_, rfl⟩
  rw [en] at k5 Hc
  clear h ev hr en
  go_enter Try.func30, Try.ntmps30
  go_wp2_with fail
  refine Hno.out.mono ?_
  rintro e w1 ⟨rfl, rfl⟩
  go_wp2_with fail
  refine Hc.out.mono ?_
  rintro e w1 ⟨A1, c1, rfl, hs, ho, hb⟩
  have HF := Lib.hid (show CloneIsF L w (.returned (.slice A1 L.length c1)) w1 from ⟨A1, c1, rfl, hs, ho, hb⟩)
  clear hs ho hb
  go_wp2_with fail
  go_ret
  exact HF.out
set_option maxHeartbeats 1000000 in
theorem flow_at (id : Int) (f : Fl) (is_ : Bool) (hn : L.length ≤ 1000000) (hx : flowR id L = (f, is_)) :
    Calls Try.prog 27 #[.pointer (some ⟨g, 0, none⟩), .int .u64 id] w (TellsT (.tuple #[.agg (flV f).toArray, .bool is_]) w) := by
  obtain ⟨w0, ew⟩ : ∃ w0, w.alloc (.cells (flV f0).toArray 51) = w0 := ⟨_, rfl⟩
  obtain ⟨z, hz⟩ : ∃ z, w.heap.size = z := ⟨_, rfl⟩
  have hb0 : Below w.heap.size w w0 := by rw [← ew]; exact (Below.refl _ _).alloc (Nat.le_refl _) _
  have hk0 : w0.heap[z]? = some (.cells (flV f0).toArray 51 (0, 0)) := by rw [← ew, ← hz]; exact heap_alloc_new w _
  have ew' : w.alloc (.cells #[.int .u64 0, .int .u8 0, .int .u32 0, .int .u32 0, .int .u16 0, .int .u16 0, .int .u8 0, .int .u32 0, .int .u32 0, .int .u16 0, .int .u16 0, .bool false] 51) = w0 := ew
  have h0 := h.below hb0
  have Ew := Lib.hid ew'
  have Hz := Lib.hid hz
  have Hb0 := Lib.hid hb0
  have HK := Lib.hid (show ∀ W, Below w0.heap.size w0 W → W.heap[z]? = some (.cells (flV f0).toArray 51 (0, 0)) from fun W hb => blk_on hk0 hb)
  have Hw := Lib.hid (show ∀ W, Below w0.heap.size w0 W → TMem W S g M last L mi mo u KI RI KO RO from fun W hb => h0.below hb)
  unfold flowR at hx
  cases he : atF id L with
  | none =>
    rw [he] at hx
    simp only [Prod.mk.injEq] at hx
    obtain ⟨rfl, rfl⟩ := hx
    have Hp := Lib.hid (place_at S g M last L mi mo u KI RI KO RO w0 h0 id 0 6 hn (by rw [he]; rfl))
    clear h h0 hb0 hk0 ew ew' hz he
    go_enter Try.func27, Try.ntmps27
    go_upto_region 1 with (fail)
    rw [Ew.out]
    try rw [Hz.out]
    go_wp2_with fail
    refine Hp.out.mono ?_
    rintro e w1 ⟨rfl, hb⟩
    have Hb1 := Lib.hid hb
    have HK1 := Lib.hid (HK.out w1 hb)
    have e0 := fun i => blk_cell (HK.out w1 hb) i
    have fz := fun i => blk_free (HK.out w1 hb) i
    rw [fl_arr] at e0
    have d0 := e0 0
    have d1 := e0 1
    have d2 := e0 2
    have d3 := e0 3
    have d4 := e0 4
    have d5 := e0 5
    have d6 := e0 6
    have d7 := e0 7
    have d8 := e0 8
    have d9 := e0 9
    have da := e0 10
    have db := e0 11
    simp at d0 d1 d2 d3 d4 d5 d6 d7 d8 d9 da db
    clear hb e0
    go_wp2_with fail
    exact bodyPost_ret (v := .tuple #[.agg (flV f0).toArray, .bool false]) (results_row_tmp rfl _ _ z _ _ _ _ _ rfl rfl (set12_blk HK1.out rfl _ _ _ _ _ _ _ _ _ _ _ _) Try.underlying51 rfl (by kernel_rfl)) rfl ⟨rfl, set12_below (below_trans Hb0.out Hb1.out) (by rw [Hz.out]; exact Nat.le_refl _) _ _ _ _ _ _ _ _ _ _ _ _⟩
  | some k =>
    rw [he] at hx
    simp only [Prod.mk.injEq] at hx
    obtain ⟨hf, rfl⟩ := hx
    have hk := (atF_some he).1
    have Hp := Lib.hid (place_at S g M last L mi mo u KI RI KO RO w0 h0 id k 0 hn (by rw [he]; rfl))
    obtain ⟨A, c, ev⟩ := h0.row.form
    have Hev := Lib.hid ev
    obtain ⟨n, en⟩ : ∃ n, L.length = n := ⟨_, rfl⟩
    have i0 : (0 : Int) ≤ (k : Int) := by omega
    have i1 : (k : Int) < (n : Int) := by omega
    have Hen := Lib.hid en
    have Hkn := Lib.hid (show k < n by omega)
    have Hf := Lib.hid hf
    clear h h0 hb0 hk0 ew ew' hz he ev en hf
    go_enter Try.func27, Try.ntmps27
    go_upto_region 1 with (fail)
    rw [Ew.out]
    try rw [Hz.out]
    go_wp2_with fail
    refine Hp.out.mono ?_
    rintro e w1 ⟨rfl, hb⟩
    have Hb1 := Lib.hid hb
    have HK1 := Lib.hid (HK.out w1 hb)
    have e0 := fun i => blk_cell (HK.out w1 hb) i
    have fz := fun i => blk_free (HK.out w1 hb) i
    rw [fl_arr] at e0
    have d0 := e0 0
    have d1 := e0 1
    have d2 := e0 2
    have d3 := e0 3
    have d4 := e0 4
    have d5 := e0 5
    have d6 := e0 6
    have d7 := e0 7
    have d8 := e0 8
    have d9 := e0 9
    have da := e0 10
    have db := e0 11
    simp at d0 d1 d2 d3 d4 d5 d6 d7 d8 d9 da db
    have h1 := Hw.out w1 hb
    have k5 := h1.k5
    have hr := h1.row
    rw [Hev.out, Hen.out] at k5 hr
    obtain ⟨gu, o, rfl, hidx, hfl, hgu⟩ := fl_index_t hr Hen.out Hkn.out
    obtain ⟨p, ep⟩ : ∃ p, o + k * 12 = p := ⟨_, rfl⟩
    rw [ep, Hf.out] at hfl
    rw [ep] at hidx
    obtain ⟨c0, c1, c2, c3, c4, c5, c6, c7, c8, c9, ca, cb⟩ := hfl
    clear hb e0 h1 hr ep
    go_wp2_with fail
    exact bodyPost_ret (v := .tuple #[.agg (flV f).toArray, .bool true]) (results_row_tmp rfl _ _ z _ _ _ _ _ rfl rfl (set12_blk HK1.out rfl _ _ _ _ _ _ _ _ _ _ _ _) Try.underlying51 rfl (by kernel_rfl)) rfl ⟨rfl, set12_below (below_trans Hb0.out Hb1.out) (by rw [Hz.out]; exact Nat.le_refl _) _ _ _ _ _ _ _ _ _ _ _ _⟩
end
end Go.Proofs.Ytnhlbohdlnjaaaa
