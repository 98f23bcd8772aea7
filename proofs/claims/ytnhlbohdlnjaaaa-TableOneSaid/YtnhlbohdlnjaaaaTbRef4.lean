/-
  The document's own table (culvertref13): Add; all its calls by name.
-/
import Derived.Test.YtnhlbohdlnjaaaaTbRef3
namespace Go.Proofs.Ytnhlbohdlnjaaaa
set_option maxRecDepth 10000
open Go.RowKit
set_option linter.unusedSimpArgs false
set_option linter.unusedVariables false

theorem RefT.relast {w : World} {S : Nat → Prop} {g : Nat} {M last : Int} {L : TL} (h : RefT w S g M last L) (l2 : Int) :
    RefT (w.setCell ⟨g, 2, none⟩ (.int .u64 l2)) S g M l2 L ∧ But S w (w.setCell ⟨g, 2, none⟩ (.int .u64 l2)) := by
  obtain ⟨A, c, hg, hs, h1, h2, h3, h4⟩ := h.row
  have hB : But (fun k => k = g) w (w.setCell ⟨g, 2, none⟩ (.int .u64 l2)) := (But.refl (fun k => k = g) w).setCell (p := ⟨g, 2, none⟩) rfl _
  have h5 := heap_setCell_at hg 2 (.int .u64 l2)
  exact ⟨⟨_, by simpa using h5, hs.but hB (fun b hb e => h4 b hb e), h1, h2, fun k hk => hB.lt (h3 k hk)⟩, hB.mono (fun k _ e => e ▸ h1)⟩
/-- The least embryonic one, looked for from the end. -/
def EmAt (L : TL) (n m : Nat) (a : Int) : Prop := (a = -1 ∧ ∀ t, m ≤ t → t < n → (L.getD t f0).em = false) ∨ ∃ k : Nat, a = (k : Int) ∧ m ≤ k ∧ k < n ∧ (L.getD k f0).em = true ∧ ∀ t, m ≤ t → t < k → (L.getD t f0).em = false
theorem EmAt.done {L : TL} {n : Nat} {a : Int} (h : EmAt L n 0 a) (hn : L.length = n) : a = rxI (emF L) := by
  rcases h with ⟨rfl, h⟩ | ⟨k, rfl, _, hk, h1, h2⟩
  · have : emF L = none := (find_non (p := fun f => f.em) (fun i hi => h i (by omega) (by omega))).1
    rw [this]; rfl
  · have : emF L = some k := (find_at (p := fun f => f.em) (by omega) h1 (fun j hj => h2 j (by omega) hj)).1
    rw [this]; rfl
theorem EmAt.yes {L : TL} {n j : Nat} {a : Int} (h : EmAt L n (j + 1) a) (hj : j < n) (he : (L.getD j f0).em = true) : EmAt L n j (j : Int) :=
  .inr ⟨j, rfl, Nat.le_refl _, hj, he, fun t h1 h2 => by omega⟩
theorem EmAt.no {L : TL} {n j : Nat} {a : Int} (h : EmAt L n (j + 1) a) (he : (L.getD j f0).em = false) : EmAt L n j a := by
  rcases h with ⟨rfl, h⟩ | ⟨k, rfl, h0, hk, h1, h2⟩
  · refine .inl ⟨rfl, fun t h1 h2 => ?_⟩
    by_cases e : t = j
    · rw [e]; exact he
    · exact h t (by omega) h2
  · refine .inr ⟨k, rfl, by omega, hk, h1, fun t h3 h4 => ?_⟩
    by_cases e : t = j
    · rw [e]; exact he
    · exact h2 t (by omega) h4
section
variable (S : Nat → Prop) (g : Nat) (M last : Int) (L : TL) (w : World) (h : RefT w S g M last L) (hn : L.length ≤ 1000000)
include h hn
theorem radd_zero (t x : Tu) (ht : t = zT) : Calls Try.prog 14 #[.pointer (some ⟨g, 0, none⟩), .agg #[.int .u8 t.pr, .int .u32 t.sr, .int .u32 t.ds, .int .u16 t.sp, .int .u16 t.dp], .agg #[.int .u8 x.pr, .int .u32 x.sr, .int .u32 x.ds, .int .u16 x.sp, .int .u16 x.dp]] w (TellsT (.tuple #[.int .u64 0, .int .u64 0, .int .i64 1]) w) := by
  obtain ⟨w0, ew⟩ : ∃ w0, ((w.alloc (.cells #[.int .u8 t.pr, .int .u32 t.sr, .int .u32 t.ds, .int .u16 t.sp, .int .u16 t.dp] 37)).alloc (.cells #[.int .u8 x.pr, .int .u32 x.sr, .int .u32 x.ds, .int .u16 x.sp, .int .u16 x.dp] 37)).alloc (.cells #[.int .u8 0, .int .u32 0, .int .u32 0, .int .u16 0, .int .u16 0] 37) = w0 := ⟨_, rfl⟩
  obtain ⟨z, hz⟩ : ∃ z, w.heap.size = z := ⟨_, rfl⟩
  have hb0 : Below w.heap.size w w0 := by rw [← ew]; exact (((Below.refl _ _).alloc (Nat.le_refl _) _).alloc (by simp) _).alloc (by simp; omega) _
  have hk0 : w0.heap[z]? = some (.cells #[.int .u8 t.pr, .int .u32 t.sr, .int .u32 t.ds, .int .u16 t.sp, .int .u16 t.dp] 37 (0, 0)) := by rw [← ew, Below.heap_alloc _ _ _ (by simp [hz]; omega), Below.heap_alloc _ _ _ (by simp [hz]), ← hz]; exact heap_alloc_new w _
  have hk1 : w0.heap[z + 1]? = some (.cells #[.int .u8 x.pr, .int .u32 x.sr, .int .u32 x.ds, .int .u16 x.sp, .int .u16 x.dp] 37 (0, 0)) := by
    rw [← ew, Below.heap_alloc _ _ _ (by simp [hz]), ← hz]; simpa using heap_alloc_new (w.alloc (.cells #[.int .u8 t.pr, .int .u32 t.sr, .int .u32 t.ds, .int .u16 t.sp, .int .u16 t.dp] 37)) (.cells #[.int .u8 x.pr, .int .u32 x.sr, .int .u32 x.ds, .int .u16 x.sp, .int .u16 x.dp] 37)
  have hk2 : w0.heap[z + 2]? = some (.cells #[.int .u8 0, .int .u32 0, .int .u32 0, .int .u16 0, .int .u16 0] 37 (0, 0)) := by
    rw [← ew, ← hz]; simpa using heap_alloc_new ((w.alloc (.cells #[.int .u8 t.pr, .int .u32 t.sr, .int .u32 t.ds, .int .u16 t.sp, .int .u16 t.dp] 37)).alloc (.cells #[.int .u8 x.pr, .int .u32 x.sr, .int .u32 x.ds, .int .u16 x.sp, .int .u16 x.dp] 37)) (.cells #[.int .u8 0, .int .u32 0, .int .u32 0, .int .u16 0, .int .u16 0] 37)
  have h0 := h.below hb0
  have hSz : ∀ b, S b → b < z := fun b hb => by obtain ⟨_, _, _, _, _, hlt⟩ := h; have := hlt b hb; omega
  have Hk0 := Lib.hid (show ∀ W, Below w0.heap.size w0 W → W.heap[z]? = some (.cells #[.int .u8 t.pr, .int .u32 t.sr, .int .u32 t.ds, .int .u16 t.sp, .int .u16 t.dp] 37 (0, 0)) from fun W hb => blk_on hk0 hb)
  have Hk1 := Lib.hid (show ∀ W, Below w0.heap.size w0 W → W.heap[z + 1]? = some (.cells #[.int .u8 x.pr, .int .u32 x.sr, .int .u32 x.ds, .int .u16 x.sp, .int .u16 x.dp] 37 (0, 0)) from fun W hb => blk_on hk1 hb)
  have Hw := Lib.hid (show ∀ W, Below w0.heap.size w0 W → RefT W S g M last L from fun W hb => h0.below hb)
  obtain ⟨a0, a1, a2, a3, a4⟩ := cells5 hk0
  obtain ⟨b0, b1', b2', b3, b4⟩ := cells5 hk2
  have Ew := Lib.hid ew
  have Hz := Lib.hid hz
  have Hb0 := Lib.hid hb0
  have HSz := Lib.hid hSz
  have Hn := Lib.hid hn
  have heq := fun W => tu_eql t zT W
  have Hh := Lib.hid h
  clear h h0 hb0 hk0 hk1 hk2 ew hz hSz hn
  rw [show tuSame t zT = true from (tuSame_iff _ _).2 ht] at heq
  clear ht
  unfold zT at heq
  simp only at heq
  go_enter Try.func14, Try.ntmps14
  go_upto_region 2 with (fail)
  rw [Ew.out]
  try rw [Hz.out]
  go_wp2_with fail
  go_ret3
  exact ⟨rfl, Hb0.out⟩
theorem radd_there (t x : Tu) (i1 i2 : Int) (b1 b2 : Bool) (ht : t ≠ zT) (hi1 : idOf (innF t L) = i1) (hb1 : isOf (innF t L) = b1) (hi2 : idOf (outF x L) = i2) (hb2 : isOf (outF x L) = b2) (hor : b1 = true ∨ b2 = true) :
    Calls Try.prog 14 #[.pointer (some ⟨g, 0, none⟩), .agg #[.int .u8 t.pr, .int .u32 t.sr, .int .u32 t.ds, .int .u16 t.sp, .int .u16 t.dp], .agg #[.int .u8 x.pr, .int .u32 x.sr, .int .u32 x.ds, .int .u16 x.sp, .int .u16 x.dp]] w (TellsT (.tuple #[.int .u64 0, .int .u64 0, .int .i64 9]) w) := by
  obtain ⟨w0, ew⟩ : ∃ w0, ((w.alloc (.cells #[.int .u8 t.pr, .int .u32 t.sr, .int .u32 t.ds, .int .u16 t.sp, .int .u16 t.dp] 37)).alloc (.cells #[.int .u8 x.pr, .int .u32 x.sr, .int .u32 x.ds, .int .u16 x.sp, .int .u16 x.dp] 37)).alloc (.cells #[.int .u8 0, .int .u32 0, .int .u32 0, .int .u16 0, .int .u16 0] 37) = w0 := ⟨_, rfl⟩
  obtain ⟨z, hz⟩ : ∃ z, w.heap.size = z := ⟨_, rfl⟩
  have hb0 : Below w.heap.size w w0 := by rw [← ew]; exact (((Below.refl _ _).alloc (Nat.le_refl _) _).alloc (by simp) _).alloc (by simp; omega) _
  have hk0 : w0.heap[z]? = some (.cells #[.int .u8 t.pr, .int .u32 t.sr, .int .u32 t.ds, .int .u16 t.sp, .int .u16 t.dp] 37 (0, 0)) := by rw [← ew, Below.heap_alloc _ _ _ (by simp [hz]; omega), Below.heap_alloc _ _ _ (by simp [hz]), ← hz]; exact heap_alloc_new w _
  have hk1 : w0.heap[z + 1]? = some (.cells #[.int .u8 x.pr, .int .u32 x.sr, .int .u32 x.ds, .int .u16 x.sp, .int .u16 x.dp] 37 (0, 0)) := by
    rw [← ew, Below.heap_alloc _ _ _ (by simp [hz]), ← hz]; simpa using heap_alloc_new (w.alloc (.cells #[.int .u8 t.pr, .int .u32 t.sr, .int .u32 t.ds, .int .u16 t.sp, .int .u16 t.dp] 37)) (.cells #[.int .u8 x.pr, .int .u32 x.sr, .int .u32 x.ds, .int .u16 x.sp, .int .u16 x.dp] 37)
  have hk2 : w0.heap[z + 2]? = some (.cells #[.int .u8 0, .int .u32 0, .int .u32 0, .int .u16 0, .int .u16 0] 37 (0, 0)) := by
    rw [← ew, ← hz]; simpa using heap_alloc_new ((w.alloc (.cells #[.int .u8 t.pr, .int .u32 t.sr, .int .u32 t.ds, .int .u16 t.sp, .int .u16 t.dp] 37)).alloc (.cells #[.int .u8 x.pr, .int .u32 x.sr, .int .u32 x.ds, .int .u16 x.sp, .int .u16 x.dp] 37)) (.cells #[.int .u8 0, .int .u32 0, .int .u32 0, .int .u16 0, .int .u16 0] 37)
  have h0 := h.below hb0
  have hSz : ∀ b, S b → b < z := fun b hb => by obtain ⟨_, _, _, _, _, hlt⟩ := h; have := hlt b hb; omega
  have Hk0 := Lib.hid (show ∀ W, Below w0.heap.size w0 W → W.heap[z]? = some (.cells #[.int .u8 t.pr, .int .u32 t.sr, .int .u32 t.ds, .int .u16 t.sp, .int .u16 t.dp] 37 (0, 0)) from fun W hb => blk_on hk0 hb)
  have Hk1 := Lib.hid (show ∀ W, Below w0.heap.size w0 W → W.heap[z + 1]? = some (.cells #[.int .u8 x.pr, .int .u32 x.sr, .int .u32 x.ds, .int .u16 x.sp, .int .u16 x.dp] 37 (0, 0)) from fun W hb => blk_on hk1 hb)
  have Hw := Lib.hid (show ∀ W, Below w0.heap.size w0 W → RefT W S g M last L from fun W hb => h0.below hb)
  obtain ⟨a0, a1, a2, a3, a4⟩ := cells5 hk0
  obtain ⟨b0, b1', b2', b3, b4⟩ := cells5 hk2
  have Ew := Lib.hid ew
  have Hz := Lib.hid hz
  have Hb0 := Lib.hid hb0
  have HSz := Lib.hid hSz
  have Hn := Lib.hid hn
  have heq := fun W => tu_eql t zT W
  have Hh := Lib.hid h
  clear h h0 hb0 hk0 hk1 hk2 ew hz hSz hn
  have Hor := Lib.hid hor
  clear hor
  have hs0 : tuSame t zT = false := by
    cases hq : tuSame t zT
    · rfl
    · exact absurd ((tuSame_iff _ _).1 hq) ht
  rw [hs0] at heq
  clear ht hs0
  unfold zT at heq
  simp only at heq
  go_enter Try.func14, Try.ntmps14
  go_upto_region 2 with (fail)
  rw [Ew.out]
  try rw [Hz.out]
  go_wp2_with fail
  refine (rinner_any S g M last L t i1 b1 w0 (Hw.out w0 (Below.refl _ _)) Hn.out hi1 hb1).mono ?_
  rintro e w1 ⟨rfl, hbb⟩
  have Hb1 := Lib.hid hbb
  clear hbb a0 a1 a2 a3 a4 b0 b1' b2' b3 b4
  obtain ⟨c0, c1, c2, c3, c4⟩ := cells5 (Hk1.out w1 Hb1.out)
  go_wp2_with fail
  refine (router_any S g M last L x i2 b2 w1 (Hw.out w1 Hb1.out) Hn.out hi2 hb2).mono ?_
  rintro e w2 ⟨rfl, hbb⟩
  have Hb2 := Lib.hid (below_trans Hb1.out hbb)
  clear hbb c0 c1 c2 c3 c4
  have hc : b1 = true ∨ (b1 = false ∧ b2 = true) := by
    rcases Hor.out with e | e
    · exact .inl e
    · cases b1 with
      | true => exact .inl rfl
      | false => exact .inr ⟨rfl, e⟩
  clear hi1 hb1 hi2 hb2
  rcases hc with rfl | ⟨rfl, rfl⟩
  all_goals
    go_wp2_with fail
    go_ret3
    exact ⟨rfl, below_trans Hb0.out Hb2.out⟩
theorem radd_full (t x : Tu) (i1 i2 : Int) (ht : t ≠ zT) (hi1 : idOf (innF t L) = i1) (hb1 : isOf (innF t L) = false) (hi2 : idOf (outF x L) = i2) (hb2 : isOf (outF x L) = false) (hM : ¬ (L.length : Int) < M) (he : emF L = none) :
    Calls Try.prog 14 #[.pointer (some ⟨g, 0, none⟩), .agg #[.int .u8 t.pr, .int .u32 t.sr, .int .u32 t.ds, .int .u16 t.sp, .int .u16 t.dp], .agg #[.int .u8 x.pr, .int .u32 x.sr, .int .u32 x.ds, .int .u16 x.sp, .int .u16 x.dp]] w (TellsT (.tuple #[.int .u64 0, .int .u64 0, .int .i64 7]) w) := by
  obtain ⟨w0, ew⟩ : ∃ w0, ((w.alloc (.cells #[.int .u8 t.pr, .int .u32 t.sr, .int .u32 t.ds, .int .u16 t.sp, .int .u16 t.dp] 37)).alloc (.cells #[.int .u8 x.pr, .int .u32 x.sr, .int .u32 x.ds, .int .u16 x.sp, .int .u16 x.dp] 37)).alloc (.cells #[.int .u8 0, .int .u32 0, .int .u32 0, .int .u16 0, .int .u16 0] 37) = w0 := ⟨_, rfl⟩
  obtain ⟨z, hz⟩ : ∃ z, w.heap.size = z := ⟨_, rfl⟩
  have hb0 : Below w.heap.size w w0 := by rw [← ew]; exact (((Below.refl _ _).alloc (Nat.le_refl _) _).alloc (by simp) _).alloc (by simp; omega) _
  have hk0 : w0.heap[z]? = some (.cells #[.int .u8 t.pr, .int .u32 t.sr, .int .u32 t.ds, .int .u16 t.sp, .int .u16 t.dp] 37 (0, 0)) := by rw [← ew, Below.heap_alloc _ _ _ (by simp [hz]; omega), Below.heap_alloc _ _ _ (by simp [hz]), ← hz]; exact heap_alloc_new w _
  have hk1 : w0.heap[z + 1]? = some (.cells #[.int .u8 x.pr, .int .u32 x.sr, .int .u32 x.ds, .int .u16 x.sp, .int .u16 x.dp] 37 (0, 0)) := by
    rw [← ew, Below.heap_alloc _ _ _ (by simp [hz]), ← hz]; simpa using heap_alloc_new (w.alloc (.cells #[.int .u8 t.pr, .int .u32 t.sr, .int .u32 t.ds, .int .u16 t.sp, .int .u16 t.dp] 37)) (.cells #[.int .u8 x.pr, .int .u32 x.sr, .int .u32 x.ds, .int .u16 x.sp, .int .u16 x.dp] 37)
  have hk2 : w0.heap[z + 2]? = some (.cells #[.int .u8 0, .int .u32 0, .int .u32 0, .int .u16 0, .int .u16 0] 37 (0, 0)) := by
    rw [← ew, ← hz]; simpa using heap_alloc_new ((w.alloc (.cells #[.int .u8 t.pr, .int .u32 t.sr, .int .u32 t.ds, .int .u16 t.sp, .int .u16 t.dp] 37)).alloc (.cells #[.int .u8 x.pr, .int .u32 x.sr, .int .u32 x.ds, .int .u16 x.sp, .int .u16 x.dp] 37)) (.cells #[.int .u8 0, .int .u32 0, .int .u32 0, .int .u16 0, .int .u16 0] 37)
  have h0 := h.below hb0
  have hSz : ∀ b, S b → b < z := fun b hb => by obtain ⟨_, _, _, _, _, hlt⟩ := h; have := hlt b hb; omega
  have Hk0 := Lib.hid (show ∀ W, Below w0.heap.size w0 W → W.heap[z]? = some (.cells #[.int .u8 t.pr, .int .u32 t.sr, .int .u32 t.ds, .int .u16 t.sp, .int .u16 t.dp] 37 (0, 0)) from fun W hb => blk_on hk0 hb)
  have Hk1 := Lib.hid (show ∀ W, Below w0.heap.size w0 W → W.heap[z + 1]? = some (.cells #[.int .u8 x.pr, .int .u32 x.sr, .int .u32 x.ds, .int .u16 x.sp, .int .u16 x.dp] 37 (0, 0)) from fun W hb => blk_on hk1 hb)
  have Hw := Lib.hid (show ∀ W, Below w0.heap.size w0 W → RefT W S g M last L from fun W hb => h0.below hb)
  obtain ⟨a0, a1, a2, a3, a4⟩ := cells5 hk0
  obtain ⟨b0, b1', b2', b3, b4⟩ := cells5 hk2
  have Ew := Lib.hid ew
  have Hz := Lib.hid hz
  have Hb0 := Lib.hid hb0
  have HSz := Lib.hid hSz
  have Hn := Lib.hid hn
  have heq := fun W => tu_eql t zT W
  have Hh := Lib.hid h
  clear h h0 hb0 hk0 hk1 hk2 ew hz hSz hn
  obtain ⟨b1, e1⟩ : ∃ b, b = false := ⟨false, rfl⟩
  obtain ⟨b2, e2⟩ : ∃ b, b = false := ⟨false, rfl⟩
  rw [← e1] at hb1
  rw [← e2] at hb2
  have HM := Lib.hid hM
  clear hM
  have hs0 : tuSame t zT = false := by
    cases hq : tuSame t zT
    · rfl
    · exact absurd ((tuSame_iff _ _).1 hq) ht
  rw [hs0] at heq
  clear ht hs0
  unfold zT at heq
  simp only at heq
  go_enter Try.func14, Try.ntmps14
  go_upto_region 2 with (fail)
  rw [Ew.out]
  try rw [Hz.out]
  go_wp2_with fail
  refine (rinner_any S g M last L t i1 b1 w0 (Hw.out w0 (Below.refl _ _)) Hn.out hi1 hb1).mono ?_
  rintro e w1 ⟨rfl, hbb⟩
  have Hb1 := Lib.hid hbb
  clear hbb a0 a1 a2 a3 a4 b0 b1' b2' b3 b4
  obtain ⟨c0, c1, c2, c3, c4⟩ := cells5 (Hk1.out w1 Hb1.out)
  go_wp2_with fail
  refine (router_any S g M last L x i2 b2 w1 (Hw.out w1 Hb1.out) Hn.out hi2 hb2).mono ?_
  rintro e w2 ⟨rfl, hbb⟩
  have Hb2 := Lib.hid (below_trans Hb1.out hbb)
  clear hbb c0 c1 c2 c3 c4
  subst e1; subst e2
  clear hi1 hb1 hi2 hb2
  obtain ⟨A, c, hg2, hs2, hSg, hSu, hlt2, hne2⟩ := (Hw.out w2 Hb2.out).row
  have k0 := blk_cell hg2 0
  have k1 := blk_cell hg2 1
  simp at k0 k1
  have hge : decide (M ≤ (L.length : Int)) = true := decide_eq_true (by have := HM.out; omega)
  clear hg2 hs2 hSg hSu hlt2 hne2
  go_wp2_with fail
  go_quiet (fail)
  obtain ⟨w3, ew3⟩ : ∃ w3, w2.drewN nq = w3 := ⟨_, rfl⟩
  have Hb3 := Lib.hid (show Below w0.heap.size w0 w3 by rw [← ew3]; exact Hb2.out.trans (((But.refl (fun _ => False) w2).drewN nq).below (fun _ h => h.elim) Hb2.out.size))
  rw [ew3]
  clear ew3 k0 k1
  obtain ⟨A, c, hg3, hs3, hSg, hSu, hlt3, hne3⟩ := (Hw.out w3 Hb3.out).row
  obtain ⟨n, en⟩ : ∃ n, L.length = n := ⟨_, rfl⟩
  have k0 := blk_cell hg3 0
  simp at k0
  rw [en] at k0 hs3
  have hn1 : n ≤ 1000000 := by have := Hn.out; omega
  have Hen := Lib.hid en
  have Hs3 := Lib.hid hs3
  clear hg3 hs3 hSg hSu hlt3 hne3 en
  go_wp2_with fail
  go_loopg [15, 16] n (fun gk v i wr => ∃ (m : Nat) (a x : Int), v = .int .i64 a ∧ i = .int .i64 x ∧ Hid (gk = m) ∧ m ≤ n ∧ Hid (x + 1 = m) ∧ Hid (EmAt L n m a) ∧ wr = w3)
  case atStart => exact ⟨n, -1, (n : Int) - 1, rfl, by go_num, rfl, Nat.le_refl _, Lib.hid (by omega), Lib.hid (.inl ⟨rfl, fun t h1 h2 => by omega⟩), rfl⟩
  case round =>
    obtain ⟨m, a, y, rfl, rfl, hgk, hmn, hy, hE, hwr⟩ := hrel
    subst wr
    cases m with
    | succ j =>
      obtain rfl : y = (j : Int) := by have := hy.out; omega
      have hjn : j < n := by omega
      obtain ⟨gu, o, rfl, hidx, hfl, hlt⟩ := fl_index_r Hs3.out Hen.out hjn
      obtain ⟨p, ep⟩ : ∃ p, o + j * 12 = p := ⟨_, rfl⟩
      rw [ep] at hidx hfl
      have cb := hfl.cb
      obtain ⟨em, eem⟩ : ∃ em, (L.getD j f0).em = em := ⟨_, rfl⟩
      rw [eem] at cb
      have i0 : (0 : Int) ≤ (j : Int) := by omega
      have i1 : (j : Int) < (n : Int) := by omega
      have Hjn := Lib.hid hjn
      have Heem := Lib.hid eem
      clear hfl ep eem
      cases em with
      | true =>
        have HEn := Lib.hid (hE.out.yes Hjn.out Heem.out)
        go_wp2_with fail
        go_roundg (gk - 1)
        case measure => have := hgk.out; omega
        case rel => exact ⟨j, (j : Int), (j : Int) - 1, rfl, by have := Hjn.out; go_num, by have := hgk.out; show gk - 1 = j; omega, by have := Hjn.out; omega, Lib.hid (by omega), HEn, rfl⟩
      | false =>
        have HEn := Lib.hid (hE.out.no Heem.out)
        go_wp2_with fail
        go_roundg (gk - 1)
        case measure => have := hgk.out; omega
        case rel => exact ⟨j, a, (j : Int) - 1, rfl, by have := Hjn.out; go_num, by have := hgk.out; show gk - 1 = j; omega, by have := Hjn.out; omega, Lib.hid (by omega), HEn, rfl⟩
    | zero =>
      obtain rfl : y = -1 := by have := hy.out; omega
      have ha := hE.out.done Hen.out
      rw [he] at ha
      simp only [rxI] at ha
      subst ha
      (go_wp2_with fail; go_ret3; exact ⟨rfl, below_trans Hb0.out Hb3.out⟩)
set_option maxHeartbeats 4000000 in
theorem radd_room (t x : Tu) (i1 i2 : Int) (ht : t ≠ zT) (hi1 : idOf (innF t L) = i1) (hb1 : isOf (innF t L) = false) (hi2 : idOf (outF x L) = i2) (hb2 : isOf (outF x L) = false) (hM : (L.length : Int) < M) (hla : 0 ≤ last ∧ last ≤ 1000000) :
    Calls Try.prog 14 #[.pointer (some ⟨g, 0, none⟩), .agg #[.int .u8 t.pr, .int .u32 t.sr, .int .u32 t.ds, .int .u16 t.sp, .int .u16 t.dp], .agg #[.int .u8 x.pr, .int .u32 x.sr, .int .u32 x.ds, .int .u16 x.sp, .int .u16 x.dp]] w (RDoes S g M (last + 1) (L ++ [⟨last + 1, t, x, true⟩]) (.tuple #[.int .u64 (last + 1), .int .u64 0, .int .i64 0]) w) := by
  obtain ⟨l2, el2⟩ : ∃ l2, last + 1 = l2 := ⟨_, rfl⟩
  have Hwl := Lib.hid (show IntKind.u64.wrap (last + 1) = l2 by
    rw [← el2]
    have e : IntKind.u64.wrap (last + 1) = (last + 1) % 18446744073709551616 := by simp [IntKind.wrap, IntKind.bits, IntKind.signed]
    rw [e]; omega)
  rw [el2]
  have Hl1 := Lib.hid hn
  clear hla el2
  obtain ⟨w0, ew⟩ : ∃ w0, ((w.alloc (.cells #[.int .u8 t.pr, .int .u32 t.sr, .int .u32 t.ds, .int .u16 t.sp, .int .u16 t.dp] 37)).alloc (.cells #[.int .u8 x.pr, .int .u32 x.sr, .int .u32 x.ds, .int .u16 x.sp, .int .u16 x.dp] 37)).alloc (.cells #[.int .u8 0, .int .u32 0, .int .u32 0, .int .u16 0, .int .u16 0] 37) = w0 := ⟨_, rfl⟩
  obtain ⟨z, hz⟩ : ∃ z, w.heap.size = z := ⟨_, rfl⟩
  have hb0 : Below w.heap.size w w0 := by rw [← ew]; exact (((Below.refl _ _).alloc (Nat.le_refl _) _).alloc (by simp) _).alloc (by simp; omega) _
  have hk0 : w0.heap[z]? = some (.cells #[.int .u8 t.pr, .int .u32 t.sr, .int .u32 t.ds, .int .u16 t.sp, .int .u16 t.dp] 37 (0, 0)) := by rw [← ew, Below.heap_alloc _ _ _ (by simp [hz]; omega), Below.heap_alloc _ _ _ (by simp [hz]), ← hz]; exact heap_alloc_new w _
  have hk1 : w0.heap[z + 1]? = some (.cells #[.int .u8 x.pr, .int .u32 x.sr, .int .u32 x.ds, .int .u16 x.sp, .int .u16 x.dp] 37 (0, 0)) := by
    rw [← ew, Below.heap_alloc _ _ _ (by simp [hz]), ← hz]; simpa using heap_alloc_new (w.alloc (.cells #[.int .u8 t.pr, .int .u32 t.sr, .int .u32 t.ds, .int .u16 t.sp, .int .u16 t.dp] 37)) (.cells #[.int .u8 x.pr, .int .u32 x.sr, .int .u32 x.ds, .int .u16 x.sp, .int .u16 x.dp] 37)
  have hk2 : w0.heap[z + 2]? = some (.cells #[.int .u8 0, .int .u32 0, .int .u32 0, .int .u16 0, .int .u16 0] 37 (0, 0)) := by
    rw [← ew, ← hz]; simpa using heap_alloc_new ((w.alloc (.cells #[.int .u8 t.pr, .int .u32 t.sr, .int .u32 t.ds, .int .u16 t.sp, .int .u16 t.dp] 37)).alloc (.cells #[.int .u8 x.pr, .int .u32 x.sr, .int .u32 x.ds, .int .u16 x.sp, .int .u16 x.dp] 37)) (.cells #[.int .u8 0, .int .u32 0, .int .u32 0, .int .u16 0, .int .u16 0] 37)
  have h0 := h.below hb0
  have hSz : ∀ b, S b → b < z := fun b hb => by obtain ⟨_, _, _, _, _, hlt⟩ := h; have := hlt b hb; omega
  have Hk0 := Lib.hid (show ∀ W, Below w0.heap.size w0 W → W.heap[z]? = some (.cells #[.int .u8 t.pr, .int .u32 t.sr, .int .u32 t.ds, .int .u16 t.sp, .int .u16 t.dp] 37 (0, 0)) from fun W hb => blk_on hk0 hb)
  have Hk1 := Lib.hid (show ∀ W, Below w0.heap.size w0 W → W.heap[z + 1]? = some (.cells #[.int .u8 x.pr, .int .u32 x.sr, .int .u32 x.ds, .int .u16 x.sp, .int .u16 x.dp] 37 (0, 0)) from fun W hb => blk_on hk1 hb)
  have Hw := Lib.hid (show ∀ W, Below w0.heap.size w0 W → RefT W S g M last L from fun W hb => h0.below hb)
  obtain ⟨a0, a1, a2, a3, a4⟩ := cells5 hk0
  obtain ⟨b0, b1', b2', b3, b4⟩ := cells5 hk2
  have Ew := Lib.hid ew
  have Hz := Lib.hid hz
  have Hb0 := Lib.hid hb0
  have HSz := Lib.hid hSz
  have Hn := Lib.hid hn
  have heq := fun W => tu_eql t zT W
  have Hh := Lib.hid h
  clear h h0 hb0 hk0 hk1 hk2 ew hz hSz hn
  obtain ⟨b1, e1⟩ : ∃ b, b = false := ⟨false, rfl⟩
  obtain ⟨b2, e2⟩ : ∃ b, b = false := ⟨false, rfl⟩
  rw [← e1] at hb1
  rw [← e2] at hb2
  have HM := Lib.hid hM
  clear hM
  have hs0 : tuSame t zT = false := by
    cases hq : tuSame t zT
    · rfl
    · exact absurd ((tuSame_iff _ _).1 hq) ht
  rw [hs0] at heq
  clear ht hs0
  unfold zT at heq
  simp only at heq
  go_enter Try.func14, Try.ntmps14
  go_upto_region 2 with (fail)
  rw [Ew.out]
  try rw [Hz.out]
  go_wp2_with fail
  refine (rinner_any S g M last L t i1 b1 w0 (Hw.out w0 (Below.refl _ _)) Hn.out hi1 hb1).mono ?_
  rintro e w1 ⟨rfl, hbb⟩
  have Hb1 := Lib.hid hbb
  clear hbb a0 a1 a2 a3 a4 b0 b1' b2' b3 b4
  obtain ⟨c0, c1, c2, c3, c4⟩ := cells5 (Hk1.out w1 Hb1.out)
  go_wp2_with fail
  refine (router_any S g M last L x i2 b2 w1 (Hw.out w1 Hb1.out) Hn.out hi2 hb2).mono ?_
  rintro e w2 ⟨rfl, hbb⟩
  have Hb2 := Lib.hid (below_trans Hb1.out hbb)
  clear hbb c0 c1 c2 c3 c4
  subst e1; subst e2
  clear hi1 hb1 hi2 hb2
  obtain ⟨A, c, hg2, hs2, hSg, hSu, hlt2, hne2⟩ := (Hw.out w2 Hb2.out).row
  have k0 := blk_cell hg2 0
  have k1 := blk_cell hg2 1
  simp at k0 k1
  have hge : decide (M ≤ (L.length : Int)) = false := decide_eq_false (by have := HM.out; omega)
  clear hg2 hs2 hSg hSu hlt2 hne2
  go_wp2_with fail
  go_quiet (fail)
  obtain ⟨w3, ew3⟩ : ∃ w3, w2.drewN nq = w3 := ⟨_, rfl⟩
  have Hb3 := Lib.hid (show Below w0.heap.size w0 w3 by rw [← ew3]; exact Hb2.out.trans (((But.refl (fun _ => False) w2).drewN nq).below (fun _ h => h.elim) Hb2.out.size))
  rw [ew3]
  clear ew3 k0 k1
  have HR1 := Lib.hid (Hw.out w3 Hb3.out)
  have HBw := Lib.hid (show But S w w3 from But.of (below_trans Hb0.out Hb3.out))
  have HS1 := Lib.hid (show ∀ k, S k → S k ∨ w.heap.size ≤ k from fun k hk => .inl hk)
  have Hka := Lib.hid (Hk0.out w3 Hb3.out)
  have Hkb := Lib.hid (Hk1.out w3 Hb3.out)
  have HZ1 := Lib.hid (show ¬ S z ∧ ¬ S (z + 1) from ⟨fun e => by have := HSz.out z e; omega, fun e => by have := HSz.out (z + 1) e; omega⟩)
  clear hge Hb3 Hb2 Hb1 Hk0 Hk1 Hw HSz
  -- from world v1 on: HR1, HBw, HS1, Hka, Hkb, HZ1
  obtain ⟨A1, c1, hg1, hs1, hSg1, hSu1, hlt1, hne1⟩ := HR1.out.row
  obtain ⟨m, em⟩ : ∃ m, L.length = m := ⟨_, rfl⟩
  have e0 := blk_cell hg1 0
  have e2 := blk_cell hg1 2
  have ff2 := blk_free hg1 2
  simp at e0 e2
  obtain ⟨v2, ev2⟩ : ∃ v2, w3.setCell ⟨g, 2, none⟩ (.int .u64 l2) = v2 := ⟨_, rfl⟩
  obtain ⟨hR2, hB2⟩ := HR1.out.relast l2
  have hgB2 : But (fun k => k = g) w3 v2 := by rw [← ev2]; exact (But.refl (fun k => k = g) _).setCell (p := ⟨g, 2, none⟩) rfl _
  rw [ev2] at hR2 hB2
  have hka2 := hgB2.blk Hka.out (fun e => HZ1.out.1 (e ▸ hSg1))
  have hkb2 := hgB2.blk Hkb.out (fun e => HZ1.out.2 (e ▸ hSg1))
  have hg2' : v2.heap[g]? = some (.cells #[.slice A1 L.length c1, .int .i64 M, .int .u64 l2] 59 (0, 0)) := by
    have := heap_setCell_at hg1 2 (.int .u64 l2)
    rw [ev2] at this
    simpa using this
  have hs2 := hs1.but hgB2 (fun b hb e => hne1 b hb e)
  have e02 := blk_cell hg2' 0
  simp at e02
  rw [em] at e0 e02
  have hL1m : m ≤ 1000000 := by have := Hl1.out; omega
  obtain ⟨A3, c3, v3, hr3, hs3, hB3, hb3, _⟩ := sv_app (P := Try.prog) v2 57 57 54 _ 12 48 Try.underlying57 info_rflow (by omega) rfl (.slice none 0 0) _ 0 L.length [] _ (.inl ⟨rfl, rfl, rfl⟩) hs2 (flatF_one _) (by omega)
  rw [List.nil_append] at hs3
  rw [Nat.zero_add, em] at hr3 hs3 hb3
  have hBel3 : Below v2.heap.size v2 v3 := hB3.below (fun k hk => by cases hk) (Nat.le_refl _)
  have hown3 : ∀ b, (Value.slice A3 m c3).ownBlock = some b → v2.heap.size ≤ b := fun b hb => by
    rcases hb3 with e | e
    · rw [e] at hb; cases hb
    · rw [e] at hb; injection hb with hb; omega
  obtain ⟨vd, evd⟩ : ∃ vd, v3.drew = vd := ⟨_, rfl⟩
  have hbd : But (fun _ => False) v3 vd := by rw [← evd]; exact (But.refl (fun _ => False) v3).drew
  have hBeld : Below v2.heap.size v2 vd := hBel3.trans (hbd.below (fun _ h => h.elim) hBel3.size)
  obtain ⟨v4, ev4⟩ : ∃ v, vd.alloc (.cells #[.int .u64 l2, .int .u8 t.pr, .int .u32 t.sr, .int .u32 t.ds, .int .u16 t.sp, .int .u16 t.dp, .int .u8 x.pr, .int .u32 x.sr, .int .u32 x.ds, .int .u16 x.sp, .int .u16 x.dp, .bool true] 54) = v := ⟨_, rfl⟩
  obtain ⟨q, eq⟩ : ∃ q, vd.heap.size = q := ⟨_, rfl⟩
  have hb4 : But (fun _ => False) vd v4 := by rw [← ev4]; exact (But.refl (fun _ => False) vd).alloc _
  have hBel4 : Below v2.heap.size v2 v4 := hBeld.trans (hb4.below (fun _ h => h.elim) hBeld.size)
  have hkl : v4.heap[q]? = some (.cells (flV ⟨l2, t, x, true⟩).toArray 54 (0, 0)) := by rw [← ev4, ← eq]; exact heap_alloc_new vd _
  obtain ⟨A5, c5, v5, hr5, hs5, hB5, ho5⟩ := flow_app_r v4 A3 m c3 q L ⟨l2, t, x, true⟩ ((hs3.but hbd (fun _ _ h => h)).but hb4 (fun _ _ h => h)) hkl (by omega)
  have hBel5 : Below v2.heap.size v2 v5 := hBel4.trans (hB5.below hown3 hBel4.size)
  have hT : ∀ W, Below v2.heap.size v2 W → W.cell? ⟨g, 2, none⟩ = some (.int .u64 l2) ∧ (W.cell? ⟨z, 0, none⟩ = some (.int .u8 t.pr) ∧ W.cell? ⟨z, 1, none⟩ = some (.int .u32 t.sr) ∧ W.cell? ⟨z, 2, none⟩ = some (.int .u32 t.ds) ∧ W.cell? ⟨z, 3, none⟩ = some (.int .u16 t.sp) ∧ W.cell? ⟨z, 4, none⟩ = some (.int .u16 t.dp)) ∧
      (W.cell? ⟨z + 1, 0, none⟩ = some (.int .u8 x.pr) ∧ W.cell? ⟨z + 1, 1, none⟩ = some (.int .u32 x.sr) ∧ W.cell? ⟨z + 1, 2, none⟩ = some (.int .u32 x.ds) ∧ W.cell? ⟨z + 1, 3, none⟩ = some (.int .u16 x.sp) ∧ W.cell? ⟨z + 1, 4, none⟩ = some (.int .u16 x.dp)) := fun W hW =>
    ⟨by have := blk_cell (blk_on hg2' hW) 2; simpa using this, cells5 (blk_on hka2 hW), cells5 (blk_on hkb2 hW)⟩
  obtain ⟨n1, en1⟩ : ∃ n1, m + 1 = n1 := ⟨_, rfl⟩
  rw [en1] at hr5 hs5 ho5
  have hlen : (L ++ [(⟨l2, t, x, true⟩ : Fl)]).length = n1 := by simp [em, en1]
  obtain ⟨r1, r2, r3⟩ := hR2.lay hBel5 (blk_on hg2' hBel5) (v := .slice A5 n1 c5) (L' := L ++ [⟨l2, t, x, true⟩]) (by rw [hlen]; exact hs5) (fun b hb => by
    rcases ho5 with e | e
    · exact hown3 b (e ▸ hb)
    · rw [e] at hb; injection hb with hb; have := hBel4.size; omega)
  have f05 := blk_free (blk_on hg2' hBel5) 0
  have e05 : v5.cell? ⟨g, 0, none⟩ = some (.slice A1 m c1) := by have := blk_cell (blk_on hg2' hBel5) 0; rw [em] at this; simpa using this
  have hg6 := heap_setCell_at (blk_on hg2' hBel5) 0 (.slice A5 n1 c5)
  have e26 : (v5.setCell ⟨g, 0, none⟩ (.slice A5 n1 c5)).cell? ⟨g, 2, none⟩ = some (.int .u64 l2) := by have := blk_cell hg6 2; simpa using this
  have hsz1 := HBw.out.size
  have HF := Lib.hid (show RDoes S g M l2 (L ++ [⟨l2, t, x, true⟩]) (.tuple #[.int .u64 l2, .int .u64 0, .int .i64 0]) w (.returned (.tuple #[.int .u64 l2, .int .u64 0, .int .i64 0])) (v5.setCell ⟨g, 0, none⟩ (.slice A5 n1 c5)) from by
    have hsub : ∀ bb, (S) bb → bb < w.heap.size → S bb := fun bb hk hk2 => by
      rcases HS1.out bb hk with e | e
      · exact e
      · omega
    refine ⟨rfl, _, r1, (HBw.out.trans2 hB2 (fun bb hk e => hsub bb e hk)).trans2 r2 (fun bb hk e => hsub bb e hk), fun bb hk => ?_⟩
    rcases r3 bb hk with e | e
    · exact HS1.out bb e
    · have := hB2.size; exact .inr (by omega))
  have HTd := Lib.hid (hT vd hBeld)
  have HT4 := Lib.hid (hT v4 hBel4)
  have HT5 := Lib.hid (hT v5 hBel5)
  have Hr3 := Lib.hid hr3
  have Hr5 := Lib.hid hr5
  have Ev2 := Lib.hid ev2
  have Evd := Lib.hid evd
  have Ev4 := Lib.hid ev4
  have Eq := Lib.hid eq
  have hwl := Hwl.out
  clear hg1 hs1 hSg1 hSu1 hlt1 hne1 hR2 hB2 hgB2 hka2 hkb2 hg2' hs2 hL1m hr3 hs3 hB3 hb3 hBel3 hown3 hbd hBeld hb4 hBel4 hkl hr5 hs5 hB5 ho5 hBel5 hT r1 r2 r3 hg6 hsz1 ev2 evd ev4 eq hlen en1 em
  go_upto_region 21 with (fail)
  rw [Ev2.out]
  go_wp2_with (at_builtin; refine wpList_appX rfl (.tmp 89) (.tmp 93) _ _ rfl rfl _ _ _ v3 rfl rfl Hr3.out ?_)
  refine wp_region_heldL (S := fun W => W.cell? ⟨g, 2, none⟩ = some (.int .u64 l2) ∧ (W.cell? ⟨z, 0, none⟩ = some (.int .u8 t.pr) ∧ W.cell? ⟨z, 1, none⟩ = some (.int .u32 t.sr) ∧ W.cell? ⟨z, 2, none⟩ = some (.int .u32 t.ds) ∧ W.cell? ⟨z, 3, none⟩ = some (.int .u16 t.sp) ∧ W.cell? ⟨z, 4, none⟩ = some (.int .u16 t.dp)) ∧
      (W.cell? ⟨z + 1, 0, none⟩ = some (.int .u8 x.pr) ∧ W.cell? ⟨z + 1, 1, none⟩ = some (.int .u32 x.sr) ∧ W.cell? ⟨z + 1, 2, none⟩ = some (.int .u32 x.ds) ∧ W.cell? ⟨z + 1, 3, none⟩ = some (.int .u16 x.sp) ∧ W.cell? ⟨z + 1, 4, none⟩ = some (.int .u16 x.dp))) 13 (by kernel_rfl) (by rw [Evd.out]; exact HTd.out) (fun hHeld => ?_)
  rw [Evd.out] at hHeld ⊢
  refine anyHL_take (i := 0) (oi := { dst := some 95, op := Go.Op.move (Go.Operand.tmp 0), type := 27, pos := "ref.go:107", after := #[], guard := none }) (v := ?_) rfl (by kernel_rfl) (by kernel_rfl) (by kernel_rfl) (by kernel_rfl) (fun _ _ _ h => h) (Or.inl ⟨by rfl, ?_⟩) (by assumption) ?_
  rotate_left 1
  · intro w' hSw; (go_simp <;> (with_reducible rfl))
  (try simp only [Act.put, List.setIfInBounds_toArray, List.set_cons_zero, List.set_cons_succ])
  refine anyHL_take (i := 1) (oi := { dst := some 96, op := Go.Op.move (Go.Operand.tmp 17), type := 57, pos := "ref.go:107", after := #[], guard := none }) (v := ?_) rfl (by kernel_rfl) (by kernel_rfl) (by kernel_rfl) (by kernel_rfl) (fun _ _ _ h => h) (Or.inl ⟨by rfl, ?_⟩) (by assumption) ?_
  rotate_left 1
  · intro w' hSw; (go_simp <;> (with_reducible rfl))
  (try simp only [Act.put, List.setIfInBounds_toArray, List.set_cons_zero, List.set_cons_succ])
  refine anyHL_take (i := 2) (oi := { dst := some 97, op := Go.Op.move (Go.Operand.tmp 0), type := 27, pos := "ref.go:107", after := #[], guard := none }) (v := ?_) rfl (by kernel_rfl) (by kernel_rfl) (by kernel_rfl) (by kernel_rfl) (fun _ _ _ h => h) (Or.inl ⟨by rfl, ?_⟩) (by assumption) ?_
  rotate_left 1
  · intro w' hSw; (go_simp <;> (with_reducible rfl))
  (try simp only [Act.put, List.setIfInBounds_toArray, List.set_cons_zero, List.set_cons_succ])
  refine anyHL_take (i := 3) (oi := { dst := some 98, op := Go.Op.nilCheck (Go.Operand.tmp 97), type := 0, pos := "ref.go:107", after := #[{ on := 2, ground := Go.Ground.data }], guard := none }) (v := ?_) rfl (by kernel_rfl) (by kernel_rfl) (by kernel_rfl) (by kernel_rfl) (fun _ _ _ h => h) (Or.inl ⟨by rfl, ?_⟩) (by assumption) ?_
  rotate_left 1
  · intro w' hSw; (go_simp <;> (with_reducible rfl))
  (try simp only [Act.put, List.setIfInBounds_toArray, List.set_cons_zero, List.set_cons_succ])
  refine anyHL_take (i := 4) (oi := { dst := some 99, op := Go.Op.fieldAddr 59 (Go.Operand.tmp 98) 2, type := 0, pos := "ref.go:107", after := #[{ on := 3, ground := Go.Ground.data }], guard := none }) (v := ?_) rfl (by kernel_rfl) (by kernel_rfl) (by kernel_rfl) (by kernel_rfl) (fun _ _ _ h => h) (Or.inl ⟨by rfl, ?_⟩) (by assumption) ?_
  rotate_left 1
  · intro w' hSw; (go_simp <;> (with_reducible rfl))
  (try simp only [Act.put, List.setIfInBounds_toArray, List.set_cons_zero, List.set_cons_succ])
  refine anyHL_take (i := 5) (oi := { dst := some 100, op := Go.Op.load 32 (Go.Operand.tmp 99), type := 32, pos := "ref.go:107", after := #[{ on := 4, ground := Go.Ground.data }], guard := none }) (v := ?_) rfl (by kernel_rfl) (by kernel_rfl) (by kernel_rfl) (by kernel_rfl) (fun _ _ _ h => h) (Or.inl ⟨by rfl, ?_⟩) (by assumption) ?_
  rotate_left 1
  · intro w' hSw; (go_simp <;> (with_reducible rfl))
  (try simp only [Act.put, List.setIfInBounds_toArray, List.set_cons_zero, List.set_cons_succ])
  refine anyHL_take (i := 6) (oi := { dst := some 101, op := Go.Op.load 37 (Go.Operand.tmp 4), type := 37, pos := "ref.go:107", after := #[], guard := none }) (v := ?_) rfl (by kernel_rfl) (by kernel_rfl) (by kernel_rfl) (by kernel_rfl) (fun _ _ _ h => h) (Or.inl ⟨by rfl, ?_⟩) (by assumption) ?_
  rotate_left 1
  · intro w' hSw; (go_simp <;> (with_reducible rfl))
  (try simp only [Act.put, List.setIfInBounds_toArray, List.set_cons_zero, List.set_cons_succ])
  refine anyHL_take (i := 7) (oi := { dst := some 102, op := Go.Op.load 37 (Go.Operand.tmp 5), type := 37, pos := "ref.go:107", after := #[], guard := none }) (v := ?_) rfl (by kernel_rfl) (by kernel_rfl) (by kernel_rfl) (by kernel_rfl) (fun _ _ _ h => h) (Or.inl ⟨by rfl, ?_⟩) (by assumption) ?_
  rotate_left 1
  · intro w' hSw; (go_simp <;> (with_reducible rfl))
  (try simp only [Act.put, List.setIfInBounds_toArray, List.set_cons_zero, List.set_cons_succ])
  refine anyHL_take (i := 8) (oi := { dst := some 103, op := Go.Op.build 54 #[(0, Go.Operand.tmp 100), (1, Go.Operand.tmp 101), (2, Go.Operand.tmp 102), (3, Go.Operand.const (Go.Value.bool true))], type := 54, pos := "ref.go:107", after := #[{ on := 5, ground := Go.Ground.data }, { on := 6, ground := Go.Ground.data }, { on := 7, ground := Go.Ground.data }], guard := none }) (v := ?_) rfl (by kernel_rfl) (by kernel_rfl) (by kernel_rfl) (by kernel_rfl) (fun _ _ _ h => h) (Or.inl ⟨by rfl, ?_⟩) (by assumption) ?_
  rotate_left 1
  · intro w' hSw; (go_simp <;> (with_reducible rfl))
  (try simp only [Act.put, List.setIfInBounds_toArray, List.set_cons_zero, List.set_cons_succ])
  refine anyHL_one (i := 9) (o := { dst := some 104, op := Go.Op.buildSlice 57 1 #[(0, Go.Operand.tmp 103)], type := 57, pos := "ref.go:107", after := #[{ on := 8, ground := Go.Ground.data }], guard := none }) (by kernel_rfl) rfl (by kernel_rfl) (fun K hK => ?_)
  go_simp
  rw [Ev4.out, Eq.out]
  refine hK.out _ _ ?_ (fun hHeld => ?_)
  · exact HT4.out
  clear hK K
  (try simp only [Act.put, List.setIfInBounds_toArray, List.set_cons_zero, List.set_cons_succ])
  refine anyHL_one (i := 10) (o := { dst := some 105, op := Go.Op.call { callee := Go.Callee.builtin Go.Builtin.append, args := #[Go.Operand.tmp 96, Go.Operand.tmp 104], argTypes := #[57, 57] }, type := 57, pos := "ref.go:107", after := #[{ on := 1, ground := Go.Ground.data }, { on := 9, ground := Go.Ground.data }], guard := none }) (by kernel_rfl) rfl (by kernel_rfl) (fun K hK => ?_)
  refine step_appX rfl (.tmp 96) (.tmp 104) _ _ rfl rfl _ _ _ v5 rfl rfl Hr5.out ?_
  refine hK.out _ _ ?_ (fun hHeld => ?_)
  · exact HT5.out
  clear hK K
  (try simp only [Act.put, List.setIfInBounds_toArray, List.set_cons_zero, List.set_cons_succ])
  refine anyHL_one (i := 11) (o := { dst := some 106, op := Go.Op.nilCheck (Go.Operand.tmp 95), type := 0, pos := "ref.go:107", after := #[{ on := 0, ground := Go.Ground.data }, { on := 0, ground := Go.Ground.phase }, { on := 1, ground := Go.Ground.phase }, { on := 2, ground := Go.Ground.phase }, { on := 3, ground := Go.Ground.phase }, { on := 4, ground := Go.Ground.phase }, { on := 5, ground := Go.Ground.phase }, { on := 6, ground := Go.Ground.phase }, { on := 7, ground := Go.Ground.phase }, { on := 8, ground := Go.Ground.phase }, { on := 9, ground := Go.Ground.phase }, { on := 10, ground := Go.Ground.phase }], guard := none }) (by kernel_rfl) rfl (by kernel_rfl) (fun K hK => ?_)
  go_simp
  skip
  refine hK.out _ _ ?_ (fun hHeld => ?_)
  · exact HT5.out
  clear hK K
  (try simp only [Act.put, List.setIfInBounds_toArray, List.set_cons_zero, List.set_cons_succ])
  refine anyHL_take (i := 12) (oi := { dst := some 107, op := Go.Op.fieldAddr 59 (Go.Operand.tmp 106) 0, type := 0, pos := "ref.go:107", after := #[{ on := 11, ground := Go.Ground.data }, { on := 0, ground := Go.Ground.phase }, { on := 1, ground := Go.Ground.phase }, { on := 2, ground := Go.Ground.phase }, { on := 3, ground := Go.Ground.phase }, { on := 4, ground := Go.Ground.phase }, { on := 5, ground := Go.Ground.phase }, { on := 6, ground := Go.Ground.phase }, { on := 7, ground := Go.Ground.phase }, { on := 8, ground := Go.Ground.phase }, { on := 9, ground := Go.Ground.phase }, { on := 10, ground := Go.Ground.phase }], guard := none }) (v := ?_) rfl (by kernel_rfl) (by kernel_rfl) (by kernel_rfl) (by kernel_rfl) (fun _ _ _ h => h) (Or.inl ⟨by rfl, ?_⟩) (by assumption) ?_
  rotate_left 1
  · intro w' hSw; (go_simp <;> (with_reducible rfl))
  (try simp only [Act.put, List.setIfInBounds_toArray, List.set_cons_zero, List.set_cons_succ])
  refine anyHL_last (o := { dst := none, op := Go.Op.store 57 (Go.Operand.tmp 107) (Go.Operand.tmp 105), type := 0, pos := "ref.go:107", after := #[{ on := 12, ground := Go.Ground.data }, { on := 10, ground := Go.Ground.data }, { on := 10, ground := Go.Ground.chain }, { on := 0, ground := Go.Ground.phase }, { on := 1, ground := Go.Ground.phase }, { on := 2, ground := Go.Ground.phase }, { on := 3, ground := Go.Ground.phase }, { on := 4, ground := Go.Ground.phase }, { on := 5, ground := Go.Ground.phase }, { on := 6, ground := Go.Ground.phase }, { on := 7, ground := Go.Ground.phase }, { on := 8, ground := Go.Ground.phase }, { on := 9, ground := Go.Ground.phase }, { on := 10, ground := Go.Ground.phase }], guard := none }) (by kernel_rfl) rfl (by kernel_rfl) (fun K hK => ?_)
  go_simp
  skip
  refine hK.out _ _ ?_
  clear hK K
  (try simp only [Act.put, List.setIfInBounds_toArray, List.set_cons_zero, List.set_cons_succ])
  go_wp2_with fail
  go_ret3
  first | exact HF.out | (have eZ := Ewt.out; subst eZ; exact HF.out)
set_option maxHeartbeats 4000000 in
theorem radd_goes (t x : Tu) (i1 i2 : Int) (k : Nat) (ht : t ≠ zT) (hi1 : idOf (innF t L) = i1) (hb1 : isOf (innF t L) = false) (hi2 : idOf (outF x L) = i2) (hb2 : isOf (outF x L) = false) (hM : ¬ (L.length : Int) < M) (he : emF L = some k) (hla : 0 ≤ last ∧ last ≤ 1000000) :
    Calls Try.prog 14 #[.pointer (some ⟨g, 0, none⟩), .agg #[.int .u8 t.pr, .int .u32 t.sr, .int .u32 t.ds, .int .u16 t.sp, .int .u16 t.dp], .agg #[.int .u8 x.pr, .int .u32 x.sr, .int .u32 x.ds, .int .u16 x.sp, .int .u16 x.dp]] w (RDoes S g M (last + 1) (L.eraseIdx k ++ [⟨last + 1, t, x, true⟩]) (.tuple #[.int .u64 (last + 1), .int .u64 (L.getD k f0).id, .int .i64 0]) w) := by
  obtain ⟨l2, el2⟩ : ∃ l2, last + 1 = l2 := ⟨_, rfl⟩
  have Hwl := Lib.hid (show IntKind.u64.wrap (last + 1) = l2 by
    rw [← el2]
    have e : IntKind.u64.wrap (last + 1) = (last + 1) % 18446744073709551616 := by simp [IntKind.wrap, IntKind.bits, IntKind.signed]
    rw [e]; omega)
  rw [el2]
  have hk := (emF_some he).1
  have Hl1 := Lib.hid (show (L.eraseIdx k).length ≤ 1000000 from Nat.le_trans (List.eraseIdx_sublist L k).length_le hn)
  have Hk := Lib.hid hk
  clear hla el2 hk
  obtain ⟨w0, ew⟩ : ∃ w0, ((w.alloc (.cells #[.int .u8 t.pr, .int .u32 t.sr, .int .u32 t.ds, .int .u16 t.sp, .int .u16 t.dp] 37)).alloc (.cells #[.int .u8 x.pr, .int .u32 x.sr, .int .u32 x.ds, .int .u16 x.sp, .int .u16 x.dp] 37)).alloc (.cells #[.int .u8 0, .int .u32 0, .int .u32 0, .int .u16 0, .int .u16 0] 37) = w0 := ⟨_, rfl⟩
  obtain ⟨z, hz⟩ : ∃ z, w.heap.size = z := ⟨_, rfl⟩
  have hb0 : Below w.heap.size w w0 := by rw [← ew]; exact (((Below.refl _ _).alloc (Nat.le_refl _) _).alloc (by simp) _).alloc (by simp; omega) _
  have hk0 : w0.heap[z]? = some (.cells #[.int .u8 t.pr, .int .u32 t.sr, .int .u32 t.ds, .int .u16 t.sp, .int .u16 t.dp] 37 (0, 0)) := by rw [← ew, Below.heap_alloc _ _ _ (by simp [hz]; omega), Below.heap_alloc _ _ _ (by simp [hz]), ← hz]; exact heap_alloc_new w _
  have hk1 : w0.heap[z + 1]? = some (.cells #[.int .u8 x.pr, .int .u32 x.sr, .int .u32 x.ds, .int .u16 x.sp, .int .u16 x.dp] 37 (0, 0)) := by
    rw [← ew, Below.heap_alloc _ _ _ (by simp [hz]), ← hz]; simpa using heap_alloc_new (w.alloc (.cells #[.int .u8 t.pr, .int .u32 t.sr, .int .u32 t.ds, .int .u16 t.sp, .int .u16 t.dp] 37)) (.cells #[.int .u8 x.pr, .int .u32 x.sr, .int .u32 x.ds, .int .u16 x.sp, .int .u16 x.dp] 37)
  have hk2 : w0.heap[z + 2]? = some (.cells #[.int .u8 0, .int .u32 0, .int .u32 0, .int .u16 0, .int .u16 0] 37 (0, 0)) := by
    rw [← ew, ← hz]; simpa using heap_alloc_new ((w.alloc (.cells #[.int .u8 t.pr, .int .u32 t.sr, .int .u32 t.ds, .int .u16 t.sp, .int .u16 t.dp] 37)).alloc (.cells #[.int .u8 x.pr, .int .u32 x.sr, .int .u32 x.ds, .int .u16 x.sp, .int .u16 x.dp] 37)) (.cells #[.int .u8 0, .int .u32 0, .int .u32 0, .int .u16 0, .int .u16 0] 37)
  have h0 := h.below hb0
  have hSz : ∀ b, S b → b < z := fun b hb => by obtain ⟨_, _, _, _, _, hlt⟩ := h; have := hlt b hb; omega
  have Hk0 := Lib.hid (show ∀ W, Below w0.heap.size w0 W → W.heap[z]? = some (.cells #[.int .u8 t.pr, .int .u32 t.sr, .int .u32 t.ds, .int .u16 t.sp, .int .u16 t.dp] 37 (0, 0)) from fun W hb => blk_on hk0 hb)
  have Hk1 := Lib.hid (show ∀ W, Below w0.heap.size w0 W → W.heap[z + 1]? = some (.cells #[.int .u8 x.pr, .int .u32 x.sr, .int .u32 x.ds, .int .u16 x.sp, .int .u16 x.dp] 37 (0, 0)) from fun W hb => blk_on hk1 hb)
  have Hw := Lib.hid (show ∀ W, Below w0.heap.size w0 W → RefT W S g M last L from fun W hb => h0.below hb)
  obtain ⟨a0, a1, a2, a3, a4⟩ := cells5 hk0
  obtain ⟨b0, b1', b2', b3, b4⟩ := cells5 hk2
  have Ew := Lib.hid ew
  have Hz := Lib.hid hz
  have Hb0 := Lib.hid hb0
  have HSz := Lib.hid hSz
  have Hn := Lib.hid hn
  have heq := fun W => tu_eql t zT W
  have Hh := Lib.hid h
  clear h h0 hb0 hk0 hk1 hk2 ew hz hSz hn
  obtain ⟨b1, e1⟩ : ∃ b, b = false := ⟨false, rfl⟩
  obtain ⟨b2, e2⟩ : ∃ b, b = false := ⟨false, rfl⟩
  rw [← e1] at hb1
  rw [← e2] at hb2
  have HM := Lib.hid hM
  clear hM
  have hs0 : tuSame t zT = false := by
    cases hq : tuSame t zT
    · rfl
    · exact absurd ((tuSame_iff _ _).1 hq) ht
  rw [hs0] at heq
  clear ht hs0
  unfold zT at heq
  simp only at heq
  go_enter Try.func14, Try.ntmps14
  go_upto_region 2 with (fail)
  rw [Ew.out]
  try rw [Hz.out]
  go_wp2_with fail
  refine (rinner_any S g M last L t i1 b1 w0 (Hw.out w0 (Below.refl _ _)) Hn.out hi1 hb1).mono ?_
  rintro e w1 ⟨rfl, hbb⟩
  have Hb1 := Lib.hid hbb
  clear hbb a0 a1 a2 a3 a4 b0 b1' b2' b3 b4
  obtain ⟨c0, c1, c2, c3, c4⟩ := cells5 (Hk1.out w1 Hb1.out)
  go_wp2_with fail
  refine (router_any S g M last L x i2 b2 w1 (Hw.out w1 Hb1.out) Hn.out hi2 hb2).mono ?_
  rintro e w2 ⟨rfl, hbb⟩
  have Hb2 := Lib.hid (below_trans Hb1.out hbb)
  clear hbb c0 c1 c2 c3 c4
  subst e1; subst e2
  clear hi1 hb1 hi2 hb2
  obtain ⟨A, c, hg2, hs2, hSg, hSu, hlt2, hne2⟩ := (Hw.out w2 Hb2.out).row
  have k0 := blk_cell hg2 0
  have k1 := blk_cell hg2 1
  simp at k0 k1
  have hge : decide (M ≤ (L.length : Int)) = true := decide_eq_true (by have := HM.out; omega)
  clear hg2 hs2 hSg hSu hlt2 hne2
  go_wp2_with fail
  go_quiet (fail)
  obtain ⟨w3, ew3⟩ : ∃ w3, w2.drewN nq = w3 := ⟨_, rfl⟩
  have Hb3 := Lib.hid (show Below w0.heap.size w0 w3 by rw [← ew3]; exact Hb2.out.trans (((But.refl (fun _ => False) w2).drewN nq).below (fun _ h => h.elim) Hb2.out.size))
  rw [ew3]
  clear ew3 k0 k1
  obtain ⟨A, c, hg3, hs3, hSg, hSu, hlt3, hne3⟩ := (Hw.out w3 Hb3.out).row
  obtain ⟨n, en⟩ : ∃ n, L.length = n := ⟨_, rfl⟩
  have k0 := blk_cell hg3 0
  simp at k0
  rw [en] at k0 hs3
  have hn1 : n ≤ 1000000 := by have := Hn.out; omega
  have Hen := Lib.hid en
  have Hs3 := Lib.hid hs3
  clear hg3 hs3 hSg hSu hlt3 hne3 en
  go_wp2_with fail
  go_loopg [15, 16] n (fun gk v i wr => ∃ (m : Nat) (a x : Int), v = .int .i64 a ∧ i = .int .i64 x ∧ Hid (gk = m) ∧ m ≤ n ∧ Hid (x + 1 = m) ∧ Hid (EmAt L n m a) ∧ wr = w3)
  case atStart => exact ⟨n, -1, (n : Int) - 1, rfl, by go_num, rfl, Nat.le_refl _, Lib.hid (by omega), Lib.hid (.inl ⟨rfl, fun t h1 h2 => by omega⟩), rfl⟩
  case round =>
    obtain ⟨m, a, y, rfl, rfl, hgk, hmn, hy, hE, hwr⟩ := hrel
    subst wr
    cases m with
    | succ j =>
      obtain rfl : y = (j : Int) := by have := hy.out; omega
      have hjn : j < n := by omega
      obtain ⟨gu, o, rfl, hidx, hfl, hlt⟩ := fl_index_r Hs3.out Hen.out hjn
      obtain ⟨p, ep⟩ : ∃ p, o + j * 12 = p := ⟨_, rfl⟩
      rw [ep] at hidx hfl
      have cb := hfl.cb
      obtain ⟨em, eem⟩ : ∃ em, (L.getD j f0).em = em := ⟨_, rfl⟩
      rw [eem] at cb
      have i0 : (0 : Int) ≤ (j : Int) := by omega
      have i1 : (j : Int) < (n : Int) := by omega
      have Hjn := Lib.hid hjn
      have Heem := Lib.hid eem
      clear hfl ep eem
      cases em with
      | true =>
        have HEn := Lib.hid (hE.out.yes Hjn.out Heem.out)
        go_wp2_with fail
        go_roundg (gk - 1)
        case measure => have := hgk.out; omega
        case rel => exact ⟨j, (j : Int), (j : Int) - 1, rfl, by have := Hjn.out; go_num, by have := hgk.out; show gk - 1 = j; omega, by have := Hjn.out; omega, Lib.hid (by omega), HEn, rfl⟩
      | false =>
        have HEn := Lib.hid (hE.out.no Heem.out)
        go_wp2_with fail
        go_roundg (gk - 1)
        case measure => have := hgk.out; omega
        case rel => exact ⟨j, a, (j : Int) - 1, rfl, by have := Hjn.out; go_num, by have := hgk.out; show gk - 1 = j; omega, by have := Hjn.out; omega, Lib.hid (by omega), HEn, rfl⟩
    | zero =>
      obtain rfl : y = -1 := by have := hy.out; omega
      have ha := hE.out.done Hen.out
      rw [he] at ha
      simp only [rxI] at ha
      subst ha
      skip
      obtain ⟨gu, o, rfl, hidx, hfl, hlt⟩ := fl_index_r Hs3.out Hen.out (show k < n by have := Hk.out; have := Hen.out; omega)
      obtain ⟨p, ep⟩ : ∃ p, o + k * 12 = p := ⟨_, rfl⟩
      rw [ep] at hidx hfl
      have c0 := hfl.c0
      obtain ⟨wt, ewt⟩ : ∃ wt, (L.getD k f0).id = wt := ⟨_, rfl⟩
      rw [ewt] at c0
      have i0 : ¬ (k : Int) < 0 := by omega
      have i1' : (0 : Int) ≤ (k : Int) := by omega
      have i2' : (k : Int) < (n : Int) := by have := Hk.out; have := Hen.out; omega
      have Hwo := Lib.hid (rwithout_any S g M last L k w3 (Hw.out w3 Hb3.out) Hn.out)
      have HEr := Lib.hid (fun (w4 : World) (A4 : Option Addr) (c4 : Nat) (hs4 : SlV w4 54 12 (.slice A4 (L.eraseIdx k).length c4) (L.eraseIdx k).length (flatF (L.eraseIdx k))) (ho4 : ∀ b, (Value.slice A4 (L.eraseIdx k).length c4).ownBlock = some b → w3.heap.size ≤ b) (hb4 : Below w3.heap.size w3 w4) =>
        show (w4.cell? ⟨g, 0, none⟩ = some (.slice (some ⟨gu, o, none⟩) n c) ∧ w4.frozen? ⟨g, 0, none⟩ = false) ∧ RefT (w4.setCell ⟨g, 0, none⟩ (.slice A4 (L.eraseIdx k).length c4)) (fun b => b = g ∨ (Value.slice A4 (L.eraseIdx k).length c4).ownBlock = some b) g M last (L.eraseIdx k) ∧
          But S w (w4.setCell ⟨g, 0, none⟩ (.slice A4 (L.eraseIdx k).length c4)) ∧ (∀ b, (b = g ∨ (Value.slice A4 (L.eraseIdx k).length c4).ownBlock = some b) → S b ∨ w.heap.size ≤ b) ∧
          (w4.setCell ⟨g, 0, none⟩ (.slice A4 (L.eraseIdx k).length c4)).heap[z]? = some (.cells #[.int .u8 t.pr, .int .u32 t.sr, .int .u32 t.ds, .int .u16 t.sp, .int .u16 t.dp] 37 (0, 0)) ∧ (w4.setCell ⟨g, 0, none⟩ (.slice A4 (L.eraseIdx k).length c4)).heap[z + 1]? = some (.cells #[.int .u8 x.pr, .int .u32 x.sr, .int .u32 x.ds, .int .u16 x.sp, .int .u16 x.dp] 37 (0, 0)) ∧
          (¬ (z = g ∨ (Value.slice A4 (L.eraseIdx k).length c4).ownBlock = some z) ∧ ¬ (z + 1 = g ∨ (Value.slice A4 (L.eraseIdx k).length c4).ownBlock = some (z + 1))) from by
        have hR3 := Hw.out w3 Hb3.out
        obtain ⟨A', c', hg', hs', hSg', _, hlt', _⟩ := hR3.row
        have hA : A' = some ⟨gu, o, none⟩ ∧ c' = c := by
          have h1 := blk_cell hg' 0
          rw [k0] at h1
          simp at h1
          exact ⟨h1.1.symm, h1.2.2.symm⟩
        obtain ⟨rfl, rfl⟩ := hA
        rw [Hen.out] at hg'
        have hg4 := blk_on hg' hb4
        have hga := HSz.out g hSg'
        have h03 := below_trans Hb0.out Hb3.out
        have hz1 := lt_of_block (Hk1.out w3 Hb3.out)
        obtain ⟨r1, r2, r3⟩ := hR3.lay hb4 (by rw [Hen.out]; exact hg4) hs4 ho4
        have hB2 : But (fun k => k = g) w4 (w4.setCell ⟨g, 0, none⟩ (.slice A4 (L.eraseIdx k).length c4)) := (But.refl (fun k => k = g) w4).setCell (p := ⟨g, 0, none⟩) rfl _
        refine ⟨⟨blk_cell hg4 0, blk_free hg4 0⟩, r1, (But.of h03).trans r2, fun b hb => ?_, hB2.blk (blk_on (Hk0.out w3 Hb3.out) hb4) (by omega), hB2.blk (blk_on (Hk1.out w3 Hb3.out) hb4) (by omega), fun e => ?_, fun e => ?_⟩
        · rcases r3 b hb with e | e
          · exact .inl e
          · have := h03.size; exact .inr (by omega)
        · rcases e with e | e
          · omega
          · have := ho4 _ e; omega
        · rcases e with e | e
          · omega
          · have := ho4 _ e; omega)
      have Ewt := Lib.hid ewt
      rw [Ewt.out]
      clear hfl ep ewt
      go_wp2_with fail
      refine Hwo.out.mono ?_
      rintro e w4 ⟨A4, c4, rfl, hs4, ho4, hb4⟩
      obtain ⟨⟨g1, g2⟩, t1, t2, t3, t4, t5, t6⟩ := HEr.out w4 A4 c4 hs4 ho4 hb4
      obtain ⟨v1, ev1⟩ : ∃ v, w4.setCell ⟨g, 0, none⟩ (.slice A4 (L.eraseIdx k).length c4) = v := ⟨_, rfl⟩
      rw [ev1] at t1 t2 t4 t5
      have HR1 := Lib.hid t1
      have HBw := Lib.hid t2
      have HS1 := Lib.hid t3
      have Hka := Lib.hid t4
      have Hkb := Lib.hid t5
      have HZ1 := Lib.hid t6
      have Ev1 := Lib.hid ev1
      clear t1 t2 t3 t4 t5 t6 ev1 hs4 ho4 hb4 hge Hb3 Hb2 Hb1 Hk0 Hk1 Hw HSz k0 hidx c0 Hwo HEr
      go_upto_region 20 with (fail)
      rw [Ev1.out]
      clear g1 g2
      -- from world v1 on: HR1, HBw, HS1, Hka, Hkb, HZ1
      obtain ⟨A1, c1, hg1, hs1, hSg1, hSu1, hlt1, hne1⟩ := HR1.out.row
      obtain ⟨m, em⟩ : ∃ m, (L.eraseIdx k).length = m := ⟨_, rfl⟩
      have e0 := blk_cell hg1 0
      have e2 := blk_cell hg1 2
      have ff2 := blk_free hg1 2
      simp at e0 e2
      obtain ⟨v2, ev2⟩ : ∃ v2, v1.setCell ⟨g, 2, none⟩ (.int .u64 l2) = v2 := ⟨_, rfl⟩
      obtain ⟨hR2, hB2⟩ := HR1.out.relast l2
      have hgB2 : But (fun k => k = g) v1 v2 := by rw [← ev2]; exact (But.refl (fun k => k = g) _).setCell (p := ⟨g, 2, none⟩) rfl _
      rw [ev2] at hR2 hB2
      have hka2 := hgB2.blk Hka.out (fun e => HZ1.out.1 (e ▸ hSg1))
      have hkb2 := hgB2.blk Hkb.out (fun e => HZ1.out.2 (e ▸ hSg1))
      have hg2' : v2.heap[g]? = some (.cells #[.slice A1 (L.eraseIdx k).length c1, .int .i64 M, .int .u64 l2] 59 (0, 0)) := by
        have := heap_setCell_at hg1 2 (.int .u64 l2)
        rw [ev2] at this
        simpa using this
      have hs2 := hs1.but hgB2 (fun b hb e => hne1 b hb e)
      have e02 := blk_cell hg2' 0
      simp at e02
      rw [em] at e0 e02
      have hL1m : m ≤ 1000000 := by have := Hl1.out; omega
      obtain ⟨A3, c3, v3, hr3, hs3, hB3, hb3, _⟩ := sv_app (P := Try.prog) v2 57 57 54 _ 12 48 Try.underlying57 info_rflow (by omega) rfl (.slice none 0 0) _ 0 (L.eraseIdx k).length [] _ (.inl ⟨rfl, rfl, rfl⟩) hs2 (flatF_one _) (by omega)
      rw [List.nil_append] at hs3
      rw [Nat.zero_add, em] at hr3 hs3 hb3
      have hBel3 : Below v2.heap.size v2 v3 := hB3.below (fun k hk => by cases hk) (Nat.le_refl _)
      have hown3 : ∀ b, (Value.slice A3 m c3).ownBlock = some b → v2.heap.size ≤ b := fun b hb => by
        rcases hb3 with e | e
        · rw [e] at hb; cases hb
        · rw [e] at hb; injection hb with hb; omega
      obtain ⟨vd, evd⟩ : ∃ vd, v3.drew = vd := ⟨_, rfl⟩
      have hbd : But (fun _ => False) v3 vd := by rw [← evd]; exact (But.refl (fun _ => False) v3).drew
      have hBeld : Below v2.heap.size v2 vd := hBel3.trans (hbd.below (fun _ h => h.elim) hBel3.size)
      obtain ⟨v4, ev4⟩ : ∃ v, vd.alloc (.cells #[.int .u64 l2, .int .u8 t.pr, .int .u32 t.sr, .int .u32 t.ds, .int .u16 t.sp, .int .u16 t.dp, .int .u8 x.pr, .int .u32 x.sr, .int .u32 x.ds, .int .u16 x.sp, .int .u16 x.dp, .bool true] 54) = v := ⟨_, rfl⟩
      obtain ⟨q, eq⟩ : ∃ q, vd.heap.size = q := ⟨_, rfl⟩
      have hb4 : But (fun _ => False) vd v4 := by rw [← ev4]; exact (But.refl (fun _ => False) vd).alloc _
      have hBel4 : Below v2.heap.size v2 v4 := hBeld.trans (hb4.below (fun _ h => h.elim) hBeld.size)
      have hkl : v4.heap[q]? = some (.cells (flV ⟨l2, t, x, true⟩).toArray 54 (0, 0)) := by rw [← ev4, ← eq]; exact heap_alloc_new vd _
      obtain ⟨A5, c5, v5, hr5, hs5, hB5, ho5⟩ := flow_app_r v4 A3 m c3 q (L.eraseIdx k) ⟨l2, t, x, true⟩ ((hs3.but hbd (fun _ _ h => h)).but hb4 (fun _ _ h => h)) hkl (by omega)
      have hBel5 : Below v2.heap.size v2 v5 := hBel4.trans (hB5.below hown3 hBel4.size)
      have hT : ∀ W, Below v2.heap.size v2 W → W.cell? ⟨g, 2, none⟩ = some (.int .u64 l2) ∧ (W.cell? ⟨z, 0, none⟩ = some (.int .u8 t.pr) ∧ W.cell? ⟨z, 1, none⟩ = some (.int .u32 t.sr) ∧ W.cell? ⟨z, 2, none⟩ = some (.int .u32 t.ds) ∧ W.cell? ⟨z, 3, none⟩ = some (.int .u16 t.sp) ∧ W.cell? ⟨z, 4, none⟩ = some (.int .u16 t.dp)) ∧
          (W.cell? ⟨z + 1, 0, none⟩ = some (.int .u8 x.pr) ∧ W.cell? ⟨z + 1, 1, none⟩ = some (.int .u32 x.sr) ∧ W.cell? ⟨z + 1, 2, none⟩ = some (.int .u32 x.ds) ∧ W.cell? ⟨z + 1, 3, none⟩ = some (.int .u16 x.sp) ∧ W.cell? ⟨z + 1, 4, none⟩ = some (.int .u16 x.dp)) := fun W hW =>
        ⟨by have := blk_cell (blk_on hg2' hW) 2; simpa using this, cells5 (blk_on hka2 hW), cells5 (blk_on hkb2 hW)⟩
      obtain ⟨n1, en1⟩ : ∃ n1, m + 1 = n1 := ⟨_, rfl⟩
      rw [en1] at hr5 hs5 ho5
      have hlen : ((L.eraseIdx k) ++ [(⟨l2, t, x, true⟩ : Fl)]).length = n1 := by simp [em, en1]
      obtain ⟨r1, r2, r3⟩ := hR2.lay hBel5 (blk_on hg2' hBel5) (v := .slice A5 n1 c5) (L' := (L.eraseIdx k) ++ [⟨l2, t, x, true⟩]) (by rw [hlen]; exact hs5) (fun b hb => by
        rcases ho5 with e | e
        · exact hown3 b (e ▸ hb)
        · rw [e] at hb; injection hb with hb; have := hBel4.size; omega)
      have f05 := blk_free (blk_on hg2' hBel5) 0
      have e05 : v5.cell? ⟨g, 0, none⟩ = some (.slice A1 m c1) := by have := blk_cell (blk_on hg2' hBel5) 0; rw [em] at this; simpa using this
      have hg6 := heap_setCell_at (blk_on hg2' hBel5) 0 (.slice A5 n1 c5)
      have e26 : (v5.setCell ⟨g, 0, none⟩ (.slice A5 n1 c5)).cell? ⟨g, 2, none⟩ = some (.int .u64 l2) := by have := blk_cell hg6 2; simpa using this
      have hsz1 := HBw.out.size
      have HF := Lib.hid (show RDoes S g M l2 ((L.eraseIdx k) ++ [⟨l2, t, x, true⟩]) (.tuple #[.int .u64 l2, .int .u64 wt, .int .i64 0]) w (.returned (.tuple #[.int .u64 l2, .int .u64 wt, .int .i64 0])) (v5.setCell ⟨g, 0, none⟩ (.slice A5 n1 c5)) from by
        have hsub : ∀ bb, ((fun b => b = g ∨ (Value.slice A4 (L.eraseIdx k).length c4).ownBlock = some b)) bb → bb < w.heap.size → S bb := fun bb hk hk2 => by
          rcases HS1.out bb hk with e | e
          · exact e
          · omega
        refine ⟨rfl, _, r1, (HBw.out.trans2 hB2 (fun bb hk e => hsub bb e hk)).trans2 r2 (fun bb hk e => hsub bb e hk), fun bb hk => ?_⟩
        rcases r3 bb hk with e | e
        · exact HS1.out bb e
        · have := hB2.size; exact .inr (by omega))
      have HTd := Lib.hid (hT vd hBeld)
      have HT4 := Lib.hid (hT v4 hBel4)
      have HT5 := Lib.hid (hT v5 hBel5)
      have Hr3 := Lib.hid hr3
      have Hr5 := Lib.hid hr5
      have Ev2 := Lib.hid ev2
      have Evd := Lib.hid evd
      have Ev4 := Lib.hid ev4
      have Eq := Lib.hid eq
      have hwl := Hwl.out
      clear hg1 hs1 hSg1 hSu1 hlt1 hne1 hR2 hB2 hgB2 hka2 hkb2 hg2' hs2 hL1m hr3 hs3 hB3 hb3 hBel3 hown3 hbd hBeld hb4 hBel4 hkl hr5 hs5 hB5 ho5 hBel5 hT r1 r2 r3 hg6 hsz1 ev2 evd ev4 eq hlen en1 em
      go_upto_region 21 with (fail)
      rw [Ev2.out]
      go_wp2_with (at_builtin; refine wpList_appX rfl (.tmp 89) (.tmp 93) _ _ rfl rfl _ _ _ v3 rfl rfl Hr3.out ?_)
      refine wp_region_heldL (S := fun W => W.cell? ⟨g, 2, none⟩ = some (.int .u64 l2) ∧ (W.cell? ⟨z, 0, none⟩ = some (.int .u8 t.pr) ∧ W.cell? ⟨z, 1, none⟩ = some (.int .u32 t.sr) ∧ W.cell? ⟨z, 2, none⟩ = some (.int .u32 t.ds) ∧ W.cell? ⟨z, 3, none⟩ = some (.int .u16 t.sp) ∧ W.cell? ⟨z, 4, none⟩ = some (.int .u16 t.dp)) ∧
          (W.cell? ⟨z + 1, 0, none⟩ = some (.int .u8 x.pr) ∧ W.cell? ⟨z + 1, 1, none⟩ = some (.int .u32 x.sr) ∧ W.cell? ⟨z + 1, 2, none⟩ = some (.int .u32 x.ds) ∧ W.cell? ⟨z + 1, 3, none⟩ = some (.int .u16 x.sp) ∧ W.cell? ⟨z + 1, 4, none⟩ = some (.int .u16 x.dp))) 13 (by kernel_rfl) (by rw [Evd.out]; exact HTd.out) (fun hHeld => ?_)
      rw [Evd.out] at hHeld ⊢
      refine anyHL_take (i := 0) (oi := { dst := some 95, op := Go.Op.move (Go.Operand.tmp 0), type := 27, pos := "ref.go:107", after := #[], guard := none }) (v := ?_) rfl (by kernel_rfl) (by kernel_rfl) (by kernel_rfl) (by kernel_rfl) (fun _ _ _ h => h) (Or.inl ⟨by rfl, ?_⟩) (by assumption) ?_
      rotate_left 1
      · intro w' hSw; (go_simp <;> (with_reducible rfl))
      (try simp only [Act.put, List.setIfInBounds_toArray, List.set_cons_zero, List.set_cons_succ])
      refine anyHL_take (i := 1) (oi := { dst := some 96, op := Go.Op.move (Go.Operand.tmp 17), type := 57, pos := "ref.go:107", after := #[], guard := none }) (v := ?_) rfl (by kernel_rfl) (by kernel_rfl) (by kernel_rfl) (by kernel_rfl) (fun _ _ _ h => h) (Or.inl ⟨by rfl, ?_⟩) (by assumption) ?_
      rotate_left 1
      · intro w' hSw; (go_simp <;> (with_reducible rfl))
      (try simp only [Act.put, List.setIfInBounds_toArray, List.set_cons_zero, List.set_cons_succ])
      refine anyHL_take (i := 2) (oi := { dst := some 97, op := Go.Op.move (Go.Operand.tmp 0), type := 27, pos := "ref.go:107", after := #[], guard := none }) (v := ?_) rfl (by kernel_rfl) (by kernel_rfl) (by kernel_rfl) (by kernel_rfl) (fun _ _ _ h => h) (Or.inl ⟨by rfl, ?_⟩) (by assumption) ?_
      rotate_left 1
      · intro w' hSw; (go_simp <;> (with_reducible rfl))
      (try simp only [Act.put, List.setIfInBounds_toArray, List.set_cons_zero, List.set_cons_succ])
      refine anyHL_take (i := 3) (oi := { dst := some 98, op := Go.Op.nilCheck (Go.Operand.tmp 97), type := 0, pos := "ref.go:107", after := #[{ on := 2, ground := Go.Ground.data }], guard := none }) (v := ?_) rfl (by kernel_rfl) (by kernel_rfl) (by kernel_rfl) (by kernel_rfl) (fun _ _ _ h => h) (Or.inl ⟨by rfl, ?_⟩) (by assumption) ?_
      rotate_left 1
      · intro w' hSw; (go_simp <;> (with_reducible rfl))
      (try simp only [Act.put, List.setIfInBounds_toArray, List.set_cons_zero, List.set_cons_succ])
      refine anyHL_take (i := 4) (oi := { dst := some 99, op := Go.Op.fieldAddr 59 (Go.Operand.tmp 98) 2, type := 0, pos := "ref.go:107", after := #[{ on := 3, ground := Go.Ground.data }], guard := none }) (v := ?_) rfl (by kernel_rfl) (by kernel_rfl) (by kernel_rfl) (by kernel_rfl) (fun _ _ _ h => h) (Or.inl ⟨by rfl, ?_⟩) (by assumption) ?_
      rotate_left 1
      · intro w' hSw; (go_simp <;> (with_reducible rfl))
      (try simp only [Act.put, List.setIfInBounds_toArray, List.set_cons_zero, List.set_cons_succ])
      refine anyHL_take (i := 5) (oi := { dst := some 100, op := Go.Op.load 32 (Go.Operand.tmp 99), type := 32, pos := "ref.go:107", after := #[{ on := 4, ground := Go.Ground.data }], guard := none }) (v := ?_) rfl (by kernel_rfl) (by kernel_rfl) (by kernel_rfl) (by kernel_rfl) (fun _ _ _ h => h) (Or.inl ⟨by rfl, ?_⟩) (by assumption) ?_
      rotate_left 1
      · intro w' hSw; (go_simp <;> (with_reducible rfl))
      (try simp only [Act.put, List.setIfInBounds_toArray, List.set_cons_zero, List.set_cons_succ])
      refine anyHL_take (i := 6) (oi := { dst := some 101, op := Go.Op.load 37 (Go.Operand.tmp 4), type := 37, pos := "ref.go:107", after := #[], guard := none }) (v := ?_) rfl (by kernel_rfl) (by kernel_rfl) (by kernel_rfl) (by kernel_rfl) (fun _ _ _ h => h) (Or.inl ⟨by rfl, ?_⟩) (by assumption) ?_
      rotate_left 1
      · intro w' hSw; (go_simp <;> (with_reducible rfl))
      (try simp only [Act.put, List.setIfInBounds_toArray, List.set_cons_zero, List.set_cons_succ])
      refine anyHL_take (i := 7) (oi := { dst := some 102, op := Go.Op.load 37 (Go.Operand.tmp 5), type := 37, pos := "ref.go:107", after := #[], guard := none }) (v := ?_) rfl (by kernel_rfl) (by kernel_rfl) (by kernel_rfl) (by kernel_rfl) (fun _ _ _ h => h) (Or.inl ⟨by rfl, ?_⟩) (by assumption) ?_
      rotate_left 1
      · intro w' hSw; (go_simp <;> (with_reducible rfl))
      (try simp only [Act.put, List.setIfInBounds_toArray, List.set_cons_zero, List.set_cons_succ])
      refine anyHL_take (i := 8) (oi := { dst := some 103, op := Go.Op.build 54 #[(0, Go.Operand.tmp 100), (1, Go.Operand.tmp 101), (2, Go.Operand.tmp 102), (3, Go.Operand.const (Go.Value.bool true))], type := 54, pos := "ref.go:107", after := #[{ on := 5, ground := Go.Ground.data }, { on := 6, ground := Go.Ground.data }, { on := 7, ground := Go.Ground.data }], guard := none }) (v := ?_) rfl (by kernel_rfl) (by kernel_rfl) (by kernel_rfl) (by kernel_rfl) (fun _ _ _ h => h) (Or.inl ⟨by rfl, ?_⟩) (by assumption) ?_
      rotate_left 1
      · intro w' hSw; (go_simp <;> (with_reducible rfl))
      (try simp only [Act.put, List.setIfInBounds_toArray, List.set_cons_zero, List.set_cons_succ])
      refine anyHL_one (i := 9) (o := { dst := some 104, op := Go.Op.buildSlice 57 1 #[(0, Go.Operand.tmp 103)], type := 57, pos := "ref.go:107", after := #[{ on := 8, ground := Go.Ground.data }], guard := none }) (by kernel_rfl) rfl (by kernel_rfl) (fun K hK => ?_)
      go_simp
      rw [Ev4.out, Eq.out]
      refine hK.out _ _ ?_ (fun hHeld => ?_)
      · exact HT4.out
      clear hK K
      (try simp only [Act.put, List.setIfInBounds_toArray, List.set_cons_zero, List.set_cons_succ])
      refine anyHL_one (i := 10) (o := { dst := some 105, op := Go.Op.call { callee := Go.Callee.builtin Go.Builtin.append, args := #[Go.Operand.tmp 96, Go.Operand.tmp 104], argTypes := #[57, 57] }, type := 57, pos := "ref.go:107", after := #[{ on := 1, ground := Go.Ground.data }, { on := 9, ground := Go.Ground.data }], guard := none }) (by kernel_rfl) rfl (by kernel_rfl) (fun K hK => ?_)
      refine step_appX rfl (.tmp 96) (.tmp 104) _ _ rfl rfl _ _ _ v5 rfl rfl Hr5.out ?_
      refine hK.out _ _ ?_ (fun hHeld => ?_)
      · exact HT5.out
      clear hK K
      (try simp only [Act.put, List.setIfInBounds_toArray, List.set_cons_zero, List.set_cons_succ])
      refine anyHL_one (i := 11) (o := { dst := some 106, op := Go.Op.nilCheck (Go.Operand.tmp 95), type := 0, pos := "ref.go:107", after := #[{ on := 0, ground := Go.Ground.data }, { on := 0, ground := Go.Ground.phase }, { on := 1, ground := Go.Ground.phase }, { on := 2, ground := Go.Ground.phase }, { on := 3, ground := Go.Ground.phase }, { on := 4, ground := Go.Ground.phase }, { on := 5, ground := Go.Ground.phase }, { on := 6, ground := Go.Ground.phase }, { on := 7, ground := Go.Ground.phase }, { on := 8, ground := Go.Ground.phase }, { on := 9, ground := Go.Ground.phase }, { on := 10, ground := Go.Ground.phase }], guard := none }) (by kernel_rfl) rfl (by kernel_rfl) (fun K hK => ?_)
      go_simp
      skip
      refine hK.out _ _ ?_ (fun hHeld => ?_)
      · exact HT5.out
      clear hK K
      (try simp only [Act.put, List.setIfInBounds_toArray, List.set_cons_zero, List.set_cons_succ])
      refine anyHL_take (i := 12) (oi := { dst := some 107, op := Go.Op.fieldAddr 59 (Go.Operand.tmp 106) 0, type := 0, pos := "ref.go:107", after := #[{ on := 11, ground := Go.Ground.data }, { on := 0, ground := Go.Ground.phase }, { on := 1, ground := Go.Ground.phase }, { on := 2, ground := Go.Ground.phase }, { on := 3, ground := Go.Ground.phase }, { on := 4, ground := Go.Ground.phase }, { on := 5, ground := Go.Ground.phase }, { on := 6, ground := Go.Ground.phase }, { on := 7, ground := Go.Ground.phase }, { on := 8, ground := Go.Ground.phase }, { on := 9, ground := Go.Ground.phase }, { on := 10, ground := Go.Ground.phase }], guard := none }) (v := ?_) rfl (by kernel_rfl) (by kernel_rfl) (by kernel_rfl) (by kernel_rfl) (fun _ _ _ h => h) (Or.inl ⟨by rfl, ?_⟩) (by assumption) ?_
      rotate_left 1
      · intro w' hSw; (go_simp <;> (with_reducible rfl))
      (try simp only [Act.put, List.setIfInBounds_toArray, List.set_cons_zero, List.set_cons_succ])
      refine anyHL_last (o := { dst := none, op := Go.Op.store 57 (Go.Operand.tmp 107) (Go.Operand.tmp 105), type := 0, pos := "ref.go:107", after := #[{ on := 12, ground := Go.Ground.data }, { on := 10, ground := Go.Ground.data }, { on := 10, ground := Go.Ground.chain }, { on := 0, ground := Go.Ground.phase }, { on := 1, ground := Go.Ground.phase }, { on := 2, ground := Go.Ground.phase }, { on := 3, ground := Go.Ground.phase }, { on := 4, ground := Go.Ground.phase }, { on := 5, ground := Go.Ground.phase }, { on := 6, ground := Go.Ground.phase }, { on := 7, ground := Go.Ground.phase }, { on := 8, ground := Go.Ground.phase }, { on := 9, ground := Go.Ground.phase }, { on := 10, ground := Go.Ground.phase }], guard := none }) (by kernel_rfl) rfl (by kernel_rfl) (fun K hK => ?_)
      go_simp
      skip
      refine hK.out _ _ ?_
      clear hK K
      (try simp only [Act.put, List.setIfInBounds_toArray, List.set_cons_zero, List.set_cons_succ])
      go_wp2_with fail
      go_ret3
      first | exact HF.out | (have eZ := Ewt.out; subst eZ; exact HF.out)
end
end Go.Proofs.Ytnhlbohdlnjaaaa
