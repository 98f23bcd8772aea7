/-
  The contract of package wheel's Copy.
-/
import Derived.Test.YtlpgabbnldalhaaWhlClone
import Derived.Test.YtlpgabbnldalhaaAlmClone
import Derived.Test.YtlpgabbnldalhaaWhole
namespace Go.Proofs.Ytlpgabbnldalhaa
set_option maxRecDepth 10000
open Go.RowKit
set_option linter.unusedSimpArgs false
set_option linter.unusedVariables false

/-- What the walk of Copy knows when j lists have been cloned. -/
structure CopyAtW (S : Nat → Prop) (g m : Nat) (C : Array Value) (hs : Nat → Value) (ck : Int) (sl : Nat → AL) (K : Int → Prop) (R : Int → Value) (w : World) (g2 m2 : Nat) (Cj : Array Value) (hc : Nat → Value) (j : Nat) (wr : World) : Prop where
  old : WMem wr S g m C hs ck sl K R
  box : wr.heap[g2]? = some (.cells Cj 60 (0, 0))
  size : Cj.size = 67
  c0 : Cj[0]? = some (.pointer (some ⟨g2, 0, none⟩))
  c1 : Cj[1]? = some (.int .u64 ck)
  c2 : Cj[2]? = some (.map (some m2))
  cs : ∀ t, t < 64 → Cj[3 + t]? = some (if t < j then hc t else hs t)
  map : MUP wr m2 K R
  row : ∀ t, t < j → SlV wr 65 2 (hc t) (sl t).length (flatA (sl t))
  apart : ∀ s t b, s < j → t < j → (hc s).ownBlock = some b → (hc t).ownBlock = some b → s = t
  g2 : w.heap.size ≤ g2
  m2 : w.heap.size ≤ m2
  own : ∀ t b, t < j → (hc t).ownBlock = some b → w.heap.size ≤ b
  below : Below w.heap.size w wr
theorem copy_step {S : Nat → Prop} {g m : Nat} {C : Array Value} {hs : Nat → Value} {ck : Int} {sl : Nat → AL} {K : Int → Prop} {R : Int → Value} {w : World} {g2 m2 : Nat} {Cj : Array Value} {hc : Nat → Value} {j : Nat} {wr : World} (h : CopyAtW S g m C hs ck sl K R w g2 m2 Cj hc j wr) (hlt : ∀ k, S k → k < w.heap.size) (hj : j < 64)
    {w2 : World} {v : Value} (hB : Below wr.heap.size wr w2) (hv : SlV w2 65 2 v (sl j).length (flatA (sl j))) (ho : ∀ b, v.ownBlock = some b → wr.heap.size ≤ b) :
    (∃ x, w2.cell? ⟨g2, 3 + j, none⟩ = some x) ∧ w2.frozen? ⟨g2, 3 + j, none⟩ = false ∧ CopyAtW S g m C hs ck sl K R w g2 m2 (Cj.setIfInBounds (3 + j) v) (upd hc j v) (j + 1) (w2.setCell ⟨g2, 3 + j, none⟩ v) := by
  have hBb : But (fun _ => False) wr w2 := But.of hB
  have hbox := hBb.blk h.box (fun x => x)
  have hg2 : But (fun k => k = g2) w2 (w2.setCell ⟨g2, 3 + j, none⟩ v) := (But.refl (fun k => k = g2) w2).setCell (p := ⟨g2, 3 + j, none⟩) rfl _
  have hg2l := lt_of_block h.box
  have hgr : ∀ b, v.ownBlock = some b → b ≠ g2 := fun b hb e => by have := ho b hb; omega
  have hm2 : m2 ≠ g2 := by
    rintro e
    obtain ⟨es, clock, hm⟩ := h.map
    have := hm.at_
    rw [e, h.box] at this
    cases this
  have hcg : ∀ t b, t < j → (hc t).ownBlock = some b → b ≠ g2 := fun t b ht hb e => by
    subst e
    obtain ⟨C', hC⟩ := (h.row t ht).blk hb
    have := h.box.symm.trans hC
    injection this with e
    injection e with _ e
    revert e
    decide
  refine ⟨⟨_, (blk_cell hbox (3 + j)).trans (h.cs j hj)⟩, blk_free hbox _, ⟨?_, heap_setCell_at hbox _ _, by simpa using h.size, ?_, ?_, ?_, fun t ht => ?_, (h.map.but hBb (fun x => x)).but hg2 hm2, fun t ht => ?_, fun s t b hs' ht' h1 h2 => ?_, h.g2, h.m2, fun t b ht hb => ?_, ?_⟩⟩
  · exact (h.old.but hBb (fun _ _ x => x)).but hg2 (fun k hk e => by have := hlt k hk; have := h.g2; omega)
  · rw [Array.getElem?_setIfInBounds_ne (by omega)]; exact h.c0
  · rw [Array.getElem?_setIfInBounds_ne (by omega)]; exact h.c1
  · rw [Array.getElem?_setIfInBounds_ne (by omega)]; exact h.c2
  · by_cases e : t = j
    · subst e
      have h3 : 3 + t < Cj.size := by rw [h.size]; omega
      rw [if_pos (by omega), upd_same]
      simp [h3]
    · rw [Array.getElem?_setIfInBounds_ne (by omega), h.cs t ht]
      by_cases e2 : t < j
      · rw [if_pos e2, if_pos (by omega), upd_ne _ _ e]
      · rw [if_neg e2, if_neg (by omega)]
  · by_cases e : t = j
    · subst e
      rw [upd_same]
      exact hv.but hg2 hgr
    · rw [upd_ne _ _ e]
      exact ((h.row t (by omega)).but hBb (fun _ _ x => x)).but hg2 (fun b hb => hcg t b (by omega) hb)
  · by_cases e : s = j
    · subst e
      rw [upd_same] at h1
      by_cases e2 : t = s
      · exact e2.symm
      · rw [upd_ne _ _ e2] at h2
        have := ho b h1
        have := (h.row t (by omega)).lt h2
        omega
    · rw [upd_ne _ _ e] at h1
      by_cases e2 : t = j
      · subst e2
        rw [upd_same] at h2
        have := ho b h2
        have := (h.row s (by omega)).lt h1
        omega
      · rw [upd_ne _ _ e2] at h2
        exact h.apart s t b (by omega) (by omega) h1 h2
  · by_cases e : t = j
    · subst e
      rw [upd_same] at hb
      have := ho b hb
      have := h.below.size
      omega
    · rw [upd_ne _ _ e] at hb
      exact h.own t b (by omega) hb
  · refine h.below.trans ?_
    have h1 : Below w.heap.size wr w2 := hB.mono h.below.size
    exact h1.trans (hg2.below (B := w.heap.size) (fun k hk => by rw [hk]; exact h.g2) (Nat.le_trans h.below.size hB.size))
theorem CopyAtW.done {S : Nat → Prop} {g m : Nat} {C : Array Value} {hs : Nat → Value} {ck : Int} {sl : Nat → AL} {K : Int → Prop} {R : Int → Value} {w : World} {g2 m2 : Nat} {Cj : Array Value} {hc : Nat → Value} {wr : World} (h : CopyAtW S g m C hs ck sl K R w g2 m2 Cj hc 64 wr) :
    WMem wr (fun k => w.heap.size ≤ k ∧ k < wr.heap.size) g2 m2 Cj hc ck sl K R :=
  ⟨h.box, h.size, h.c0, h.c1, h.c2, fun t ht => by rw [h.cs t ht, if_pos ht], h.map, h.row, fun i j b hi hj h1 h2 => h.apart i j b hi hj h1 h2, ⟨h.g2, lt_of_block h.box⟩, ⟨h.m2, by obtain ⟨es, clock, hm⟩ := h.map; exact lt_of_block hm.at_⟩, fun j b hj hb => ⟨h.own j b hj hb, (h.row j hj).lt hb⟩, fun k hk => hk.2⟩
def CopyIsW (S : Nat → Prop) (g m : Nat) (C : Array Value) (hs : Nat → Value) (ck : Int) (sl : Nat → AL) (K : Int → Prop) (R : Int → Value) (w : World) (e : Ending) (w' : World) : Prop :=
  ∃ g2 m2 C2 hs2 S2, e = .returned (.pointer (some ⟨g2, 0, none⟩)) ∧ WMem w' S g m C hs ck sl K R ∧ WMem w' S2 g2 m2 C2 hs2 ck sl K R ∧ Below w.heap.size w w' ∧ ∀ k, S2 k → w.heap.size ≤ k
theorem WMem.one {w : World} {S : Nat → Prop} {g m : Nat} {C : Array Value} {hs : Nat → Value} {ck : Int} {sl : Nat → AL} {K : Int → Prop} {R : Int → Value} (h : WMem w S g m C hs ck sl K R) : C.all (·.oneCell') = true := by
  rw [Array.all_eq_true]
  intro i hi
  have hs67 := h.size
  have key : ∃ v, C[i]? = some v ∧ v.oneCell' = true := by
    rcases (by omega : i = 0 ∨ i = 1 ∨ i = 2 ∨ 3 ≤ i) with e | e | e | e
    · subst e; exact ⟨_, h.c0, rfl⟩
    · subst e; exact ⟨_, h.c1, rfl⟩
    · subst e; exact ⟨_, h.c2, rfl⟩
    · have h1 := h.cs (i - 3) (by omega)
      rw [show 3 + (i - 3) = i by omega] at h1
      refine ⟨_, h1, ?_⟩
      obtain ⟨A, c, ev⟩ := (h.row (i - 3) (by omega)).form
      rw [ev]
      rfl
  obtain ⟨v, h1, h2⟩ := key
  rw [Array.getElem?_eq_getElem hi] at h1
  injection h1 with h1
  rw [h1]
  exact h2
set_option maxHeartbeats 1000000 in
theorem copy_mem (S : Nat → Prop) (g m : Nat) (C : Array Value) (hs : Nat → Value) (ck : Int) (sl : Nat → AL) (K : Int → Prop) (R : Int → Value) (w : World) (h : WMem w S g m C hs ck sl K R) (hb : ∀ j, (sl j).length ≤ 1000000) :
    Calls Try.prog 16 #[.pointer (some ⟨g, 0, none⟩)] w (CopyIsW S g m C hs ck sl K R w) := by
  have Hno := Lib.hid (wnone_no g w h.k0)
  have hz := fun W => zero_wheel W
  obtain ⟨Z, eZ⟩ : ∃ Z, zeroW = Z := ⟨_, rfl⟩
  rw [eZ] at hz
  have hZs : Z.size = 67 := by rw [← eZ]; exact zeroW_size
  have HZs := Lib.hid hZs
  have H := Lib.hid h
  have Hb := Lib.hid hb
  have hinf : (Try.prog.info? 60).map (·.size) = some C.size := by rw [h.size]; kernel_rfl
  have Hinf := Lib.hid hinf
  clear h hb hinf hZs eZ
  go_enter Try.func16, Try.ntmps16
  go_wp2_with fail
  refine Hno.out.mono ?_
  rintro e w1 ⟨rfl, rfl⟩
  have hst := run_storeCells_new (P := Try.prog) w 60 Z C Hinf.out (HZs.out.trans H.out.size.symm) H.out.one
  have hC67 := H.out.size
  obtain ⟨C0, eC0⟩ : ∃ C0, C.setIfInBounds 0 (.pointer (some ⟨w.heap.size, 0, none⟩)) = C0 := ⟨_, rfl⟩
  have hB1 : Below w.heap.size w (w.alloc (.cells C0 60)) := (Below.refl _ _).alloc (Nat.le_refl _) _
  have hW1 := H.out.below hB1
  have k21 := hW1.k2
  rw [← eC0] at k21
  have HB1 := Lib.hid hB1
  have HW1 := Lib.hid hW1
  have HC0 := Lib.hid eC0
  clear hB1 hW1 eC0
  try simp only []
  repeat (first | (refine wp_load_row 60 (.tmp 8) rfl g C 60 (0, 0) _ H.out.box rfl Try.underlying60 rfl Hinf.out ?_; simp only [Act.put, List.setIfInBounds_toArray, List.set_cons_zero, List.set_cons_succ]) | (refine wp_store_new 60 (.tmp 3) (.tmp 9) rfl rfl _ Z C rfl rfl Hinf.out (HZs.out.trans H.out.size.symm) H.out.one ?_; simp only [Act.put, List.setIfInBounds_toArray, List.set_cons_zero, List.set_cons_succ]) | go_values | go_skip | go_guarded | go_step | go_upon | go_back)
  go_wp2_with fail
  rw [HC0.out]
  clear hst hz hC67 k21
  obtain ⟨g2, eg2⟩ : ∃ g2, w.heap.size = g2 := ⟨_, rfl⟩
  obtain ⟨w1, ew1⟩ : ∃ w1, w.alloc (.cells C0 60) = w1 := ⟨_, rfl⟩
  have hbox1 : w1.heap[g2]? = some (.cells C0 60 (0, 0)) := by rw [← ew1, ← eg2]; exact heap_alloc_new w _
  rw [eg2] at HC0 ⊢
  rw [ew1] at HB1 HW1 ⊢
  obtain ⟨m2, em2⟩ : ∃ m2, w1.heap.size = m2 := ⟨_, rfl⟩
  have Hm2 := Lib.hid em2
  have Heg := Lib.hid eg2
  have Hbox1 := Lib.hid hbox1
  clear ew1 em2 eg2 hbox1
  refine (mclone_any m m2 K R w1 HW1.out.map Hm2.out).mono ?_
  rintro e w2 ⟨rfl, hmap2, hB2⟩
  have HMap2 := Lib.hid hmap2
  have HB2 := Lib.hid hB2
  have HBox2 := Lib.hid ((But.of (S := fun _ => False) hB2).blk Hbox1.out (fun x => x))
  have HC02 := Lib.hid (show C0[2]? = some (.map (some m)) by rw [← HC0.out, Array.getElem?_setIfInBounds_ne (by omega)]; exact H.out.c2)
  have c22 : w2.cell? ⟨g2, 2, none⟩ = some (.map (some m)) := (blk_cell HBox2.out 2).trans HC02.out
  have f22 := blk_free HBox2.out 2
  obtain ⟨w3, ew3⟩ : ∃ w3, w2.setCell ⟨g2, 2, none⟩ (.map (some m2)) = w3 := ⟨_, rfl⟩
  have HAt0 := Lib.hid (show CopyAtW S g m C hs ck sl K R w g2 m2 (C0.setIfInBounds 2 (.map (some m2))) hs 0 w3 from by
    have hB12 : Below w1.heap.size w1 w2 := hB2
    have h03 : But (fun k => k = g2) w2 w3 := by rw [← ew3]; exact (But.refl (fun k => k = g2) w2).setCell (p := ⟨g2, 2, none⟩) rfl _
    have hsz : C0.size = 67 := by rw [← HC0.out]; simpa using H.out.size
    have hm2g : m2 ≠ g2 := by
      intro e
      have h1 := lt_of_block Hbox1.out
      rw [Hm2.out] at h1
      omega
    have hBw2 : Below w.heap.size w w2 := below_trans HB1.out hB12
    refine ⟨((HW1.out.below hB12).but h03 (fun k hk e => by have := H.out.lt k hk; have := Heg.out; omega)), by rw [← ew3]; exact heap_setCell_at HBox2.out _ _, by simpa using hsz, ?_, ?_, by simp [hsz], fun t ht => ?_, hmap2.but h03 hm2g, fun t ht => absurd ht (Nat.not_lt_zero _), fun s t b hs' => absurd hs' (Nat.not_lt_zero _), by rw [Heg.out]; exact Nat.le_refl _, ?_, fun t b ht => absurd ht (Nat.not_lt_zero _), ?_⟩
    · rw [Array.getElem?_setIfInBounds_ne (by omega), ← HC0.out]
      simp [H.out.size]
    · rw [Array.getElem?_setIfInBounds_ne (by omega), ← HC0.out, Array.getElem?_setIfInBounds_ne (by omega)]; exact H.out.c1
    · rw [Array.getElem?_setIfInBounds_ne (by omega), ← HC0.out, Array.getElem?_setIfInBounds_ne (by omega), if_neg (Nat.not_lt_zero _)]
      exact H.out.cs t ht
    · rw [← Hm2.out]; exact HB1.out.size
    · exact hBw2.trans (h03.below (B := w.heap.size) (fun k hk => by rw [hk, Heg.out]; exact Nat.le_refl _) hBw2.size))
  have Ew3 := Lib.hid ew3
  clear hmap2 hB2 ew3
  go_upto_region 6 with (fail)
  rw [Ew3.out]
  have HLt := Lib.hid H.out.lt
  go_wp2_with fail
  go_loopg [4, 17] 64 (fun gk x4 x17 wr => ∃ (j : Nat) (Cj : Array Value) (hc : Nat → Value), Hid (gk + j = 64) ∧ j ≤ 64 ∧ x17 = .int .i64 (j : Int) ∧ Hid (CopyAtW S g m C hs ck sl K R w g2 m2 Cj hc j wr))
  case atStart => exact ⟨0, _, hs, rfl, Nat.zero_le _, rfl, HAt0⟩
  case round =>
    obtain ⟨j, Cj, hc, hgk, hj, rfl, hA⟩ := hrel
    by_cases hjn : j < 64
    · have kj := hA.out.old.kj hjn
      have hrow := hA.out.old.row j hjn
      obtain ⟨A, c, ev⟩ := hrow.form
      rw [ev] at kj hrow
      have HCl := Lib.hid (clone_anyA A (sl j).length c (sl j) wr hrow rfl (Hb.out j))
      have hj1 : (j : Int) < 64 := by omega
      have hj0 : (0 : Int) ≤ (j : Int) := by omega
      have hwr : IntKind.i64.wrap ((j : Int) + 1) = (j : Int) + 1 := by rw [IntKind.wrap_i64]; omega
      clear hrow ev
      go_wp2_with fail
      refine HCl.out.mono ?_
      rintro e w4 ⟨A4, c4, rfl, hs4, ho4, hB4⟩
      obtain ⟨⟨x, kx⟩, fx, hnext⟩ := copy_step hA.out HLt.out hjn hB4 hs4 ho4
      obtain ⟨w5, ew5⟩ : ∃ w5, w4.setCell ⟨g2, 3 + j, none⟩ (.slice A4 (sl j).length c4) = w5 := ⟨_, rfl⟩
      rw [ew5] at hnext
      have HNext := Lib.hid hnext
      have Ew5 := Lib.hid ew5
      clear hs4 ho4 hB4 hnext ew5
      go_upto_region 10 with (fail)
      rw [Ew5.out]
      go_wp2_with fail
      go_roundg (gk - 1)
      case measure => have := hgk.out; omega
      case rel => exact ⟨j + 1, _, _, Lib.hid (by have := hgk.out; show gk - 1 + (j + 1) = _; omega), by omega, by go_num, HNext⟩
    · obtain rfl : j = 64 := by omega
      have HE := Lib.hid (show CopyIsW S g m C hs ck sl K R w (.returned (.pointer (some ⟨g2, 0, none⟩))) wr from
        ⟨g2, m2, Cj, hc, _, rfl, hA.out.old, hA.out.done, hA.out.below, fun k hk => hk.1⟩)
      go_wp2_with fail
      go_ret
      exact HE.out
end Go.Proofs.Ytlpgabbnldalhaa
