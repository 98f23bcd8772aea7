/-
  The program's Find and All (package forward), over a table in memory.
-/
import Derived.Test.YtknmpfdmjfbpdaaFwOrder
namespace Go.Proofs.Ytknmpfdmjfbpdaa
set_option maxRecDepth 10000
open Go.RowKit
set_option linter.unusedSimpArgs false
set_option linter.unusedVariables false

theorem DInv.find_yes {L : FWL} {N : Nat} {K : Int × Int → Prop} {R : Int × Int → Fw} (h : DInv L L.length N K R) (hne : L.Pairwise FwNe) {p q : Int} {f : Fw} (hf : fwFind p q L = some f) : K (p, q) ∧ R (p, q) = f := by
  obtain ⟨h1, h2, h3⟩ := fwFind_some hf
  have ha := h.at_
  rw [List.take_length] at ha
  have hk := (h.key (p, q)).2 ⟨f, by rw [List.take_length]; exact h1, by rw [h2, h3]⟩
  have := ha hne f h1
  rw [h2, h3] at this
  exact ⟨hk, this⟩
theorem DInv.find_no {L : FWL} {N : Nat} {K : Int × Int → Prop} {R : Int × Int → Fw} (h : DInv L L.length N K R) {p q : Int} (hf : fwFind p q L = none) : ¬ K (p, q) := by
  intro hk
  obtain ⟨f, h1, h2⟩ := (h.key (p, q)).1 hk
  rw [List.take_length] at h1
  simp only [Prod.mk.injEq] at h2
  exact fwFind_none hf f h1 h2
set_option maxHeartbeats 1000000 in
theorem find_at (S : Nat → Prop) (g : Nat) (L : FWL) (p q : Int) (w : World) (h : FwMem w S g L) (f : Fw) (is_ : Bool) (hx : fwOf (fwFind p q L) = f) (hx2 : fwIs (fwFind p q L) = is_) :
    Calls Try.prog 13 #[.pointer (some ⟨g, 0, none⟩), .int .u8 p, .int .u16 q] w (FwTells (.tuple #[.agg #[.int .u8 f.pr, .int .u16 f.po, .int .u32 f.ad, .int .u16 f.tp], .bool is_]) w) := by
  obtain ⟨w0, ew⟩ : ∃ w0, w.alloc (.cells #[.int .u8 0, .int .u16 0, .int .u32 0, .int .u16 0] 40) = w0 := ⟨_, rfl⟩
  obtain ⟨z, hz⟩ : ∃ z, w.heap.size = z := ⟨_, rfl⟩
  have hb0 : Below w.heap.size w w0 := by rw [← ew]; exact (Below.refl _ _).alloc (Nat.le_refl _) _
  have hk0 : w0.heap[z]? = some (.cells #[.int .u8 0, .int .u16 0, .int .u32 0, .int .u16 0] 40 (0, 0)) := by rw [← ew, ← hz]; exact heap_alloc_new w _
  obtain ⟨⟨b, A, c, N, K, R, hg, hM, hD, hs, -, -⟩, -, -, hne⟩ := h.below hb0
  have hlook : (Instr.lookup 58 (.map (some b)) (.agg #[.int .u8 p, .int .u16 q]) true).run Try.prog w0 = .ok (.tuple #[.agg #[.int .u8 f.pr, .int .u16 f.po, .int .u32 f.ad, .int .u16 f.tp], .bool is_]) w0 := by
    cases he : fwFind p q L with
    | none =>
      rw [he] at hx hx2
      have e1 : fw0 = f := hx
      have e2 : false = is_ := hx2
      subst e1; subst e2
      exact hM.lookno (hD.find_no he)
    | some f' =>
      rw [he] at hx hx2
      have e1 : f' = f := hx
      have e2 : true = is_ := hx2
      subst e1; subst e2
      obtain ⟨h1, h2⟩ := hD.find_yes hne he
      exact hM.look h1 h2
  have g0 : w0.cell? ⟨g, 0, none⟩ = some (.map (some b)) := blk_cell hg 0
  obtain ⟨y, hy⟩ : ∃ y, w0.heap.size = y := ⟨_, rfl⟩
  obtain ⟨w1, ew1⟩ : ∃ w1, w0.alloc (.cells #[.int .u8 f.pr, .int .u16 f.po, .int .u32 f.ad, .int .u16 f.tp] 40) = w1 := ⟨_, rfl⟩
  have hb1 : Below w0.heap.size w0 w1 := by rw [← ew1]; exact (Below.refl _ _).alloc (Nat.le_refl _) _
  have hk1 : w1.heap[z]? = some (.cells #[.int .u8 0, .int .u16 0, .int .u32 0, .int .u16 0] 40 (0, 0)) := blk_on hk0 hb1
  have hky : w1.heap[y]? = some (.cells #[.int .u8 f.pr, .int .u16 f.po, .int .u32 f.ad, .int .u16 f.tp] 40 (0, 0)) := by rw [← ew1, ← hy]; exact heap_alloc_new w0 _
  have Hyz := Lib.hid (show y ≠ z by have := lt_of_block hk0; omega)
  have HK := Lib.hid hk1
  have HKy := Lib.hid hky
  have HB := Lib.hid (below_trans hb0 hb1)
  have Ew := Lib.hid ew
  have Hz := Lib.hid hz
  have Ew1 := Lib.hid ew1
  have Hy := Lib.hid hy
  clear h hx hx2 ew hz hb0 hk0 hg hM hD hs hne ew1 hy hb1 hk1 hky
  go_enter Try.func13, Try.ntmps13
  go_upto_region 1 with (fail)
  rw [Ew.out]
  try rw [Hz.out]
  go_upto_region 4 with (fail)
  rw [Ew1.out]
  try rw [Hy.out]
  have fz := fun i => blk_free HK.out i
  have e0 : w1.cell? ⟨z, 0, none⟩ = some (.int .u8 0) := blk_cell HK.out 0
  have e1 : w1.cell? ⟨z, 1, none⟩ = some (.int .u16 0) := blk_cell HK.out 1
  have e2 : w1.cell? ⟨z, 2, none⟩ = some (.int .u32 0) := blk_cell HK.out 2
  have e3 : w1.cell? ⟨z, 3, none⟩ = some (.int .u16 0) := blk_cell HK.out 3
  have d0 : w1.cell? ⟨y, 0, none⟩ = some (.int .u8 f.pr) := blk_cell HKy.out 0
  have d1 : w1.cell? ⟨y, 1, none⟩ = some (.int .u16 f.po) := blk_cell HKy.out 1
  have d2 : w1.cell? ⟨y, 2, none⟩ = some (.int .u32 f.ad) := blk_cell HKy.out 2
  have d3 : w1.cell? ⟨y, 3, none⟩ = some (.int .u16 f.tp) := blk_cell HKy.out 3
  clear g0 hlook
  go_wp2_with fail
  exact bodyPost_ret (v := .tuple #[.agg #[.int .u8 f.pr, .int .u16 f.po, .int .u32 f.ad, .int .u16 f.tp], .bool is_]) (results_row_tmp rfl _ _ z _ _ _ _ _ rfl rfl (set4_blk HK.out _ _ _ _) Try.underlying40 rfl (by kernel_rfl)) rfl ⟨rfl, set4_below HB.out (by rw [Hz.out]; exact Nat.le_refl _) _ _ _ _⟩
theorem all_at (S : Nat → Prop) (g : Nat) (L : FWL) (w : World) (h : FwMem w S g L) (hl : L.length ≤ 1000000) :
    Calls Try.prog 19 #[.pointer (some ⟨g, 0, none⟩)] w (CloneIsW (fwAll L) w) := by
  have hal : (fwAll L).length = L.length := (fwAll_perm L).length_eq
  obtain ⟨n, hn⟩ : ∃ n, L.length = n := ⟨_, rfl⟩
  rw [hn] at hl hal
  obtain ⟨⟨b, A, c, N, K, R, hg, hM, hD, hs, -, -⟩, -, -, hne⟩ := h
  rw [hn] at hg hs
  have Hc := Lib.hid (clone_anyW A n c (fwAll L) w (RdW.of hs hal) hal hl)
  have g1 : w.cell? ⟨g, 1, none⟩ = some (.slice A n c) := blk_cell hg 1
  clear hg hM hD hs hne hal hn
  go_enter Try.func19, Try.ntmps19
  go_wp2_with fail
  refine Hc.out.mono ?_
  rintro e w1 ⟨A1, c1, rfl, hs1, hown, hb1⟩
  have HF := Lib.hid (show CloneIsW (fwAll L) w (.returned (.slice A1 (fwAll L).length c1)) w1 from ⟨A1, c1, rfl, hs1, hown, hb1⟩)
  clear hs1 hown hb1
  go_wp2_with fail
  go_ret
  exact HF.out
end Go.Proofs.Ytknmpfdmjfbpdaa
