/-
  The program's byDoor (package forward): forwards by their doors.
-/
import Derived.Test.YtknmpfdmjfbpdaaFwDoor
import Derived.Test.YtknmpfdmjfbpdaaFwRef
namespace Go.Proofs.Ytknmpfdmjfbpdaa
set_option maxRecDepth 10000
open Go.RowKit
set_option linter.unusedSimpArgs false
set_option linter.unusedVariables false

/-- What stands in the map behind j forwards. -/
structure DInv (L : FWL) (j N : Nat) (K : Int × Int → Prop) (R : Int × Int → Fw) : Prop where
  key : ∀ d, K d ↔ ∃ f ∈ L.take j, (f.pr, f.po) = d
  le : N ≤ j
  num : N = j ↔ (L.take j).Pairwise FwNe
  at_ : (L.take j).Pairwise FwNe → ∀ f ∈ L.take j, R (f.pr, f.po) = f
theorem DInv.zero (L : FWL) (R : Int × Int → Fw) : DInv L 0 0 (fun _ => False) R := ⟨fun d => by simp, Nat.le_refl _, by simp, fun _ f hf => by simp at hf⟩
theorem DInv.step {L : FWL} {j N : Nat} {K : Int × Int → Prop} {R : Int × Int → Fw} (h : DInv L j N K R) (hj : j < L.length) {f : Fw} (ef : L.getD j fw0 = f) {N' : Nat} (h1 : K (f.pr, f.po) → N' = N) (h2 : ¬ K (f.pr, f.po) → N' = N + 1) :
    DInv L (j + 1) N' (fun a => a = (f.pr, f.po) ∨ K a) (fun a => if a = (f.pr, f.po) then f else R a) := by
  have e : L[j] = f := by simpa [List.getD, hj] using ef
  have et : L.take (j + 1) = L.take j ++ [f] := by rw [List.take_succ_eq_append_getElem hj, e]
  have hk : K (f.pr, f.po) ↔ ¬ ∀ g ∈ L.take j, FwNe g f := by
    rw [h.key]
    constructor
    · rintro ⟨g, hg, hd⟩ hn
      simp only [Prod.mk.injEq] at hd
      exact hn g hg hd
    · intro hn
      have : ∃ g, g ∈ L.take j ∧ ¬ FwNe g f := by
        apply Classical.byContradiction
        intro hno
        exact hn (fun g hg => Classical.byContradiction (fun hc => hno ⟨g, hg, hc⟩))
      obtain ⟨g, hg, hc⟩ := this
      unfold FwNe at hc
      have := Classical.not_not.1 hc
      exact ⟨g, hg, by rw [this.1, this.2]⟩
  have hp : (L.take (j + 1)).Pairwise FwNe ↔ (L.take j).Pairwise FwNe ∧ ∀ g ∈ L.take j, FwNe g f := by
    rw [et, List.pairwise_append]
    constructor
    · rintro ⟨a, _, b⟩
      exact ⟨a, fun g hg => b g hg f (List.mem_singleton.2 rfl)⟩
    · rintro ⟨a, b⟩
      exact ⟨a, List.pairwise_singleton _ _, fun g hg x hx => by rw [List.mem_singleton.1 hx]; exact b g hg⟩
  have hle := h.le
  refine ⟨fun d => ?_, ?_, ?_, fun hpw g hg => ?_⟩
  · rw [et, h.key]
    constructor
    · rintro (rfl | ⟨g, hg, hd⟩)
      · exact ⟨f, by simp, rfl⟩
      · exact ⟨g, by simp [hg], hd⟩
    · rintro ⟨g, hg, hd⟩
      rcases List.mem_append.1 hg with hg | hg
      · exact .inr ⟨g, hg, hd⟩
      · rw [List.mem_singleton.1 hg] at hd
        exact .inl hd.symm
  · by_cases hc : K (f.pr, f.po)
    · have := h1 hc; omega
    · have := h2 hc; omega
  · rw [hp, ← h.num]
    by_cases hc : K (f.pr, f.po)
    · have := h1 hc
      constructor
      · intro; omega
      · rintro ⟨_, hn⟩; exact absurd hn (hk.1 hc)
    · have := h2 hc
      have hn : ∀ g ∈ L.take j, FwNe g f := Classical.byContradiction (fun hq => hc (hk.2 hq))
      constructor
      · intro; exact ⟨by omega, hn⟩
      · rintro ⟨_, _⟩; omega
  · have hpw2 := hp.1 hpw
    rw [et] at hg
    rcases List.mem_append.1 hg with hg | hg
    · have hne := hpw2.2 g hg
      show (if (g.pr, g.po) = (f.pr, f.po) then f else R (g.pr, g.po)) = g
      rw [if_neg (fun hd => hne (by simpa using hd))]
      exact h.at_ hpw2.1 g hg
    · rw [List.mem_singleton.1 hg]
      simp
/-- What byDoor tells. -/
def DoorsIs (L : FWL) (w : World) (e : Ending) (w' : World) : Prop := ∃ b N K R, e = .returned (.map (some b)) ∧ MDP w' b N K R ∧ DInv L L.length N K R ∧ w.heap.size ≤ b ∧ Below w.heap.size w w'
set_option maxHeartbeats 1000000 in
theorem bydoor_any (A : Option Addr) (n c : Nat) (L : FWL) (w : World) (h : RdW w A L) (hn : L.length = n) (hl : n ≤ 1000000) :
    Calls Try.prog 25 #[.slice A n c] w (DoorsIs L w) := by
  have hmk := run_makeMap_fw w (n : Int)
  obtain ⟨z, hz⟩ : ∃ z, w.heap.size = z := ⟨_, rfl⟩
  obtain ⟨w0, ew⟩ : ∃ w0, w.alloc (.map #[] 0) = w0 := ⟨_, rfl⟩
  have hM0 : MDP w0 z 0 (fun _ => False) (fun _ => fw0) := by rw [← ew]; exact MDP.made w _ z hz
  have hb0 : Below w.heap.size w w0 := by rw [← ew]; exact (Below.refl _ _).alloc (Nat.le_refl _) _
  rw [ew, hz] at hmk
  have HA := Lib.hid h
  have Hz := Lib.hid hz
  have Hn := Lib.hid hn
  have Hb0 := Lib.hid hb0
  have HM0 := Lib.hid hM0
  clear h hz hn hb0 hM0 ew
  go_enter Try.func25, Try.ntmps25
  go_wp2_with fail
  go_loopg [11] n (fun gk i wr => ∃ (j N : Nat) (K : Int × Int → Prop) (R : Int × Int → Fw), Hid (gk + j = n) ∧ j ≤ n ∧ i = .int .i64 (j : Int) ∧ Hid (MDP wr z N K R) ∧ Hid (DInv L j N K R) ∧ Hid (Below w.heap.size w wr))
  case atStart => exact ⟨0, 0, _, _, rfl, Nat.zero_le _, rfl, HM0, Lib.hid (DInv.zero L _), Hb0⟩
  case round =>
    obtain ⟨j, N, K, R, hgk, hj, rfl, hM, hD, hB⟩ := hrel
    by_cases hjn : j < n
    · obtain ⟨g, pp, hidx, hlt, hfl⟩ := (HA.out.below hB.out).index (c := c) Hn.out hjn
      obtain ⟨f, ef⟩ : ∃ f, L.getD j fw0 = f := ⟨_, rfl⟩
      rw [ef] at hfl
      obtain ⟨c0, c1, c2', c3⟩ := hfl
      obtain ⟨y, ey⟩ : ∃ y, wr.heap.size = y := ⟨_, rfl⟩
      obtain ⟨w1, ew1⟩ : ∃ w1, wr.alloc (.cells #[.int .u8 f.pr, .int .u16 f.po, .int .u32 f.ad, .int .u16 f.tp] 40) = w1 := ⟨_, rfl⟩
      have hBa : Below wr.heap.size wr w1 := by rw [← ew1]; exact (Below.refl _ _).alloc (Nat.le_refl _) _
      have hk1 : w1.heap[y]? = some (.cells #[.int .u8 f.pr, .int .u16 f.po, .int .u32 f.ad, .int .u16 f.tp] 40 (0, 0)) := by rw [← ew1, ← ey]; exact heap_alloc_new wr _
      obtain ⟨w2, N2, hput, hM2, hn1, hn2, hbut⟩ := (hM.out.below hBa).put f.pr f.po f
      have HD2 := Lib.hid (hD.out.step (by have := Hn.out; omega) ef hn1 hn2)
      have HM2 := Lib.hid hM2
      have HB2 := Lib.hid ((below_trans hB.out hBa).trans (hbut.below (fun k hk => by have := Hz.out; omega) (by have := hB.out.size; have := hBa.size; omega)))
      have i0 : (0 : Int) ≤ (j : Int) := by omega
      have i1 : (j : Int) < (n : Int) := by omega
      have d0 : w1.cell? ⟨y, 0, none⟩ = some (.int .u8 f.pr) := blk_cell hk1 0
      have d1 : w1.cell? ⟨y, 1, none⟩ = some (.int .u16 f.po) := blk_cell hk1 1
      have d2 : w1.cell? ⟨y, 2, none⟩ = some (.int .u32 f.ad) := blk_cell hk1 2
      have d3 : w1.cell? ⟨y, 3, none⟩ = some (.int .u16 f.tp) := blk_cell hk1 3
      have Hjn := Lib.hid hjn
      have Hef := Lib.hid ef
      have Hew := Lib.hid ew1
      have Hey := Lib.hid ey
      have Hput := Lib.hid hput
      clear ef hlt hBa hk1 hM2 hn1 hn2 hbut ew1 ey hput
      go_upto_region 5 with (fail)
      rw [Hew.out]
      try rw [Hey.out]
      have hput := Hput.out
      clear c0 c1 c2' c3
      go_wp2_with fail
      go_roundg (gk - 1)
      case measure => have := hgk.out; have := Hjn.out; omega
      case rel => exact ⟨j + 1, N2, _, _, by have := hgk.out; have := Hjn.out; show gk - 1 + (j + 1) = _; omega, by have := Hjn.out; omega, by go_num, HM2, HD2, HB2⟩
    · obtain rfl : n = j := by omega
      go_wp2_with fail
      go_ret
      exact ⟨z, N, K, R, rfl, hM.out, by rw [Hn.out]; exact hD.out, by rw [Hz.out]; exact Nat.le_refl _, hB.out⟩
end Go.Proofs.Ytknmpfdmjfbpdaa
