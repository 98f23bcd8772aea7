/-
  The contract of culvertlaw05's few: the first 20 options, of at most 300 bytes, in a row of the call's own.
-/
import Derived.Test.YtikfklbgncdbnaaOpt
import Derived.Deep.LoopGhost
import Derived.LoopTactic
import Derived.RegionTactic
import Derived.BigRegion
import Derived.ChangeAlike
import Derived.Lib.Hide
namespace Go.Proofs.Ytikfklbgncdbnaa
set_option maxRecDepth 10000
open Go.RowKit

def OptV.cut (o : OptV) (m : Nat) : OptV := ⟨o.kind, o.A, min o.n m, o.c⟩
theorem OptAt.cut {w : World} {o : OptV} {l : Int × List Int} (h : OptAt w o l) (m : Nat) : OptAt w (o.cut m) (l.1, l.2.take m) := by
  obtain ⟨h1, h2, h3, h4, h5⟩ := h
  refine ⟨h1, h2, Nat.le_trans (Nat.min_le_left _ _) h3, h4, ?_⟩
  have := h5.take (k := min o.n m) (Nat.min_le_left _ _)
  have e : l.2.take (min o.n m) = l.2.take m := by rw [← h5.len, Nat.min_comm, ← List.take_take, List.take_length]
  rw [e] at this
  exact this
theorem Reads.cut {w : World} (m : Nat) : ∀ {os : List OptV} {ls : List (Int × List Int)}, Reads w os ls → Reads w (os.map (·.cut m)) (ls.map fun l => (l.1, l.2.take m))
  | [], [], _ => trivial
  | _ :: _, _ :: _, h => ⟨h.1.cut m, Reads.cut m h.2⟩

/-- One option's address in a row of the call's own. -/
theorem OwnO.index {w : World} {B g n c : Nat} {os : List OptV} (h : OwnO w B (some ⟨g, 0, Option.none⟩) n c os) {j : Nat} (hj : j < n) :
    (∀ W : World, (Instr.indexAt 23 (.slice (some ⟨g, 0, Option.none⟩) n c) (.int .i64 (j : Int))).run Try.prog W = .ok (.pointer (some ⟨g, j * 2, Option.none⟩)) W) ∧
      w.cell? ⟨g, j * 2, Option.none⟩ = some (.int .u8 (os.getD j .none).kind) ∧ w.cell? ⟨g, j * 2 + 1, Option.none⟩ = some (.slice (os.getD j .none).A (os.getD j .none).n (os.getD j .none).c) ∧ (∀ k, w.frozen? ⟨g, k, Option.none⟩ = false) := by
  have h0 : (0 : Int) ≤ (j : Int) := by omega
  have h1 : (j : Int) < (n : Int) := by omega
  have hat := optCells_at os j (by have := h.len; omega)
  have h' : w.ownsRow B 31 2 (.slice (some ⟨g, 0, Option.none⟩) n c) n (optCells os) := h
  exact ⟨fun W => by go_simp, by rw [World.ownsRow.cellAt h' _ (by omega)]; exact hat.1, by rw [World.ownsRow.cellAt h' _ (by omega)]; exact hat.2, fun k => World.ownsRow.frozenAt h' k⟩

/-- How far the row has been gone through. -/
def stepL (os : List OptV) (j : Nat) : List OptV := (os.take j).map (·.cut 300) ++ os.drop j
theorem stepL_zero (os : List OptV) : stepL os 0 = os := by simp [stepL]
theorem stepL_all (os : List OptV) : stepL os os.length = os.map (·.cut 300) := by simp [stepL]
theorem stepL_get (os : List OptV) (j : Nat) (h : j < os.length) : (stepL os j).getD j .none = os.getD j .none := by
  simp [stepL, List.getD, List.getElem?_append, Nat.min_eq_left (Nat.le_of_lt h)]
theorem stepL_set (os : List OptV) (j : Nat) (h : j < os.length) : (stepL os j).set j ⟨(os.getD j .none).kind, (os.getD j .none).A, min (os.getD j .none).n 300, (os.getD j .none).c⟩ = stepL os (j + 1) := by
  have e : (os.take (j + 1)) = os.take j ++ [os.getD j .none] := by rw [List.take_succ_eq_append_getElem h]; simp [List.getD, List.getElem?_eq_getElem h]
  have e2 : os.drop j = os.getD j .none :: os.drop (j + 1) := by rw [List.drop_eq_getElem_cons h]; simp [List.getD, List.getElem?_eq_getElem h]
  unfold stepL
  rw [e, e2, List.set_append_right _ _ (by simp; omega)]
  simp [Nat.min_eq_left (Nat.le_of_lt h), OptV.cut]

/-- A row of options of the call's own, told, and what it reads as. -/
def OptsAre (n : Nat) (ls : List (Int × List Int)) (w : World) (e : Ending) (w' : World) : Prop :=
  ∃ A c os, e = .returned (.slice A n c) ∧ OwnO w' w.heap.size A n c os ∧ Reads w' os ls ∧ Below w.heap.size w w'

def fewL (ls : List (Int × List Int)) : List (Int × List Int) := (ls.take 20).map fun l => (l.1, l.2.take 300)

theorem few_any (A : Option Addr) (n c : Nat) (os : List OptV) (ls : List (Int × List Int)) (w : World) (hc : n ≤ c ∧ c ≤ maxLen) (hr : RdO w A n os) (hs : Reads w os ls) :
    Calls Try.prog 15 #[.slice A n c] w (OptsAre (min n 20) (fewL ls) w) := by
  obtain ⟨k, hk, hkn, hk20⟩ := min_nat 20 n (by omega)
  have hkm : min n 20 = k := by split at hk <;> omega
  rw [hkm]
  have hr1 := (hr.take (k := k) hkn).below (Below.alloc (Below.refl _ _) (Nat.le_refl _) (.cells #[] 31))
  have Hr1 := Lib.hid hr1
  have hll : ls.length = n := by rw [← hs.len, hr.len]
  have Het := Lib.hid (show ls.take k = ls.take 20 by rw [List.take_eq_take_iff]; omega)
  have Hs := Lib.hid (hs.take k)
  rw [Het.out] at Hs
  clear hll
  have Hlen := Lib.hid (hr.take (k := k) hkn).len
  have Ho := Lib.hid (OwnO.made (w := w.alloc (.cells #[] 31)) (B := w.heap.size) (g := w.heap.size) (cap := 0) (cur := #[]) (heap_alloc_new w _) (Nat.le_refl _) (by simp [maxLen]) rfl)
  have hkc : (k : Int) ≤ (c : Int) := by omega
  have hk0 : (0 : Int) ≤ (k : Int) := by omega
  have hkc2 : k ≤ c := by omega
  have Hkn := Lib.hid hkm
  clear hr hs hr1 hkm
  go_enter Try.func15, Try.ntmps15
  go_wp2_with (refine wpList_appO rfl (.tmp 5) (.tmp 10) rfl w.heap.size _ A 0 0 k c [] (os.take k) rfl rfl Ho.out Hr1.out (by omega) (by simp) ?_; intro A2 c2 w2 hown2 _ hb2 _)
  have Hown2 := Lib.hid (show OwnO w2 w.heap.size A2 k c2 (stepL (os.take k) 0) by rw [stepL_zero]; simpa using hown2)
  have hB2 : Below w.heap.size w w2 := (Below.alloc (Below.refl w.heap.size w) (Nat.le_refl _) _).trans hb2
  clear hown2 hb2 hk
  obtain ⟨os', eo⟩ : ∃ os', os.take k = os' := ⟨_, rfl⟩
  rw [eo] at Hown2 Hs Hlen
  have Eo := Lib.hid eo
  clear eo
  go_loopg [14] k (fun gk i wr => ∃ j : Nat, Hid (gk + j = k) ∧ j ≤ k ∧ i = .int .i64 (j : Int) ∧ Hid (OwnO wr w.heap.size A2 k c2 (stepL os' j)) ∧ Below w.heap.size w wr)
  case atStart => exact ⟨0, rfl, Nat.zero_le _, rfl, Hown2, hB2⟩
  case round =>
    obtain ⟨j, hgk, hj, rfl, hown, hb⟩ := hrel
    by_cases hjk : j < k
    · obtain ⟨g, eA, hgB, hgl⟩ := hown.out.addr (by omega)
      have hat := (Hs.out.below hb).get j (by have := Hlen.out; omega)
      have hix : (∀ W : World, (Instr.indexAt 23 (.slice A2 k c2) (.int .i64 (j : Int))).run Try.prog W = .ok (.pointer (some ⟨g, j * 2, Option.none⟩)) W) ∧
          wr.cell? ⟨g, j * 2, Option.none⟩ = some (.int .u8 ((stepL os' j).getD j .none).kind) ∧ wr.cell? ⟨g, j * 2 + 1, Option.none⟩ = some (.slice ((stepL os' j).getD j .none).A ((stepL os' j).getD j .none).n ((stepL os' j).getD j .none).c) ∧ (∀ k, wr.frozen? ⟨g, k, Option.none⟩ = false) := by
        have h := hown.out
        rw [eA] at h ⊢
        exact h.index hjk
      rw [stepL_get os' j (by have := Hlen.out; omega)] at hix
      obtain ⟨hrun, hcell, hcel2, hfz⟩ := hix
      have hset : OwnO (wr.setCell ⟨g, j * 2 + 1, Option.none⟩ (.slice (os'.getD j .none).A (min (os'.getD j .none).n 300) (os'.getD j .none).c)) w.heap.size A2 k c2 (stepL os' (j + 1)) := by
        have h := hown.out
        rw [eA] at h ⊢
        have h2 := h.set_ j hjk (os'.getD j .none).A (min (os'.getD j .none).n 300) (os'.getD j .none).c
        rw [stepL_get os' j (by have := Hlen.out; omega)] at h2
        rw [← stepL_set os' j (by have := Hlen.out; omega)]
        exact h2
      have Hset := Lib.hid hset
      obtain ⟨o, eo⟩ : ∃ o, os'.getD j .none = o := ⟨_, rfl⟩
      rw [eo] at hcell hcel2 hat Hset
      obtain ⟨kd, Ao, no, co⟩ := o
      obtain ⟨m, hm, hmn, hm300⟩ := min_nat 300 no (by omega)
      have hmm : min no 300 = m := by split at hm <;> omega
      simp only [hmm] at Hset hcel2
      have hnc := hat.2.2.1
      have hcm := hat.2.2.2.1
      simp only at hnc hcm
      have hmc : (m : Int) ≤ (co : Int) := by omega
      have hm0 : (0 : Int) ≤ (m : Int) := by omega
      have hmc2 : m ≤ co := by omega
      have Eo2 := Lib.hid eo
      have HeA := Lib.hid eA
      have Hmm := Lib.hid hmm
      clear eo eA hset hat hmm
      go_wp2_with fail
      go_region
      go_wp2_with fail
      go_roundg (gk - 1)
      case measure => have := hgk.out; omega
      case rel => exact ⟨j + 1, by have := hgk.out; show gk - 1 + (j + 1) = _; omega, by omega, by go_num, Lib.hid (OwnO.drew Hset.out), Below.drew (hb.setCell (p := ⟨g, j * 2 + 1, Option.none⟩) hgB _)⟩
    · obtain rfl : j = k := by omega
      go_wp2_with fail
      go_ret
      have hl := Hlen.out
      have ho := hown.out
      have hre := (Hs.out.below hb).cut 300
      rw [← hl, stepL_all, hl] at ho
      exact ⟨A2, c2, _, rfl, ho, hre, hb⟩
end Go.Proofs.Ytikfklbgncdbnaa
