/-
  Texts laid together: OptRef, OptFind, TcpLay, Part.
-/
import Derived.Test.YtheknmihnkennaaGreatZA06
import Derived.Deep.QuietTactic
import Derived.BigQuiet
import Derived.Test.YtheknmihnkennaaGreatZA02
import Derived.Test.YtheknmihnkennaaGreatZA04
import Derived.Test.YtheknmihnkennaaGreatZA05
import Derived.IntWalk

/-
  The contracts of the document's own answers for options (culvertref05): Same, Without.
-/
namespace Go.Proofs.YtheknmihnkennaaGreat
set_option maxRecDepth 10000
open Go.RowKit

def OptBool (x : Bool) (w : World) (e : Ending) (w' : World) : Prop := e = .returned (.bool x) ∧ Below w.heap.size w w'
theorem strs_eq_ (a b : List Int) (ha : ∀ x ∈ a, 0 ≤ x ∧ x < 256) (hb : ∀ x ∈ b, 0 ≤ x ∧ x < 256) : ((strOfNums a).toList == (strOfNums b).toList) = decide (a = b) := by
  rw [ByteArray.toList_eq, ByteArray.toList_eq]
  by_cases e : a = b
  · subst e; simp
  · rw [beq_eq_false_iff_ne.2 (fun x => e (nums_inj _ _ ha hb (by simpa [strOfNums_data] using x)))]
    simp [e]
theorem take_snoc_ {α : Type} (l : List α) (j : Nat) (d : α) (h : j < l.length) : l.take (j + 1) = l.take j ++ [l.getD j d] := by
  rw [List.take_succ_eq_append_getElem h]; simp [List.getD, List.getElem?_eq_getElem h]
theorem getD_ne {α : Type} {l l' : List α} {j : Nat} {d : α} (h : l.getD j d ≠ l'.getD j d) : l ≠ l' := fun e => h (by rw [e])

/-- An option's row that the walk has just laid. -/
theorem RdO.one (w : World) (g : Nat) (hg : w.heap.size = g) (t : TypeId) (fr : Nat × Nat) (kd : Int) (A : Option Addr) (n c : Nat) : RdO (w.alloc (.cells #[.int .u8 kd, .slice A n c] t fr)) (some ⟨g, 0, Option.none⟩) 1 [⟨kd, A, n, c⟩] := by
  subst hg
  refine ⟨rfl, fun _ => ⟨w.heap.size, 0, rfl, by simp, fun i hi => ?_⟩⟩
  obtain rfl : i = 0 := by omega
  simp only [World.cell?_alloc_mark]
  simp
end Go.Proofs.YtheknmihnkennaaGreat

/-
  The contracts of what the document itself finds among options (culvertref05's Mss, Scale, SackOk).
-/
namespace Go.Proofs.YtheknmihnkennaaGreat
set_option maxRecDepth 10000
open Go.RowKit

end Go.Proofs.YtheknmihnkennaaGreat

/-
  The contracts of culvertref06's lay (two or four bytes), num, whole.
-/
namespace Go.Proofs.YtheknmihnkennaaGreat
set_option maxRecDepth 10000
open Go.RowKit

/-- A number of bytes, the highest one first. -/
def numL (l : List Int) : Int := l.foldl (fun a x => 256 * a + x) 0
theorem numL_bd : ∀ (l : List Int), (∀ x ∈ l, 0 ≤ x ∧ x < 256) → l.length ≤ 4 → 0 ≤ numL l ∧ numL l < 256 ^ l.length
  | [], _, _ => by simp [numL]
  | [a], h, _ => by have h0 := h a (by simp); simp [numL]; omega
  | [a, b], h, _ => by have h0 := h a (by simp); have h1 := h b (by simp); simp [numL]; omega
  | [a, b, c], h, _ => by have h0 := h a (by simp); have h1 := h b (by simp); have h2 := h c (by simp); simp [numL]; omega
  | [a, b, c, d], h, _ => by have h0 := h a (by simp); have h1 := h b (by simp); have h2 := h c (by simp); have h3 := h d (by simp); simp [numL]; omega
  | _ :: _ :: _ :: _ :: _ :: _, _, h => by simp at h
end Go.Proofs.YtheknmihnkennaaGreat

/-
  A part of a slice of bytes, s[lo:hi], as one run equation: wherever it begins. No function of the program.
-/
namespace Go.Proofs.YtheknmihnkennaaGreat
set_option maxRecDepth 10000
open Go.RowKit
theorem Rd.part {w : World} {A : Option Addr} {n c : Nat} {l : List Int} (h : Rd w A n l) (lo hi : Nat) (loi hii : Int) (h0 : 0 < n) (hlo : lo ≤ hi) (hhi : hi ≤ n) (hc : n ≤ c) (hcm : c ≤ maxLen) (el : loi = (lo : Int)) (eh : hii = (hi : Int)) :
    ∃ A', (∀ W : World, (Instr.sliceAt 22 (.slice A n c) (some (.int .i64 loi)) (some (.int .i64 hii)) none).run Tryz.prog W = .ok (.slice A' (hi - lo) (c - lo)) W) ∧ Rd w A' (hi - lo) ((l.take hi).drop lo) := by
  subst el eh
  obtain ⟨b, o, rfl, _, _⟩ := h.at_ h0
  unfold maxLen at hcm
  have i0 : (0 : Int) ≤ (lo : Int) := by omega
  have i1 : (lo : Int) ≤ (hi : Int) := by omega
  have i2 : (hi : Int) ≤ (c : Int) := by omega
  have i3 : lo ≤ c := by omega
  by_cases hl : lo = c
  · subst hl
    obtain rfl : hi = lo := by omega
    refine ⟨some ⟨b, o, none⟩, fun W => by go_simp, ?_⟩
    rw [Nat.sub_self, List.drop_take]
    simp
    exact Rd.nil _ _
  · have i4 : ¬ c = lo := fun e => hl e.symm
    refine ⟨some ⟨b, o + lo, none⟩, fun W => by go_simp, ?_⟩
    exact (h.take hhi).drop_ rfl (by omega)
end Go.Proofs.YtheknmihnkennaaGreat
