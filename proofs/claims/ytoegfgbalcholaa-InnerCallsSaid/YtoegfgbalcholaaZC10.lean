/-
  Texts laid together: OptRef, OptFind, TcpLay, Part.
-/
import Derived.Test.YtoegfgbalcholaaZC09
import Derived.Deep.QuietTactic
import Derived.BigQuiet
import Derived.Test.YtoegfgbalcholaaZC04
import Derived.Test.YtoegfgbalcholaaZC06
import Derived.IntWalk

/-
  The contracts of the document's own answers for options (culvertref05): Same, Without.
-/
namespace Go.Proofs.Ytoegfgbalcholaa
set_option maxRecDepth 10000
open Go.RowKit

def OptBool (x : Bool) (w : World) (e : Ending) (w' : World) : Prop := e = .returned (.bool x) ∧ Below w.heap.size w w'
theorem take_snoc_ {α : Type} (l : List α) (j : Nat) (d : α) (h : j < l.length) : l.take (j + 1) = l.take j ++ [l.getD j d] := by
  rw [List.take_succ_eq_append_getElem h]; simp [List.getD, List.getElem?_eq_getElem h]
/-- An option's row that the walk has just laid. -/
theorem RdO.one (w : World) (g : Nat) (hg : w.heap.size = g) (t : TypeId) (fr : Nat × Nat) (kd : Int) (A : Option Addr) (n c : Nat) : RdO (w.alloc (.cells #[.int .u8 kd, .slice A n c] t fr)) (some ⟨g, 0, Option.none⟩) 1 [⟨kd, A, n, c⟩] := by
  subst hg
  refine ⟨rfl, fun _ => ⟨w.heap.size, 0, rfl, by simp, fun i hi => ?_⟩⟩
  obtain rfl : i = 0 := by omega
  simp only [World.cell?_alloc_mark]
  simp
def withoutL (kind : Int) (ls : List (Int × List Int)) : List (Int × List Int) := ls.filter fun l => l.1 != kind
def withoutO (kind : Int) (os : List OptV) : List OptV := os.filter fun o => o.kind != kind
theorem Reads.without {w : World} (kind : Int) : ∀ {os : List OptV} {ls : List (Int × List Int)}, Reads w os ls → Reads w (withoutO kind os) (withoutL kind ls)
  | [], [], _ => trivial
  | o :: os, l :: ls, h => by
    have ih := Reads.without kind h.2
    have e := h.1.1
    unfold withoutO withoutL at ih ⊢
    by_cases hk : o.kind = kind
    · rw [List.filter_cons_of_neg (by simp [hk]), List.filter_cons_of_neg (by rw [← e]; simp [hk])]
      exact ih
    · rw [List.filter_cons_of_pos (by simpa using hk), List.filter_cons_of_pos (by rw [← e]; simpa using hk)]
      exact ⟨h.1, ih⟩

end Go.Proofs.Ytoegfgbalcholaa

/-
  The contracts of what the document itself finds among options (culvertref05's Mss, Scale, SackOk).
-/
namespace Go.Proofs.Ytoegfgbalcholaa
set_option maxRecDepth 10000
open Go.RowKit

end Go.Proofs.Ytoegfgbalcholaa

/-
  The contracts of culvertref06's lay (two or four bytes), num, whole.
-/
namespace Go.Proofs.Ytoegfgbalcholaa
set_option maxRecDepth 10000
open Go.RowKit

end Go.Proofs.Ytoegfgbalcholaa

/-
  A part of a slice of bytes, s[lo:hi], as one run equation: wherever it begins. No function of the program.
-/
namespace Go.Proofs.Ytoegfgbalcholaa
set_option maxRecDepth 10000
open Go.RowKit
theorem Rd.part {w : World} {A : Option Addr} {n c : Nat} {l : List Int} (h : Rd w A n l) (lo hi : Nat) (loi hii : Int) (h0 : 0 < n) (hlo : lo ≤ hi) (hhi : hi ≤ n) (hc : n ≤ c) (hcm : c ≤ maxLen) (el : loi = (lo : Int)) (eh : hii = (hi : Int)) :
    ∃ A', (∀ W : World, (Instr.sliceAt 22 (.slice A n c) (some (.int .i64 loi)) (some (.int .i64 hii)) none).run Try.prog W = .ok (.slice A' (hi - lo) (c - lo)) W) ∧ Rd w A' (hi - lo) ((l.take hi).drop lo) := by
  subst el eh
  obtain ⟨b, o, rfl, _, _⟩ := h.at_ h0
  unfold maxLen at hcm
  have i0 : (0 : Int) ≤ (lo : Int) := by omega
  have i1 : (lo : Int) ≤ (hi : Int) := by omega
  have i2 : (hi : Int) ≤ (c : Int) := by omega
  have i3 : lo ≤ c := by omega
  by_cases hl : lo = c
  · subst hl
    obtain rfl : hi = lo := by omega
    refine ⟨some ⟨b, o, none⟩, fun W => by go_simp, ?_⟩
    rw [Nat.sub_self, List.drop_take]
    simp
    exact Rd.nil _ _
  · have i4 : ¬ c = lo := fun e => hl e.symm
    refine ⟨some ⟨b, o + lo, none⟩, fun W => by go_simp, ?_⟩
    exact (h.take hhi).drop_ rfl (by omega)
end Go.Proofs.Ytoegfgbalcholaa
