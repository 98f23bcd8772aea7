/-
  A part of a slice of bytes, s[lo:hi], as one run equation: wherever it begins. No function of the program.
-/
import Derived.Test.YthhgdmdobfjipaaBut
namespace Go.Proofs.Ythhgdmdobfjipaa
set_option maxRecDepth 10000
open Go.RowKit
theorem Rd.part {w : World} {A : Option Addr} {n c : Nat} {l : List Int} (h : Rd w A n l) (lo hi : Nat) (loi hii : Int) (h0 : 0 < n) (hlo : lo ≤ hi) (hhi : hi ≤ n) (hc : n ≤ c) (hcm : c ≤ maxLen) (el : loi = (lo : Int)) (eh : hii = (hi : Int)) :
    ∃ A', (∀ W : World, (Instr.sliceAt 24 (.slice A n c) (some (.int .i64 loi)) (some (.int .i64 hii)) none).run Try.prog W = .ok (.slice A' (hi - lo) (c - lo)) W) ∧ Rd w A' (hi - lo) ((l.take hi).drop lo) := by
  subst el eh
  obtain ⟨b, o, rfl, _, _⟩ := h.at_ h0
  unfold maxLen at hcm
  have i0 : (0 : Int) ≤ (lo : Int) := by omega
  have i1 : (lo : Int) ≤ (hi : Int) := by omega
  have i2 : (hi : Int) ≤ (c : Int) := by omega
  have i3 : lo ≤ c := by omega
  by_cases hl : lo = c
  · subst hl
    obtain rfl : hi = lo := by omega
    refine ⟨some ⟨b, o, none⟩, fun W => by go_simp, ?_⟩
    rw [Nat.sub_self, List.drop_take]
    simp
    exact Rd.nil _ _
  · have i4 : ¬ c = lo := fun e => hl e.symm
    refine ⟨some ⟨b, o + lo, none⟩, fun W => by go_simp, ?_⟩
    exact (h.take hhi).drop_ rfl (by omega)
end Go.Proofs.Ythhgdmdobfjipaa
