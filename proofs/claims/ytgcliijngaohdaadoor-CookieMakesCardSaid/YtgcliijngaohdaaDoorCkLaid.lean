/-
  What the listed variable gives: the classes' numbers lie in the program's array.
-/
import Derived.Test.YtgcliijngaohdaaDoorCkFace
import Derived.Test.YtgcliijngaohdaaDoorRows
import Derived.ProofKit
import Derived.LaidMore
import Derived.OpenShut
import Derived.LaidHandle
import Derived.MakeChecks
namespace Go.Proofs.YtgcliijngaohdaaDoor
set_option maxRecDepth 10000
open Go.ChangeShapes Go.WideShapes Go.ChangeAt Go.RowKit
set_option linter.unusedSimpArgs false
set_option linter.unusedVariables false

theorem gSizes : Tryd.prog.globalNamed "culvert/cookie.sizes" = some 0 := by kernel_rfl
theorem tSizes : (Tryd.prog.globals[0]?).map (·.type) = some 57 := by kernel_rfl
/-- The door's own heap meets the condition. -/
theorem sizes_met (os : Os) (args : Array Value) : laidMetH Tryd.prog [("culvert/cookie.sizes", Rows.laid_culvert_cookie_sizes)] ((World.doorLaid Tryd.prog 400 os).forCall (fun _ _ => 0) ⟨#[], args, []⟩).memory :=
  laidMetH_of_parts3 (fuel := 8) (laidMet_of_run' 8 (by kernel_rfl) (by kernel_rfl)) (by kernel_rfl) (by kernel_rfl)
theorem sizes_laid {W : World} (h : laidMetH Tryd.prog [("culvert/cookie.sizes", Rows.laid_culvert_cookie_sizes)] W) : SzW W := by
  rw [MakeChecks.laidMetH_plain _ _ _ (by kernel_rfl)] at h
  obtain ⟨ps, ⟨g0, t0, cs0, f0, p0, q0, hg0, ht0, hv0, hd0, _, _⟩, _, _⟩ := h
  obtain rfl := Option.some.inj (gSizes.symm.trans hg0)
  obtain rfl := Option.some.inj (tSizes.symm.trans ht0)
  obtain ⟨xs, m1, rfl, hx1, hlen, hn, hel⟩ := DataW.trod_array Tryd.underlying57 hd0
  have c1 : Tryd.prog.cellsOf 24 = 1 := by kernel_rfl
  have hcell : ∀ i : Nat, i < 8 → W.cell? ⟨0, i, none⟩ = some (.int .u16 (szC (i : Int))) := by
    intro i hi
    have h0 := hel i hi
    rw [c1, Nat.mul_one] at h0
    obtain ⟨x, hx⟩ : ∃ x, xs[i]? = some x := ⟨xs[i]'(by omega), List.getElem?_eq_getElem (by omega)⟩
    rw [hx] at h0
    obtain ⟨k, e1, e2, _⟩ := DataW.trod_int Tryd.underlying24 h0
    have hm : (xs.map (·.1))[i]? = some x.1 := by rw [List.getElem?_map, hx]; rfl
    have hd : xs.map (·.1) = [.lit (.int .u16 88), .lit (.int .u16 216), .lit (.int .u16 536), .lit (.int .u16 1024), .lit (.int .u16 1220), .lit (.int .u16 1360), .lit (.int .u16 1440), .lit (.int .u16 1460)] := by
      simp only [Rows.laid_culvert_cookie_sizes, Prod.mk.injEq, DataW.agg.injEq] at hx1
      exact hx1.1.symm
    have hk : k = szC (i : Int) := by
      rw [hd, e2] at hm
      have h8 : i = 0 ∨ i = 1 ∨ i = 2 ∨ i = 3 ∨ i = 4 ∨ i = 5 ∨ i = 6 ∨ i = 7 := by omega
      rcases h8 with rfl | rfl | rfl | rfl | rfl | rfl | rfl | rfl <;> (simp at hm; subst hm; decide)
    have hv := World.var?_cell hg0 hv0 i
    subst hk
    rw [hv]
    have hh : (cs0.toList.drop i)[0]? = some (.int .u16 (szC (i : Int))) := by
      have := congrArg (fun l => l[0]?) e1
      simpa using this
    simpa using hh
  refine ⟨?_, hcell⟩
  have h0 := hcell 0 (by decide)
  by_cases hs : 0 < W.heap.size
  · exact hs
  · exfalso
    have hn0 : W.heap[(0 : Nat)]? = none := Array.getElem?_eq_none (by omega)
    simp [World.cell?, hn0] at h0
end Go.Proofs.YtgcliijngaohdaaDoor
