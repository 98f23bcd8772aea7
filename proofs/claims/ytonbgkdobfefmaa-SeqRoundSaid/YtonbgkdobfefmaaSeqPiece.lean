/-
  The argument 'Piece' of chapter 1's laws, opened: three numbers of 32 bits and a slice of bytes that reads as a list.
-/
import Derived.Test.YtonbgkdobfefmaaSeqRd
import Derived.WalkKit
import Derived.ProofKit
import Derived.OpenShut
import Derived.ChangeOld
import Derived.Below
import Derived.Lib.SmallJoins
namespace Go.Proofs.Ytonbgkdobfefmaa
open Go.ChangeShapes Go.WideShapes Go.ChangeAt Go.RowKit

/-- A slice of bytes that came in. -/
theorem rd_open {H : Type} {enc : TypeId × Value → H} {W : World} {n0 : Nat} {v : Value} {y : DataW H × List MemPlace}
    (h : DataW.trod enc Try.prog W 0 (fun _ => true) true n0 30 [v] = some y) : ∃ A n c l, v = .slice A n c ∧ n ≤ c ∧ c ≤ maxLen ∧ Rd W A n l := by
  rcases open_ints Try.underlying30 Try.underlying5 (by kernel_rfl) h with ⟨hcs, _⟩ | ⟨x, len, cap, zs, hcs, _, hl, hm, hz, _, hcell, hwz⟩
  · simp at hcs
    exact ⟨none, 0, 0, [], hcs, Nat.le_refl _, by simp [maxLen], Rd.nil _ _⟩
  · simp at hcs
    refine ⟨some x, len, cap, zs.take len, hcs, hl, hm, ?_, ?_, ?_⟩
    · rw [List.length_take]; simp at hz; omega
    · intro z hz'
      have := bounds_u8 (hwz z (List.mem_of_mem_take hz'))
      omega
    · intro h0
      simp at hz
      obtain ⟨b, o, rfl, hc⟩ := ints_at hcell (by omega)
      refine ⟨b, o, rfl, ?_, fun i hi => ?_⟩
      · exact World.block_lt_of_cell? W _ (hc 0 (by omega))
      · rw [hc i (by omega)]
        simp [List.getD, List.getElem?_take_of_lt hi]

def PieceAt (w : World) (v : Value) : Prop :=
  ∃ a f lg A n c l, v = .agg #[.int .u32 a, .int .u32 f, .int .u32 lg, .slice A n c] ∧ U32 a ∧ U32 f ∧ U32 lg ∧ n ≤ c ∧ c ≤ maxLen ∧ Rd w A n l

theorem piece_open {H : Type} {enc : TypeId × Value → H} {W : World} {base : Nat} {v : Value} {d : DataW H} {p : List MemPlace}
    (hv : Value.okWide Try.prog W .any base 32 v) (h : DataW.Trod enc Try.prog W 0 (fun _ => true) true 32 v d p) : PieceAt W v := by
  obtain ⟨v0, v1, v2, v3, y0, y1, y2, y3, n, rfl, _, _, t0, t1, t2, t3⟩ := Joins.open_agg4 Try.underlying32 (by kernel_rfl) (by kernel_rfl) hv h
  obtain ⟨a, ha, _, wa⟩ := DataW.trod_int Try.underlying22 t0
  obtain ⟨f, hf, _, wf⟩ := DataW.trod_int Try.underlying22 t1
  obtain ⟨g, hg, _, wg⟩ := DataW.trod_int Try.underlying22 t2
  obtain ⟨A, m, c, l, rfl, hmc, hc, hr⟩ := rd_open t3
  simp at ha hf hg
  subst ha; subst hf; subst hg
  exact ⟨a, f, g, A, m, c, l, rfl, u32_wf wa, u32_wf wf, u32_wf wg, hmc, hc, hr⟩

end Go.Proofs.Ytonbgkdobfefmaa
