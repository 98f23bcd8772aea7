/-
  The argument 'Piece' of chapter 1's laws, opened: three numbers of 32 bits and a slice of bytes that reads as a list.
-/
import Derived.Test.YtonbgkdobfefmaaSeqRd
import Derived.WalkKit
import Derived.ProofKit
import Derived.OpenShut
import Derived.ChangeOld
import Derived.Below
import Derived.Lib.SmallJoins
import Derived.Test.YtonbgkdobfefmaaQuiet
namespace Go.Proofs.Ytonbgkdobfefmaa
open Go.ChangeShapes Go.WideShapes Go.ChangeAt Go.RowKit

/-- A slice of bytes that came in. -/
theorem rd_open {H : Type} {enc : TypeId × Value → H} {W : World} {n0 : Nat} {v : Value} {y : DataW H × List MemPlace}
    (h : DataW.trod enc Try.prog W 0 (fun _ => true) true n0 30 [v] = some y) : ∃ A n c l, v = .slice A n c ∧ n ≤ c ∧ c ≤ maxLen ∧ Rd W A n l := by
  rcases open_ints Try.underlying30 Try.underlying5 (by kernel_rfl) h with ⟨hcs, _⟩ | ⟨x, len, cap, zs, hcs, _, hl, hm, hz, _, hcell, hwz⟩
  · simp at hcs
    exact ⟨none, 0, 0, [], hcs, Nat.le_refl _, by simp [maxLen], Rd.nil _ _⟩
  · simp at hcs
    refine ⟨some x, len, cap, zs.take len, hcs, hl, hm, ?_, ?_, ?_⟩
    · rw [List.length_take]; simp at hz; omega
    · intro z hz'
      have := bounds_u8 (hwz z (List.mem_of_mem_take hz'))
      omega
    · intro h0
      simp at hz
      obtain ⟨b, o, rfl, hc⟩ := ints_at hcell (by omega)
      refine ⟨b, o, rfl, ?_, fun i hi => ?_⟩
      · exact World.block_lt_of_cell? W _ (hc 0 (by omega))
      · rw [hc i (by omega)]
        simp [List.getD, List.getElem?_take_of_lt hi]

def PieceAt (w : World) (v : Value) : Prop :=
  ∃ a f lg A n c l, v = .agg #[.int .u32 a, .int .u32 f, .int .u32 lg, .slice A n c] ∧ U32 a ∧ U32 f ∧ U32 lg ∧ n ≤ c ∧ c ≤ maxLen ∧ Rd w A n l

theorem piece_open {H : Type} {enc : TypeId × Value → H} {W : World} {base : Nat} {v : Value} {d : DataW H} {p : List MemPlace}
    (hv : Value.okWide Try.prog W .any base 32 v) (h : DataW.Trod enc Try.prog W 0 (fun _ => true) true 32 v d p) : PieceAt W v := by
  obtain ⟨v0, v1, v2, v3, y0, y1, y2, y3, n, rfl, _, _, t0, t1, t2, t3⟩ := Joins.open_agg4 Try.underlying32 (by kernel_rfl) (by kernel_rfl) hv h
  obtain ⟨a, ha, _, wa⟩ := DataW.trod_int Try.underlying22 t0
  obtain ⟨f, hf, _, wf⟩ := DataW.trod_int Try.underlying22 t1
  obtain ⟨g, hg, _, wg⟩ := DataW.trod_int Try.underlying22 t2
  obtain ⟨A, m, c, l, rfl, hmc, hc, hr⟩ := rd_open t3
  simp at ha hf hg
  subst ha; subst hf; subst hg
  exact ⟨a, f, g, A, m, c, l, rfl, u32_wf wa, u32_wf wf, u32_wf wg, hmc, hc, hr⟩

/-- The worlds in which the boxed argument still lies as it was laid, and nothing older has turned. -/
structure Boxed (w : World) (a f lg : Int) (s : Value) (w' : World) : Prop where
  c0 : w'.cell? ⟨w.heap.size, 0, none⟩ = some (.int .u32 a)
  c1 : w'.cell? ⟨w.heap.size, 1, none⟩ = some (.int .u32 f)
  c2 : w'.cell? ⟨w.heap.size, 2, none⟩ = some (.int .u32 lg)
  c3 : w'.cell? ⟨w.heap.size, 3, none⟩ = some s
  below : Below w.heap.size w w'
  lt : w.heap.size < w'.heap.size
theorem Boxed.on {w : World} {a f lg : Int} {s : Value} {w' w'' : World} (h : Boxed w a f lg s w') (hb : Below w'.heap.size w' w'') : Boxed w a f lg s w'' :=
  ⟨(hb.cell h.lt).trans h.c0, (hb.cell h.lt).trans h.c1, (hb.cell h.lt).trans h.c2, (hb.cell h.lt).trans h.c3, below_trans h.below hb, Nat.lt_of_lt_of_le h.lt hb.size⟩
theorem Boxed.onB {w : World} {a f lg : Int} {s : Value} {w' w'' : World} {B : Nat} (h : Boxed w a f lg s w') (hb : Below B w' w'') (hB : w.heap.size < B) : Boxed w a f lg s w'' :=
  ⟨(hb.cell hB).trans h.c0, (hb.cell hB).trans h.c1, (hb.cell hB).trans h.c2, (hb.cell hB).trans h.c3, h.below.trans (hb.mono (Nat.le_of_lt hB)), Nat.lt_of_lt_of_le h.lt hb.size⟩
theorem Boxed.drew {w : World} {a f lg : Int} {s : Value} {w' : World} (h : Boxed w a f lg s w') (n : Nat) : Boxed w a f lg s { w' with drawn := n } :=
  ⟨h.c0, h.c1, h.c2, h.c3, below_drawn h.below n, h.lt⟩
theorem Boxed.new (w : World) (a f lg : Int) (s : Value) (n : Nat) : Boxed w a f lg s ((w.alloc (.cells #[.int .u32 a, .int .u32 f, .int .u32 lg, s] 32)).drewN n) := by
  refine ⟨by go_simp, by go_simp, by go_simp, by go_simp, below_drewN ((Below.refl _ _).alloc (Nat.le_refl _) _) n, by simp⟩
theorem ld_u32 (p : Addr) (x : Int) (w : World) (h : w.cell? p = some (.int .u32 x)) : (Instr.loadAt 22 (.pointer (some p))).run Try.prog w = .ok (.int .u32 x) w := by
  go_simp


theorem ld_slice (p : Addr) (A : Option Addr) (n c : Nat) (w : World) (h : w.cell? p = some (.slice A n c)) : (Instr.loadAt 30 (.pointer (some p))).run Try.prog w = .ok (.slice A n c) w := by
  go_simp

theorem min_nat (m : Int) (n : Nat) (hm : 0 ≤ m) : ∃ k : Nat, (if m < (n : Int) then m else (n : Int)) = (k : Int) ∧ k ≤ n ∧ (k : Int) ≤ m := by
  by_cases h : m < (n : Int)
  · exact ⟨m.toNat, by rw [if_pos h]; omega, by omega, by omega⟩
  · exact ⟨n, by rw [if_neg h], Nat.le_refl _, by omega⟩

end Go.Proofs.Ytonbgkdobfefmaa
