/-
  SeqPlaces holds: numbers that stand for places of one long row, less than 2^31 from one another, are as the places. No condition.
-/
import Derived.Test.YtonbgkdobfefmaaSeqRd
import Derived.WalkKit
import Derived.ProofKit
import Derived.OpenShut
import Derived.ChangeOld
import Derived.Below
namespace Go.Proofs.Ytonbgkdobfefmaa.seqPlaces
open Go.ChangeShapes Go.WideShapes Go.ChangeAt Go.RowKit
set_option linter.unusedVariables false

theorem walk (w : World) (p : Int) (w0 : (Lit.int .u64 p).wf = true) (far : Int) (w1 : (Lit.int .u32 far).wf = true) (long : Int) (w2 : (Lit.int .u32 long).wf = true) :
    Calls Try.prog 6 #[.int .u64 p, .int .u32 far, .int .u32 long] w fun e w' => e = .returned (.bool true) ∧ Below w.heap.size w w' := by
  have hp := bounds_u64 w0
  obtain ⟨hf0, hf1⟩ := u32_wf w1
  obtain ⟨hl0, hl1⟩ := u32_wf w2
  clear w0 w1 w2
  have E1 : sAhead (p % 4294967296) ((p % 4611686018427387904 + far % 2147483648) % 4294967296) = far % 2147483648 := by unfold sAhead; omega
  have E2 : sAhead ((p % 4611686018427387904 + far % 2147483648) % 4294967296) (p % 4294967296) = -(far % 2147483648) := by unfold sAhead; omega
  have E3 : sLess (p % 4294967296) ((p % 4611686018427387904 + far % 2147483648) % 4294967296) = decide (0 < far % 2147483648) := by unfold sLess; rw [E1]
  have E4 : sLess ((p % 4611686018427387904 + far % 2147483648) % 4294967296) (p % 4294967296) = false := by unfold sLess; rw [E2]; simp; omega
  have E5 : sLater (p % 4294967296) ((p % 4611686018427387904 + far % 2147483648) % 4294967296) = (p % 4611686018427387904 + far % 2147483648) % 4294967296 := by unfold sLater; rw [E1]; split <;> omega
  have E6 : sLater ((p % 4611686018427387904 + far % 2147483648) % 4294967296) (p % 4294967296) = (p % 4611686018427387904 + far % 2147483648) % 4294967296 := by unfold sLater; rw [E2]; split <;> omega
  have E7 : sWithin ((p % 4611686018427387904 + far % 2147483648) % 4294967296) (p % 4294967296) (long % 2147483648) = decide (far % 2147483648 < long % 2147483648) := by
    unfold sWithin
    rw [show ((p % 4611686018427387904 + far % 2147483648) % 4294967296 - p % 4294967296) % 4294967296 = far % 2147483648 by omega]
  have E9 : sAdd (p % 4294967296) (far % 2147483648) = (p % 4611686018427387904 + far % 2147483648) % 4294967296 := by unfold sAdd; omega
  have E10 : sAdd ((p % 4611686018427387904 + far % 2147483648) % 4294967296) (-(far % 2147483648)) = p % 4294967296 := by unfold sAdd; omega
  by_cases hd : far % 2147483648 = 0
  · clear E1 E2 E3 E4 E5 E6 E7 E9 E10
    have Z1 : sAhead (p % 4294967296) (p % 4294967296) = 0 := by unfold sAhead; omega
    have Z3 : sLess (p % 4294967296) (p % 4294967296) = false := by unfold sLess; rw [Z1]; rfl
    have Z5 : sLater (p % 4294967296) (p % 4294967296) = p % 4294967296 := by unfold sLater; split <;> rfl
    have Z7 : sWithin (p % 4294967296) (p % 4294967296) (long % 2147483648) = decide (0 < long % 2147483648) := by
      unfold sWithin
      rw [show (p % 4294967296 - p % 4294967296) % 4294967296 = 0 by omega]
    have Z9 : sAdd (p % 4294967296) 0 = p % 4294967296 := by unfold sAdd; omega
    go_enter Try.func6, Try.ntmps6
    go_wp2_with (first | (go_at_call 11; refine (add_any _ _ _).mono ?_; rintro e w' ⟨rfl, rfl⟩) | (go_at_call 13; refine (ahead_any _ _ _).mono ?_; rintro e w' ⟨rfl, rfl⟩) | (go_at_call 14; refine (less_any _ _ _).mono ?_; rintro e w' ⟨rfl, rfl⟩) | (go_at_call 15; refine (later_any _ _ _).mono ?_; rintro e w' ⟨rfl, rfl⟩) | (go_at_call 16; refine (within_any _ _ _ _).mono ?_; rintro e w' ⟨rfl, rfl⟩) | (go_at_call 10; refine (awake_any _).mono ?_; rintro e w1 ⟨rfl, hbel⟩))
    go_ret
    exact ⟨rfl, hbel⟩
  · have E8 : sWithin (p % 4294967296) ((p % 4611686018427387904 + far % 2147483648) % 4294967296) (long % 2147483648) = false := by
      unfold sWithin; simp; omega
    have hd1 : 0 < far % 2147483648 := by omega
    have hd2 : (far % 2147483648 == 0) = false := by simp; omega
    clear hd
    go_enter Try.func6, Try.ntmps6
    go_wp2_with (first | (go_at_call 11; refine (add_any _ _ _).mono ?_; rintro e w' ⟨rfl, rfl⟩) | (go_at_call 13; refine (ahead_any _ _ _).mono ?_; rintro e w' ⟨rfl, rfl⟩) | (go_at_call 14; refine (less_any _ _ _).mono ?_; rintro e w' ⟨rfl, rfl⟩) | (go_at_call 15; refine (later_any _ _ _).mono ?_; rintro e w' ⟨rfl, rfl⟩) | (go_at_call 16; refine (within_any _ _ _ _).mono ?_; rintro e w' ⟨rfl, rfl⟩) | (go_at_call 10; refine (awake_any _).mono ?_; rintro e w1 ⟨rfl, hbel⟩))
    go_ret
    exact ⟨rfl, hbel⟩

theorem own : ownKnob Try.prog.godebug = none := by kernel_rfl
theorem laidOut : laidOutB Try.prog = true := by kernel_rfl

set_option maxRecDepth 100000 in
theorem lifted (os : Os) (started : os.Started) (H : Type) (enc : TypeId × Value → H) :
    ReturnsInHanded {} Try.checked os 6 .any (Rows.seqPlacesSpec.pre6 enc Try.prog Try.f6 Rows.seqPlacesRow.domain false) (Rows.seqPlacesSpec.post enc Try.prog Try.f6 false true false false) := by
  refine returnsInHanded_of_change (C := Try.checked) own started (by kernel_rfl) Try.func6
    (ChangeSpec.witness6 (enc := enc) (C := Try.checked) false ⟨#[], #[.int .u64 0, .int .u32 0, .int .u32 0], []⟩ 8 (by kernel_rfl) (by kernel_rfl) (by kernel_rfl) (by kernel_rfl)) ?_
  intro W base args ds gs before hval0 hW hcnd _
  have hval : ∀ (j : Nat) t v, Try.f6.params[j]? = some t → args[j]? = some v → Value.okWide Try.prog W .any base t v := hval0
  have hW' := hW
  obtain ⟨p, q, hA0, hV, rfl, hfz, hnd⟩ := hW
  have hA : DataW.TrodAll enc Try.prog W 0 (fun _ => true) true Try.f6.params.toList args.toList ds p := hA0
  rw [Try.params6] at hA hval
  obtain ⟨v0, vs0, d0, ds0, p0, q0, hargs, rfl, rfl, h0, r0⟩ := trodAll_cons hA
  obtain ⟨v1, vs1, d1, ds1, p1, q1, rfl, rfl, rfl, h1, r1⟩ := trodAll_cons r0
  obtain ⟨v2, vs2, d2, ds2, p2, q2, rfl, rfl, rfl, h2, r2⟩ := trodAll_cons r1
  obtain ⟨rfl, rfl, rfl⟩ := trodAll_nil r2
  obtain rfl : args = #[v0, v1, v2] := by cases args; simp_all
  obtain ⟨rfl, rfl⟩ := trodVars_none hV
  obtain ⟨a0, rfl, rfl, rfl, w0⟩ := open_int Try.underlying39 (hval 0 39 v0 rfl rfl) h0
  obtain ⟨a1, rfl, rfl, rfl, w1⟩ := open_int Try.underlying22 (hval 1 22 v1 rfl rfl) h1
  obtain ⟨a2, rfl, rfl, rfl, w2⟩ := open_int Try.underlying22 (hval 2 22 v2 rfl rfl) h2
  clear hA0 hval0
  refine (walk W a0 w0 a1 w1 a2 w2).mono fun e W' ⟨he, bel⟩ => ?_
  subst he
  exact ⟨_, rfl, _, _, _, [], _, [], hW', trodAll_mk1 (shut_bool Try.underlying4 _), (trodAll_cons_mk (shut_int Try.underlying39 w0) (trodAll_cons_mk (shut_int Try.underlying22 w1) (trodAll_cons_mk (shut_int Try.underlying22 w2) trodAll_mk0))), rfl, bel.frame _, fun h => by cases h⟩

theorem over : Rows.seqPlacesRow.holds Try.pinned (OpenSpec.ofChange Rows.seqPlacesSpec) :=
  OpenClaim.holds_of_wide 6 Try.f6 rfl rfl rfl rfl rfl rfl rfl ⟨rfl, rfl, rfl, rfl, rfl⟩ rfl rfl rfl rfl rfl (by kernel_rfl) Try.func6 (by kernel_rfl)
    (of_decide_eq_true (by kernel_rfl)) (by unfold Func.isWrapper; first | (rw [if_pos (by decide +kernel)]; kernel_rfl) | (rw [if_neg (by decide +kernel)]; exact ⟨rfl, rfl⟩))
    (fun os started H enc _ => lifted os started H enc)

/-- The statement. -/
theorem proved : Rows.SeqPlacesSaid := over
#print axioms proved
end Go.Proofs.Ytonbgkdobfefmaa.seqPlaces
