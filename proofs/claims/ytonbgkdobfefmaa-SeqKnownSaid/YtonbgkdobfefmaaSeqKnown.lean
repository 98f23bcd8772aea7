/-
  SeqKnown holds: the document's examples and ends for package seq are as the chapter says. A closed statement: no condition.
-/
import Derived.Test.YtonbgkdobfefmaaSeqRd
import Derived.WalkKit
import Derived.ProofKit
import Derived.OpenShut
import Derived.ChangeOld
import Derived.Below
namespace Go.Proofs.Ytonbgkdobfefmaa.seqKnown
open Go.ChangeShapes Go.WideShapes Go.ChangeAt Go.RowKit
set_option linter.unusedVariables false

/-- Cut of a constant that the walk has just laid: its post with the numbers in place. -/
def Told (x : Int) (bs : List Int) (w : World) (e : Ending) (w' : World) : Prop :=
  ∃ A c, e = .returned (.tuple #[.int .u32 x, .slice A bs.length c]) ∧ bs.length ≤ c ∧ Rd w' A bs.length bs ∧ Below w.heap.size w w'

theorem cut_told (at_ f lg : Int) (A : Option Addr) (n c : Nat) (l : List Int) (x : Int) (bs : List Int) (w : World) (hl : U32 lg) (hn : n ≤ 2147483647) (hc : n ≤ c) (h : Rd w A n l)
    (hx : cutFrom at_ f lg l = x) (hb : cutBytes at_ f lg l = bs) :
    Calls Try.prog 18 #[.int .u32 at_, .slice A n c, .int .u32 f, .int .u32 lg] w (Told x bs w) := by
  subst hx; subst hb
  exact cut_rd at_ f lg A n c l w hl hn hc h

set_option maxHeartbeats 4000000 in
theorem walk (w : World) :
    Calls Try.prog 8 #[] w fun e w' => e = .returned (.bool true) ∧ Below w.heap.size w w' := by
  have kc := fun (w : World) (C : Array Value) (n c : Nat) => Lib.run_convert_bytes_const (P := Try.prog) w 30 5 C n c Try.underlying30 Try.underlying5
  have c1 : cutFrom 5 9 5 [97, 98, 99] = 9 := by decide
  have c2 : cutBytes 5 9 5 [97, 98, 99] = [] := by decide
  have c3 : cutFrom 4294967295 0 1 [97, 98, 99] = 0 := by decide
  have c4 : cutBytes 4294967295 0 1 [97, 98, 99] = [98] := by decide
  have c5 : cutFrom 0 4294967295 4294967295 [97, 98, 99] = 0 := by decide
  have c6 : cutBytes 0 4294967295 4294967295 [97, 98, 99] = [97, 98, 99] := by decide
  have c7 : cutFrom 7 9 5 [] = 9 := by decide
  have c8 : cutBytes 7 9 5 [] = [] := by decide
  have C1 := Lib.hid c1
  have C2 := Lib.hid c2
  have C3 := Lib.hid c3
  have C4 := Lib.hid c4
  have C5 := Lib.hid c5
  have C6 := Lib.hid c6
  have C7 := Lib.hid c7
  have C8 := Lib.hid c8
  clear c1 c2 c3 c4 c5 c6 c7 c8
  have a1 : sAccept 4 0 5 9 = false := by decide
  have a2 : sAccept 5 1 5 0 = false := by decide
  have a3 : sAccept 5 1 5 1 = true := by decide
  have a4 : sAccept 13 0 5 9 = true := by decide
  have a5 : sAccept 14 0 5 9 = false := by decide
  have a6 : sAccept 4 (-7) 4 0 = true := by decide
  have e1 : sAhead 0 2147483648 = -2147483648 := by decide
  have e2 : sLess 0 2147483648 = false := by decide
  have e3 : sWithin 5 5 0 = false := by decide
  have e4 : sWithin 4 5 4294967295 = false := by decide
  have e5 : sWithin 3 5 4294967295 = true := by decide
  have e6 : sAdd 0 (-9223372036854775808) = 0 := by decide
  have s1 : ((strOfNums [98]).toList == [98]) = true := by rw [ByteArray.toList_eq]; decide
  have s2 : ((strOfNums [97, 98, 99]).toList == [97, 98, 99]) = true := by rw [ByteArray.toList_eq]; decide
  have hB := Below.refl w.heap.size w
  go_enter Try.func8, Try.ntmps8
  go_wp2_with fail
  refine (cut_told 5 9 5 _ 3 3 [97, 98, 99] _ _ _ (by unfold U32; omega) (by omega) (by omega) (Rd.const w [97, 98, 99] _ _ (by decide)) C1.out C2.out).mono ?_
  rintro e w1 ⟨A1, k1, rfl, -, hr1, hb1⟩
  have hB := below_trans (hB.alloc (Nat.le_refl _) _) hb1
  clear hb1
  go_wp2_with fail
  refine (cut_told 4294967295 0 1 _ 3 3 [97, 98, 99] _ _ _ (by unfold U32; omega) (by omega) (by omega) (Rd.const w1 [97, 98, 99] _ _ (by decide)) C3.out C4.out).mono ?_
  rintro e w2 ⟨A2, k2, rfl, -, hr2, hb2⟩
  have hB := below_trans (hB.alloc hB.size _) hb2
  clear hb2
  go_wp2_with fail
  refine (cut_told 0 4294967295 4294967295 _ 3 3 [97, 98, 99] _ _ _ (by unfold U32; omega) (by omega) (by omega) (Rd.const w2 [97, 98, 99] _ _ (by decide)) C5.out C6.out).mono ?_
  rintro e w3 ⟨A3, k3, rfl, -, hr3, hb3⟩
  have hr2 := Rd.below hr2 (((Below.refl _ _).alloc (Nat.le_refl _) _).trans (hb3.mono (by simp)))
  have hB := below_trans (hB.alloc hB.size _) hb3
  clear hb3
  go_wp2_with fail
  refine (cut_told 7 9 5 _ 0 0 [] _ _ _ (by unfold U32; omega) (by omega) (by omega) (Rd.nil _ _) C7.out C8.out).mono ?_
  rintro e w4 ⟨A4, k4, rfl, -, hr4, hb4⟩
  have hr2 := Rd.below hr2 hb4
  have hr3 := Rd.below hr3 hb4
  have hB := below_trans hB hb4
  clear hb4 hr1 hr4
  have hr2 : Rd w4 A2 1 [98] := hr2
  have hr3 : Rd w4 A3 3 [97, 98, 99] := hr3
  go_wp2_with (first | (go_at_call 11; refine (add_any _ _ _).mono ?_; rintro e w' ⟨rfl, rfl⟩) | (go_at_call 13; refine (ahead_any _ _ _).mono ?_; rintro e w' ⟨rfl, rfl⟩) | (go_at_call 14; refine (less_any _ _ _).mono ?_; rintro e w' ⟨rfl, rfl⟩) | (go_at_call 16; refine (within_any _ _ _ _).mono ?_; rintro e w' ⟨rfl, rfl⟩) | (go_at_call 10; refine (awake_any _).mono ?_; rintro e w5 ⟨rfl, hbel⟩; have hB := below_trans hB hbel; have hr2 := Rd.below hr2 hbel; have hr3 := Rd.below hr3 hbel; clear hbel) | (go_at_call 21; refine (accept_any _ _ _ _ _ (by omega)).mono ?_; rintro e w5 ⟨rfl, hbel⟩; have hB := below_trans hB hbel; have hr2 := Rd.below hr2 hbel; have hr3 := Rd.below hr3 hbel; have hcv2 := conv_rd hr2 k2; have hcv3 := conv_rd hr3 k3; clear hbel))
  go_ret
  exact ⟨rfl, hB⟩

theorem own : ownKnob Try.prog.godebug = none := by kernel_rfl
theorem laidOut : laidOutB Try.prog = true := by kernel_rfl

set_option maxRecDepth 100000 in
theorem lifted (os : Os) (started : os.Started) (H : Type) (enc : TypeId × Value → H) :
    ReturnsInHanded {} Try.checked os 8 .any (Rows.seqKnownSpec.pre6 enc Try.prog Try.f8 Rows.seqKnownRow.domain false) (Rows.seqKnownSpec.post enc Try.prog Try.f8 false true false false) := by
  refine returnsInHanded_of_change (C := Try.checked) own started (by kernel_rfl) Try.func8
    (ChangeSpec.witness6 (enc := enc) (C := Try.checked) false ⟨#[], #[], []⟩ 8 (by kernel_rfl) (by kernel_rfl) (by kernel_rfl) (by kernel_rfl)) ?_
  intro W base args ds gs before hval0 hW hcnd _
  have hval : ∀ (j : Nat) t v, Try.f8.params[j]? = some t → args[j]? = some v → Value.okWide Try.prog W .any base t v := hval0
  have hW' := hW
  obtain ⟨p, q, hA0, hV, rfl, hfz, hnd⟩ := hW
  have hA : DataW.TrodAll enc Try.prog W 0 (fun _ => true) true Try.f8.params.toList args.toList ds p := hA0
  rw [Try.params8] at hA hval
  obtain ⟨rfl, rfl, rfl⟩ := trodAll_none hA
  obtain ⟨rfl, rfl⟩ := trodVars_none hV
  clear hA0 hval0
  refine (walk W ).mono fun e W' ⟨he, bel⟩ => ?_
  subst he
  exact ⟨_, rfl, _, _, _, [], _, [], hW', trodAll_mk1 (shut_bool Try.underlying4 _), trodAll_mk0, rfl, bel.frame _, fun h => by cases h⟩

theorem over : Rows.seqKnownRow.holds Try.pinned (OpenSpec.ofChange Rows.seqKnownSpec) :=
  OpenClaim.holds_of_wide 8 Try.f8 rfl rfl rfl rfl rfl rfl rfl ⟨rfl, rfl, rfl, rfl, rfl⟩ rfl rfl rfl rfl rfl (by kernel_rfl) Try.func8 (by kernel_rfl)
    (of_decide_eq_true (by kernel_rfl)) (by unfold Func.isWrapper; first | (rw [if_pos (by decide +kernel)]; kernel_rfl) | (rw [if_neg (by decide +kernel)]; exact ⟨rfl, rfl⟩))
    (fun os started H enc _ => lifted os started H enc)

/-- The statement. -/
theorem proved : Rows.SeqKnownSaid := over
#print axioms proved
end Go.Proofs.Ytonbgkdobfefmaa.seqKnown
