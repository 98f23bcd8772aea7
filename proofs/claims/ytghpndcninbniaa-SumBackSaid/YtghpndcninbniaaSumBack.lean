/-
  SumBack holds: a field of which a word becomes itself, or another one and back, is the same but that 0 and ffff stand for each other; four bytes are two words. No condition.
-/
import Derived.Test.YtghpndcninbniaaSumWakes
namespace Go.Proofs.Ytghpndcninbniaa.sumBack
open Go.ChangeShapes Go.WideShapes Go.ChangeAt Go.RowKit
set_option linter.unusedVariables false

theorem walk (w : World) (f : Int) (w0 : (Lit.int .u16 f).wf = true) (was : Int) (w1 : (Lit.int .u32 was).wf = true) (is_ : Int) (w2 : (Lit.int .u32 is_).wf = true) :
    Calls Try.prog 7 #[.int .u16 f, .int .u32 was, .int .u32 is_] w fun e w' => e = .returned (.bool true) ∧ Below w.heap.size w w' := by
  have hf : U16 f := by have := bounds_u16 w0; unfold U16; omega
  have hs : U32 was := by have := bounds_u32 w1; unfold U32; omega
  have hi : U32 is_ := by have := bounds_u32 w2; unfold U32; omega
  have ha := lo_u16 was
  have hb := lo_u16 is_
  have hah := hi_u16 hs
  have hbh := hi_u16 hi
  have ht := wordF_bd _ _ _ hf ha hb
  have hl := longF_bd _ _ _ hf hs hi
  have hq := wordF_bd _ _ _ ht hah hbh
  have m1 := wordF_mod f (was % 65536) (is_ % 65536)
  have m2 := longF_mod f was is_
  have L1 : likeB (wordF f (was % 65536) (was % 65536)) f = true := like_of _ _ (wordF_bd _ _ _ hf ha ha) hf (by rw [wordF_mod]; omega)
  have L2 : likeB (wordF (wordF f (was % 65536) (is_ % 65536)) (is_ % 65536) (was % 65536)) f = true := like_of _ _ (wordF_bd _ _ _ ht hb ha) hf (by rw [wordF_mod]; omega)
  have L3 : likeB (longF (longF f was is_) is_ was) f = true := like_of _ _ (longF_bd _ _ _ hl hi hs) hf (by rw [longF_mod]; omega)
  have L4 : likeB (longF f was is_) (wordF (wordF f (was % 65536) (is_ % 65536)) (was / 65536) (is_ / 65536)) = true := like_of _ _ hl hq (by rw [wordF_mod]; omega)
  have l1 := wrap_u16 was
  have l2 := wrap_u16 is_
  have q1 := id hah
  have q2 := id hbh
  obtain ⟨ha0, ha1⟩ := id hs
  obtain ⟨hb0, hb1⟩ := id hi
  unfold U16 at q1 q2
  clear w0 w1 w2 m1 m2
  go_enter Try.func7, Try.ntmps7
  go_wp2_with (first | (go_at_call 17; refine (word_any _ _ _ _ (by assumption) (by assumption) (by assumption)).mono ?_; rintro e w' ⟨rfl, rfl⟩) | (go_at_call 19; refine (long_any _ _ _ _ (by assumption) (by assumption) (by assumption)).mono ?_; rintro e w' ⟨rfl, rfl⟩) | (go_at_call 27; refine (like_any _ _ _).mono ?_; rintro e w' ⟨rfl, rfl⟩) | (go_at_call 16; refine (wakes_any _).mono ?_; rintro e w1 ⟨rfl, hbel⟩))
  go_ret
  exact ⟨rfl, hbel⟩

theorem own : ownKnob Try.prog.godebug = none := by kernel_rfl
theorem laidOut : laidOutB Try.prog = true := by kernel_rfl

set_option maxRecDepth 100000 in
theorem lifted (os : Os) (started : os.Started) (H : Type) (enc : TypeId × Value → H) :
    ReturnsInHanded {} Try.checked os 7 .any (Rows.sumBackSpec.pre6 enc Try.prog Try.f7 Rows.sumBackRow.domain false) (Rows.sumBackSpec.post enc Try.prog Try.f7 false true false false) := by
  refine returnsInHanded_of_change (C := Try.checked) own started (by kernel_rfl) Try.func7
    (ChangeSpec.witness6 (enc := enc) (C := Try.checked) false ⟨#[], #[.int .u16 0, .int .u32 0, .int .u32 0], []⟩ 8 (by kernel_rfl) (by kernel_rfl) (by kernel_rfl) (by kernel_rfl)) ?_
  intro W base args ds gs before hval0 hW hcnd _
  have hval : ∀ (j : Nat) t v, Try.f7.params[j]? = some t → args[j]? = some v → Value.okWide Try.prog W .any base t v := hval0
  have hW' := hW
  obtain ⟨p, q, hA0, hV, rfl, hfz, hnd⟩ := hW
  have hA : DataW.TrodAll enc Try.prog W 0 (fun _ => true) true Try.f7.params.toList args.toList ds p := hA0
  rw [Try.params7] at hA hval
  obtain ⟨v0, vs0, d0, ds0, p0, q0, hargs, rfl, rfl, h0, r0⟩ := trodAll_cons hA
  obtain ⟨v1, vs1, d1, ds1, p1, q1, rfl, rfl, rfl, h1, r1⟩ := trodAll_cons r0
  obtain ⟨v2, vs2, d2, ds2, p2, q2, rfl, rfl, rfl, h2, r2⟩ := trodAll_cons r1
  obtain ⟨rfl, rfl, rfl⟩ := trodAll_nil r2
  obtain rfl : args = #[v0, v1, v2] := by cases args; simp_all
  obtain ⟨rfl, rfl⟩ := trodVars_none hV
  obtain ⟨a0, rfl, rfl, rfl, w0⟩ := open_int Try.underlying25 (hval 0 25 v0 rfl rfl) h0
  obtain ⟨a1, rfl, rfl, rfl, w1⟩ := open_int Try.underlying31 (hval 1 31 v1 rfl rfl) h1
  obtain ⟨a2, rfl, rfl, rfl, w2⟩ := open_int Try.underlying31 (hval 2 31 v2 rfl rfl) h2
  clear hA0 hval0
  refine (walk W a0 w0 a1 w1 a2 w2).mono fun e W' ⟨he, bel⟩ => ?_
  subst he
  exact ⟨_, rfl, _, _, _, [], _, [], hW', trodAll_mk1 (shut_bool Try.underlying4 _), (trodAll_cons_mk (shut_int Try.underlying25 w0) (trodAll_cons_mk (shut_int Try.underlying31 w1) (trodAll_cons_mk (shut_int Try.underlying31 w2) trodAll_mk0))), rfl, bel.frame _, fun h => by cases h⟩

theorem over : Rows.sumBackRow.holds Try.pinned (OpenSpec.ofChange Rows.sumBackSpec) :=
  OpenClaim.holds_of_wide 7 Try.f7 rfl rfl rfl rfl rfl rfl rfl ⟨rfl, rfl, rfl, rfl, rfl⟩ rfl rfl rfl rfl rfl (by kernel_rfl) Try.func7 (by kernel_rfl)
    (of_decide_eq_true (by kernel_rfl)) (by unfold Func.isWrapper; first | (rw [if_pos (by decide +kernel)]; kernel_rfl) | (rw [if_neg (by decide +kernel)]; exact ⟨rfl, rfl⟩))
    (fun os started H enc _ => lifted os started H enc)

/-- The statement. -/
theorem proved : Rows.SumBackSaid := over
#print axioms proved
end Go.Proofs.Ytghpndcninbniaa.sumBack
