/-
  SeqRound holds: if the same number is added to all numbers of a call, going round, its answer is the same, moved likewise. No condition.
-/
import Derived.Test.YtonbgkdobfefmaaSeqPiece
namespace Go.Proofs.Ytonbgkdobfefmaa.seqRound
open Go.ChangeShapes Go.WideShapes Go.ChangeAt Go.RowKit
set_option linter.unusedVariables false

theorem add_moved (a n m : Int) : sAdd ((a + m) % 4294967296) n = (sAdd a n + m) % 4294967296 := by unfold sAdd; omega
theorem ahead_moved (a f m : Int) : sAhead ((a + m) % 4294967296) ((f + m) % 4294967296) = sAhead a f := by unfold sAhead; omega
theorem less_moved (a f m : Int) : sLess ((a + m) % 4294967296) ((f + m) % 4294967296) = sLess a f := by unfold sLess; rw [ahead_moved]
theorem later_moved (a f m : Int) : sLater ((a + m) % 4294967296) ((f + m) % 4294967296) = (sLater a f + m) % 4294967296 := by unfold sLater; rw [ahead_moved]; split <;> rfl
theorem within_moved (a f m lg : Int) : sWithin ((a + m) % 4294967296) ((f + m) % 4294967296) lg = sWithin a f lg := by
  unfold sWithin
  rw [show ((a + m) % 4294967296 - (f + m) % 4294967296) % 4294967296 = (a - f) % 4294967296 by omega]
theorem accept_moved (a f m n lg : Int) (ha : U32 a) (hf : U32 f) : sAccept ((a + m) % 4294967296) n ((f + m) % 4294967296) lg = sAccept a n f lg := by
  unfold sAccept
  rw [add_moved, within_moved, within_moved]
  have : ((a + m) % 4294967296 = (f + m) % 4294967296) = (a = f) := by
    unfold U32 at ha hf
    rw [eq_iff_iff]
    omega
  simp only [this]

theorem from_moved (a f m lg : Int) (l : List Int) (hf : U32 f) : cutFrom ((a + m) % 4294967296) ((f + m) % 4294967296) lg l = (cutFrom a f lg l + m) % 4294967296 := by
  unfold cutFrom
  rw [ahead_moved, add_moved]
  split <;> rfl
theorem bytes_moved (a f m lg : Int) (l : List Int) : cutBytes ((a + m) % 4294967296) ((f + m) % 4294967296) lg l = cutBytes a f lg l := by
  unfold cutBytes
  rw [ahead_moved]

/-- The post of the moved Cut. -/
def CutM (x : Int) (bs : List Int) (w : World) (e : Ending) (w' : World) : Prop :=
  ∃ A c, e = .returned (.tuple #[.int .u32 x, .slice A bs.length c]) ∧ Rd w' A bs.length bs ∧ Below w.heap.size w w'

theorem cut_plain (a f lg : Int) (A : Option Addr) (n c : Nat) (l : List Int) (x : Int) (bs : List Int) (w : World) (hl : U32 lg) (hn : n ≤ 2147483647) (hc : n ≤ c) (h : Rd w A n l)
    (hx : Hid (cutFrom a f lg l = x)) (hb : Hid (cutBytes a f lg l = bs)) :
    Calls Try.prog 18 #[.int .u32 a, .slice A n c, .int .u32 f, .int .u32 lg] w (CutM x bs w) := by
  have := hx.out; subst this
  have := hb.out; subst this
  exact (cut_rd a f lg A n c l w hl hn hc h).mono fun e w' ⟨A', c', he, _, hr, hb⟩ => ⟨A', c', he, hr, hb⟩

set_option maxRecDepth 100000 in
set_option maxHeartbeats 4000000 in
theorem walk (w : World) (v : Value) (hp : PieceAt w v) (m : Int) (wm : (Lit.int .u32 m).wf = true) (n : Int) (wn : (Lit.int .i64 n).wf = true) :
    Calls Try.prog 5 #[v, .int .u32 m, .int .i64 n] w fun e w' => e = .returned (.bool true) ∧ Below w.heap.size w w' := by
  obtain ⟨a, f, lg, A, n0, c, l, rfl, ha, hf, hl, hnc, hc, hr⟩ := hp
  have E1 := add_moved a n m
  have E2 := ahead_moved a f m
  have E3 := less_moved a f m
  have E4 := later_moved a f m
  have E5 := within_moved a f m lg
  have E6 := accept_moved a f m n lg ha hf
  obtain ⟨k, ek⟩ : ∃ k : Nat, (if (500 : Int) < (n0 : Int) then (500 : Int) else (n0 : Int)) = (k : Int) := by
    by_cases h : (500 : Int) < (n0 : Int)
    · exact ⟨500, by rw [if_pos h]; rfl⟩
    · exact ⟨n0, by rw [if_neg h]⟩
  have hk : k ≤ 500 := by split at ek <;> omega
  have hkn : k ≤ n0 := by split at ek <;> omega
  have hkc : (k : Int) ≤ (c : Int) := by omega
  have hr0 : Rd w A k (l.take k) := hr.take hkn
  obtain ⟨l1, el⟩ : ∃ l1, l1 = l.take k := ⟨_, rfl⟩
  rw [← el] at hr0
  clear el
  obtain ⟨x, ex⟩ : ∃ x, cutFrom a f lg l1 = x := ⟨_, rfl⟩
  obtain ⟨bs, eb⟩ : ∃ bs, cutBytes a f lg l1 = bs := ⟨_, rfl⟩
  have X1 := Lib.hid ex
  have B1 := Lib.hid eb
  have X2 := Lib.hid (show cutFrom ((a + m) % 4294967296) ((f + m) % 4294967296) lg l1 = (x + m) % 4294967296 by rw [from_moved a f m lg l1 hf, ex])
  have B2 := Lib.hid (show cutBytes ((a + m) % 4294967296) ((f + m) % 4294967296) lg l1 = bs by rw [bytes_moved, eb])
  clear ex eb
  have HL := Lib.hid hl
  obtain ⟨ha0, ha1⟩ := ha
  obtain ⟨hf0, hf1⟩ := hf
  obtain ⟨hl0, hl1⟩ := hl
  have hm := u32_wf wm
  obtain ⟨hm0, hm1⟩ := hm
  have hn := bounds_i64 wn
  unfold maxLen at hc
  clear wm wn
  go_enter Try.func5, Try.ntmps5
  go_wp2_with fail
  clear ek
  go_quiet (fail)
  go_wp2_with fail
  dsimp only [List.append]
  have hne := class_const (C := Boxed w a f lg (.slice A k c)) ⟨_, Boxed.new w a f lg (.slice A k c) 0⟩
  refine region_class (C := Boxed w a f lg (.slice A k c)) (by kernel_rfl) (by kernel_rfl) ((Boxed.new w a f lg (.slice A k c) _).drew _) ?_
  repeat (first | go_big_quiet_skip | (go_big_quiet_want; first | (refine quiet_ld 22 _ _ _ rfl rfl (ld_u32 _ _) (fun w h => Boxed.c2 h) ?_; simp only [Act.put, List.setIfInBounds_toArray, List.set_cons_zero, List.set_cons_succ]; go_big_quiet_on) | (go_big_quiet_op; first | go_big_quiet_on | go_big_quiet_call ((intro hS; first | (go_at_call 11; refine (add_any _ _ _).mono ?_; rintro e w' ⟨rfl, rfl⟩; exact ⟨rfl, hS⟩) | (go_at_call 13; refine (ahead_any _ _ _).mono ?_; rintro e w' ⟨rfl, rfl⟩; exact ⟨rfl, hS⟩) | (go_at_call 14; refine (less_any _ _ _).mono ?_; rintro e w' ⟨rfl, rfl⟩; exact ⟨rfl, hS⟩) | (go_at_call 15; refine (later_any _ _ _).mono ?_; rintro e w' ⟨rfl, rfl⟩; exact ⟨rfl, hS⟩) | (go_at_call 16; refine (within_any _ _ _ _).mono ?_; rintro e w' ⟨rfl, rfl⟩; exact ⟨rfl, hS⟩) | (go_at_call 21; refine (accept_any _ _ _ _ _ (by omega)).mono ?_; rintro e w5 ⟨rfl, hb5⟩; exact ⟨rfl, hS.on hb5⟩))))))
  refine wpQuiet_nil ?_
  clear hne
  intro w2 hw2
  have hr2 := hr0.below hw2.below
  obtain ⟨c0, c1, c2, c3, hbel, hlt⟩ := id hw2
  go_wp2_with fail
  refine (cut_plain a f lg A k c l1 x bs w2 HL.out (by omega) (by omega) hr2 X1 B1).mono ?_
  rintro e w3 ⟨A3, k3, rfl, hr3, hb3⟩
  have hw3 := hw2.on hb3
  have hr4 := hr2.below hb3
  clear hb3 c0 c1 c2 c3 hbel hlt hw2 hr2
  obtain ⟨c0, c1, c2, c3, hbel, hlt⟩ := id hw3
  go_wp2_with fail
  refine (cut_plain _ _ lg A k c l1 _ bs w3 HL.out (by omega) (by omega) hr4 X2 B2).mono ?_
  rintro e w4 ⟨A4, k4, rfl, hr5, hb4⟩
  have hw4 := hw3.on hb4
  have hr3 := hr3.below hb4
  clear hb4 c0 c1 c2 c3 hbel hlt hw3 hr4
  have hB := hw4.below
  clear hw4
  go_wp2_with (first | (go_at_call 10; refine (awake_any _).mono ?_; rintro e w5 ⟨rfl, hb5⟩; have hB := below_trans hB hb5; have hr3 := Rd.below hr3 hb5; have hr5 := Rd.below hr5 hb5; clear hb5) | (go_at_call 20; refine (equal_any _ _ _ _ _ _ _ _ _ hr3 hr5).mono ?_; rintro e w' ⟨rfl, rfl⟩))
  go_ret
  exact ⟨by simp, hB⟩

theorem own : ownKnob Try.prog.godebug = none := by kernel_rfl
theorem laidOut : laidOutB Try.prog = true := by kernel_rfl

set_option maxRecDepth 100000 in
theorem lifted (os : Os) (started : os.Started) (H : Type) (enc : TypeId × Value → H) :
    ReturnsInHanded {} Try.checked os 5 .any (Rows.seqRoundSpec.pre6 enc Try.prog Try.f5 Rows.seqRoundRow.domain false) (Rows.seqRoundSpec.post enc Try.prog Try.f5 false true false false) := by
  refine returnsInHanded_of_change (C := Try.checked) own started (by kernel_rfl) Try.func5
    (ChangeSpec.witness6 (enc := enc) (C := Try.checked) false ⟨#[], #[(.agg #[.int .u32 0, .int .u32 0, .int .u32 0, .slice none 0 0]), .int .u32 0, .int .i64 0], []⟩ 8 (by kernel_rfl) (by kernel_rfl) (by kernel_rfl) (by kernel_rfl)) ?_
  intro W base args ds gs before hval0 hW hcnd _
  have hval : ∀ (j : Nat) t v, Try.f5.params[j]? = some t → args[j]? = some v → Value.okWide Try.prog W .any base t v := hval0
  have hW' := hW
  obtain ⟨p, q, hA0, hV, rfl, hfz, hnd⟩ := hW
  have hA : DataW.TrodAll enc Try.prog W 0 (fun _ => true) true Try.f5.params.toList args.toList ds p := hA0
  rw [Try.params5] at hA hval
  obtain ⟨v0, vs0, d0, ds0, p0, q0, hargs, rfl, rfl, h0, r0⟩ := trodAll_cons hA
  obtain ⟨v1, vs1, d1, ds1, p1, q1, rfl, rfl, rfl, h1, r1⟩ := trodAll_cons r0
  obtain ⟨v2, vs2, d2, ds2, p2, q2, rfl, rfl, rfl, h2, r2⟩ := trodAll_cons r1
  obtain ⟨rfl, rfl, rfl⟩ := trodAll_nil r2
  obtain rfl : args = #[v0, v1, v2] := by cases args; simp_all
  obtain ⟨rfl, rfl⟩ := trodVars_none hV
  have k0 := piece_open (hval 0 32 v0 rfl rfl) h0
  have lt0 : ∀ x ∈ p0, x.block < W.heap.size := by obtain ⟨m, hm⟩ := h0; exact DataW.trod_lt m _ _ _ hm
  obtain ⟨a1, rfl, rfl, rfl, w1⟩ := open_int Try.underlying22 (hval 1 22 v1 rfl rfl) h1
  obtain ⟨a2, rfl, rfl, rfl, w2⟩ := open_int Try.underlying3 (hval 2 3 v2 rfl rfl) h2
  clear hA0 hval0
  refine (walk W v0 k0 a1 w1 a2 w2).mono fun e W' ⟨he, bel⟩ => ?_
  subst he
  exact ⟨_, rfl, _, _, _, [], _, [], hW', trodAll_mk1 (shut_bool Try.underlying4 _), (trodAll_cons_mk (Below.trod laidOut (by kernel_rfl) (of_decide_eq_true (by kernel_rfl)) h0 bel lt0) (trodAll_cons_mk (shut_int Try.underlying22 w1) (trodAll_cons_mk (shut_int Try.underlying3 w2) trodAll_mk0))), rfl, bel.frame _, fun h => by cases h⟩

theorem over : Rows.seqRoundRow.holds Try.pinned (OpenSpec.ofChange Rows.seqRoundSpec) :=
  OpenClaim.holds_of_wide 5 Try.f5 rfl rfl rfl rfl rfl rfl rfl ⟨rfl, rfl, rfl, rfl, rfl⟩ rfl rfl rfl rfl rfl (by kernel_rfl) Try.func5 (by kernel_rfl)
    (of_decide_eq_true (by kernel_rfl)) (by unfold Func.isWrapper; first | (rw [if_pos (by decide +kernel)]; kernel_rfl) | (rw [if_neg (by decide +kernel)]; exact ⟨rfl, rfl⟩))
    (fun os started H enc _ => lifted os started H enc)

/-- The statement. -/
theorem proved : Rows.SeqRoundSaid := over
#print axioms proved
end Go.Proofs.Ytonbgkdobfefmaa.seqRound
