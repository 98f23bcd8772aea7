/-
  OptsPuts holds: options as bytes, those of other kinds, and whether two lists are the same, are the document's.
-/
import Derived.Test.YtikfklbgncdbnaaOptWakes
import Derived.Test.YtikfklbgncdbnaaSumOpen
namespace Go.Proofs.Ytikfklbgncdbnaa.optsPuts
set_option maxRecDepth 10000
open Go.ChangeShapes Go.WideShapes Go.ChangeAt Go.RowKit
set_option linter.unusedVariables false

def LO (w : World) (A : Option Addr) (n : Nat) (os : List OptV) (ls : List (Int × List Int)) : Prop := RdO w A n os ∧ Reads w os ls
theorem LO.mk {w : World} {A : Option Addr} {n : Nat} {os : List OptV} {ls : List (Int × List Int)} (h : RdO w A n os) (k : Reads w os ls) : LO w A n os ls := ⟨h, k⟩
theorem LO.on {w w' : World} {A : Option Addr} {n : Nat} {os : List OptV} {ls : List (Int × List Int)} (h : LO w A n os ls) (hb : Below w.heap.size w w') : LO w' A n os ls := ⟨h.1.below hb, h.2.below hb⟩
theorem fewL_len (ls : List (Int × List Int)) : (fewL ls).length = min ls.length 20 := by simp [fewL, Nat.min_comm]
theorem fewL_lim (ls : List (Int × List Int)) : ∀ l ∈ fewL ls, l.2.length ≤ 1000000 := by
  intro l hl
  obtain ⟨l', _, rfl⟩ := List.mem_map.1 hl
  simp only [List.length_take]
  omega
theorem fewL_few (ls : List (Int × List Int)) : fewL (fewL ls) = fewL ls := by
  unfold fewL
  rw [← List.map_take, List.take_take, List.map_map]
  simp [Function.comp_def, List.take_take]
/-- Both Puts tell the same. -/
def SamePut (w w' : World) (b : List Int) (x : Int) (e : Ending) : Prop := ∃ A c, e = .returned (.tuple #[.slice A b.length c, .int .i64 x]) ∧ (∀ y ∈ b, 0 ≤ y ∧ y < 256) ∧ Rd w' A b.length b ∧ Below w.heap.size w w'
def putX (ls : List (Int × List Int)) : List Int × Int := if ls.any badB = true then ([], 1) else if 40 < (bytesO ls).length then ([], 3) else (padTo4 (bytesO ls), 0)
theorem padTo4_bytes {b : List Int} (h : ∀ x ∈ b, 0 ≤ x ∧ x < 256) : ∀ x ∈ padTo4 b, 0 ≤ x ∧ x < 256 := bytes_app_ h (fun x hx => by rw [List.eq_of_mem_replicate hx]; omega)
theorem samePut {ls : List (Int × List Int)} {w w' : World} {e : Ending} (hl : ∀ l ∈ ls, (0 ≤ l.1 ∧ l.1 < 256) ∧ ∀ x ∈ l.2, 0 ≤ x ∧ x < 256) (h : PutO ls w e w') : SamePut w w' (putX ls).1 (putX ls).2 e := by
  unfold PutO at h
  unfold putX
  by_cases h1 : ls.any badB = true
  · rw [if_pos h1] at h ⊢
    exact ⟨none, 0, h.1, by simp, Rd.nil _ _, h.2⟩
  · rw [if_neg h1] at h ⊢
    by_cases h2 : 40 < (bytesO ls).length
    · rw [if_pos h2] at h ⊢
      exact ⟨none, 0, h.1, by simp, Rd.nil _ _, h.2⟩
    · rw [if_neg h2] at h ⊢
      obtain ⟨A, c, he, ho, hb⟩ := h
      have hy := padTo4_bytes (bytesO_bytes hl (fun l hm => (badB_false (by rw [Bool.not_eq_true, List.any_eq_false] at h1; simpa using h1 l hm)).2))
      exact ⟨A, c, he, hy, ho.rd hy, hb⟩

set_option maxHeartbeats 4000000 in
theorem walk (w : World) (v0 : Value) (h0 : OptsAt w v0) (v1 : Value) (h1 : OptsAt w v1) (kd : Int) (wk : (Lit.int .u8 kd).wf = true) :
    Calls Try.prog 4 #[v0, v1, .int .u8 kd] w fun e w' => e = .returned (.bool true) ∧ Below w.heap.size w w' := by
  obtain ⟨A0, n0, c0, os0, ls0, rfl, hn0, hc0, hr0, hs0⟩ := h0
  obtain ⟨A1, n1, c1, os1, ls1, rfl, hn1, hc1, hr1, hs1⟩ := h1
  have hk : 0 ≤ kd ∧ kd < 256 := by have := bounds_u8 wk; omega
  have Hf0 := Lib.hid (few_any A0 n0 c0 os0 ls0 w ⟨hn0, hc0⟩ hr0 hs0)
  have Hr1 := Lib.hid hr1
  have Hs1 := Lib.hid hs1
  have Hc1 := Lib.hid (And.intro hn1 hc1)
  clear hr0 hs0 hr1 hs1 hn0 hc0 hn1 hc1
  go_enter Try.func4, Try.ntmps4
  go_wp2_with fail
  refine Hf0.out.mono ?_
  rintro e w1 ⟨A2, c2, os2, rfl, ho2, hs2, hb1⟩
  have hm0 : min n0 20 ≤ 20 := Nat.min_le_right _ _
  have hm1 : min n1 20 ≤ 20 := Nat.min_le_right _ _
  have HL1 := Lib.hid (LO.mk ho2.rd hs2)
  have Hc2 := Lib.hid (And.intro ho2.cap ho2.capMax)
  have Hb1 := Lib.hid hb1
  have Hf1 := Lib.hid (few_any A1 n1 c1 os1 ls1 w1 Hc1.out (Hr1.out.below hb1) (Hs1.out.below hb1))
  obtain ⟨f0, ef0⟩ : ∃ f, fewL ls0 = f := ⟨_, rfl⟩
  obtain ⟨f1, ef1⟩ : ∃ f, fewL ls1 = f := ⟨_, rfl⟩
  have Hlim := Lib.hid (fewL_lim ls0)
  have Hff := Lib.hid (fewL_few ls0)
  rw [ef0] at HL1 Hlim Hff
  rw [ef1] at Hf1
  obtain ⟨m0, em0⟩ : ∃ m, min n0 20 = m := ⟨_, rfl⟩
  obtain ⟨m1, em1⟩ : ∃ m, min n1 20 = m := ⟨_, rfl⟩
  rw [em0] at HL1 hm0 Hc2
  rw [em1] at hm1 Hf1
  rw [em0]
  clear ho2 hs2 hb1 Hf0 Hr1 Hs1 Hc1 ef0 ef1 em0 em1
  go_wp2_with fail
  refine Hf1.out.mono ?_
  rintro e w2 ⟨A3, c3, os3, rfl, ho3, hs3, hb2⟩
  have HM2 := Lib.hid (LO.mk ho3.rd hs3)
  have HL2 := Lib.hid (HL1.out.on hb2)
  have Hb2 := Lib.hid (below_trans Hb1.out hb2)
  have Hby := Lib.hid HL2.out.2.byte
  clear ho3 hs3 hb2 HL1 Hb1 Hf1
  go_wp2_with fail
  refine (put_any A2 m0 c2 os2 f0 w2 (by omega) HL2.out.1 HL2.out.2).mono ?_
  intro e w3 hp
  obtain ⟨A4, c4, rfl, hy4, hr4, hb3⟩ := samePut Hby.out hp
  have HL3 := Lib.hid (HL2.out.on hb3)
  have HM3 := Lib.hid (HM2.out.on hb3)
  have Hb3 := Lib.hid (below_trans Hb2.out hb3)
  have Hr4 := Lib.hid hr4
  clear hp hr4 hb3 HL2 HM2 Hb2
  go_wp2_with fail
  refine (rput_any A2 m0 c2 os2 f0 w3 (by omega) HL3.out.1 HL3.out.2).mono ?_
  intro e w4 hp
  obtain ⟨A5, c5, rfl, hy5, hr5, hb4⟩ := samePut Hby.out hp
  have HL4 := Lib.hid (HL3.out.on hb4)
  have HM4 := Lib.hid (HM3.out.on hb4)
  have Hb4 := Lib.hid (below_trans Hb3.out hb4)
  have Hr4' := Lib.hid (Hr4.out.below hb4)
  have Hr5 := Lib.hid hr5
  clear hp hr5 hb4 HL3 HM3 Hb3 Hr4 hy4 hy5
  obtain ⟨pb, epb⟩ : ∃ p, (putX f0).1 = p := ⟨_, rfl⟩
  obtain ⟨px, epx⟩ : ∃ p, (putX f0).2 = p := ⟨_, rfl⟩
  obtain ⟨pn, epn⟩ : ∃ p, pb.length = p := ⟨_, rfl⟩
  rw [epb, epn] at Hr4' Hr5
  simp only [epb, epx, epn]
  clear epb epx epn
  go_wp2_with fail
  refine (awake_any w4).mono ?_
  rintro e w5 ⟨rfl, hb5⟩
  have HL5 := Lib.hid (HL4.out.on hb5)
  have HM5 := Lib.hid (HM4.out.on hb5)
  have Hb5 := Lib.hid (below_trans Hb4.out hb5)
  have He := Lib.hid (equal_any A4 A5 pn pn c4 c5 pb pb w5 (Hr4'.out.below hb5) (Hr5.out.below hb5))
  rw [decide_eq_true rfl] at He
  clear hb5 HL4 HM4 Hb4 Hr4' Hr5
  go_wp2_with fail
  refine He.out.mono ?_
  rintro e w6 ⟨rfl, rfl⟩
  go_wp2_with fail
  refine (without_any A2 m0 c2 _ kd os2 f0 w5 (by omega) HL5.out.1 HL5.out.2 rfl Hlim.out).mono ?_
  rintro e w6 ⟨A6, c6, os6, rfl, ho6, hl6, hb6⟩
  have HL6 := Lib.hid (HL5.out.on hb6)
  have HM6 := Lib.hid (HM5.out.on hb6)
  have HN6 := Lib.hid (LO.mk ho6.rd hl6.reads)
  have Hb6 := Lib.hid (below_trans Hb5.out hb6)
  clear ho6 hl6 hb6 HL5 HM5 Hb5 He
  go_wp2_with fail
  refine (rwithout_any A2 m0 c2 _ kd os2 f0 w6 (by omega) HL6.out.1 HL6.out.2 rfl).mono ?_
  rintro e w7 ⟨A7, c7, os7, rfl, ho7, hs7, hb7⟩
  have HL7 := Lib.hid (HL6.out.on hb7)
  have HM7 := Lib.hid (HM6.out.on hb7)
  have Hb7 := Lib.hid (below_trans Hb6.out hb7)
  have Hs := Lib.hid (rsame_any A6 A7 _ c6 _ c7 os6 os7 _ _ w7 (by have := ho7.cap; have := ho7.capMax; omega) (HN6.out.on hb7).1 (HN6.out.on hb7).2 ho7.rd hs7)
  rw [decide_eq_true rfl] at Hs
  clear ho7 hs7 hb7 HL6 HM6 HN6 Hb6
  go_wp2_with fail
  refine Hs.out.mono ?_
  rintro e w8 ⟨rfl, hb8⟩
  have HL8 := Lib.hid (HL7.out.on hb8)
  have HM8 := Lib.hid (HM7.out.on hb8)
  have Hb8 := Lib.hid (below_trans Hb7.out hb8)
  clear hb8 HL7 HM7 Hb7 Hs
  go_wp2_with fail
  refine (same_any A2 A3 m0 c2 m1 c3 os2 os3 f0 f1 w8 (by omega) HL8.out.1 HL8.out.2 HM8.out.1 HM8.out.2).mono ?_
  rintro e w9 ⟨rfl, hb9⟩
  have HL9 := Lib.hid (HL8.out.on hb9)
  have HM9 := Lib.hid (HM8.out.on hb9)
  have Hb9 := Lib.hid (below_trans Hb8.out hb9)
  clear hb9 HL8 HM8 Hb8
  go_wp2_with fail
  refine (rsame_any A2 A3 m0 c2 m1 c3 os2 os3 f0 f1 w9 (by unfold maxLen; omega) HL9.out.1 HL9.out.2 HM9.out.1 HM9.out.2).mono ?_
  rintro e w10 ⟨rfl, hb10⟩
  have HL10 := Lib.hid (HL9.out.on hb10)
  have Hb10 := Lib.hid (below_trans Hb9.out hb10)
  clear hb10 HL9 HM9 Hb9
  obtain ⟨t, et⟩ : ∃ t, decide (f0 = f1) = t := ⟨_, rfl⟩
  simp only [et]
  clear et
  go_wp2_with fail
  refine (few_any A2 m0 c2 os2 f0 w10 Hc2.out HL10.out.1 HL10.out.2).mono ?_
  rintro e w11 ⟨A8, c8, os8, rfl, ho8, hs8, hb11⟩
  rw [Hff.out] at hs8
  have HL11 := Lib.hid (HL10.out.on hb11)
  have HN11 := Lib.hid (LO.mk ho8.rd hs8)
  have Hb11 := Lib.hid (below_trans Hb10.out hb11)
  obtain ⟨m8, em8⟩ : ∃ m8, min m0 20 = m8 := ⟨_, rfl⟩
  simp only [em8]
  rw [em8] at HN11
  clear ho8 hs8 hb11 HL10 Hb10 em8
  go_wp2_with fail
  refine (same_any A2 A8 m0 c2 m8 c8 os2 os8 f0 f0 w11 (by omega) HL11.out.1 HL11.out.2 HN11.out.1 HN11.out.2).mono ?_
  rw [decide_eq_true (rfl : f0 = f0)]
  rintro e w12 ⟨rfl, hb12⟩
  have Hb12 := Lib.hid (below_trans Hb11.out hb12)
  clear hb12
  go_wp2_with fail
  go_ret
  exact ⟨rfl, Hb12.out⟩
theorem own : ownKnob Try.prog.godebug = none := by kernel_rfl
theorem laidOut : laidOutB Try.prog = true := by kernel_rfl

set_option maxRecDepth 100000 in
theorem lifted (os : Os) (started : os.Started) (H : Type) (enc : TypeId × Value → H) :
    ReturnsInHanded {} Try.checked os 4 .any (Rows.optsPutsSpec.pre6 enc Try.prog Try.f4 Rows.optsPutsRow.domain false) (Rows.optsPutsSpec.post enc Try.prog Try.f4 false true false false) := by
  refine returnsInHanded_of_change (C := Try.checked) own started (by kernel_rfl) Try.func4
    (ChangeSpec.witness6 (enc := enc) (C := Try.checked) false ⟨#[], #[(.slice none 0 0), (.slice none 0 0), .int .u8 0], []⟩ 8 (by kernel_rfl) (by kernel_rfl) (by kernel_rfl) (by kernel_rfl)) ?_
  intro W base args ds gs before hval0 hW hcnd _
  have hval : ∀ (j : Nat) t v, Try.f4.params[j]? = some t → args[j]? = some v → Value.okWide Try.prog W .any base t v := hval0
  have hW' := hW
  obtain ⟨p, q, hA0, hV, rfl, hfz, hnd⟩ := hW
  have hA : DataW.TrodAll enc Try.prog W 0 (fun _ => true) true Try.f4.params.toList args.toList ds p := hA0
  rw [Try.params4] at hA hval
  obtain ⟨v0, vs0, d0, ds0, p0, q0, hargs, rfl, rfl, h0, r0⟩ := trodAll_cons hA
  obtain ⟨v1, vs1, d1, ds1, p1, q1, rfl, rfl, rfl, h1, r1⟩ := trodAll_cons r0
  obtain ⟨v2, vs2, d2, ds2, p2, q2, rfl, rfl, rfl, h2, r2⟩ := trodAll_cons r1
  obtain ⟨rfl, rfl, rfl⟩ := trodAll_nil r2
  obtain rfl : args = #[v0, v1, v2] := by cases args; simp_all
  obtain ⟨rfl, rfl⟩ := trodVars_none hV
  have k0 := opts_open (hval 0 23 v0 rfl rfl) h0
  have lt0 : ∀ x ∈ p0, x.block < W.heap.size := by obtain ⟨m, hm⟩ := h0; exact DataW.trod_lt m _ _ _ hm
  have k1 := opts_open (hval 1 23 v1 rfl rfl) h1
  have lt1 : ∀ x ∈ p1, x.block < W.heap.size := by obtain ⟨m, hm⟩ := h1; exact DataW.trod_lt m _ _ _ hm
  obtain ⟨a2, rfl, rfl, rfl, w2⟩ := open_int Try.underlying5 (hval 2 5 v2 rfl rfl) h2
  clear hA0 hval0
  refine (walk W v0 k0 v1 k1 a2 w2).mono fun e W' ⟨he, bel⟩ => ?_
  subst he
  exact ⟨_, rfl, _, _, _, [], _, [], hW', trodAll_mk1 (shut_bool Try.underlying4 _), (trodAll_cons_mk (Below.trod laidOut (by kernel_rfl) (of_decide_eq_true (by kernel_rfl)) h0 bel lt0) (trodAll_cons_mk (Below.trod laidOut (by kernel_rfl) (of_decide_eq_true (by kernel_rfl)) h1 bel lt1) (trodAll_cons_mk (shut_int Try.underlying5 w2) trodAll_mk0))), rfl, bel.frame _, fun h => by cases h⟩

theorem over : Rows.optsPutsRow.holds Try.pinned (OpenSpec.ofChange Rows.optsPutsSpec) :=
  OpenClaim.holds_of_wide 4 Try.f4 rfl rfl rfl rfl rfl rfl rfl ⟨rfl, rfl, rfl, rfl, rfl⟩ rfl rfl rfl rfl rfl (by kernel_rfl) Try.func4 (by kernel_rfl)
    (of_decide_eq_true (by kernel_rfl)) (by unfold Func.isWrapper; first | (rw [if_pos (by decide +kernel)]; kernel_rfl) | (rw [if_neg (by decide +kernel)]; exact ⟨rfl, rfl⟩))
    (fun os started H enc _ => lifted os started H enc)

/-- The statement. -/
theorem proved : Rows.OptsPutsSaid := over
#print axioms proved
end Go.Proofs.Ytikfklbgncdbnaa.optsPuts
