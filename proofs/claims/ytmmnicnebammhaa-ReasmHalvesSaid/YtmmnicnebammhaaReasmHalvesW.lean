/-
  ReasmHalves' walk, over the face.
-/
import Derived.Test.YtmmnicnebammhaaTk
import Derived.Test.YtmmnicnebammhaaRmStep
import Derived.Test.YtmmnicnebammhaaRmHalfP
import Derived.Test.YtmmnicnebammhaaRmWakes
import Derived.Deep.DeepCutAuto
namespace Go.Proofs.Ytmmnicnebammhaa.reasmHalvesW
set_option maxRecDepth 10000
open Go.RowKit
set_option linter.unusedVariables false
set_option linter.unusedSimpArgs false
variable {BAt : BA}

theorem str_app (a b : List Int) : strOfNums a ++ strOfNums b = strOfNums (a ++ b) := by
  apply ByteArray.ext
  apply Array.ext'
  simp [strOfNums]
theorem wrap_num32 (x : Int) : IntKind.u32.wrap x = num32 x := by rw [IntKind.wrap_u32]; unfold num32; rfl
theorem wraps5 (n k c : Nat) (a b : Int) (hn : n ≤ 300) (hk : k ≤ 300) (hc : c ≤ 300) (ha : 0 ≤ a ∧ a < 65536) (hb : 0 ≤ b ∧ b < 65536) : wrap64 ((n : Int) + 1) = (n : Int) + 1 ∧ wrap64 a = a ∧ wrap64 b = b ∧ wrap64 (k : Int) = k ∧ wrap64 (c : Int) = c :=
  ⟨IntWalk.wrap64_in _ (by omega), IntWalk.wrap64_in _ (by omega), IntWalk.wrap64_in _ (by omega), IntWalk.wrap64_in _ (by omega), IntWalk.wrap64_in _ (by omega)⟩
theorem wraps3 (n k nk q r : Nat) (hn : n ≤ 300) (hk : k ≤ n) (h : n - k = nk) (hq : q + r = k) : wrap64 ((nk : Int) + (k : Int)) = (n : Int) ∧ wrap64 ((k : Int) + (nk : Int)) = (n : Int) ∧ wrap64 ((q : Int) + (r : Int)) = (k : Int) := by
  refine ⟨?_, ?_, ?_⟩
  · rw [IntWalk.wrap64_in _ (by omega)]; omega
  · rw [IntWalk.wrap64_in _ (by omega)]; omega
  · rw [IntWalk.wrap64_in _ (by omega)]; omega
theorem own_on {Z : Nat → Prop} {w w' : World} {B n c : Nat} {A : Option Addr} {l : List Int} (h : OwnB w B A n c l) (hb : But (fun k => ¬ Z k) w w') (hZ : ∀ b, (Value.slice A n c).ownBlock = some b → Z b) : OwnB w' B A n c l := by
  refine ⟨h.1, ?_⟩
  rcases h.2 with h0 | ⟨g, cap, cur, e, hB, hc, hrest⟩
  · exact .inl h0
  · exact .inr ⟨g, cap, cur, e, hB, hb.blk hc (fun hk => hk (hZ g (by rw [e]; rfl))), hrest⟩
theorem i64_in (x : Int) (h : -9223372036854775808 ≤ x ∧ x ≤ 9223372036854775807) : IntKind.i64.wrap x = x := by simp [IntKind.wrap, IntKind.bits, IntKind.signed]; omega
theorem size_small {s : List Int} {n k : Nat} (h : s.length = n) (hn : n ≤ 300) : ¬ 9223372036854775807 < (s.take k).length + (s.drop k).length := by
  rw [List.length_take, List.length_drop]
  omega
theorem str_neq (x : ByteArray) (W : World) : (binOp .neq 9 (.string x) (.string x)).run Try.prog W = .ok (.bool false) W := by
  go_simp
theorem str_eql (x : ByteArray) (W : World) : (binOp .eql 9 (.string x) (.string x)).run Try.prog W = .ok (.bool true) W := by
  go_simp
theorem anyH_monoR {P : Program} {md : Region.Mode} {ops : Array Oper} {Q : Exit → Act → World → Prop} {S S' : World → Prop} (hS : ∀ w, S' w → S w) :
    ∀ (fuel : Nat) (listed : Array Bool) (a : Act) (w : World), wpAnyH P md ops Q S' fuel listed a w → wpAnyH P md ops Q S fuel listed a w
  | 0, _, _, _, h => h
  | fuel + 1, _, _, _, h => ⟨h.1, fun i hi => wpOp_mono (fun a' w' h' => ⟨hS w' h'.1, anyH_monoR hS fuel _ a' w' h'.2⟩) (h.2 i hi)⟩
set_option maxHeartbeats 4000000 in
theorem walk (F : BFace BAt) (w : World) (A : Option Addr) (N c0 : Nat) (l0 : List Int) (hb : RdC w A N c0 l0) (f at_ cut : Int) (hf : 0 ≤ f ∧ f < 4294967296) (hat : 0 ≤ at_ ∧ at_ < 65536) (hcut : 0 ≤ cut ∧ cut < 65536) :
    Calls Try.prog 6 #[.slice A N c0, .int .u32 f, .int .u16 at_, .int .u16 cut] w fun e w' => e = .returned (.bool true) ∧ Below w.heap.size w w' := by
  obtain ⟨n, hmin, hnN, hn3⟩ := min_nat 300 N (by omega)
  obtain ⟨hs1, hsr⟩ := hb.upto n hnN
  obtain ⟨s, es⟩ : ∃ s, l0.take n = s := ⟨_, rfl⟩
  rw [es] at hsr
  have hlen : s.length = n := hsr.rd.len
  obtain ⟨k, ek, hk⟩ : ∃ k : Nat, at_ % ((n : Int) + 1) = k ∧ k ≤ n := ⟨(at_ % ((n : Int) + 1)).toNat, by rw [Int.toNat_of_nonneg (Int.emod_nonneg _ (by omega))], by
    have := Int.emod_lt_of_pos at_ (show (0 : Int) < (n : Int) + 1 by omega)
    omega⟩
  obtain ⟨c, ec, hc⟩ : ∃ c : Nat, cut % ((n : Int) + 1) = c ∧ c ≤ n := ⟨(cut % ((n : Int) + 1)).toNat, by rw [Int.toNat_of_nonneg (Int.emod_nonneg _ (by omega))], by
    have := Int.emod_lt_of_pos cut (show (0 : Int) < (n : Int) + 1 by omega)
    omega⟩
  replace ek := Lib.hid ek
  replace ec := Lib.hid ec
  obtain ⟨A1, A2, A3, B1, B2, B3, B4, H1, H2, H3, r1, q, r, fk, fc, fn, X⟩ := half_is s f n k c hlen (by omega) hk hc
  obtain ⟨Ak, hsk, hrk⟩ := hsr.from_ k hk
  obtain ⟨hst, hrt⟩ := hsr.upto k hk
  obtain ⟨Ac, hsc, hrc⟩ := hsr.from_ c hc
  obtain ⟨hsu, hru⟩ := hsr.upto c hc
  obtain ⟨nk, enk⟩ : ∃ x, n - k = x := ⟨_, rfl⟩
  obtain ⟨nc, enc⟩ : ∃ x, n - c = x := ⟨_, rfl⟩
  rw [enk] at hsk hrk
  rw [enc] at hsc hrc
  have Hb100 := Lib.hid (show nk ≤ 100000 ∧ k ≤ 100000 ∧ nc ≤ 100000 ∧ c ≤ 100000 by omega)
  have hn300 : n ≤ 300 := by omega
  have q9 : IntKind.u32.wrap (k : Int) = k := by rw [IntKind.wrap_u32]; omega
  have q10 : IntKind.u32.wrap (c : Int) = c := by rw [IntKind.wrap_u32]; omega
  have q8 : ¬ ((n : Int) + 1 = 0) := by omega
  have v3 : IntKind.i64.wrap ((n : Int) + 1) = (n : Int) + 1 := i64_in _ (by omega)
  have v4 : IntKind.i64.wrap at_ = at_ := i64_in _ (by omega)
  have v5 : IntKind.i64.wrap cut = cut := i64_in _ (by omega)
  have v22 : IntKind.i64.wrap ((q : Int) + (r : Int)) = (k : Int) := (i64_in _ (by have := X.xqr; omega)).trans (by have := X.xqr; omega)
  have v20 : IntKind.i64.wrap ((nk : Int) + (k : Int)) = (n : Int) := (i64_in _ (by omega)).trans (by omega)
  have v21 : IntKind.i64.wrap ((k : Int) + (nk : Int)) = (n : Int) := (i64_in _ (by omega)).trans (by omega)
  obtain ⟨q3, q4, q5, q6, q7⟩ := wraps5 n k c at_ cut hn300 (Nat.le_trans hk hn300) (Nat.le_trans hc hn300) hat hcut
  obtain ⟨q20, q21, q22⟩ := wraps3 n k nk q r hn300 hk enk X.xqr
  have q11 : IntKind.u32.wrap (f + k) = fk := (wrap_num32 _).trans X.xfk
  have q12 : IntKind.u32.wrap (f + c) = fc := (wrap_num32 _).trans X.xfc
  have q1 : Int.tmod at_ ((n : Int) + 1) = k := by rw [Int.tmod_eq_emod_of_nonneg hat.1]; exact ek.out
  have q2 : Int.tmod cut ((n : Int) + 1) = c := by rw [Int.tmod_eq_emod_of_nonneg hcut.1]; exact ec.out
  have HF := Lib.hid F
  have Hv22 := Lib.hid v22
  clear v22
  have Hn300 := Lib.hid hn300
  have Enk := Lib.hid enk
  have Enc := Lib.hid enc
  have HX := Lib.hid X
  have Hf := Lib.hid hf
  have Hrk := Lib.hid hrk
  have Hrt := Lib.hid hrt
  have Hrc := Lib.hid hrc
  have Hru := Lib.hid hru
  have Hsr := Lib.hid hsr
  have Hlen := Lib.hid hlen
  have Hn3 := Lib.hid hn3
  have Hk := Lib.hid hk
  have HM := Lib.hid (At18.start (BAt := BAt) w)
  have HS := Lib.hid (And.intro hsk (And.intro hst (And.intro hsc hsu)))
  clear enk enc F X hf hrk hrt hrc hru hsr hlen es hb hat hcut ek ec hsk hst hsc hsu hk hc
  go_enter Try.func6, Try.ntmps6
  go_upto_region 2 with (fail)
  refine wp_region_held_drew (S := fun _ => True) (by kernel_rfl) trivial (fun hHeld => ?_)
  obtain ⟨w1, ew1⟩ : ∃ v, w.drew = v := ⟨_, rfl⟩
  have HM := Lib.hid (show At18 BAt _ w _ w1 by rw [← ew1]; exact HM.out.drewN HF.out 1)
  rw [ew1]
  clear ew1
  refine tk 0 ?_ rfl ?_ ?_
  rotate_left
  · intro w' hSw; (go_simp <;> (with_reducible rfl))
  try simp only [Act.put, putL]
  refine tk 1 ?_ rfl ?_ ?_
  rotate_left
  · intro w' hSw; (go_simp <;> (with_reducible rfl))
  try simp only [Act.put, putL]
  refine tk 2 ?_ rfl ?_ ?_
  rotate_left
  · intro w' hSw; (go_simp <;> (with_reducible rfl))
  try simp only [Act.put, putL]
  refine tk 3 ?_ rfl ?_ ?_
  rotate_left
  · intro w' hSw; (go_simp <;> (with_reducible rfl))
  try simp only [Act.put, putL]
  refine tk 4 ?_ rfl ?_ ?_
  rotate_left
  · intro w' hSw; (go_simp <;> (with_reducible rfl))
  try simp only [Act.put, putL]
  refine tk 5 ?_ rfl ?_ ?_
  rotate_left
  · intro w' hSw; (go_simp <;> (with_reducible rfl))
  try simp only [Act.put, putL]
  refine tk 6 ?_ rfl ?_ ?_
  rotate_left
  · intro w' hSw; (go_simp <;> (with_reducible rfl))
  try simp only [Act.put, putL]
  refine tk 7 ?_ rfl ?_ ?_
  rotate_left
  · intro w' hSw; (go_simp <;> (with_reducible rfl))
  try simp only [Act.put, putL]
  refine tk 8 ?_ rfl ?_ ?_
  rotate_left
  · intro w' hSw; (go_simp <;> (with_reducible rfl))
  try simp only [Act.put, putL]
  refine tk 9 ?_ rfl ?_ ?_
  rotate_left
  · intro w' hSw; (go_simp <;> (with_reducible rfl))
  try simp only [Act.put, putL]
  refine tk 10 ?_ rfl ?_ ?_
  rotate_left
  · intro w' hSw; (go_simp <;> (with_reducible rfl))
  try simp only [Act.put, putL]
  refine tk 11 ?_ rfl ?_ ?_
  rotate_left
  · intro w' hSw; (go_simp <;> (with_reducible rfl))
  try simp only [Act.put, putL]
  refine tk 12 ?_ rfl ?_ ?_
  rotate_left
  · intro w' hSw; (go_simp <;> (with_reducible rfl))
  try simp only [Act.put, putL]
  refine tk 13 ?_ rfl ?_ ?_
  rotate_left
  · intro w' hSw; (go_simp <;> (with_reducible rfl))
  try simp only [Act.put, putL]
  refine wpAnyH_done (by kernel_rfl) ?_ _
  clear hHeld
  go_wp2_with fail
  refine (snew HF.out _ _ w w1 HM.out f 400 Hf.out (by decide)).mono ?_
  rintro e w2 ⟨ga, rfl, h1, h2⟩
  have HM := Lib.hid h1
  clear h1 h2
  unfold madeR
  go_wp2_with fail
  refine (snew HF.out _ _ w w2 HM.out f 400 Hf.out (by decide)).mono ?_
  rintro e w3 ⟨gb, rfl, h1, h2⟩
  have HM := Lib.hid h1
  clear h1 h2
  unfold madeR
  -- a: behind, then ahead
  have hsl := HS.out.1
  go_wp2_with fail
  refine (sput HF.out _ 0 ga f _ _ [(ga, f, A1), (gb, f, List.replicate 400 none)] w w3 HM.out rfl fk Ak nk (c0 - k) _ _ A1 nk 0 HX.out.xfkb Hrk.out Hb100.out.1 rfl HX.out.xa1.1 HX.out.xa1.2.1 (HX.out.xa1.2.2.trans Enk.out) rfl).mono ?_
  rintro e w4 ⟨rfl, h1, h2⟩
  have HM := Lib.hid h1
  clear h1 h2
  clear hsl
  go_wp2_with fail
  refine (sready HF.out _ 0 ga f A1 _ w w4 HM.out rfl r1 HX.out.xr1.1).mono ?_
  rintro e w5 ⟨rfl, h1, h2⟩
  have HM := Lib.hid h1
  clear h1 h2
  go_wp2_with fail
  refine (scopy HF.out _ 0 ga f A1 _ w w5 HM.out rfl).mono ?_
  rintro e w6 ⟨gh, rfl, h1, h2⟩
  have HM := Lib.hid h1
  clear h1 h2
  unfold ptrR
  have hsl := HS.out.2.1
  go_wp2_with fail
  refine (sput HF.out _ 0 ga f A1 _ [(ga, f, A2), (gb, f, List.replicate 400 none), (gh, f, A1)] w w6 HM.out rfl f A k c0 _ _ A2 k 0 Hf.out Hrt.out Hb100.out.2.1 rfl HX.out.xa2.1 HX.out.xa2.2.1 HX.out.xa2.2.2 rfl).mono ?_
  rintro e w7 ⟨rfl, h1, h2⟩
  have HM := Lib.hid h1
  clear h1 h2
  -- b: ahead, then behind, taken between
  go_wp2_with fail
  refine (sput HF.out _ 1 gb f _ _ [(ga, f, A2), (gb, f, B1), (gh, f, A1)] w w7 HM.out rfl f A k c0 _ _ B1 k 0 Hf.out Hrt.out Hb100.out.2.1 rfl HX.out.xb1.1 HX.out.xb1.2.1 HX.out.xb1.2.2 rfl).mono ?_
  rintro e w8 ⟨rfl, h1, h2⟩
  have HM := Lib.hid h1
  clear h1 h2
  clear hsl
  go_wp2_with fail
  refine (stake HF.out _ 1 gb f B1 _ [(ga, f, A2), (gb, fk, B2), (gh, f, A1)] w w8 HM.out rfl fk B2 _ HX.out.xb2.1 HX.out.xb2.2.1 HX.out.xb2.2.2 rfl).mono ?_
  rintro e w9 ⟨Ax, nx, cx, rfl, hnx, hx, h1, h2⟩
  have HM := Lib.hid h1
  clear h1 h2
  have Hx := Lib.hid (hx.mono (B' := 0) (Nat.zero_le _))
  have Hnx := Lib.hid hnx
  clear hx hnx
  have hsl := HS.out.1
  go_wp2_with fail
  refine (sput HF.out _ 1 gb fk B2 _ [(ga, f, A2), (gb, fk, B3), (gh, f, A1)] w w9 HM.out rfl fk Ak nk (c0 - k) _ _ B3 nk 0 HX.out.xfkb Hrk.out Hb100.out.1 rfl HX.out.xb3.1 HX.out.xb3.2.1 (HX.out.xb3.2.2.trans Enk.out) rfl).mono ?_
  rintro e w10 ⟨rfl, h1, h2⟩
  have Hx := Lib.hid (own_on Hx.out h2 (fun b e => .inr e))
  have HM := Lib.hid h1
  clear h1 h2
  clear hsl
  go_wp2_with fail
  refine (stake HF.out _ 1 gb fk B3 _ [(ga, f, A2), (gb, fn, B4), (gh, f, A1)] w w10 HM.out rfl fn B4 _ HX.out.xb4.1 HX.out.xb4.2.1 HX.out.xb4.2.2 rfl).mono ?_
  rintro e w11 ⟨Ay, ny, cy, rfl, hny, hy, h1, h2⟩
  have Hx := Lib.hid (own_on Hx.out h2 (fun b e => .inr e))
  have HM := Lib.hid h1
  clear h1 h2
  have Hy := Lib.hid (hy.mono (B' := 0) (Nat.zero_le _))
  have Hny := Lib.hid hny
  clear hy hny
  obtain ⟨s1, es1⟩ : ∃ x, strOfNums (s.take k) = x := ⟨_, rfl⟩
  obtain ⟨s2, es2⟩ : ∃ x, strOfNums (s.drop k) = x := ⟨_, rfl⟩
  obtain ⟨s3, es3⟩ : ∃ x, strOfNums s = x := ⟨_, rfl⟩
  have hs12 : s1 ++ s2 = s3 := by rw [← es1, ← es2, ← es3, str_app, List.take_append_drop]
  have hss : ¬ 9223372036854775807 < s1.size + s2.size := by
    rw [← es1, ← es2, strOfNums_size, strOfNums_size]
    exact size_small Hlen.out Hn300.out
  have HV := Lib.hid (show (convert 32 9 (.slice Ax nx cx)).run Try.prog w11.drew = .ok (.string s1) w11.drew ∧ (convert 32 9 (.slice A k c0)).run Try.prog w11.drew = .ok (.string s1) w11.drew ∧ (convert 32 9 (.slice Ay ny cy)).run Try.prog w11.drew = .ok (.string s2) w11.drew ∧ (convert 32 9 (.slice A n c0)).run Try.prog w11.drew = .ok (.string s3) w11.drew from by
    have hbt := Hrt.out.rd.byte
    have hbk := Hrk.out.rd.byte
    have b11 : Below w.heap.size w w11.drew := HM.out.base.drew
    rw [← es1, ← es2, ← es3]
    exact ⟨conv_rd (OwnB.rd (w := w11.drew) (Hx.out.drewN 1) hbt) cx, conv_rd (Hrt.out.rd.below b11) c0, conv_rd (OwnB.rd (w := w11.drew) (Hy.out.drewN 1) hbk) cy, conv_rd (Hsr.out.rd.below b11) c0⟩)
  have hsl := HS.out.2.1
  have Es3 := Lib.hid es3
  clear es1 es2 es3
  have hn1 := str_neq s1
  have hn3 := str_neq s3
  go_upto_region 15 with (fail)
  refine wp_region_held_drew (S := fun w' => (convert 32 9 (.slice Ax nx cx)).run Try.prog w' = .ok (.string s1) w' ∧ (convert 32 9 (.slice A k c0)).run Try.prog w' = .ok (.string s1) w' ∧ (convert 32 9 (.slice Ay ny cy)).run Try.prog w' = .ok (.string s2) w' ∧ (convert 32 9 (.slice A n c0)).run Try.prog w' = .ok (.string s3) w') (by kernel_rfl) HV.out (fun hHeld => ?_)
  obtain ⟨w12, ew12⟩ : ∃ v, w11.drew = v := ⟨_, rfl⟩
  have HM := Lib.hid (show At18 BAt _ w _ w12 by rw [← ew12]; exact HM.out.drewN HF.out 1)
  rw [ew12] at hHeld ⊢
  clear ew12 HV
  by_cases hk0 : 0 < k
  · have hrb : ((r1 : Int) != 0) = false := by rw [HX.out.xr1.2 hk0]; rfl
    have hki : (0 : Int) < (k : Int) := by exact_mod_cast hk0
    refine tk 0 ?_ rfl ?_ ?_
    rotate_left
    · intro w' hSw; (go_simp <;> (with_reducible rfl))
    try simp only [Act.put, putL]
    refine tk 1 ?_ rfl ?_ ?_
    rotate_left
    · intro w' hSw; (go_simp <;> (with_reducible rfl))
    try simp only [Act.put, putL]
    refine tk 2 ?_ rfl ?_ ?_
    rotate_left
    · intro w' hSw; (go_simp <;> (with_reducible rfl))
    try simp only [Act.put, putL]
    refine tk 3 ?_ rfl ?_ ?_
    rotate_left
    · intro w' hSw; (go_simp <;> (with_reducible rfl))
    try simp only [Act.put, putL]
    refine tk 4 ?_ rfl ?_ ?_
    rotate_left
    · intro w' hSw; (go_simp <;> (with_reducible rfl))
    try simp only [Act.put, putL]
    refine tk 5 ?_ rfl ?_ ?_
    rotate_left
    · intro w' hSw; (go_simp <;> (with_reducible rfl))
    try simp only [Act.put, putL]
    refine tk 6 ?_ rfl ?_ ?_
    rotate_left
    · intro w' hSw; (go_simp <;> (with_reducible rfl))
    try simp only [Act.put, putL]
    refine tk 7 ?_ rfl ?_ ?_
    rotate_left
    · intro w' hSw; (go_simp <;> (with_reducible rfl))
    try simp only [Act.put, putL]
    refine tk 8 ?_ rfl ?_ ?_
    rotate_left
    · intro w' hSw; (go_simp <;> (with_reducible rfl))
    try simp only [Act.put, putL]
    refine tk 9 ?_ rfl ?_ ?_
    rotate_left
    · intro w' hSw; (go_simp <;> (with_reducible rfl))
    try simp only [Act.put, putL]
    refine tk 10 ?_ rfl ?_ ?_
    rotate_left
    · intro w' hSw; (go_simp <;> (with_reducible rfl))
    try simp only [Act.put, putL]
    refine tk 11 ?_ rfl ?_ ?_
    rotate_left
    · intro w' hSw; (go_simp <;> (with_reducible rfl))
    try simp only [Act.put, putL]
    refine tk 12 ?_ rfl ?_ ?_
    rotate_left
    · intro w' hSw; (go_simp <;> (with_reducible rfl))
    try simp only [Act.put, putL]
    refine tk 13 ?_ rfl ?_ ?_
    rotate_left
    · intro w' hSw; (go_simp <;> (with_reducible rfl))
    try simp only [Act.put, putL]
    refine tk 14 ?_ rfl ?_ ?_
    rotate_left
    · intro w' hSw; (go_simp <;> (with_reducible rfl))
    try simp only [Act.put, putL]
    refine tk 15 ?_ rfl ?_ ?_
    rotate_left
    · intro w' hSw; (go_simp <;> (with_reducible rfl))
    try simp only [Act.put, putL]
    refine tk 16 ?_ rfl ?_ ?_
    rotate_left
    · intro w' hSw; (go_simp <;> (with_reducible rfl))
    try simp only [Act.put, putL]
    refine tk 17 ?_ rfl ?_ ?_
    rotate_left
    · intro w' hSw; (go_simp <;> (with_reducible rfl))
    try simp only [Act.put, putL]
    refine tk 18 ?_ rfl ?_ ?_
    rotate_left
    · intro w' hSw; (go_simp <;> (with_reducible rfl))
    try simp only [Act.put, putL]
    refine tk 19 ?_ rfl ?_ ?_
    rotate_left
    · intro w' hSw; (go_simp <;> (with_reducible rfl))
    try simp only [Act.put, putL]
    refine tk 20 ?_ rfl ?_ ?_
    rotate_left
    · intro w' hSw; (go_simp <;> (with_reducible rfl))
    try simp only [Act.put, putL]
    refine tk 21 ?_ rfl ?_ ?_
    rotate_left
    · intro w' hSw; (go_simp <;> (with_reducible rfl))
    try simp only [Act.put, putL]
    refine tk 22 ?_ rfl ?_ ?_
    rotate_left
    · intro w' hSw; (go_simp <;> (with_reducible rfl))
    try simp only [Act.put, putL]
    refine tk 23 ?_ rfl ?_ ?_
    rotate_left
    · intro w' hSw; (go_simp <;> (with_reducible rfl))
    try simp only [Act.put, putL]
    refine tk 24 ?_ rfl ?_ ?_
    rotate_left
    · intro w' hSw; (go_simp <;> (with_reducible rfl))
    try simp only [Act.put, putL]
    refine tk 25 ?_ rfl ?_ ?_
    rotate_left
    · intro w' hSw; (go_simp <;> (with_reducible rfl))
    try simp only [Act.put, putL]
    refine tk 26 ?_ rfl ?_ ?_
    rotate_left
    · intro w' hSw; (go_simp <;> (with_reducible rfl))
    try simp only [Act.put, putL]
    refine tk 27 ?_ rfl ?_ ?_
    rotate_left
    · intro w' hSw; (go_simp <;> (with_reducible rfl))
    try simp only [Act.put, putL]
    refine tk 28 ?_ rfl ?_ ?_
    rotate_left
    · intro w' hSw; (go_simp <;> (with_reducible rfl))
    try simp only [Act.put, putL]
    refine tk 29 ?_ rfl ?_ ?_
    rotate_left
    · intro w' hSw; (go_simp <;> (with_reducible rfl))
    try simp only [Act.put, putL]
    refine tk 30 ?_ rfl ?_ ?_
    rotate_left
    · intro w' hSw; (go_simp <;> (with_reducible rfl))
    try simp only [Act.put, putL]
    refine tk 31 ?_ rfl ?_ ?_
    rotate_left
    · intro w' hSw; (go_simp <;> (with_reducible rfl))
    try simp only [Act.put, putL]
    refine tk 32 ?_ rfl ?_ ?_
    rotate_left
    · intro w' hSw; (go_simp <;> (with_reducible rfl))
    try simp only [Act.put, putL]
    refine tk 33 ?_ rfl ?_ ?_
    rotate_left
    · intro w' hSw; (go_simp <;> (with_reducible rfl))
    try simp only [Act.put, putL]
    refine tk 34 ?_ rfl ?_ ?_
    rotate_left
    · intro w' hSw; (go_simp <;> (with_reducible rfl))
    try simp only [Act.put, putL]
    refine tk 35 ?_ rfl ?_ ?_
    rotate_left
    · intro w' hSw; (go_simp <;> (with_reducible rfl))
    try simp only [Act.put, putL]
    refine tk 36 ?_ rfl ?_ ?_
    rotate_left
    · intro w' hSw; (go_simp <;> (with_reducible rfl))
    try simp only [Act.put, putL]
    refine tk 37 ?_ rfl ?_ ?_
    rotate_left
    · intro w' hSw; (go_simp <;> (with_reducible rfl))
    try simp only [Act.put, putL]
    refine tk 38 ?_ rfl ?_ ?_
    rotate_left
    · intro w' hSw; (go_simp <;> (with_reducible rfl))
    try simp only [Act.put, putL]
    refine tk 39 ?_ rfl ?_ ?_
    rotate_left
    · intro w' hSw; (go_simp <;> (with_reducible rfl))
    try simp only [Act.put, putL]
    refine tk 40 (.string s1) rfl ?_ ?_
    · intro w' hSw; have hcv := hSw.1; (go_simp <;> (with_reducible rfl))
    try simp only [Act.put, putL]
    refine tk 41 ?_ rfl ?_ ?_
    rotate_left
    · intro w' hSw; (go_simp <;> (with_reducible rfl))
    try simp only [Act.put, putL]
    refine tk 42 ?_ rfl ?_ ?_
    rotate_left
    · intro w' hSw; (go_simp <;> (with_reducible rfl))
    try simp only [Act.put, putL]
    refine tk 43 ?_ rfl ?_ ?_
    rotate_left
    · intro w' hSw; (go_simp <;> (with_reducible rfl))
    try simp only [Act.put, putL]
    refine tk 44 (.string s1) rfl ?_ ?_
    · intro w' hSw; have hcv := hSw.2.1; (go_simp <;> (with_reducible rfl))
    try simp only [Act.put, putL]
    refine tk 45 ?_ rfl ?_ ?_
    rotate_left
    · intro w' hSw; (go_simp <;> (with_reducible rfl))
    try simp only [Act.put, putL]
    refine tk 46 ?_ rfl ?_ ?_
    rotate_left
    · intro w' hSw; (go_simp <;> (with_reducible rfl))
    try simp only [Act.put, putL]
    refine tk 47 ?_ rfl ?_ ?_
    rotate_left
    · intro w' hSw; (go_simp <;> (with_reducible rfl))
    try simp only [Act.put, putL]
    refine tk 48 ?_ rfl ?_ ?_
    rotate_left
    · intro w' hSw; (go_simp <;> (with_reducible rfl))
    try simp only [Act.put, putL]
    refine tk 49 (.string s1) rfl ?_ ?_
    · intro w' hSw; have hcv := hSw.1; (go_simp <;> (with_reducible rfl))
    try simp only [Act.put, putL]
    refine tk 50 ?_ rfl ?_ ?_
    rotate_left
    · intro w' hSw; (go_simp <;> (with_reducible rfl))
    try simp only [Act.put, putL]
    refine tk 51 (.string s2) rfl ?_ ?_
    · intro w' hSw; have hcv := hSw.2.2.1; (go_simp <;> (with_reducible rfl))
    try simp only [Act.put, putL]
    refine tk 52 ?_ rfl ?_ ?_
    rotate_left
    · intro w' hSw; (go_simp <;> (with_reducible rfl))
    try simp only [Act.put, putL]
    refine tk 53 ?_ rfl ?_ ?_
    rotate_left
    · intro w' hSw; (go_simp <;> (with_reducible rfl))
    try simp only [Act.put, putL]
    refine tk 54 (.string s3) rfl ?_ ?_
    · intro w' hSw; have hcv := hSw.2.2.2; (go_simp <;> (with_reducible rfl))
    try simp only [Act.put, putL]
    refine tk 55 ?_ rfl ?_ ?_
    rotate_left
    · intro w' hSw; (go_simp <;> (with_reducible rfl))
    try simp only [Act.put, putL]
    refine tk 56 ?_ rfl ?_ ?_
    rotate_left
    · intro w' hSw; (go_simp <;> (with_reducible rfl))
    try simp only [Act.put, putL]
    refine wpAnyH_done (by kernel_rfl) ?_ _
    clear hHeld
    clear hsl
    have hsl := HS.out.2.2.1
    go_wp2_with fail
    refine (sput HF.out _ 2 gh f A1 _ [(ga, f, A2), (gb, fn, B4), (gh, f, H1)] w w12 HM.out rfl fc Ac nc (c0 - c) _ _ H1 q 0 HX.out.xfcb Hrc.out Hb100.out.2.2.1 rfl HX.out.xh1.1 HX.out.xh1.2.1 HX.out.xh1.2.2 rfl).mono ?_
    rintro e w13 ⟨rfl, h1, h2⟩
    have HM := Lib.hid h1
    clear h1 h2
    clear hsl
    have hsl := HS.out.2.2.2
    go_wp2_with fail
    refine (sput HF.out _ 2 gh f H1 _ [(ga, f, A2), (gb, fn, B4), (gh, f, H2)] w w13 HM.out rfl f A c c0 _ _ H2 r 0 Hf.out Hru.out Hb100.out.2.2.2 rfl HX.out.xh2.1 HX.out.xh2.2.1 HX.out.xh2.2.2 rfl).mono ?_
    rintro e w14 ⟨rfl, h1, h2⟩
    have HM := Lib.hid h1
    clear h1 h2
    clear hsl
    have hq1 := str_eql s3
    have v22 : IntKind.i64.wrap ((q : Int) + (r : Int)) = (k : Int) := Hv22.out
    go_upto_region 19 with (fail)
    have HC := Lib.hid (show ∀ W, Below w.heap.size w W → (convert 32 9 (.slice A n c0)).run Try.prog W = .ok (.string s3) W from fun W hW => by
      have h := conv_rd (Hsr.out.rd.below hW) c0
      rw [Es3.out] at h
      exact h)
    refine wp_region_held_drew (S := fun w' => (convert 32 9 (.slice A n c0)).run Try.prog w' = .ok (.string s3) w') (by kernel_rfl) (HC.out _ HM.out.base.drew) (fun hHeld => ?_)
    obtain ⟨w14d, ew14⟩ : ∃ v, w14.drew = v := ⟨_, rfl⟩
    have HM := Lib.hid (show At18 BAt _ w _ w14d by rw [← ew14]; exact HM.out.drewN HF.out 1)
    rw [ew14] at hHeld ⊢
    clear ew14
    refine tk 0 ?_ rfl ?_ ?_
    rotate_left
    · intro w' hSw; (go_simp <;> (with_reducible rfl))
    try simp only [Act.put, putL]
    refine tk 1 ?_ rfl ?_ ?_
    rotate_left
    · intro w' hSw; (go_simp <;> (with_reducible rfl))
    try simp only [Act.put, putL]
    refine tk 2 ?_ rfl ?_ ?_
    rotate_left
    · intro w' hSw; (go_simp <;> (with_reducible rfl))
    try simp only [Act.put, putL]
    refine tk 3 ?_ rfl ?_ ?_
    rotate_left
    · intro w' hSw; (go_simp <;> (with_reducible rfl))
    try simp only [Act.put, putL]
    refine tk 4 ?_ rfl ?_ ?_
    rotate_left
    · intro w' hSw; (go_simp <;> (with_reducible rfl))
    try simp only [Act.put, putL]
    refine tk 5 ?_ rfl ?_ ?_
    rotate_left
    · intro w' hSw; (go_simp <;> (with_reducible rfl))
    try simp only [Act.put, putL]
    refine tk 6 ?_ rfl ?_ ?_
    rotate_left
    · intro w' hSw; (go_simp <;> (with_reducible rfl))
    try simp only [Act.put, putL]
    refine tk 7 ?_ rfl ?_ ?_
    rotate_left
    · intro w' hSw; (go_simp <;> (with_reducible rfl))
    try simp only [Act.put, putL]
    refine tk 8 ?_ rfl ?_ ?_
    rotate_left
    · intro w' hSw; (go_simp <;> (with_reducible rfl))
    try simp only [Act.put, putL]
    refine tk 9 ?_ rfl ?_ ?_
    rotate_left
    · intro w' hSw; (go_simp <;> (with_reducible rfl))
    try simp only [Act.put, putL]
    refine tk 10 ?_ rfl ?_ ?_
    rotate_left
    · intro w' hSw; (go_simp <;> (with_reducible rfl))
    try simp only [Act.put, putL]
    refine tk 11 ?_ rfl ?_ ?_
    rotate_left
    · intro w' hSw; (go_simp <;> (with_reducible rfl))
    try simp only [Act.put, putL]
    refine tk 12 ?_ rfl ?_ ?_
    rotate_left
    · intro w' hSw; (go_simp <;> (with_reducible rfl))
    try simp only [Act.put, putL]
    refine tk 13 ?_ rfl ?_ ?_
    rotate_left
    · intro w' hSw; (go_simp <;> (with_reducible rfl))
    try simp only [Act.put, putL]
    refine tk 14 ?_ rfl ?_ ?_
    rotate_left
    · intro w' hSw; (go_simp <;> (with_reducible rfl))
    try simp only [Act.put, putL]
    refine tk 17 ?_ rfl ?_ ?_
    rotate_left
    · intro w' hSw; (go_simp <;> (with_reducible rfl))
    try simp only [Act.put, putL]
    refine tk 18 (.string s3) rfl ?_ ?_
    · intro w' hSw; have hcv := hSw; (go_simp <;> (with_reducible rfl))
    try simp only [Act.put, putL]
    refine tkC 15 rfl (fun K hK => ?_)
    go_simp
    (refine (stake HF.out _ 2 gh f H2 _ [(ga, f, A2), (gb, fn, B4), (gh, fn, H3)] w _ HM.out rfl fn H3 _ HX.out.xh3.1 HX.out.xh3.2.1 HX.out.xh3.2.2 rfl).mono ?_; rintro e w15 ⟨Az, nz, cz, rfl, -, hz, h1, h2⟩; have HM := Lib.hid h1; have Hz := Lib.hid (hz.mono (B' := 0) (Nat.zero_le _)); clear h1 h2 hz)
    refine hK.out _ _ ?_ (fun hHeld => ?_)
    · exact HC.out _ HM.out.base
    clear hK K
    try simp only [Act.put, putL]
    have HD := Lib.hid (show ∀ W, OwnB W 0 Az nz cz s → (convert 32 9 (.slice Az nz cz)).run Try.prog W = .ok (.string s3) W from fun W hW => by
      have h := conv_rd (OwnB.rd hW Hsr.out.rd.byte) cz
      rw [Es3.out] at h
      exact h)
    refine anyH_monoR (S' := fun w' => (convert 32 9 (.slice A n c0)).run Try.prog w' = .ok (.string s3) w' ∧ (convert 32 9 (.slice Az nz cz)).run Try.prog w' = .ok (.string s3) w') (fun _ h => h.1) _ _ _ _ ?_
    have hHeld := And.intro hHeld (HD.out _ Hz.out)
    refine tk 16 (.string s3) rfl ?_ ?_
    · intro w' hSw; have hcv := hSw.2; (go_simp <;> (with_reducible rfl))
    try simp only [Act.put, putL]
    refine tk 19 ?_ rfl ?_ ?_
    rotate_left
    · intro w' hSw; (go_simp <;> (with_reducible rfl))
    try simp only [Act.put, putL]
    refine tk 20 ?_ rfl ?_ ?_
    rotate_left
    · intro w' hSw; (go_simp <;> (with_reducible rfl))
    try simp only [Act.put, putL]
    refine tk 21 ?_ rfl ?_ ?_
    rotate_left
    · intro w' hSw; (go_simp <;> (with_reducible rfl))
    try simp only [Act.put, putL]
    refine tk 22 ?_ rfl ?_ ?_
    rotate_left
    · intro w' hSw; (go_simp <;> (with_reducible rfl))
    try simp only [Act.put, putL]
    refine tk 25 ?_ rfl ?_ ?_
    rotate_left
    · intro w' hSw; (go_simp <;> (with_reducible rfl))
    try simp only [Act.put, putL]
    refine tk 26 (.string s3) rfl ?_ ?_
    · intro w' hSw; have hcv := hSw; (go_simp <;> (with_reducible rfl))
    try simp only [Act.put, putL]
    refine tkC 23 rfl (fun K hK => ?_)
    go_simp
    (refine (stake HF.out _ 0 ga f A2 _ [(ga, fn, A3), (gb, fn, B4), (gh, fn, H3)] w _ HM.out rfl fn A3 _ HX.out.xa3.1 HX.out.xa3.2.1 HX.out.xa3.2.2 rfl).mono ?_; rintro e w16 ⟨Aw, nw, cw, rfl, -, hz, h1, h2⟩; have HM := Lib.hid h1; have Hz := Lib.hid (own_on Hz.out h2 (fun b e => .inr e)); have Hw := Lib.hid (hz.mono (B' := 0) (Nat.zero_le _)); clear h1 h2 hz)
    refine hK.out _ _ ?_ (fun hHeld => ?_)
    · exact ⟨HC.out _ HM.out.base, HD.out _ Hz.out⟩
    clear hK K
    try simp only [Act.put, putL]
    have HDw := Lib.hid (show ∀ W, OwnB W 0 Aw nw cw s → (convert 32 9 (.slice Aw nw cw)).run Try.prog W = .ok (.string s3) W from fun W hW => by
      have h := conv_rd (OwnB.rd hW Hsr.out.rd.byte) cw
      rw [Es3.out] at h
      exact h)
    refine anyH_monoR (S' := fun w' => ((convert 32 9 (.slice A n c0)).run Try.prog w' = .ok (.string s3) w' ∧ (convert 32 9 (.slice Az nz cz)).run Try.prog w' = .ok (.string s3) w') ∧ (convert 32 9 (.slice Aw nw cw)).run Try.prog w' = .ok (.string s3) w') (fun _ h => h.1) _ _ _ _ ?_
    have hHeld := And.intro hHeld (HDw.out _ Hw.out)
    refine tk 24 (.string s3) rfl ?_ ?_
    · intro w' hSw; have hcv := hSw.2; (go_simp <;> (with_reducible rfl))
    try simp only [Act.put, putL]
    refine tk 27 ?_ rfl ?_ ?_
    rotate_left
    · intro w' hSw; (go_simp <;> (with_reducible rfl))
    try simp only [Act.put, putL]
    refine tk 28 ?_ rfl ?_ ?_
    rotate_left
    · intro w' hSw; (go_simp <;> (with_reducible rfl))
    try simp only [Act.put, putL]
    refine tk 29 ?_ rfl ?_ ?_
    rotate_left
    · intro w' hSw; (go_simp <;> (with_reducible rfl))
    try simp only [Act.put, putL]
    refine tk 30 ?_ rfl ?_ ?_
    rotate_left
    · intro w' hSw; (go_simp <;> (with_reducible rfl))
    try simp only [Act.put, putL]
    refine tk 32 ?_ rfl ?_ ?_
    rotate_left
    · intro w' hSw; (go_simp <;> (with_reducible rfl))
    try simp only [Act.put, putL]
    refine tkC 31 rfl (fun K hK => ?_)
    go_simp
    (refine (snext HF.out _ 0 ga fn A3 _ w _ HM.out rfl).mono ?_; rintro e w17 ⟨rfl, h1, h2⟩; have HM := Lib.hid h1; have Hz := Lib.hid (own_on Hz.out h2 (fun b e => .inl (.inr e))); have Hw := Lib.hid (own_on Hw.out h2 (fun b e => .inr e)); clear h1 h2)
    refine hK.out _ _ ?_ (fun hHeld => ?_)
    · exact ⟨⟨HC.out _ HM.out.base, HD.out _ Hz.out⟩, HDw.out _ Hw.out⟩
    clear hK K
    try simp only [Act.put, putL]
    refine tkC 33 rfl (fun K hK => ?_)
    go_simp
    (refine (snext HF.out _ 1 gb fn B4 _ w _ HM.out rfl).mono ?_; rintro e w18 ⟨rfl, h1, h2⟩; have HM := Lib.hid h1; have Hz := Lib.hid (own_on Hz.out h2 (fun b e => .inl (.inr e))); have Hw := Lib.hid (own_on Hw.out h2 (fun b e => .inr e)); clear h1 h2)
    refine hK.out _ _ ?_ (fun hHeld => ?_)
    · exact ⟨⟨HC.out _ HM.out.base, HD.out _ Hz.out⟩, HDw.out _ Hw.out⟩
    clear hK K
    try simp only [Act.put, putL]
    refine tk 34 ?_ rfl ?_ ?_
    rotate_left
    · intro w' hSw; (go_simp <;> (with_reducible rfl))
    try simp only [Act.put, putL]
    refine tk 35 ?_ rfl ?_ ?_
    rotate_left
    · intro w' hSw; (go_simp <;> (with_reducible rfl))
    try simp only [Act.put, putL]
    refine tk 36 ?_ rfl ?_ ?_
    rotate_left
    · intro w' hSw; (go_simp <;> (with_reducible rfl))
    try simp only [Act.put, putL]
    refine tk 37 ?_ rfl ?_ ?_
    rotate_left
    · intro w' hSw; (go_simp <;> (with_reducible rfl))
    try simp only [Act.put, putL]
    refine tk 39 ?_ rfl ?_ ?_
    rotate_left
    · intro w' hSw; (go_simp <;> (with_reducible rfl))
    try simp only [Act.put, putL]
    refine tkC 38 rfl (fun K hK => ?_)
    go_simp
    (refine (sroom HF.out _ 0 ga fn A3 _ w _ HM.out rfl (400 - n) HX.out.xla).mono ?_; rintro e w19 ⟨rfl, h1, h2⟩; have HM := Lib.hid h1; have Hz := Lib.hid (own_on Hz.out h2 (fun b e => .inl (.inr e))); have Hw := Lib.hid (own_on Hw.out h2 (fun b e => .inr e)); clear h1 h2)
    refine hK.out _ _ ?_ (fun hHeld => ?_)
    · exact ⟨⟨HC.out _ HM.out.base, HD.out _ Hz.out⟩, HDw.out _ Hw.out⟩
    clear hK K
    try simp only [Act.put, putL]
    refine tkC 40 rfl (fun K hK => ?_)
    go_simp
    (refine (sroom HF.out _ 1 gb fn B4 _ w _ HM.out rfl (400 - n) HX.out.xlb).mono ?_; rintro e w20 ⟨rfl, h1, h2⟩; have HM := Lib.hid h1; have Hz := Lib.hid (own_on Hz.out h2 (fun b e => .inl (.inr e))); have Hw := Lib.hid (own_on Hw.out h2 (fun b e => .inr e)); clear h1 h2)
    refine hK.out _ _ ?_ (fun hHeld => ?_)
    · exact ⟨⟨HC.out _ HM.out.base, HD.out _ Hz.out⟩, HDw.out _ Hw.out⟩
    clear hK K
    try simp only [Act.put, putL]
    refine tk 41 ?_ rfl ?_ ?_
    rotate_left
    · intro w' hSw; (go_simp <;> (with_reducible rfl))
    try simp only [Act.put, putL]
    refine tk 42 ?_ rfl ?_ ?_
    rotate_left
    · intro w' hSw; (go_simp <;> (with_reducible rfl))
    try simp only [Act.put, putL]
    refine tk 43 ?_ rfl ?_ ?_
    rotate_left
    · intro w' hSw; (go_simp <;> (with_reducible rfl))
    try simp only [Act.put, putL]
    refine tk 44 ?_ rfl ?_ ?_
    rotate_left
    · intro w' hSw; (go_simp <;> (with_reducible rfl))
    try simp only [Act.put, putL]
    refine tk 46 ?_ rfl ?_ ?_
    rotate_left
    · intro w' hSw; (go_simp <;> (with_reducible rfl))
    try simp only [Act.put, putL]
    refine tkC 45 rfl (fun K hK => ?_)
    go_simp
    (refine (snext HF.out _ 0 ga fn A3 _ w _ HM.out rfl).mono ?_; rintro e w21 ⟨rfl, h1, h2⟩; have HM := Lib.hid h1; have Hz := Lib.hid (own_on Hz.out h2 (fun b e => .inl (.inr e))); have Hw := Lib.hid (own_on Hw.out h2 (fun b e => .inr e)); clear h1 h2)
    refine hK.out _ _ ?_ (fun hHeld => ?_)
    · exact ⟨⟨HC.out _ HM.out.base, HD.out _ Hz.out⟩, HDw.out _ Hw.out⟩
    clear hK K
    try simp only [Act.put, putL]
    refine tkC 47 rfl (fun K hK => ?_)
    go_simp
    (refine (snext HF.out _ 2 gh fn H3 _ w _ HM.out rfl).mono ?_; rintro e w22 ⟨rfl, h1, h2⟩; have HM := Lib.hid h1; have Hz := Lib.hid (own_on Hz.out h2 (fun b e => .inl (.inr e))); have Hw := Lib.hid (own_on Hw.out h2 (fun b e => .inr e)); clear h1 h2)
    refine hK.out _ _ ?_ (fun hHeld => ?_)
    · exact ⟨⟨HC.out _ HM.out.base, HD.out _ Hz.out⟩, HDw.out _ Hw.out⟩
    clear hK K
    try simp only [Act.put, putL]
    refine tk 48 ?_ rfl ?_ ?_
    rotate_left
    · intro w' hSw; (go_simp <;> (with_reducible rfl))
    try simp only [Act.put, putL]
    refine tk 49 ?_ rfl ?_ ?_
    rotate_left
    · intro w' hSw; (go_simp <;> (with_reducible rfl))
    try simp only [Act.put, putL]
    refine tk 50 ?_ rfl ?_ ?_
    rotate_left
    · intro w' hSw; (go_simp <;> (with_reducible rfl))
    try simp only [Act.put, putL]
    refine tkC 51 rfl (fun K hK => ?_)
    go_simp
    (refine (rmwake_any HF.out _).mono ?_; rintro e w23 ⟨rfl, hb23⟩; have HE := Lib.hid (HM.out.base.trans (hb23.mono HM.out.base.size)); have Hz := Lib.hid (Hz.out.on hb23); have Hw := Lib.hid (Hw.out.on hb23); clear hb23)
    refine hK.out _ _ ?_ (fun hHeld => ?_)
    · exact ⟨⟨HC.out _ HE.out, HD.out _ Hz.out⟩, HDw.out _ Hw.out⟩
    clear hK K
    try simp only [Act.put, putL]
    refine tk 52 ?_ rfl ?_ ?_
    rotate_left
    · intro w' hSw; (go_simp <;> (with_reducible rfl))
    try simp only [Act.put, putL]
    refine tk 53 ?_ rfl ?_ ?_
    rotate_left
    · intro w' hSw; (go_simp <;> (with_reducible rfl))
    try simp only [Act.put, putL]
    refine wpAnyH_done (by kernel_rfl) ?_ _
    clear hHeld
    go_wp2_with fail
    go_ret
    exact ⟨rfl, HE.out⟩
  · have hki : ¬ (0 : Int) < (k : Int) := by exact_mod_cast hk0
    refine tk 0 ?_ rfl ?_ ?_
    rotate_left
    · intro w' hSw; (go_simp <;> (with_reducible rfl))
    try simp only [Act.put, putL]
    refine tk 1 ?_ rfl ?_ ?_
    rotate_left
    · intro w' hSw; (go_simp <;> (with_reducible rfl))
    try simp only [Act.put, putL]
    refine tk 2 ?_ rfl ?_ ?_
    rotate_left
    · intro w' hSw; (go_simp <;> (with_reducible rfl))
    try simp only [Act.put, putL]
    refine tk 3 ?_ rfl ?_ ?_
    rotate_left
    · intro w' hSw; (go_simp <;> (with_reducible rfl))
    try simp only [Act.put, putL]
    refine tk 4 ?_ rfl ?_ ?_
    rotate_left
    · intro w' hSw; (go_simp <;> (with_reducible rfl))
    try simp only [Act.put, putL]
    refine tk 5 ?_ rfl ?_ ?_
    rotate_left
    · intro w' hSw; (go_simp <;> (with_reducible rfl))
    try simp only [Act.put, putL]
    refine tk 6 ?_ rfl ?_ ?_
    rotate_left
    · intro w' hSw; (go_simp <;> (with_reducible rfl))
    try simp only [Act.put, putL]
    refine tk 7 ?_ rfl ?_ ?_
    rotate_left
    · intro w' hSw; (go_simp <;> (with_reducible rfl))
    try simp only [Act.put, putL]
    refine tk 8 ?_ rfl ?_ ?_
    rotate_left
    · intro w' hSw; (go_simp <;> (with_reducible rfl))
    try simp only [Act.put, putL]
    refine tk 9 ?_ rfl ?_ ?_
    rotate_left
    · intro w' hSw; (go_simp <;> (with_reducible rfl))
    try simp only [Act.put, putL]
    refine tk 10 ?_ rfl ?_ ?_
    rotate_left
    · intro w' hSw; (go_simp <;> (with_reducible rfl))
    try simp only [Act.put, putL]
    refine tk 11 ?_ rfl ?_ ?_
    rotate_left
    · intro w' hSw; (go_simp <;> (with_reducible rfl))
    try simp only [Act.put, putL]
    refine tk 12 ?_ rfl ?_ ?_
    rotate_left
    · intro w' hSw; (go_simp <;> (with_reducible rfl))
    try simp only [Act.put, putL]
    refine tk 13 ?_ rfl ?_ ?_
    rotate_left
    · intro w' hSw; (go_simp <;> (with_reducible rfl))
    try simp only [Act.put, putL]
    refine tk 14 ?_ rfl ?_ ?_
    rotate_left
    · intro w' hSw; (go_simp <;> (with_reducible rfl))
    try simp only [Act.put, putL]
    refine tk 15 ?_ rfl ?_ ?_
    rotate_left
    · intro w' hSw; (go_simp <;> (with_reducible rfl))
    try simp only [Act.put, putL]
    refine tk 16 ?_ rfl ?_ ?_
    rotate_left
    · intro w' hSw; (go_simp <;> (with_reducible rfl))
    try simp only [Act.put, putL]
    refine tk 17 ?_ rfl ?_ ?_
    rotate_left
    · intro w' hSw; (go_simp <;> (with_reducible rfl))
    try simp only [Act.put, putL]
    refine tk 18 ?_ rfl ?_ ?_
    rotate_left
    · intro w' hSw; (go_simp <;> (with_reducible rfl))
    try simp only [Act.put, putL]
    refine tk 19 ?_ rfl ?_ ?_
    rotate_left
    · intro w' hSw; (go_simp <;> (with_reducible rfl))
    try simp only [Act.put, putL]
    refine tk 20 ?_ rfl ?_ ?_
    rotate_left
    · intro w' hSw; (go_simp <;> (with_reducible rfl))
    try simp only [Act.put, putL]
    refine tk 21 ?_ rfl ?_ ?_
    rotate_left
    · intro w' hSw; (go_simp <;> (with_reducible rfl))
    try simp only [Act.put, putL]
    refine tk 22 ?_ rfl ?_ ?_
    rotate_left
    · intro w' hSw; (go_simp <;> (with_reducible rfl))
    try simp only [Act.put, putL]
    refine tk 23 ?_ rfl ?_ ?_
    rotate_left
    · intro w' hSw; (go_simp <;> (with_reducible rfl))
    try simp only [Act.put, putL]
    refine tk 24 ?_ rfl ?_ ?_
    rotate_left
    · intro w' hSw; (go_simp <;> (with_reducible rfl))
    try simp only [Act.put, putL]
    refine tk 25 ?_ rfl ?_ ?_
    rotate_left
    · intro w' hSw; (go_simp <;> (with_reducible rfl))
    try simp only [Act.put, putL]
    refine tk 26 ?_ rfl ?_ ?_
    rotate_left
    · intro w' hSw; (go_simp <;> (with_reducible rfl))
    try simp only [Act.put, putL]
    refine tk 27 ?_ rfl ?_ ?_
    rotate_left
    · intro w' hSw; (go_simp <;> (with_reducible rfl))
    try simp only [Act.put, putL]
    refine tk 28 ?_ rfl ?_ ?_
    rotate_left
    · intro w' hSw; (go_simp <;> (with_reducible rfl))
    try simp only [Act.put, putL]
    refine tk 29 ?_ rfl ?_ ?_
    rotate_left
    · intro w' hSw; (go_simp <;> (with_reducible rfl))
    try simp only [Act.put, putL]
    refine tk 30 ?_ rfl ?_ ?_
    rotate_left
    · intro w' hSw; (go_simp <;> (with_reducible rfl))
    try simp only [Act.put, putL]
    refine tk 31 ?_ rfl ?_ ?_
    rotate_left
    · intro w' hSw; (go_simp <;> (with_reducible rfl))
    try simp only [Act.put, putL]
    refine tk 32 ?_ rfl ?_ ?_
    rotate_left
    · intro w' hSw; (go_simp <;> (with_reducible rfl))
    try simp only [Act.put, putL]
    refine tk 33 ?_ rfl ?_ ?_
    rotate_left
    · intro w' hSw; (go_simp <;> (with_reducible rfl))
    try simp only [Act.put, putL]
    refine tkN 34 rfl ?_
    try simp only [Act.put, putL]
    refine tkN 35 rfl ?_
    try simp only [Act.put, putL]
    refine tk 36 ?_ rfl ?_ ?_
    rotate_left
    · intro w' hSw; (go_simp <;> (with_reducible rfl))
    try simp only [Act.put, putL]
    refine tk 37 ?_ rfl ?_ ?_
    rotate_left
    · intro w' hSw; (go_simp <;> (with_reducible rfl))
    try simp only [Act.put, putL]
    refine tk 38 ?_ rfl ?_ ?_
    rotate_left
    · intro w' hSw; (go_simp <;> (with_reducible rfl))
    try simp only [Act.put, putL]
    refine tk 39 ?_ rfl ?_ ?_
    rotate_left
    · intro w' hSw; (go_simp <;> (with_reducible rfl))
    try simp only [Act.put, putL]
    refine tk 40 (.string s1) rfl ?_ ?_
    · intro w' hSw; have hcv := hSw.1; (go_simp <;> (with_reducible rfl))
    try simp only [Act.put, putL]
    refine tk 41 ?_ rfl ?_ ?_
    rotate_left
    · intro w' hSw; (go_simp <;> (with_reducible rfl))
    try simp only [Act.put, putL]
    refine tk 42 ?_ rfl ?_ ?_
    rotate_left
    · intro w' hSw; (go_simp <;> (with_reducible rfl))
    try simp only [Act.put, putL]
    refine tk 43 ?_ rfl ?_ ?_
    rotate_left
    · intro w' hSw; (go_simp <;> (with_reducible rfl))
    try simp only [Act.put, putL]
    refine tk 44 (.string s1) rfl ?_ ?_
    · intro w' hSw; have hcv := hSw.2.1; (go_simp <;> (with_reducible rfl))
    try simp only [Act.put, putL]
    refine tk 45 ?_ rfl ?_ ?_
    rotate_left
    · intro w' hSw; (go_simp <;> (with_reducible rfl))
    try simp only [Act.put, putL]
    refine tk 46 ?_ rfl ?_ ?_
    rotate_left
    · intro w' hSw; (go_simp <;> (with_reducible rfl))
    try simp only [Act.put, putL]
    refine tk 47 ?_ rfl ?_ ?_
    rotate_left
    · intro w' hSw; (go_simp <;> (with_reducible rfl))
    try simp only [Act.put, putL]
    refine tk 48 ?_ rfl ?_ ?_
    rotate_left
    · intro w' hSw; (go_simp <;> (with_reducible rfl))
    try simp only [Act.put, putL]
    refine tk 49 (.string s1) rfl ?_ ?_
    · intro w' hSw; have hcv := hSw.1; (go_simp <;> (with_reducible rfl))
    try simp only [Act.put, putL]
    refine tk 50 ?_ rfl ?_ ?_
    rotate_left
    · intro w' hSw; (go_simp <;> (with_reducible rfl))
    try simp only [Act.put, putL]
    refine tk 51 (.string s2) rfl ?_ ?_
    · intro w' hSw; have hcv := hSw.2.2.1; (go_simp <;> (with_reducible rfl))
    try simp only [Act.put, putL]
    refine tk 52 ?_ rfl ?_ ?_
    rotate_left
    · intro w' hSw; (go_simp <;> (with_reducible rfl))
    try simp only [Act.put, putL]
    refine tk 53 ?_ rfl ?_ ?_
    rotate_left
    · intro w' hSw; (go_simp <;> (with_reducible rfl))
    try simp only [Act.put, putL]
    refine tk 54 (.string s3) rfl ?_ ?_
    · intro w' hSw; have hcv := hSw.2.2.2; (go_simp <;> (with_reducible rfl))
    try simp only [Act.put, putL]
    refine tk 55 ?_ rfl ?_ ?_
    rotate_left
    · intro w' hSw; (go_simp <;> (with_reducible rfl))
    try simp only [Act.put, putL]
    refine tk 56 ?_ rfl ?_ ?_
    rotate_left
    · intro w' hSw; (go_simp <;> (with_reducible rfl))
    try simp only [Act.put, putL]
    refine wpAnyH_done (by kernel_rfl) ?_ _
    clear hHeld
    clear hsl
    have hsl := HS.out.2.2.1
    go_wp2_with fail
    refine (sput HF.out _ 2 gh f A1 _ [(ga, f, A2), (gb, fn, B4), (gh, f, H1)] w w12 HM.out rfl fc Ac nc (c0 - c) _ _ H1 q 0 HX.out.xfcb Hrc.out Hb100.out.2.2.1 rfl HX.out.xh1.1 HX.out.xh1.2.1 HX.out.xh1.2.2 rfl).mono ?_
    rintro e w13 ⟨rfl, h1, h2⟩
    have HM := Lib.hid h1
    clear h1 h2
    clear hsl
    have hsl := HS.out.2.2.2
    go_wp2_with fail
    refine (sput HF.out _ 2 gh f H1 _ [(ga, f, A2), (gb, fn, B4), (gh, f, H2)] w w13 HM.out rfl f A c c0 _ _ H2 r 0 Hf.out Hru.out Hb100.out.2.2.2 rfl HX.out.xh2.1 HX.out.xh2.2.1 HX.out.xh2.2.2 rfl).mono ?_
    rintro e w14 ⟨rfl, h1, h2⟩
    have HM := Lib.hid h1
    clear h1 h2
    clear hsl
    have hq1 := str_eql s3
    have v22 : IntKind.i64.wrap ((q : Int) + (r : Int)) = (k : Int) := Hv22.out
    go_upto_region 19 with (fail)
    have HC := Lib.hid (show ∀ W, Below w.heap.size w W → (convert 32 9 (.slice A n c0)).run Try.prog W = .ok (.string s3) W from fun W hW => by
      have h := conv_rd (Hsr.out.rd.below hW) c0
      rw [Es3.out] at h
      exact h)
    refine wp_region_held_drew (S := fun w' => (convert 32 9 (.slice A n c0)).run Try.prog w' = .ok (.string s3) w') (by kernel_rfl) (HC.out _ HM.out.base.drew) (fun hHeld => ?_)
    obtain ⟨w14d, ew14⟩ : ∃ v, w14.drew = v := ⟨_, rfl⟩
    have HM := Lib.hid (show At18 BAt _ w _ w14d by rw [← ew14]; exact HM.out.drewN HF.out 1)
    rw [ew14] at hHeld ⊢
    clear ew14
    refine tk 0 ?_ rfl ?_ ?_
    rotate_left
    · intro w' hSw; (go_simp <;> (with_reducible rfl))
    try simp only [Act.put, putL]
    refine tk 1 ?_ rfl ?_ ?_
    rotate_left
    · intro w' hSw; (go_simp <;> (with_reducible rfl))
    try simp only [Act.put, putL]
    refine tk 2 ?_ rfl ?_ ?_
    rotate_left
    · intro w' hSw; (go_simp <;> (with_reducible rfl))
    try simp only [Act.put, putL]
    refine tk 3 ?_ rfl ?_ ?_
    rotate_left
    · intro w' hSw; (go_simp <;> (with_reducible rfl))
    try simp only [Act.put, putL]
    refine tk 4 ?_ rfl ?_ ?_
    rotate_left
    · intro w' hSw; (go_simp <;> (with_reducible rfl))
    try simp only [Act.put, putL]
    refine tk 5 ?_ rfl ?_ ?_
    rotate_left
    · intro w' hSw; (go_simp <;> (with_reducible rfl))
    try simp only [Act.put, putL]
    refine tk 6 ?_ rfl ?_ ?_
    rotate_left
    · intro w' hSw; (go_simp <;> (with_reducible rfl))
    try simp only [Act.put, putL]
    refine tk 7 ?_ rfl ?_ ?_
    rotate_left
    · intro w' hSw; (go_simp <;> (with_reducible rfl))
    try simp only [Act.put, putL]
    refine tk 8 ?_ rfl ?_ ?_
    rotate_left
    · intro w' hSw; (go_simp <;> (with_reducible rfl))
    try simp only [Act.put, putL]
    refine tk 9 ?_ rfl ?_ ?_
    rotate_left
    · intro w' hSw; (go_simp <;> (with_reducible rfl))
    try simp only [Act.put, putL]
    refine tk 10 ?_ rfl ?_ ?_
    rotate_left
    · intro w' hSw; (go_simp <;> (with_reducible rfl))
    try simp only [Act.put, putL]
    refine tk 11 ?_ rfl ?_ ?_
    rotate_left
    · intro w' hSw; (go_simp <;> (with_reducible rfl))
    try simp only [Act.put, putL]
    refine tk 12 ?_ rfl ?_ ?_
    rotate_left
    · intro w' hSw; (go_simp <;> (with_reducible rfl))
    try simp only [Act.put, putL]
    refine tk 13 ?_ rfl ?_ ?_
    rotate_left
    · intro w' hSw; (go_simp <;> (with_reducible rfl))
    try simp only [Act.put, putL]
    refine tk 14 ?_ rfl ?_ ?_
    rotate_left
    · intro w' hSw; (go_simp <;> (with_reducible rfl))
    try simp only [Act.put, putL]
    refine tk 17 ?_ rfl ?_ ?_
    rotate_left
    · intro w' hSw; (go_simp <;> (with_reducible rfl))
    try simp only [Act.put, putL]
    refine tk 18 (.string s3) rfl ?_ ?_
    · intro w' hSw; have hcv := hSw; (go_simp <;> (with_reducible rfl))
    try simp only [Act.put, putL]
    refine tkC 15 rfl (fun K hK => ?_)
    go_simp
    (refine (stake HF.out _ 2 gh f H2 _ [(ga, f, A2), (gb, fn, B4), (gh, fn, H3)] w _ HM.out rfl fn H3 _ HX.out.xh3.1 HX.out.xh3.2.1 HX.out.xh3.2.2 rfl).mono ?_; rintro e w15 ⟨Az, nz, cz, rfl, -, hz, h1, h2⟩; have HM := Lib.hid h1; have Hz := Lib.hid (hz.mono (B' := 0) (Nat.zero_le _)); clear h1 h2 hz)
    refine hK.out _ _ ?_ (fun hHeld => ?_)
    · exact HC.out _ HM.out.base
    clear hK K
    try simp only [Act.put, putL]
    have HD := Lib.hid (show ∀ W, OwnB W 0 Az nz cz s → (convert 32 9 (.slice Az nz cz)).run Try.prog W = .ok (.string s3) W from fun W hW => by
      have h := conv_rd (OwnB.rd hW Hsr.out.rd.byte) cz
      rw [Es3.out] at h
      exact h)
    refine anyH_monoR (S' := fun w' => (convert 32 9 (.slice A n c0)).run Try.prog w' = .ok (.string s3) w' ∧ (convert 32 9 (.slice Az nz cz)).run Try.prog w' = .ok (.string s3) w') (fun _ h => h.1) _ _ _ _ ?_
    have hHeld := And.intro hHeld (HD.out _ Hz.out)
    refine tk 16 (.string s3) rfl ?_ ?_
    · intro w' hSw; have hcv := hSw.2; (go_simp <;> (with_reducible rfl))
    try simp only [Act.put, putL]
    refine tk 19 ?_ rfl ?_ ?_
    rotate_left
    · intro w' hSw; (go_simp <;> (with_reducible rfl))
    try simp only [Act.put, putL]
    refine tk 20 ?_ rfl ?_ ?_
    rotate_left
    · intro w' hSw; (go_simp <;> (with_reducible rfl))
    try simp only [Act.put, putL]
    refine tk 21 ?_ rfl ?_ ?_
    rotate_left
    · intro w' hSw; (go_simp <;> (with_reducible rfl))
    try simp only [Act.put, putL]
    refine tk 22 ?_ rfl ?_ ?_
    rotate_left
    · intro w' hSw; (go_simp <;> (with_reducible rfl))
    try simp only [Act.put, putL]
    refine tk 25 ?_ rfl ?_ ?_
    rotate_left
    · intro w' hSw; (go_simp <;> (with_reducible rfl))
    try simp only [Act.put, putL]
    refine tk 26 (.string s3) rfl ?_ ?_
    · intro w' hSw; have hcv := hSw; (go_simp <;> (with_reducible rfl))
    try simp only [Act.put, putL]
    refine tkC 23 rfl (fun K hK => ?_)
    go_simp
    (refine (stake HF.out _ 0 ga f A2 _ [(ga, fn, A3), (gb, fn, B4), (gh, fn, H3)] w _ HM.out rfl fn A3 _ HX.out.xa3.1 HX.out.xa3.2.1 HX.out.xa3.2.2 rfl).mono ?_; rintro e w16 ⟨Aw, nw, cw, rfl, -, hz, h1, h2⟩; have HM := Lib.hid h1; have Hz := Lib.hid (own_on Hz.out h2 (fun b e => .inr e)); have Hw := Lib.hid (hz.mono (B' := 0) (Nat.zero_le _)); clear h1 h2 hz)
    refine hK.out _ _ ?_ (fun hHeld => ?_)
    · exact ⟨HC.out _ HM.out.base, HD.out _ Hz.out⟩
    clear hK K
    try simp only [Act.put, putL]
    have HDw := Lib.hid (show ∀ W, OwnB W 0 Aw nw cw s → (convert 32 9 (.slice Aw nw cw)).run Try.prog W = .ok (.string s3) W from fun W hW => by
      have h := conv_rd (OwnB.rd hW Hsr.out.rd.byte) cw
      rw [Es3.out] at h
      exact h)
    refine anyH_monoR (S' := fun w' => ((convert 32 9 (.slice A n c0)).run Try.prog w' = .ok (.string s3) w' ∧ (convert 32 9 (.slice Az nz cz)).run Try.prog w' = .ok (.string s3) w') ∧ (convert 32 9 (.slice Aw nw cw)).run Try.prog w' = .ok (.string s3) w') (fun _ h => h.1) _ _ _ _ ?_
    have hHeld := And.intro hHeld (HDw.out _ Hw.out)
    refine tk 24 (.string s3) rfl ?_ ?_
    · intro w' hSw; have hcv := hSw.2; (go_simp <;> (with_reducible rfl))
    try simp only [Act.put, putL]
    refine tk 27 ?_ rfl ?_ ?_
    rotate_left
    · intro w' hSw; (go_simp <;> (with_reducible rfl))
    try simp only [Act.put, putL]
    refine tk 28 ?_ rfl ?_ ?_
    rotate_left
    · intro w' hSw; (go_simp <;> (with_reducible rfl))
    try simp only [Act.put, putL]
    refine tk 29 ?_ rfl ?_ ?_
    rotate_left
    · intro w' hSw; (go_simp <;> (with_reducible rfl))
    try simp only [Act.put, putL]
    refine tk 30 ?_ rfl ?_ ?_
    rotate_left
    · intro w' hSw; (go_simp <;> (with_reducible rfl))
    try simp only [Act.put, putL]
    refine tk 32 ?_ rfl ?_ ?_
    rotate_left
    · intro w' hSw; (go_simp <;> (with_reducible rfl))
    try simp only [Act.put, putL]
    refine tkC 31 rfl (fun K hK => ?_)
    go_simp
    (refine (snext HF.out _ 0 ga fn A3 _ w _ HM.out rfl).mono ?_; rintro e w17 ⟨rfl, h1, h2⟩; have HM := Lib.hid h1; have Hz := Lib.hid (own_on Hz.out h2 (fun b e => .inl (.inr e))); have Hw := Lib.hid (own_on Hw.out h2 (fun b e => .inr e)); clear h1 h2)
    refine hK.out _ _ ?_ (fun hHeld => ?_)
    · exact ⟨⟨HC.out _ HM.out.base, HD.out _ Hz.out⟩, HDw.out _ Hw.out⟩
    clear hK K
    try simp only [Act.put, putL]
    refine tkC 33 rfl (fun K hK => ?_)
    go_simp
    (refine (snext HF.out _ 1 gb fn B4 _ w _ HM.out rfl).mono ?_; rintro e w18 ⟨rfl, h1, h2⟩; have HM := Lib.hid h1; have Hz := Lib.hid (own_on Hz.out h2 (fun b e => .inl (.inr e))); have Hw := Lib.hid (own_on Hw.out h2 (fun b e => .inr e)); clear h1 h2)
    refine hK.out _ _ ?_ (fun hHeld => ?_)
    · exact ⟨⟨HC.out _ HM.out.base, HD.out _ Hz.out⟩, HDw.out _ Hw.out⟩
    clear hK K
    try simp only [Act.put, putL]
    refine tk 34 ?_ rfl ?_ ?_
    rotate_left
    · intro w' hSw; (go_simp <;> (with_reducible rfl))
    try simp only [Act.put, putL]
    refine tk 35 ?_ rfl ?_ ?_
    rotate_left
    · intro w' hSw; (go_simp <;> (with_reducible rfl))
    try simp only [Act.put, putL]
    refine tk 36 ?_ rfl ?_ ?_
    rotate_left
    · intro w' hSw; (go_simp <;> (with_reducible rfl))
    try simp only [Act.put, putL]
    refine tk 37 ?_ rfl ?_ ?_
    rotate_left
    · intro w' hSw; (go_simp <;> (with_reducible rfl))
    try simp only [Act.put, putL]
    refine tk 39 ?_ rfl ?_ ?_
    rotate_left
    · intro w' hSw; (go_simp <;> (with_reducible rfl))
    try simp only [Act.put, putL]
    refine tkC 38 rfl (fun K hK => ?_)
    go_simp
    (refine (sroom HF.out _ 0 ga fn A3 _ w _ HM.out rfl (400 - n) HX.out.xla).mono ?_; rintro e w19 ⟨rfl, h1, h2⟩; have HM := Lib.hid h1; have Hz := Lib.hid (own_on Hz.out h2 (fun b e => .inl (.inr e))); have Hw := Lib.hid (own_on Hw.out h2 (fun b e => .inr e)); clear h1 h2)
    refine hK.out _ _ ?_ (fun hHeld => ?_)
    · exact ⟨⟨HC.out _ HM.out.base, HD.out _ Hz.out⟩, HDw.out _ Hw.out⟩
    clear hK K
    try simp only [Act.put, putL]
    refine tkC 40 rfl (fun K hK => ?_)
    go_simp
    (refine (sroom HF.out _ 1 gb fn B4 _ w _ HM.out rfl (400 - n) HX.out.xlb).mono ?_; rintro e w20 ⟨rfl, h1, h2⟩; have HM := Lib.hid h1; have Hz := Lib.hid (own_on Hz.out h2 (fun b e => .inl (.inr e))); have Hw := Lib.hid (own_on Hw.out h2 (fun b e => .inr e)); clear h1 h2)
    refine hK.out _ _ ?_ (fun hHeld => ?_)
    · exact ⟨⟨HC.out _ HM.out.base, HD.out _ Hz.out⟩, HDw.out _ Hw.out⟩
    clear hK K
    try simp only [Act.put, putL]
    refine tk 41 ?_ rfl ?_ ?_
    rotate_left
    · intro w' hSw; (go_simp <;> (with_reducible rfl))
    try simp only [Act.put, putL]
    refine tk 42 ?_ rfl ?_ ?_
    rotate_left
    · intro w' hSw; (go_simp <;> (with_reducible rfl))
    try simp only [Act.put, putL]
    refine tk 43 ?_ rfl ?_ ?_
    rotate_left
    · intro w' hSw; (go_simp <;> (with_reducible rfl))
    try simp only [Act.put, putL]
    refine tk 44 ?_ rfl ?_ ?_
    rotate_left
    · intro w' hSw; (go_simp <;> (with_reducible rfl))
    try simp only [Act.put, putL]
    refine tk 46 ?_ rfl ?_ ?_
    rotate_left
    · intro w' hSw; (go_simp <;> (with_reducible rfl))
    try simp only [Act.put, putL]
    refine tkC 45 rfl (fun K hK => ?_)
    go_simp
    (refine (snext HF.out _ 0 ga fn A3 _ w _ HM.out rfl).mono ?_; rintro e w21 ⟨rfl, h1, h2⟩; have HM := Lib.hid h1; have Hz := Lib.hid (own_on Hz.out h2 (fun b e => .inl (.inr e))); have Hw := Lib.hid (own_on Hw.out h2 (fun b e => .inr e)); clear h1 h2)
    refine hK.out _ _ ?_ (fun hHeld => ?_)
    · exact ⟨⟨HC.out _ HM.out.base, HD.out _ Hz.out⟩, HDw.out _ Hw.out⟩
    clear hK K
    try simp only [Act.put, putL]
    refine tkC 47 rfl (fun K hK => ?_)
    go_simp
    (refine (snext HF.out _ 2 gh fn H3 _ w _ HM.out rfl).mono ?_; rintro e w22 ⟨rfl, h1, h2⟩; have HM := Lib.hid h1; have Hz := Lib.hid (own_on Hz.out h2 (fun b e => .inl (.inr e))); have Hw := Lib.hid (own_on Hw.out h2 (fun b e => .inr e)); clear h1 h2)
    refine hK.out _ _ ?_ (fun hHeld => ?_)
    · exact ⟨⟨HC.out _ HM.out.base, HD.out _ Hz.out⟩, HDw.out _ Hw.out⟩
    clear hK K
    try simp only [Act.put, putL]
    refine tk 48 ?_ rfl ?_ ?_
    rotate_left
    · intro w' hSw; (go_simp <;> (with_reducible rfl))
    try simp only [Act.put, putL]
    refine tk 49 ?_ rfl ?_ ?_
    rotate_left
    · intro w' hSw; (go_simp <;> (with_reducible rfl))
    try simp only [Act.put, putL]
    refine tk 50 ?_ rfl ?_ ?_
    rotate_left
    · intro w' hSw; (go_simp <;> (with_reducible rfl))
    try simp only [Act.put, putL]
    refine tkC 51 rfl (fun K hK => ?_)
    go_simp
    (refine (rmwake_any HF.out _).mono ?_; rintro e w23 ⟨rfl, hb23⟩; have HE := Lib.hid (HM.out.base.trans (hb23.mono HM.out.base.size)); have Hz := Lib.hid (Hz.out.on hb23); have Hw := Lib.hid (Hw.out.on hb23); clear hb23)
    refine hK.out _ _ ?_ (fun hHeld => ?_)
    · exact ⟨⟨HC.out _ HE.out, HD.out _ Hz.out⟩, HDw.out _ Hw.out⟩
    clear hK K
    try simp only [Act.put, putL]
    refine tk 52 ?_ rfl ?_ ?_
    rotate_left
    · intro w' hSw; (go_simp <;> (with_reducible rfl))
    try simp only [Act.put, putL]
    refine tk 53 ?_ rfl ?_ ?_
    rotate_left
    · intro w' hSw; (go_simp <;> (with_reducible rfl))
    try simp only [Act.put, putL]
    refine wpAnyH_done (by kernel_rfl) ?_ _
    clear hHeld
    go_wp2_with fail
    go_ret
    exact ⟨rfl, HE.out⟩
end Go.Proofs.Ytmmnicnebammhaa.reasmHalvesW
