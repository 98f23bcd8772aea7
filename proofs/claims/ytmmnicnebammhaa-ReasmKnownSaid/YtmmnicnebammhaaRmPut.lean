/-
  A buffer of the program's: Put.
-/
import Derived.Test.YtmmnicnebammhaaTk
import Derived.Test.YtmmnicnebammhaaRmPieces
import Derived.Test.YtmmnicnebammhaaRmLay
namespace Go.Proofs.Ytmmnicnebammhaa
set_option maxRecDepth 10000
open Go.RowKit
set_option linter.unusedSimpArgs false
set_option linter.unusedVariables false

theorem fresh_is (d : Int) (data : List Int) (L : BL) : haveB (putB d data L) = haveB L + freshB d data L := by
  have := have_le d data L
  unfold freshB
  omega
set_option maxHeartbeats 2000000 in
theorem put_mem (S : Nat → Prop) (g m nx : Nat) (st at_ a : Int) (L : BL) (A : Option Addr) (n c : Nat) (l : List Int) (w : World) (h : RMem w S g m nx st L) (hat : num32 (st + (nx : Int)) = at_) (hh : (heldB L).length ≤ 16) (hl : Rd w A n l) (hn : n ≤ 100000) (hnc : n ≤ c) :
    Calls Try.prog 11 #[.pointer (some ⟨g, 0, none⟩), .int .u32 a, .slice A n c] w (BDoes RmAt S g at_ (putQ (diffB a at_) l L) (.tuple #[.int .i64 (putN (diffB a at_) l L : Nat), .int .i64 (putE (diffB a at_) l L)])  w) := by
  have hrm := h.room
  obtain ⟨i, hi1, hi2, hi3, hi4⟩ := cut_put a at_ l L (by omega)
  have HNo := Lib.hid (bnone_no g w h.k0)
  have HNx := Lib.hid (next_mem h at_ hat)
  have HRo := Lib.hid (room_mem h)
  obtain ⟨R, eR⟩ : ∃ R, L.length = R := ⟨_, rfl⟩
  have HCut := Lib.hid (fun k : Nat => cut_rd a at_ (R : Int) A n c l (w.drewN k) (by unfold U32; omega) (by omega) hnc (hl.but ((But.refl (fun _ => False) w).drewN k) (fun _ _ _ _ h => h)))
  rw [eR] at hi1 hi2 hi3 hi4 HRo
  obtain ⟨first, ef⟩ : ∃ x, cutFrom a at_ (R : Int) l = x := ⟨_, rfl⟩
  obtain ⟨part, ep⟩ : ∃ x, cutBytes a at_ (R : Int) l = x := ⟨_, rfl⟩
  obtain ⟨P, eP⟩ : ∃ x, part.length = x := ⟨_, rfl⟩
  rw [ef] at hi1
  rw [ep] at hi2 hi3 hi4
  rw [eP] at hi2
  have HCut2 := Lib.hid (fun k : Nat => (show Calls Try.prog 24 #[.int .u32 a, .slice A n c, .int .u32 at_, .int .u32 (R : Int)] (w.drewN k) (fun e w' => ∃ A2 c2, e = .returned (.tuple #[.int .u32 first, .slice A2 P c2]) ∧ Rd w' A2 P part ∧ Below w.heap.size w w') from (HCut.out k).mono (by
    rintro e w' ⟨A2, c2, he, -, hr, hb⟩
    rw [ep, eP] at hr
    rw [ef, ep, eP] at he
    exact ⟨A2, c2, he, hr, ((But.refl (fun _ => False) w).drewN k |>.trans (But.of hb)).old (fun _ h => h.elim)⟩)))
  have hw32 := w32R R (by omega)
  have H := Lib.hid h
  have Hx := Lib.hid (And.intro hrm (And.intro eR (And.intro eP (And.intro hi2 (And.intro hi3 (And.intro hi4 hh))))))
  have Ha2 : Hid ((i : Int) = sAhead at_ first) := Lib.hid hi1.symm
  have Hat := Lib.hid hat
  clear h hat hh hl hn hnc hrm hi1 hi2 hi3 hi4 HCut eR ef ep eP
  go_enter Try.func11, Try.ntmps11
  go_wp2_with (first | (go_at_call 23; refine HNo.out.mono ?_; rintro e w' ⟨rfl, rfl⟩) | (go_at_call 16; refine HNx.out.mono ?_; rintro e w' ⟨rfl, rfl⟩) | (go_at_call 17; refine HRo.out.mono ?_; rintro e w' ⟨rfl, k, rfl⟩))
  refine (HCut2.out k).mono ?_
  rintro e w2 ⟨A2, c2, rfl, hr2, hb2⟩
  have HM2 := Lib.hid (H.out.on hb2)
  have HB2 := Lib.hid hb2
  have HR2 := Lib.hid hr2
  clear hw32 hr2 hb2
  go_wp2_with fail
  have k2 := HM2.out.k2
  have k2d : w2.drew.cell? ⟨g, 2, none⟩ = some (.int .i64 (nx : Int)) := k2
  have Hn2 := Lib.hid (next_mem (show RMem w2.drew S g m nx st L from HM2.out.drewN 1) at_ Hat.out)
  obtain ⟨B, eB⟩ : ∃ B, nx + i = B := ⟨_, rfl⟩
  obtain ⟨E, eE⟩ : ∃ E, B + P = E := ⟨_, rfl⟩
  obtain ⟨hrm, eR, eP, hi2, hi3, hi4, hh⟩ := Hx.out
  have hz1 : IntKind.i64.wrap ((nx : Int) + (i : Int)) = (B : Int) := by rw [IntKind.wrap_i64]; omega
  have hz0 : IntKind.i64.wrap (i : Int) = (i : Int) := by rw [IntKind.wrap_i64]; omega
  have hz2 : Hid (wrap64 ((B : Int) + (P : Int)) = (E : Int)) := Lib.hid (by rw [IntWalk.wrap64_in _ (by omega)]; omega)
  have HBE := Lib.hid (show B = nx + i ∧ E = nx + (i + P) from ⟨eB.symm, by omega⟩)
  have hfull := full_is (i := i) (j := i + P) (part := part) (L := L) (by rw [eP]) (by omega) hi4 hh
  have HFull := Lib.hid hfull
  clear hrm eR eP hi2 hi3 hi4 hh eB eE hfull k2
  refine wp_region_held_drew (S := fun w' => w'.cell? ⟨g, 2, none⟩ = some (.int .i64 (nx : Int))) (by kernel_rfl) (by exact k2d) (fun hHeld => ?_)
  refine tk 0 ?_ rfl ?_ ?_
  rotate_left
  · intro w' hSw; (go_simp <;> (with_reducible rfl))
  try simp only [Act.put, putL]
  refine tk 1 ?_ rfl ?_ ?_
  rotate_left
  · intro w' hSw; (go_simp <;> (with_reducible rfl))
  try simp only [Act.put, putL]
  refine tk 2 ?_ rfl ?_ ?_
  rotate_left
  · intro w' hSw; (go_simp <;> (with_reducible rfl))
  try simp only [Act.put, putL]
  refine tk 3 ?_ rfl ?_ ?_
  rotate_left
  · intro w' hSw; (go_simp <;> (with_reducible rfl))
  try simp only [Act.put, putL]
  refine tk 4 ?_ rfl ?_ ?_
  rotate_left
  · intro w' hSw; (go_simp <;> (with_reducible rfl))
  try simp only [Act.put, putL]
  refine tk 6 ?_ rfl ?_ ?_
  rotate_left
  · intro w' hSw; (go_simp <;> (with_reducible rfl))
  try simp only [Act.put, putL]
  refine tkC 5 rfl (fun K hK => ?_)
  go_simp
  refine Hn2.out.mono ?_; rintro e w' ⟨rfl, rfl⟩
  refine hK.out _ _ ?_ (fun hHeld => ?_)
  · exact k2d
  clear hK K
  try simp only [Act.put, putL]
  refine tkC 7 rfl (fun K hK => ?_)
  go_simp
  refine (ahead_is _ _ _ _ Ha2).mono ?_; rintro e w' ⟨rfl, rfl⟩
  refine hK.out _ _ ?_ (fun hHeld => ?_)
  · exact k2d
  clear hK K
  try simp only [Act.put, putL]
  refine tk 8 ?_ rfl ?_ ?_
  rotate_left
  · intro w' hSw; (go_simp <;> (with_reducible rfl))
  try simp only [Act.put, putL]
  refine tk 9 ?_ rfl ?_ ?_
  rotate_left
  · intro w' hSw; (go_simp <;> (with_reducible rfl))
  try simp only [Act.put, putL]
  refine tk 10 ?_ rfl ?_ ?_
  rotate_left
  · intro w' hSw; (go_simp <;> (with_reducible rfl))
  try simp only [Act.put, putL]
  refine wpAnyH_done (by kernel_rfl) ?_ _
  clear hHeld k2d hz1 hz0
  have HM3 := Lib.hid (show RMem w2.drew S g m nx st L from HM2.out.drewN 1)
  have HR3 := Lib.hid (show Rd w2.drew A2 P part from HR2.out.but ((But.refl (fun _ => False) w2).drew) (fun _ _ _ _ h => h))
  have HB3 := Lib.hid (show Below w.heap.size w w2.drew from HB2.out.drew)
  obtain ⟨w3, ew3⟩ : ∃ w3, w2.drew = w3 := ⟨_, rfl⟩
  rw [ew3] at HM3 HR3 HB3 ⊢
  clear HM2 HR2 HB2 Hn2 ew3
  -- what lay leaves
  have HLay := Lib.hid (fun W (hW : Below w3.heap.size w3 W) => by
    obtain ⟨hrm, eR, eP, hi2, hi3, hi4, hh⟩ := Hx.out
    exact lay_mem S g m nx i B P c2 st L _ A2 part W (HM3.out.on hW) HBE.out.1 (HR3.out.but (But.of (S := fun _ => False) hW) (fun _ _ _ _ h => h)) (by omega) rfl _ (fresh_is (i : Int) part L))
  have HDone := Lib.hid (fun (hf : ¬ fullB (i : Int) part L = true) W (hW : Below w3.heap.size w3 W) W' (hM : RMem W' S g m nx st (putB (i : Int) part L)) (hB : But (fun b => b = m) W W') =>
    (show BDoes RmAt S g at_ (putQ (diffB a at_) l L) (.tuple #[.int .i64 (putN (diffB a at_) l L : Nat), .int .i64 (putE (diffB a at_) l L)]) w (.returned (.tuple #[.int .i64 ((freshB (i : Int) part L : Nat) : Int), .int .i64 0])) W' from by
      obtain ⟨hrm, eR, eP, hi2, hi3, hi4, hh⟩ := Hx.out
      have e1 : fullB (diffB a at_) l L = fullB (i : Int) part L := by unfold fullB; rw [hi3]
      have e2 : freshB (diffB a at_) l L = freshB (i : Int) part L := by unfold freshB; rw [hi3]
      unfold putQ putN putE
      rw [e1, if_neg hf, if_neg hf, if_neg hf, e2, hi3]
      refine ⟨rfl, S, ⟨m, nx, st, hM, Hat.out, ?_⟩, ?_, fun k hk => .inl hk⟩
      · unfold fullB at hf
        simpa using hf
      · refine (But.of HB3.out).trans ((But.of hW).trans (hB.mono (fun k _ hk => by rw [show k = m from hk]; exact H.out.sm)))))
  by_cases ha : Alone L i (i + P)
  · have HAl := Lib.hid (alone_any HM3.out i (i + P) B E HBE.out.1 HBE.out.2 (by omega) (by have := Hx.out; omega) true ⟨fun _ => ha, fun _ => rfl⟩)
    have HHe := Lib.hid (held_mem w3 S g m nx st at_ L HM3.out Hat.out)
    have hz2 := hz2.out
    go_wp2_with (go_at_call 26; refine HAl.out.mono ?_; rintro e w' ⟨rfl, rfl⟩)
    refine HHe.out.mono ?_
    rintro e w4 ⟨p, q, v, rfl, HP⟩
    obtain ⟨A4, c4, rfl⟩ := HP.sl.form
    obtain ⟨k4, ek4⟩ : ∃ k4, (heldI at_ L).length = k4 := ⟨_, rfl⟩
    rw [ek4] at HP ⊢
    have hk4 : k4 = (heldB L).length := by rw [← ek4]; unfold heldI; rw [List.length_map]
    have Hk4 := Lib.hid hk4
    have HP := Lib.hid HP
    clear ek4 hk4
    by_cases h16 : k4 = 16
    · subst h16
      have HE := Lib.hid (show BDoes RmAt S g at_ (putQ (diffB a at_) l L) (.tuple #[.int .i64 (putN (diffB a at_) l L : Nat), .int .i64 (putE (diffB a at_) l L)]) w (.returned (.tuple #[.int .i64 0, .int .i64 7])) w4 from by
        obtain ⟨hrm, eR, eP, hi2, hi3, hi4, hh⟩ := Hx.out
        have hf : fullB (i : Int) part L = true := HFull.out.2 ⟨ha, Hk4.out.symm⟩
        have e1 : fullB (diffB a at_) l L = fullB (i : Int) part L := by unfold fullB; rw [hi3]
        unfold putQ putN putE
        rw [e1, if_pos hf, if_pos hf, if_pos hf]
        exact ⟨rfl, S, ⟨m, nx, st, HP.out.mem, Hat.out, hh⟩, (But.of HB3.out).trans (But.of HP.out.old), fun k hk => .inl hk⟩)
      clear ha
      go_wp2_with fail
      go_ret2
      exact HE.out
    · have hne : ((k4 : Int) == 16) = false := by rw [beq_eq_false_iff_ne]; omega
      have hne2 : (k4 == 16) = false := by rw [beq_eq_false_iff_ne]; omega
      have hf : ¬ fullB (i : Int) part L = true := fun e => h16 (by rw [Hk4.out]; exact (HFull.out.1 e).2)
      have HD := Lib.hid (HDone.out hf w4 HP.out.old)
      have HL := Lib.hid (HLay.out w4 HP.out.old)
      clear ha hf h16
      go_wp2_with fail
      refine HL.out.mono ?_
      rintro e w5 ⟨rfl, hM5, hB5⟩
      have HE := Lib.hid (HD.out w5 hM5 hB5)
      clear hM5 hB5
      go_wp2_with fail
      go_ret2
      exact HE.out
  · have HAl := Lib.hid (alone_any HM3.out i (i + P) B E HBE.out.1 HBE.out.2 (by omega) (by have := Hx.out; omega) false ⟨fun e => (by cases e), fun e => absurd e ha⟩)
    have hz2 := hz2.out
    have hf : ¬ fullB (i : Int) part L = true := fun e => ha (HFull.out.1 e).1
    have HD := Lib.hid (HDone.out hf w3 (Below.refl _ _))
    have HL := Lib.hid (HLay.out w3 (Below.refl _ _))
    clear ha hf
    go_wp2_with (go_at_call 26; refine HAl.out.mono ?_; rintro e w' ⟨rfl, rfl⟩)
    refine HL.out.mono ?_
    rintro e w5 ⟨rfl, hM5, hB5⟩
    have HE := Lib.hid (HD.out w5 hM5 hB5)
    clear hM5 hB5
    go_wp2_with fail
    go_ret2
    exact HE.out
end Go.Proofs.Ytmmnicnebammhaa
