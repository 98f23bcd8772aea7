/-
  The contract of package table's makeRoom.
-/
import Derived.Test.YtnhlbohdlnjaaaaTbDrop
namespace Go.Proofs.Ytnhlbohdlnjaaaa
set_option maxRecDepth 10000
open Go.RowKit
set_option linter.unusedSimpArgs false
set_option linter.unusedVariables false

section
variable (S : Nat → Prop) (g : Nat) (M last : Int) (L : TL) (mi mo : Nat) (u : Value) (KI : Tu → Prop) (RI : Tu → Value) (KO : Tu → Prop) (RO : Tu → Value) (w : World) (h : TMem w S g M last L mi mo u KI RI KO RO)
include h
theorem room_yes (hn : (L.length : Int) < M) : Calls Try.prog 37 #[.pointer (some ⟨g, 0, none⟩)] w (QuietT (.tuple #[.int .u64 0, .int .i64 0]) w) := by
  obtain ⟨A, c, ev⟩ := h.row.form
  have k5 := h.k5
  have k1 := h.k1
  rw [ev] at k5
  have hlt : decide ((L.length : Int) < M) = true := decide_eq_true hn
  clear h ev
  go_enter Try.func37, Try.ntmps37
  go_wp2_with fail
  go_quiet (fail)
  go_wp2_with fail
  go_ret2
  exact ⟨rfl, nq, rfl⟩
theorem room_full (hn : ¬ (L.length : Int) < M) (hL : L.length ≤ 1000000) (he : emF L = none) : Calls Try.prog 37 #[.pointer (some ⟨g, 0, none⟩)] w (QuietT (.tuple #[.int .u64 0, .int .i64 7]) w) := by
  obtain ⟨A, c, ev⟩ := h.row.form
  have k5 := h.k5
  have k1 := h.k1
  have hr := h.row
  rw [ev] at k5 hr
  have hlt : decide ((L.length : Int) < M) = false := decide_eq_false hn
  have Hf := Lib.hid (fun k => find_em g L.length c A L 0 false (w.drewN k) k5 (hr.but (S := fun _ => False) ((But.refl _ _).drewN k) (fun _ _ h => h)) rfl hL (by rw [he]; rfl))
  clear h ev hr he
  go_enter Try.func37, Try.ntmps37
  go_wp2_with fail
  go_quiet (fail)
  go_wp2_with fail
  refine (Hf.out _).mono ?_
  rintro e w1 ⟨rfl, q, rfl⟩
  go_wp2_with fail
  go_ret2
  exact ⟨rfl, nq + q, by first | rfl | rw [World.drewN_drewN]⟩
set_option maxHeartbeats 1000000 in
theorem room_goes (k : Nat) (hn : ¬ (L.length : Int) < M) (hL : L.length ≤ 1000000) (he : emF L = some k) : Calls Try.prog 37 #[.pointer (some ⟨g, 0, none⟩)] w
    (DropsM S g M last (L.eraseIdx k) mi mo (fun a => a ≠ (L.getD k f0).i ∧ KI a) RI (fun a => a ≠ (L.getD k f0).o ∧ KO a) RO (.tuple #[.int .u64 (L.getD k f0).id, .int .i64 0]) w) := by
  have hk := (emF_some he).1
  obtain ⟨A, c, ev⟩ := h.row.form
  have k5 := h.k5
  have k1 := h.k1
  have hr := h.row
  rw [ev] at k5 hr
  have hlt : decide ((L.length : Int) < M) = false := decide_eq_false hn
  have Hf := Lib.hid (fun k2 => find_em g L.length c A L (k : Int) true (w.drewN k2) k5 (hr.but (S := fun _ => False) ((But.refl _ _).drewN k2) (fun _ _ h => h)) rfl hL (by rw [he]; rfl))
  obtain ⟨gu, o, rfl, hidx, hfl, hgu⟩ := fl_index_t hr rfl hk
  have Hd := Lib.hid (fun k2 => drop_any S g M last L mi mo k u KI RI KO RO (w.drewN k2) (h.drewN k2) hk hL)
  have H := Lib.hid h
  obtain ⟨p, ep⟩ : ∃ p, o + k * 12 = p := ⟨_, rfl⟩
  rw [ep] at hidx hfl
  obtain ⟨f, ef⟩ : ∃ f, L.getD k f0 = f := ⟨_, rfl⟩
  rw [ef] at hfl Hd ⊢
  have c0 : ∀ k2, (w.drewN k2).cell? ⟨gu, p, none⟩ = some (.int .u64 f.id) := fun _ => hfl.c0
  have e5 : ∀ k2, (w.drewN k2).cell? ⟨g, 5, none⟩ = some (.slice (some ⟨gu, o, none⟩) L.length c) := fun _ => k5
  have i0 : (0 : Int) ≤ (k : Int) := by omega
  have i1 : (k : Int) < (L.length : Int) := by omega
  clear h ev hr he hfl ef ep
  go_enter Try.func37, Try.ntmps37
  go_wp2_with fail
  go_quiet (fail)
  go_wp2_with fail
  refine (Hf.out _).mono ?_
  rintro e w1 ⟨rfl, q, rfl⟩
  obtain ⟨m, em⟩ : ∃ m, (w.drewN nq).drewN q = w.drewN m := ⟨nq + q, by first | rfl | rw [World.drewN_drewN]⟩
  have d0 := c0 m
  have d5 := e5 m
  obtain ⟨w2, ew2⟩ : ∃ w2, w.drewN m = w2 := ⟨_, rfl⟩
  have Hd2 := Lib.hid (Hd.out m)
  have hB2 : But S w w2 := by rw [← ew2]; exact (But.refl S w).drewN m
  have em2 : w.drewN (nq + q) = w2 := by rw [← ew2, ← em]; first | rfl | rw [World.drewN_drewN]
  rw [ew2] at d0 d5 Hd2 em
  have Em := Lib.hid em
  have Em2 := Lib.hid em2
  have HB2 := Lib.hid hB2
  clear c0 e5 k5 k1 em em2 hB2 ew2
  try rw [Em.out]
  try rw [Em2.out]
  go_wp2_with fail
  refine Hd2.out.mono ?_
  rintro e w3 ⟨rfl, S3, u3, hM, hB, hS⟩
  have HF := Lib.hid (show DropsM S g M last (L.eraseIdx k) mi mo (fun a => a ≠ f.i ∧ KI a) RI (fun a => a ≠ f.o ∧ KO a) RO (.tuple #[.int .u64 f.id, .int .i64 0]) w (.returned (.tuple #[.int .u64 f.id, .int .i64 0])) w3 from
    ⟨rfl, S3, u3, hM, HB2.out.trans hB, fun b hb => by
      have := HB2.out.size
      rcases hS b hb with e | e
      · exact .inl e
      · exact .inr (by omega)⟩)
  clear hM hB hS
  go_wp2_with fail
  go_ret2
  exact HF.out
end
end Go.Proofs.Ytnhlbohdlnjaaaa
