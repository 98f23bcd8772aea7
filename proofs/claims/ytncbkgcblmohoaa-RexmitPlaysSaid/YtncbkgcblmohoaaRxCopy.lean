/-
  Several buffers: one of them copied.
-/
import Derived.Test.YtncbkgcblmohoaaRxMany
namespace Go.Proofs.Ytncbkgcblmohoaa
set_option maxRecDepth 10000
open Go.RowKit
set_option linter.unusedSimpArgs false
set_option linter.unusedVariables false
variable {XAt : XA}
open Classical in
theorem manyx_copy (F : XFace XAt) {Z : Nat → Prop} {w : World} {ws : MX} (h : ManyX XAt Z w ws) {i g : Nat} {s : XS} (hi : ws[i]? = some (g, s)) : ∃ S, XAt w S g s ∧ ∀ (g2 : Nat) (w' : World) (S1 S2 : Nat → Prop), XAt w' S1 g s → XAt w' S2 g2 s → But S w w' → (∀ k, S1 k → S k ∨ w.heap.size ≤ k) → (∀ k, S2 k → w.heap.size ≤ k) → (∀ k, S1 k → ¬ S2 k) →
    ManyX XAt Z w' (ws ++ [(g2, s)]) ∧ But (fun k => ¬ Z k) w w' := by
  obtain ⟨h1, own, h2⟩ := h
  obtain ⟨S, hS, hd⟩ := h2 i g s hi
  have hil := (List.getElem?_eq_some_iff.1 hi).1
  refine ⟨S, hS, fun g2 w' S1 S2 a1 a2 hB b1 b2 b3 => ⟨⟨fun k hk => hB.lt (h1 k hk), fun k => if k < w.heap.size then own k else if S2 k then ws.length else i, fun j g3 s3 hj => ?_⟩, hB.mono (fun k _ hk => (hd k hk).1)⟩⟩
  by_cases e : j < ws.length
  · rw [List.getElem?_append_left e] at hj
    by_cases e2 : j = i
    · subst e2
      rw [hi] at hj
      injection hj with hj
      injection hj with e1 e2
      subst e1; subst e2
      refine ⟨S1, a1, fun k hk => ?_⟩
      rcases b1 k hk with h3 | h3
      · have h4 := F.lt hS k h3
        exact ⟨(hd k h3).1, (if_pos h4).trans (hd k h3).2⟩
      · exact ⟨fun e => by have := h1 k e; omega, (if_neg (by omega)).trans (if_neg (b3 k hk))⟩
    · obtain ⟨S3, hS3, hd3⟩ := h2 j g3 s3 hj
      have hl := F.lt hS3
      exact ⟨S3, F.but hS3 hB (fun k hk hk2 => e2 (by rw [← (hd3 k hk).2, (hd k hk2).2])), fun k hk => ⟨(hd3 k hk).1, (if_pos (hl k hk)).trans (hd3 k hk).2⟩⟩
  · have hjl : j < (ws ++ [(g2, s)]).length := (List.getElem?_eq_some_iff.1 hj).1
    simp only [List.length_append, List.length_cons, List.length_nil] at hjl
    obtain rfl : j = ws.length := by omega
    rw [List.getElem?_append_right (Nat.le_refl _), Nat.sub_self] at hj
    injection hj with hj
    injection hj with e1 e2
    subst e1; subst e2
    exact ⟨S2, a2, fun k hk => ⟨fun e2 => by have := h1 k e2; have := b2 k hk; omega, (if_neg (by have := b2 k hk; omega)).trans (if_pos hk)⟩⟩
theorem ycopy (F : XFace XAt) (Z : Nat → Prop) (i g : Nat) (s : XS) (ws : MX) (w0 w : World) (h : AtX XAt Z w0 ws w) (hi : ws[i]? = some (g, s)) :
    Calls Try.prog 24 #[.pointer (some ⟨g, 0, none⟩)] w (YMore XAt Z w0 ws ptrX s w) := by
  obtain ⟨S, hS, hk⟩ := manyx_copy F h.many hi
  refine (F.copy_ S g s w hS).mono ?_
  rintro e w' ⟨g2, S1, S2, rfl, a1, a2, hB, b1, b2, b3⟩
  obtain ⟨m1, m2⟩ := hk g2 w' S1 S2 a1 a2 hB b1 b2 b3
  exact ⟨g2, rfl, ⟨m1, belX m2 h.base h.old, h.old⟩, m2⟩
end Go.Proofs.Ytncbkgcblmohoaa
