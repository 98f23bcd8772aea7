/-
  The chapter's rows (wakes): true. And the contracts of Sum, Field and Right at parts that the walk itself has laid.
-/
import Derived.Test.YtghpndcninbniaaSumAny
namespace Go.Proofs.Ytghpndcninbniaa
open Go.RowKit

theorem getD_of_lt {α : Type} (l : List α) (i : Nat) (d : α) (h : i < l.length) : l.getD i d = l[i] := by simp [List.getD, List.getElem?_eq_getElem h]
/-- A row of parts that the walk has just laid. -/
theorem RdL.row (w : World) (g : Nat) (hg : w.heap.size = g) (t : TypeId) (fr : Nat × Nat) (vs : List Value) (ls : List (List Int))
    (h : ∀ i, i < ls.length → ∃ Ai ci, vs[i]? = some (.slice Ai (ls.getD i []).length ci) ∧ (ls.getD i []).length ≤ ci ∧ ci ≤ maxLen ∧ Rd w Ai (ls.getD i []).length (ls.getD i [])) :
    RdL (w.alloc (.cells vs.toArray t fr)) (some ⟨g, 0, none⟩) ls.length ls := by
  subst hg
  refine ⟨rfl, fun _ => ⟨w.heap.size, 0, rfl, by simp, fun i hi => ?_⟩⟩
  obtain ⟨Ai, ci, h1, h2, h3, h4⟩ := h i hi
  refine ⟨Ai, ci, ?_, h2, h3, h4.below ((Below.refl _ _).alloc (Nat.le_refl _) _)⟩
  rw [World.cell?_alloc_mark]
  simpa using h1
theorem RdL.one (w : World) (g : Nat) (hg : w.heap.size = g) (t : TypeId) (fr : Nat × Nat) (A : Option Addr) (n c : Nat) (l : List Int) (h : Rd w A n l) (hc : n ≤ c) (hm : c ≤ maxLen) : RdL (w.alloc (.cells #[.slice A n c] t fr)) (some ⟨g, 0, none⟩) 1 [l] := by
  have := h.len
  subst this
  refine RdL.row w g hg t fr [.slice A l.length c] [l] (fun i hi => ?_)
  have : i = 0 := by simp at hi; exact hi
  subst this
  exact ⟨A, c, rfl, hc, hm, h⟩
theorem RdL.two (w : World) (g : Nat) (hg : w.heap.size = g) (t : TypeId) (fr : Nat × Nat) (A A' : Option Addr) (n n' c c' : Nat) (l l' : List Int) (h : Rd w A n l) (hc : n ≤ c) (hm : c ≤ maxLen) (h' : Rd w A' n' l') (hc' : n' ≤ c') (hm' : c' ≤ maxLen) :
    RdL (w.alloc (.cells #[.slice A n c, .slice A' n' c'] t fr)) (some ⟨g, 0, none⟩) 2 [l, l'] := by
  have := h.len
  subst this
  have := h'.len
  subst this
  refine RdL.row w g hg t fr [.slice A l.length c, .slice A' l'.length c'] [l, l'] (fun i hi => ?_)
  simp at hi
  rcases Nat.lt_or_ge i 1 with h0 | h0
  · have : i = 0 := by omega
    subst this
    exact ⟨A, c, rfl, hc, hm, h⟩
  · have : i = 1 := by omega
    subst this
    exact ⟨A', c', rfl, hc', hm', h'⟩

theorem sum_told (A : Option Addr) (n c : Nat) (ls : List (List Int)) (w : World) (x : Int) (hn : n ≤ 9223372036854775807) (h : RdL w A n ls) (hx : sumL ls.flatten = x) :
    Calls Try.prog 11 #[.slice A n c] w (SumIs x w) := by subst hx; exact sum_any A n c ls w hn h
theorem field_told (A : Option Addr) (n c : Nat) (ls : List (List Int)) (w : World) (x : Int) (hn : n ≤ 9223372036854775807) (h : RdL w A n ls) (hx : 65535 - sumL ls.flatten = x) :
    Calls Try.prog 13 #[.slice A n c] w (SumIs x w) := by subst hx; exact field_any A n c ls w hn h
theorem right_told (A : Option Addr) (n c : Nat) (ls : List (List Int)) (w : World) (x : Bool) (hn : n ≤ 9223372036854775807) (h : RdL w A n ls) (hx : (sumL ls.flatten == 65535) = x) :
    Calls Try.prog 15 #[.slice A n c] w (BoolIs x w) := by subst hx; exact right_any A n c ls w hn h

theorem word_told (f a b x : Int) (w : World) (hf : U16 f) (ha : U16 a) (hb : U16 b) (hx : wordF f a b = x) :
    Calls Try.prog 17 #[.int .u16 f, .int .u16 a, .int .u16 b] w fun e w' => e = .returned (.int .u16 x) ∧ w = w' := by subst hx; exact word_any f a b w hf ha hb

set_option maxHeartbeats 2000000 in
theorem wakes_any (w : World) : Calls Try.prog 16 #[] w (Woke w) := by
  have hB0 : Below w.heap.size w w := Below.refl _ _
  go_enter Try.func16, Try.ntmps16
  go_wp2_with fail
  refine (sum_told _ 1 1 [[0, 1, 242, 3, 244, 245, 246, 247]] _ 56818 (by omega) (RdL.one _ _ (by simp) _ _ _ 8 8 _ (Rd.const_ w _ rfl [0, 1, 242, 3, 244, 245, 246, 247] _ _ (by decide)) (by omega) (by simp [maxLen])) (by decide)).mono ?_
  rintro e w1 ⟨rfl, hb⟩
  have hr : Rd w1 (some ⟨w.heap.size, 0, none⟩) 8 [0, 1, 242, 3, 244, 245, 246, 247] := (Rd.const w [0, 1, 242, 3, 244, 245, 246, 247] _ _ (by decide)).below (((Below.refl _ _).alloc (Nat.le_refl _) _).trans (hb.mono (by simp)))
  have hB0 := below_trans ((hB0.alloc (by have := hB0.size; simp <;> omega) _).alloc (by have := hB0.size; simp <;> omega) _) hb
  clear hb
  go_wp2_with fail
  refine (field_told _ 1 1 [[0, 1, 242, 3, 244, 245, 246, 247]] _ 8717 (by omega) (RdL.one _ _ (by simp) _ _ _ 8 8 _ hr (by omega) (by simp [maxLen])) (by decide)).mono ?_
  rintro e w2 ⟨rfl, hb⟩
  have hB0 := below_trans (hB0.alloc (by have := hB0.size; simp <;> omega) _) hb
  clear hb
  clear hr
  go_wp2_with fail
  refine (sum_told _ 1 1 [[255, 255, 0, 1]] _ 1 (by omega) (RdL.one _ _ (by simp) _ _ _ 4 4 _ (Rd.const_ _ _ (by simp) [255, 255, 0, 1] _ _ (by decide)) (by omega) (by simp [maxLen])) (by decide)).mono ?_
  rintro e w3 ⟨rfl, hb⟩
  have hB0 := below_trans ((hB0.alloc (by have := hB0.size; simp <;> omega) _).alloc (by have := hB0.size; simp <;> omega) _) hb
  clear hb
  go_wp2_with fail
  refine (sum_told _ 1 1 [[171]] _ 43776 (by omega) (RdL.one _ _ (by simp) _ _ _ 1 1 _ (Rd.const_ _ _ (by simp) [171] _ _ (by decide)) (by omega) (by simp [maxLen])) (by decide)).mono ?_
  rintro e w4 ⟨rfl, hb⟩
  have hB0 := below_trans ((hB0.alloc (by have := hB0.size; simp <;> omega) _).alloc (by have := hB0.size; simp <;> omega) _) hb
  clear hb
  go_wp2_with fail
  refine (sum_told _ 2 2 [[171], [205]] _ 43981 (by omega) (RdL.two _ _ (by simp) _ _ _ _ 1 1 1 1 _ _ ((Rd.const_ _ _ (by simp) [171] _ _ (by decide)).below ((Below.refl _ _).alloc (Nat.le_refl _) _)) (by omega) (by simp [maxLen]) (Rd.const_ _ _ (by simp) [205] _ _ (by decide)) (by omega) (by simp [maxLen])) (by decide)).mono ?_
  rintro e w5 ⟨rfl, hb⟩
  have hB0 := below_trans (((hB0.alloc (by have := hB0.size; simp <;> omega) _).alloc (by have := hB0.size; simp <;> omega) _).alloc (by have := hB0.size; simp <;> omega) _) hb
  clear hb
  go_wp2_with fail
  refine (word_told 56623 21845 12933 0 _ (by unfold U16; omega) (by unfold U16; omega) (by unfold U16; omega) (by decide)).mono ?_
  rintro e w' ⟨rfl, rfl⟩
  go_wp2_with fail
  refine (right_told _ 1 1 [[255, 255]] _ true (by omega) (RdL.one _ _ (by simp) _ _ _ 2 2 _ (Rd.const_ _ _ (by simp) [255, 255] _ _ (by decide)) (by omega) (by simp [maxLen])) (by decide)).mono ?_
  rintro e w6 ⟨rfl, hb⟩
  have hB0 := below_trans ((hB0.alloc (by have := hB0.size; simp <;> omega) _).alloc (by have := hB0.size; simp <;> omega) _) hb
  clear hb
  go_wp2_with fail
  refine (right_told _ 1 1 [[0, 0]] _ false (by omega) (RdL.one _ _ (by simp) _ _ _ 2 2 _ (Rd.const_ _ _ (by simp) [0, 0] _ _ (by decide)) (by omega) (by simp [maxLen])) (by decide)).mono ?_
  rintro e w7 ⟨rfl, hb⟩
  have hB0 := below_trans ((hB0.alloc (by have := hB0.size; simp <;> omega) _).alloc (by have := hB0.size; simp <;> omega) _) hb
  clear hb
  go_wp2_with fail
  refine (right_told _ 1 1 [[18, 52, 237, 203]] _ true (by omega) (RdL.one _ _ (by simp) _ _ _ 4 4 _ (Rd.const_ _ _ (by simp) [18, 52, 237, 203] _ _ (by decide)) (by omega) (by simp [maxLen])) (by decide)).mono ?_
  rintro e w8 ⟨rfl, hb⟩
  have hB0 := below_trans ((hB0.alloc (by have := hB0.size; simp <;> omega) _).alloc (by have := hB0.size; simp <;> omega) _) hb
  clear hb
  go_wp2_with fail
  go_ret
  exact ⟨rfl, hB0⟩

end Go.Proofs.Ytghpndcninbniaa
