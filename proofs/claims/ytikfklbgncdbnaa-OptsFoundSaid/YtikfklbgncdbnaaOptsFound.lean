/-
  OptsFound holds: what a With tells is found by its call, behind options of other kinds; Without the kind it is not; what is found first counts.
-/
import Derived.Test.YtikfklbgncdbnaaOptLaw
namespace Go.Proofs.Ytikfklbgncdbnaa.optsFound
set_option maxRecDepth 10000
open Go.ChangeShapes Go.WideShapes Go.ChangeAt Go.RowKit
set_option linter.unusedVariables false
set_option linter.unusedSimpArgs false

/-- Without the kinds 2 to 2 + t - 1. -/
def wo (f : List (Int × List Int)) : Nat → List (Int × List Int)
  | 0 => f
  | t + 1 => withoutL (2 + (t : Int)) (wo f t)
theorem wo_sub (f : List (Int × List Int)) : ∀ t, ∀ l ∈ wo f t, l ∈ f
  | 0, l, h => h
  | t + 1, l, h => wo_sub f t l (List.mem_filter.1 h).1
theorem wo_kind (f : List (Int × List Int)) : ∀ t, ∀ l ∈ wo f t, ∀ i : Nat, i < t → l.1 ≠ 2 + (i : Int)
  | t + 1, l, h, i, hi => by
    have h2 := List.mem_filter.1 h
    by_cases e : i = t
    · subst e; simpa using h2.2
    · exact wo_kind f t l h2.1 i (by omega)
theorem wo_len (f : List (Int × List Int)) : ∀ t, (wo f t).length ≤ f.length
  | 0 => Nat.le_refl _
  | t + 1 => Nat.le_trans (withoutL_le _ _) (wo_len f t)

/-- What is laid behind options of other kinds. -/
def rowM (g : List (Int × List Int)) (n s n1 : Int) (z : List (Int × List Int)) : List (Int × List Int) := g ++ ([(2, be16 n), (3, [s]), (4, []), (2, be16 n1)] ++ z)
def sackZ (bl : List (Int × Int)) : List (Int × List Int) := if bl = [] then [] else [(5, blkBytes bl)]
theorem beN_be4 {x : Int} (hx : 0 ≤ x ∧ x < 4294967296) : beN (be4 x) = x := by
  simp [beN, be4]
  omega
theorem drop_blk : ∀ (bl : List (Int × Int)) (t : Nat), (blkBytes bl).drop (8 * t) = blkBytes (bl.drop t)
  | bl, 0 => by simp
  | [], t + 1 => by simp [blkBytes]
  | p :: bl, t + 1 => by
    have e : blkBytes (p :: bl) = (be4 p.1 ++ be4 p.2) ++ blkBytes bl := by simp [blkBytes]
    have e8 : (be4 p.1 ++ be4 p.2).length = 8 := by simp [be4]
    rw [e, show 8 * (t + 1) = 8 + 8 * t by omega, ← List.drop_drop, List.drop_left' e8, drop_blk bl t]
    rfl
theorem pairs_blk (bl : List (Int × Int)) : ∀ (t : Nat), (∀ p ∈ bl, U32P p) → t ≤ bl.length → pairsOf t (blkBytes bl) = bl.take t
  | 0, _, _ => rfl
  | t + 1, hb, ht => by
    have hlt : t < bl.length := by omega
    have ih := pairs_blk bl t hb (by omega)
    have ed : bl.drop t = bl.getD t (0, 0) :: bl.drop (t + 1) := by rw [List.drop_eq_getElem_cons hlt]; simp [List.getD, List.getElem?_eq_getElem hlt]
    have hm : bl.getD t (0, 0) ∈ bl := by simp only [List.getD, List.getElem?_eq_getElem hlt, Option.getD_some]; exact List.getElem_mem _
    have hu := hb _ hm
    have e4 : ∀ x : Int, (be4 x).length = 4 := fun x => by simp [be4]
    have h1 : ((blkBytes bl).drop (8 * t)).take 4 = be4 (bl.getD t (0, 0)).1 := by
      rw [drop_blk, ed, show blkBytes (bl.getD t (0, 0) :: bl.drop (t + 1)) = be4 (bl.getD t (0, 0)).1 ++ (be4 (bl.getD t (0, 0)).2 ++ blkBytes (bl.drop (t + 1))) by simp [blkBytes], List.take_left' (e4 _)]
    have h2 : ((blkBytes bl).drop (8 * t + 4)).take 4 = be4 (bl.getD t (0, 0)).2 := by
      rw [← List.drop_drop, drop_blk, ed, show blkBytes (bl.getD t (0, 0) :: bl.drop (t + 1)) = be4 (bl.getD t (0, 0)).1 ++ (be4 (bl.getD t (0, 0)).2 ++ blkBytes (bl.drop (t + 1))) by simp [blkBytes], List.drop_left' (e4 _), List.take_left' (e4 _)]
    show pairsOf t (blkBytes bl) ++ [(beN (((blkBytes bl).drop (8 * t)).take 4), beN (((blkBytes bl).drop (8 * t + 4)).take 4))] = _
    rw [ih, h1, h2, beN_be4 hu.1, beN_be4 hu.2, take_snoc_ bl t (0, 0) hlt]
section
variable {g : List (Int × List Int)} {n s n1 : Int} {bl : List (Int × Int)} (hg : ∀ l ∈ g, l.1 ≠ 2 ∧ l.1 ≠ 3 ∧ l.1 ≠ 4 ∧ l.1 ≠ 5)
include hg
theorem g_none {p : Int × List Int → Bool} {k : Int} (hk : k = 2 ∨ k = 3 ∨ k = 4 ∨ k = 5) (hp : ∀ l, p l = true → l.1 = k) : g.find? p = none := by
  rw [List.find?_eq_none]
  intro l hl h
  have h1 := hp l h
  have h2 := hg l hl
  omega
theorem m_mss (hn : 0 ≤ n ∧ n < 65536) : mssL (rowM g n s n1 (sackZ bl)) = (n, true) := by
  unfold mssL rowM
  rw [List.find?_append, g_none hg (k := 2) (by omega) (fun l h => by unfold mssP at h; simp at h; exact h.1)]
  have h1 : mssP (2, be16 n) = true := by simp [mssP, be16]
  rw [List.cons_append, List.find?_cons_of_pos h1]
  simp [be16]
  omega
theorem m_scale (hs : 0 ≤ s ∧ s ≤ 14) : scaleL (rowM g n s n1 (sackZ bl)) = (s, true) := by
  unfold scaleL rowM
  rw [List.find?_append, g_none hg (k := 3) (by omega) (fun l h => by unfold scaleP at h; simp at h; exact h.1)]
  have h1 : ¬ scaleP (2, be16 n) = true := by simp [scaleP]
  have h2 : scaleP (3, [s]) = true := by simp [scaleP]
  rw [List.cons_append, List.find?_cons_of_neg h1, List.cons_append, List.find?_cons_of_pos h2]
  simp
  omega
theorem m_sack : sackL (rowM g n s n1 (sackZ bl)) = true := by
  unfold sackL rowM
  rw [List.find?_append, g_none hg (k := 4) (by omega) (fun l h => by unfold sackP at h; simp at h; exact h.1)]
  simp [sackP]
theorem m_sacks (hb : ∀ p ∈ bl, U32P p) (h4 : bl.length ≤ 4) : sacksL (rowM g n s n1 (sackZ bl)) = bl := by
  unfold sacksL rowM
  rw [List.find?_append, g_none hg (k := 5) (by omega) (fun l h => by unfold sacksP at h; simp at h; exact h.1)]
  have h1 : ¬ sacksP (2, be16 n) = true := by simp [sacksP]
  have h2 : ¬ sacksP (3, [s]) = true := by simp [sacksP]
  have h3 : ¬ sacksP (4, ([] : List Int)) = true := by simp [sacksP]
  have h5 : ¬ sacksP (2, be16 n1) = true := by simp [sacksP]
  simp only [List.cons_append, List.nil_append, List.find?_cons_of_neg h1, List.find?_cons_of_neg h2, List.find?_cons_of_neg h3, List.find?_cons_of_neg h5]
  unfold sackZ
  by_cases he : bl = []
  · rw [if_pos he, he]; rfl
  · rw [if_neg he]
    have hl : (blkBytes bl).length = 8 * bl.length := blkBytes_len bl
    have hne : bl.length ≠ 0 := by intro h; exact he (List.eq_nil_of_length_eq_zero h)
    have h6 : sacksP (5, blkBytes bl) = true := by
      show decide ((5 : Int) = 5 ∧ (blkBytes bl).length ≠ 0 ∧ (blkBytes bl).length % 8 = 0 ∧ (blkBytes bl).length ≤ 32) = true
      rw [hl, decide_eq_true_eq]
      exact ⟨rfl, by omega, by omega, by omega⟩
    rw [List.find?_cons_of_pos h6]
    simp only [Option.none_or, hl]
    have := pairs_blk bl bl.length hb (Nat.le_refl _)
    rw [List.take_length] at this
    rw [show 8 * bl.length / 8 = bl.length by omega]
    exact this
theorem m_back : withoutL 5 (withoutL 4 (withoutL 3 (withoutL 2 (rowM g n s n1 (sackZ bl))))) = g := by
  have hgk : ∀ k : Int, k = 2 ∨ k = 3 ∨ k = 4 ∨ k = 5 → withoutL k g = g := by
    intro k hk
    unfold withoutL
    rw [List.filter_eq_self]
    intro l hl
    have := hg l hl
    simp
    omega
  have happ : ∀ (k : Int) (a b : List (Int × List Int)), withoutL k (a ++ b) = withoutL k a ++ withoutL k b := fun k a b => List.filter_append ..
  unfold rowM
  rw [happ, happ, happ, happ, hgk 2 (by omega), hgk 3 (by omega), hgk 4 (by omega), hgk 5 (by omega)]
  have : withoutL 5 (withoutL 4 (withoutL 3 (withoutL 2 ([(2, be16 n), (3, [s]), (4, []), (2, be16 n1)] ++ sackZ bl)))) = [] := by
    unfold sackZ
    by_cases he : bl = []
    · rw [if_pos he]; simp [withoutL]
    · rw [if_neg he]; simp [withoutL]
  rw [this, List.append_nil]
end
theorem no_find {ls : List (Int × List Int)} {p : Int × List Int → Bool} {k : Int} (hp : ∀ l, p l = true → l.1 = k) : (withoutL k ls).find? p = none := by
  rw [List.find?_eq_none]
  intro l hl h
  have h2 := (List.mem_filter.1 hl).2
  have := hp l h
  simp [this] at h2
theorem m_lim {g : List (Int × List Int)} {n s n1 : Int} {bl : List (Int × Int)} (hg : ∀ l ∈ g, l.2.length ≤ 1000000) (hb : bl.length ≤ 4) : ∀ l ∈ rowM g n s n1 (sackZ bl), l.2.length ≤ 1000000 := by
  intro l hl
  unfold rowM sackZ at hl
  have hz : ∀ l ∈ (if bl = [] then [] else [((5 : Int), blkBytes bl)]), l.2.length ≤ 1000000 := by
    intro l hl
    split at hl
    · simp at hl
    · simp only [List.mem_singleton] at hl; subst hl; simp only [blkBytes_len]; omega
  rcases List.mem_append.1 hl with h | h
  · exact hg l h
  · rcases List.mem_append.1 h with h | h
    · simp at h; rcases h with rfl | rfl | rfl | rfl <;> simp [be16]
    · exact hz l h
theorem no_mss (ls : List (Int × List Int)) : mssL (withoutL 2 ls) = (0, false) := by
  unfold mssL; rw [no_find (k := 2) (fun l h => by unfold mssP at h; simp at h; exact h.1)]
theorem no_scale (ls : List (Int × List Int)) : scaleL (withoutL 3 ls) = (0, false) := by
  unfold scaleL; rw [no_find (k := 3) (fun l h => by unfold scaleP at h; simp at h; exact h.1)]
theorem no_sack (ls : List (Int × List Int)) : sackL (withoutL 4 ls) = false := by
  unfold sackL; rw [no_find (k := 4) (fun l h => by unfold sackP at h; simp at h; exact h.1)]; rfl
theorem no_sacks (ls : List (Int × List Int)) : sacksL (withoutL 5 ls) = [] := by
  unfold sacksL; rw [no_find (k := 5) (fun l h => by unfold sacksP at h; simp at h; exact h.1)]

theorem without_lo (A : Option Addr) (n c : Nat) (kind : Int) (os : List OptV) (ls : List (Int × List Int)) (w : World) (hn : n ≤ 1000000) (h : LO w A n os ls) (hlim : ∀ l ∈ ls, l.2.length ≤ 1000000) :
    Calls Try.prog 18 #[.slice A n c, .int .u8 kind] w (fun e w' => ∃ A' n' c' os', e = .returned (.slice A' n' c') ∧ n' ≤ 1000000 ∧ LO w' A' n' os' (withoutL kind ls) ∧ (∀ l ∈ withoutL kind ls, l.2.length ≤ 1000000) ∧ Below w.heap.size w w') :=
  (without_any A n c _ kind os ls w hn h.1 h.2 rfl hlim).mono fun e w' ⟨A', c', os', he, ho, hl, hb⟩ =>
    ⟨A', _, c', os', he, by have h1 := withoutL_le kind ls; have h2 := h.2.len; have h3 := h.1.len; omega, ⟨ho.rd, hl.reads⟩, fun l hl => hlim l (List.mem_filter.1 hl).1, hb⟩
theorem RdO.four (w : World) (g : Nat) (hg : w.heap.size = g) (t : TypeId) (fr : Nat × Nat) (k1 k2 k3 k4 : Int) (A1 A2 A3 A4 : Option Addr) (n1 c1 n2 c2 n3 c3 n4 c4 : Nat) :
    RdO (w.alloc (.cells #[.int .u8 k1, .slice A1 n1 c1, .int .u8 k2, .slice A2 n2 c2, .int .u8 k3, .slice A3 n3 c3, .int .u8 k4, .slice A4 n4 c4] t fr)) (some ⟨g, 0, Option.none⟩) 4 [⟨k1, A1, n1, c1⟩, ⟨k2, A2, n2, c2⟩, ⟨k3, A3, n3, c3⟩, ⟨k4, A4, n4, c4⟩] := by
  subst hg
  refine ⟨rfl, fun _ => ⟨w.heap.size, 0, rfl, by simp, fun i hi => ?_⟩⟩
  simp only [World.cell?_alloc_mark]
  have : i = 0 ∨ i = 1 ∨ i = 2 ∨ i = 3 := by omega
  rcases this with rfl | rfl | rfl | rfl <;> exact ⟨rfl, rfl⟩
theorem OwnL.four {w : World} {B B' : Nat} {A5 A6 A7 A8 : Option Addr} {c5 c6 c7 c8 : Nat} {n s n1 : Int} (h5 : OwnB w B A5 2 c5 (be16 n)) (h6 : OwnB w B A6 1 c6 [s]) (h7 : OwnB w B A7 0 c7 []) (h8 : OwnB w B A8 2 c8 (be16 n1)) (hn : 0 ≤ n ∧ n < 65536) (hs : 0 ≤ s ∧ s ≤ 14) (hn1 : 0 ≤ n1 ∧ n1 < 65536) (hB : B' ≤ B) :
    OwnL w B' [⟨2, A5, 2, c5⟩, ⟨3, A6, 1, c6⟩, ⟨4, A7, 0, c7⟩, ⟨2, A8, 2, c8⟩] [(2, be16 n), (3, [s]), (4, []), (2, be16 n1)] :=
  ⟨⟨rfl, ⟨by simp, by simp⟩, by simp [be16]; omega, h5.mono hB⟩, ⟨rfl, ⟨by simp, by simp⟩, by simp; omega, h6.mono hB⟩, ⟨rfl, ⟨by simp, by simp⟩, by simp, h7.mono hB⟩, ⟨rfl, ⟨by simp, by simp⟩, by simp [be16]; omega, h8.mono hB⟩, trivial⟩

set_option maxHeartbeats 4000000 in
set_option maxRecDepth 100000 in
theorem walk (w : World) (v0 : Value) (h0 : OptsAt w v0) (n : Int) (wn : (Lit.int .u16 n).wf = true) (v2 : Value) (h2 : BlksAt w v2) :
    Calls Try.prog 8 #[v0, .int .u16 n, v2] w fun e w' => e = .returned (.bool true) ∧ Below w.heap.size w w' := by
  obtain ⟨A0, n0, c0, os0, ls0, rfl, hn0, hc0, hr0, hs0⟩ := h0
  obtain ⟨AB, nb, cb, bl0, rfl, hnb, hcb, hrb0⟩ := h2
  have hn : 0 ≤ n ∧ n < 65536 := by have := bounds_u16 wn; omega
  obtain ⟨k, hk, hkn, hk4⟩ := min_nat 4 nb (by omega)
  have hkc : (k : Int) ≤ (cb : Int) := by omega
  have hk0 : (0 : Int) ≤ (k : Int) := by omega
  have hkc2 : k ≤ cb := by omega
  obtain ⟨bl, ebl⟩ : ∃ bl, bl0.take k = bl := ⟨_, rfl⟩
  have hrb := hrb0.take (k := k) hkn
  rw [ebl] at hrb
  have Hrb := Lib.hid hrb
  have Hbl := Lib.hid hrb.len
  have Hr0 := Lib.hid hr0
  have Hs0 := Lib.hid hs0
  have Hc0 := Lib.hid (And.intro hn0 hc0)
  clear hrb0 hrb ebl hr0 hs0 hn0 hc0
  go_enter Try.func8, Try.ntmps8
  go_wp2_with fail
  refine wp_region_held_drew (S := fun _ => True) (by kernel_rfl) trivial (fun hHeld => ?_)
  refine wpAnyH_take (i := 0) (oi := { dst := some 21, op := Go.Op.move (Go.Operand.tmp 0), type := 23, pos := "outright.go:68", after := #[], guard := none }) (v := ?_) rfl (by kernel_rfl) (by kernel_rfl) (by kernel_rfl) (fun _ _ _ h => h) (Or.inl ⟨by rfl, ?_⟩) (by assumption) ?_
  rotate_left 1
  · intro w' hSw; (go_simp <;> (with_reducible rfl))
  (try simp only [Act.put, List.setIfInBounds_toArray, List.set_cons_zero, List.set_cons_succ])
  refine wpAnyH_take (i := 2) (oi := { dst := some 23, op := Go.Op.move (Go.Operand.tmp 2), type := 42, pos := "outright.go:68", after := #[], guard := none }) (v := ?_) rfl (by kernel_rfl) (by kernel_rfl) (by kernel_rfl) (fun _ _ _ h => h) (Or.inl ⟨by rfl, ?_⟩) (by assumption) ?_
  rotate_left 1
  · intro w' hSw; (go_simp <;> (with_reducible rfl))
  (try simp only [Act.put, List.setIfInBounds_toArray, List.set_cons_zero, List.set_cons_succ])
  refine wpAnyH_take (i := 3) (oi := { dst := some 24, op := Go.Op.move (Go.Operand.tmp 2), type := 42, pos := "outright.go:68", after := #[], guard := none }) (v := ?_) rfl (by kernel_rfl) (by kernel_rfl) (by kernel_rfl) (fun _ _ _ h => h) (Or.inl ⟨by rfl, ?_⟩) (by assumption) ?_
  rotate_left 1
  · intro w' hSw; (go_simp <;> (with_reducible rfl))
  (try simp only [Act.put, List.setIfInBounds_toArray, List.set_cons_zero, List.set_cons_succ])
  refine wpAnyH_take (i := 4) (oi := { dst := some 25, op := Go.Op.call { callee := Go.Callee.builtin Go.Builtin.len, args := #[Go.Operand.tmp 24], argTypes := #[42] }, type := 3, pos := "outright.go:68", after := #[{ on := 3, ground := Go.Ground.data }], guard := none }) (v := ?_) rfl (by kernel_rfl) (by kernel_rfl) (by kernel_rfl) (fun _ _ _ h => h) (Or.inl ⟨by rfl, ?_⟩) (by assumption) ?_
  rotate_left 1
  · intro w' hSw; (go_simp <;> (with_reducible rfl))
  (try simp only [Act.put, List.setIfInBounds_toArray, List.set_cons_zero, List.set_cons_succ])
  refine wpAnyH_take (i := 5) (oi := { dst := some 26, op := Go.Op.call { callee := Go.Callee.builtin Go.Builtin.min, args := #[Go.Operand.tmp 25, Go.Operand.const (Go.Value.int Go.IntKind.i64 4)], argTypes := #[3, 3] }, type := 3, pos := "outright.go:68", after := #[{ on := 4, ground := Go.Ground.data }], guard := none }) (v := ?_) rfl (by kernel_rfl) (by kernel_rfl) (by kernel_rfl) (fun _ _ _ h => h) (Or.inl ⟨by rfl, ?_⟩) (by assumption) ?_
  rotate_left 1
  · intro w' hSw; (go_simp <;> (with_reducible rfl))
  (try simp only [Act.put, List.setIfInBounds_toArray, List.set_cons_zero, List.set_cons_succ])
  refine wpAnyH_take (i := 6) (oi := { dst := some 27, op := Go.Op.slice 42 (Go.Operand.tmp 23) none (some (Go.Operand.tmp 26)) none, type := 42, pos := "outright.go:68", after := #[{ on := 2, ground := Go.Ground.data }, { on := 5, ground := Go.Ground.data }], guard := none }) (v := ?_) rfl (by kernel_rfl) (by kernel_rfl) (by kernel_rfl) (fun _ _ _ h => h) (Or.inl ⟨by rfl, ?_⟩) (by assumption) ?_
  rotate_left 1
  · intro w' hSw; (go_simp <;> (with_reducible rfl))
  (try simp only [Act.put, List.setIfInBounds_toArray, List.set_cons_zero, List.set_cons_succ])
  refine wpAnyH_ready (rs := [1]) (by kernel_rfl) (by simp) ?_
  refine AllReadyH.cons (o := { dst := some 22, op := Go.Op.call { callee := Go.Callee.value (Go.Operand.func 15), args := #[Go.Operand.tmp 21], argTypes := #[23] }, type := 23, pos := "outright.go:68", after := #[{ on := 0, ground := Go.Ground.data }], guard := none }) rfl (fun K hK => ?_) AllReadyH.nil
  go_simp
  (go_at_call 15; refine (few_any A0 n0 c0 os0 ls0 _ Hc0.out (Hr0.out.below (Below.drew (Below.refl _ _))) (Hs0.out.below (Below.drew (Below.refl _ _)))).mono ?_; rintro e w1 ⟨A2, c2, os2, rfl, ho2, hs2, hb1⟩; have Hb1 := Lib.hid (show Below w.heap.size w w1 from (Below.drew (Below.refl _ _)).trans hb1))
  refine hK.out _ _ ?_ (fun hHeld => ?_)
  · exact trivial
  clear hK K
  (try simp only [Act.put, List.setIfInBounds_toArray, List.set_cons_zero, List.set_cons_succ])
  refine wpAnyH_take (i := 7) (oi := { dst := some 0, op := Go.Op.assign (Go.Operand.tmp 22), type := 23, pos := "outright.go:68", after := #[{ on := 1, ground := Go.Ground.data }, { on := 1, ground := Go.Ground.chain }, { on := 0, ground := Go.Ground.phase }, { on := 1, ground := Go.Ground.phase }, { on := 2, ground := Go.Ground.textOnly Go.Departure.lateStores }, { on := 3, ground := Go.Ground.textOnly Go.Departure.lateStores }, { on := 4, ground := Go.Ground.textOnly Go.Departure.lateStoresUnsure }, { on := 5, ground := Go.Ground.textOnly Go.Departure.lateStoresUnsure }, { on := 6, ground := Go.Ground.textOnly Go.Departure.lateStoresUnsure }], guard := none }) (v := ?_) rfl (by kernel_rfl) (by kernel_rfl) (by kernel_rfl) (fun _ _ _ h => h) (Or.inl ⟨by rfl, ?_⟩) (by assumption) ?_
  rotate_left 1
  · intro w' hSw; (go_simp <;> (with_reducible rfl))
  (try simp only [Act.put, List.setIfInBounds_toArray, List.set_cons_zero, List.set_cons_succ])
  refine wpAnyH_take (i := 8) (oi := { dst := some 2, op := Go.Op.assign (Go.Operand.tmp 27), type := 42, pos := "outright.go:68", after := #[{ on := 6, ground := Go.Ground.data }, { on := 7, ground := Go.Ground.chain }, { on := 0, ground := Go.Ground.phase }, { on := 1, ground := Go.Ground.phase }, { on := 2, ground := Go.Ground.phase }, { on := 3, ground := Go.Ground.phase }, { on := 4, ground := Go.Ground.phase }, { on := 5, ground := Go.Ground.phase }, { on := 6, ground := Go.Ground.phase }, { on := 7, ground := Go.Ground.phase }], guard := none }) (v := ?_) rfl (by kernel_rfl) (by kernel_rfl) (by kernel_rfl) (fun _ _ _ h => h) (Or.inl ⟨by rfl, ?_⟩) (by assumption) ?_
  rotate_left 1
  · intro w' hSw; (go_simp <;> (with_reducible rfl))
  (try simp only [Act.put, List.setIfInBounds_toArray, List.set_cons_zero, List.set_cons_succ])
  refine wpAnyH_done (by kernel_rfl) ?_ _
  have hm0 : min n0 20 ≤ 20 := Nat.min_le_right _ _
  have HL1 := Lib.hid (LO.mk ho2.rd hs2)
  have Hlim := Lib.hid (fewL_lim ls0)
  obtain ⟨f, ef⟩ : ∃ f, fewL ls0 = f := ⟨_, rfl⟩
  rw [ef] at HL1 Hlim
  obtain ⟨m0, em0⟩ : ∃ m, min n0 20 = m := ⟨_, rfl⟩
  rw [em0] at HL1 hm0
  simp only [em0]
  clear ho2 hs2 hb1 Hr0 Hs0 Hc0 ef em0 hHeld
  go_wp2_with fail
  go_loopg [0, 7] 4 (fun gk lv kd wr => ∃ (t m : Nat) (A : Option Addr) (c : Nat) (os : List OptV), Hid (gk + t = 4) ∧ t ≤ 4 ∧ m ≤ 20 ∧ lv = .slice A m c ∧ kd = .int .u8 (2 + (t : Int)) ∧ Hid (LO wr A m os (wo f t)) ∧ Hid (0 < t → OwnL wr w.heap.size os (wo f t)) ∧ Below w.heap.size w wr)
  case atStart => exact ⟨0, m0, A2, c2, os2, rfl, by omega, hm0, rfl, rfl, HL1, Lib.hid (fun h => absurd h (by omega)), Hb1.out⟩
  case round =>
    obtain ⟨t, m, A, c, os, hgk, ht, hm, rfl, rfl, hL, hO, hb⟩ := hrel
    by_cases ht4 : t < 4
    · have hle : 2 + (t : Int) ≤ 5 := by omega
      have hw8 : IntKind.u8.wrap (2 + (t : Int) + 1) = 2 + (t : Int) + 1 := by simp [IntKind.wrap, IntKind.bits, IntKind.signed]; omega
      have Hw := Lib.hid (without_any A m c _ (2 + (t : Int)) os (wo f t) wr (by omega) hL.out.1 hL.out.2 rfl (fun l hl => Hlim.out l (wo_sub f t l hl)))
      have hml : (withoutL (2 + (t : Int)) (wo f t)).length ≤ 20 := by
        have h1 := withoutL_le (2 + (t : Int)) (wo f t)
        have h2 : (wo f t).length = m := by rw [← hL.out.2.len, hL.out.1.len]
        omega
      have Hml := Lib.hid hml
      obtain ⟨mn, emn⟩ : ∃ mn, (withoutL (2 + (t : Int)) (wo f t)).length = mn := ⟨_, rfl⟩
      rw [emn] at Hw Hml
      have hmn := Hml.out
      clear hml emn
      go_wp2_with fail
      refine Hw.out.mono ?_
      rintro e w3 ⟨A3, c3, os3, rfl, ho3, hl3, hb3⟩
      have HL3 := Lib.hid (show LO w3 A3 mn os3 (wo f (t + 1)) from ⟨ho3.rd, hl3.reads⟩)
      have HO3 := Lib.hid (show OwnL w3 w.heap.size os3 (wo f (t + 1)) from hl3.low hb.size)
      have Hb3 := Lib.hid (hb.trans (hb3.mono hb.size))
      clear ho3 hl3 hb3 Hw
      go_wp2_with fail
      go_roundg (gk - 1)
      case measure => have := hgk.out; omega
      case rel => exact ⟨t + 1, mn, A3, c3, os3, by have := hgk.out; show gk - 1 + (t + 1) = _; omega, by omega, hmn, rfl, by rw [show ((t + 1 : Nat) : Int) = (t : Int) + 1 by omega, ← Int.add_assoc], HL3, Lib.hid (fun _ => HO3.out), Hb3.out⟩
    · obtain rfl : t = 4 := by omega
      obtain ⟨g, eg⟩ : ∃ g, wo f 4 = g := ⟨_, rfl⟩
      have Hg := Lib.hid (show ∀ l ∈ g, l.1 ≠ 2 ∧ l.1 ≠ 3 ∧ l.1 ≠ 4 ∧ l.1 ≠ 5 from by
        rw [← eg]
        intro l hl
        have h0 := wo_kind f 4 l hl 0 (by omega)
        have h1 := wo_kind f 4 l hl 1 (by omega)
        have h2 := wo_kind f 4 l hl 2 (by omega)
        have h3 := wo_kind f 4 l hl 3 (by omega)
        simp at h0 h1 h2 h3
        omega)
      have HO := Lib.hid (hO.out (by omega))
      have Hgl := Lib.hid (show ∀ l ∈ g, l.2.length ≤ 1000000 from fun l hl => Hlim.out l (wo_sub f 4 l (by rw [eg]; exact hl)))
      have HL := Lib.hid hL.out
      rw [eg] at HO HL
      clear hL hO eg
      have hba : Below wr.heap.size wr (wr.alloc (.cells #[] 31)) := (Below.refl _ _).alloc (Nat.le_refl _) _
      have Ho := Lib.hid (OwnO.made (w := wr.alloc (.cells #[] 31)) (B := wr.heap.size) (g := wr.heap.size) (cap := 0) (cur := #[]) (heap_alloc_new wr _) (Nat.le_refl _) (by simp [maxLen]) rfl)
      have Hr1 := Lib.hid (HL.out.1.below hba)
      have Hba := Lib.hid hba
      have Hgm := Lib.hid (show g.length = m by rw [← HL.out.2.len, HL.out.1.len])
      clear hba
      go_wp2_with (refine wpList_appO rfl (.tmp 35) (.tmp 36) rfl wr.heap.size _ A 0 0 m c [] os rfl rfl Ho.out Hr1.out (by omega) (by simp) ?_; intro A4 c4 w4 hown4 _ hb4 _)
      have Hown4 := Lib.hid (show OwnO w4 wr.heap.size A4 m c4 os by simpa using hown4)
      have Hb4 := Lib.hid (Hba.out.trans hb4)
      clear hown4 hb4 Ho Hr1 Hba
      refine (withmss_any n w4 hn).mono ?_
      rintro e w5 ⟨A5, c5, rfl, ho5, hb5⟩
      have Ho5 := Lib.hid (show OwnB w5 wr.heap.size A5 2 c5 (be16 n) from ho5.mono Hb4.out.size)
      have Hb5 := Lib.hid hb5
      clear ho5 hb5
      go_wp2_with fail
      obtain ⟨s, es⟩ : ∃ s, n % 15 = s := ⟨_, rfl⟩
      have hs : 0 ≤ s ∧ s ≤ 14 := by omega
      have hss : scaleOf s = s := by unfold scaleOf; rw [if_neg (by omega), if_neg (by omega)]
      simp only [es]
      have Hws := Lib.hid (withscale_any s w5)
      rw [hss] at Hws
      refine Hws.out.mono ?_
      rintro e w6 ⟨A6, c6, rfl, ho6, hb6⟩
      have hb46 := below_trans Hb5.out hb6
      have Ho6 := Lib.hid (show OwnB w6 wr.heap.size A6 1 c6 [s] from ho6.mono (by have h1 := Hb4.out.size; have h2 := Hb5.out.size; omega))
      have Ho56 := Lib.hid (Ho5.out.on hb6)
      have Hb6 := Lib.hid hb46
      clear ho6 hb6 hb46 Hws hss Ho5 Hb5
      go_wp2_with fail
      refine (permit_any w6).mono ?_
      rintro e w7 ⟨A7, c7, rfl, ho7, hb7⟩
      have Ho7 := Lib.hid (show OwnB w7 wr.heap.size A7 0 c7 [] from ho7.mono (by have h1 := Hb4.out.size; have h2 := Hb6.out.size; omega))
      have Ho57 := Lib.hid (Ho56.out.on hb7)
      have Ho67 := Lib.hid (Ho6.out.on hb7)
      have Hb7 := Lib.hid (below_trans Hb6.out hb7)
      clear ho7 hb7 Ho56 Ho6 Hb6
      obtain ⟨n1, en1⟩ : ∃ n1, IntKind.u16.wrap (n + 1) = n1 := ⟨_, rfl⟩
      have hn1 : 0 ≤ n1 ∧ n1 < 65536 := by rw [← en1]; simp [IntKind.wrap, IntKind.bits, IntKind.signed]; omega
      go_wp2_with fail
      try simp only [en1]
      refine (withmss_any n1 w7 hn1).mono ?_
      rintro e w8 ⟨A8, c8, rfl, ho8, hb8⟩
      have Ho8 := Lib.hid (show OwnB w8 wr.heap.size A8 2 c8 (be16 n1) from ho8.mono (by have h1 := Hb4.out.size; have h2 := Hb7.out.size; omega))
      have Ho58 := Lib.hid (Ho57.out.on hb8)
      have Ho68 := Lib.hid (Ho67.out.on hb8)
      have Ho78 := Lib.hid (Ho7.out.on hb8)
      have Hb8 := Lib.hid (below_trans Hb7.out hb8)
      clear ho8 hb8 Ho57 Ho67 Ho7 Hb7
      have hba9 : Below w8.heap.size w8 (w8.alloc (.cells #[.int .u8 2, .slice A5 2 c5, .int .u8 3, .slice A6 1 c6, .int .u8 4, .slice A7 0 c7, .int .u8 2, .slice A8 2 c8] 31)) := (Below.refl _ _).alloc (Nat.le_refl _) _
      have Ho49 := Lib.hid (Hown4.out.on (below_trans Hb8.out hba9))
      have Hr9 := Lib.hid (RdO.four w8 w8.heap.size rfl 31 (0, 0) 2 3 4 2 A5 A6 A7 A8 2 c5 1 c6 0 c7 2 c8)
      have hb49 := Hb4.out.trans ((below_trans Hb8.out hba9).mono (B' := wr.heap.size) Hb4.out.size)
      have HL9 := Lib.hid ((HO.out.on hb49).snoc (OwnL.four (Ho58.out.on hba9) (Ho68.out.on hba9) (Ho78.out.on hba9) (Ho8.out.on hba9) hn hs hn1 (hb.size)))
      have Hb9 := Lib.hid hb49
      clear hba9 hb49 Ho58 Ho68 Ho78 Ho8
      go_wp2_with (refine wpList_appO rfl (.tmp 37) (.tmp 48) rfl wr.heap.size A4 (some ⟨w8.heap.size, 0, none⟩) m c4 4 4 os _ rfl rfl Ho49.out Hr9.out (by omega) Hb9.out.size ?_; intro AA cA wA hownA hgrA hbA _)
      have HLA := Lib.hid (HL9.out.grown Ho49.out hgrA)
      have HownA := Lib.hid hownA
      have HbA := Lib.hid (Hb9.out.trans hbA)
      clear hownA hgrA hbA Ho49 Hr9 HL9 Hb9 Hown4 Hb4 Hb8
      have HrbA := Lib.hid ((Hrb.out.below hb).below HbA.out)
      have hkb : k ≤ 1000000 := by omega
      refine (withsacks_any AB k cb bl wA hkb HrbA.out).mono ?_
      intro e wB hws
      have Hu := Lib.hid HrbA.out.u32
      by_cases hk00 : k = 0
      · subst hk00
        have hbn : bl = [] := List.eq_nil_of_length_eq_zero Hbl.out
        subst hbn
        obtain ⟨rfl, hbB⟩ : SacksBad 1 wA e wB := by
          unfold WithSacksIs at hws
          rw [if_pos (show ([] : List (Int × Int)).length = 0 from rfl)] at hws
          exact hws
        have hbB' := hbB.alloc hbB.size (.cells #[.int .u8 0, .slice none 0 0] 31)
        have HbT := Lib.hid ((hb.trans (HbA.out.mono (B' := w.heap.size) hb.size)).trans (hbB'.mono (by have h1 := hb.size; have h2 := HbA.out.size; omega)))
        have HmT := Lib.hid (show LO (wB.alloc (.cells #[.int .u8 0, .slice none 0 0] 31)) AA (m + 4) _ (rowM g n s n1 (sackZ [])) from ⟨(HownA.out.rd).below hbB', by
          have h := HLA.out.reads.below hbB'
          unfold rowM sackZ
          rw [if_pos rfl, List.append_nil]
          exact h⟩)
        have HlT := Lib.hid ((HL.out.on HbA.out).on hbB')
        have HM1 := Lib.hid (m_mss (s := s) (n1 := n1) (bl := []) Hg.out hn)
        have HM2 := Lib.hid (m_scale (n := n) (n1 := n1) (bl := []) Hg.out hs)
        have HM3 := Lib.hid (m_sack (n := n) (s := s) (n1 := n1) (bl := []) Hg.out)
        have HM4 := Lib.hid (m_sacks (n := n) (s := s) (n1 := n1) (bl := []) Hg.out (by simp) (by simp))
        have HM5 := Lib.hid (m_back (n := n) (s := s) (n1 := n1) (bl := []) Hg.out)
        have HM6 := Lib.hid (m_lim (n := n) (s := s) (n1 := n1) (bl := []) Hgl.out (by simp))
        obtain ⟨M, eM⟩ : ∃ M, rowM g n s n1 (sackZ []) = M := ⟨_, rfl⟩
        rw [eM] at HmT HM1 HM2 HM3 HM4 HM5 HM6
        have hmt : m + 4 ≤ 1000000 := by omega
        clear hws hbB hbB' HownA HLA eM
        go_wp2_with fail
        refine (mss_any AA (m + 4) cA _ M (wB.alloc (.cells #[.int .u8 0, .slice none 0 0] 31)) hmt HmT.out.1 HmT.out.2).mono ?_
        rw [HM1.out]
        rintro e q1 ⟨rfl, hq⟩
        have HmQ1 := Lib.hid (HmT.out.on hq)
        have HlQ1 := Lib.hid (HlT.out.on hq)
        have HbQ1 := Lib.hid (below_trans HbT.out hq)
        clear hq HmT HlT HbT
        go_wp2_with fail
        refine (scale_any AA (m + 4) cA _ M q1 hmt HmQ1.out.1 HmQ1.out.2).mono ?_
        rw [HM2.out]
        rintro e q2 ⟨rfl, hq⟩
        have HmQ2 := Lib.hid (HmQ1.out.on hq)
        have HlQ2 := Lib.hid (HlQ1.out.on hq)
        have HbQ2 := Lib.hid (below_trans HbQ1.out hq)
        clear hq HmQ1 HlQ1 HbQ1
        go_wp2_with fail
        refine (sacks_any AA (m + 4) cA 0 _ M q2 hmt HmQ2.out.1 HmQ2.out.2 (by rw [HM4.out]; exact Hbl.out)).mono ?_
        rw [HM4.out]
        rintro e q3 ⟨A9, c9, rfl, ho9, hq⟩
        have HmQ3 := Lib.hid (HmQ2.out.on hq)
        have HlQ3 := Lib.hid (HlQ2.out.on hq)
        have HbQ3 := Lib.hid (below_trans HbQ2.out hq)
        have Hk3 := Lib.hid (ho9.rd Hu.out)
        clear hq ho9 HmQ2 HlQ2 HbQ2
        go_wp2_with fail
        refine (sackok_any AA (m + 4) cA _ M q3 hmt HmQ3.out.1 HmQ3.out.2).mono ?_
        rw [HM3.out]
        rintro e q4 ⟨rfl, hq⟩
        have HmQ4 := Lib.hid (HmQ3.out.on hq)
        have HlQ4 := Lib.hid (HlQ3.out.on hq)
        have HbQ4 := Lib.hid (below_trans HbQ3.out hq)
        have Hk4 := Lib.hid (Hk3.out.below hq)
        have Hr4 := Lib.hid (Hrb.out.below HbQ4.out)
        have hbz : Below q4.heap.size q4 q4 := Below.refl _ _
        clear hq HmQ3 HlQ3 HbQ3 Hk3
        go_wp2_with fail
        go_loopg [105] 0 (fun gk i wr => ∃ j : Nat, Hid (gk + j = 0) ∧ j ≤ 0 ∧ i = .int .i64 (j : Int) ∧ Below q4.heap.size q4 wr)
        case atStart => exact ⟨0, rfl, Nat.zero_le _, rfl, hbz⟩
        case round =>
          clear hbz
          obtain ⟨j, hgj, hj, rfl, hq⟩ := hrel
          by_cases hjk : j < 0
          · have hjk := hjk
            exact absurd hjk (by omega)
          · obtain rfl : 0 = j := by omega
            have HmQ5 := Lib.hid (HmQ4.out.on hq)
            have HlQ5 := Lib.hid (HlQ4.out.on hq)
            have HbQ5 := Lib.hid (below_trans HbQ4.out hq)
            clear hq HmQ4 HlQ4 HbQ4 Hk4 Hr4
            obtain ⟨q5, eq5⟩ : ∃ q5, wr = q5 := ⟨_, rfl⟩
            rw [eq5] at HmQ5 HlQ5 HbQ5
            go_wp2_with fail
            clear eq5
            refine (without_lo AA (m + 4) cA 2 _ M q5 hmt HmQ5.out HM6.out).mono ?_
            rintro e q6 ⟨A6, n6, c6, os6, rfl, hn6, hw, hx, hq⟩
            have HW6 := Lib.hid hw
            have HX6 := Lib.hid hx
            clear hw hx
            have HmQ6 := Lib.hid (HmQ5.out.on hq)
            have HlQ6 := Lib.hid (HlQ5.out.on hq)
            have HbQ6 := Lib.hid (below_trans HbQ5.out hq)
            clear hq HmQ5 HlQ5 HbQ5
            go_wp2_with fail
            refine (mss_any A6 n6 c6 os6 (withoutL 2 M) q6 hn6 HW6.out.1 HW6.out.2).mono ?_
            rw [no_mss]
            rintro e q7 ⟨rfl, hq⟩
            have HmQ7 := Lib.hid (HmQ6.out.on hq)
            have HlQ7 := Lib.hid (HlQ6.out.on hq)
            have HbQ7 := Lib.hid (below_trans HbQ6.out hq)
            clear hq HmQ6 HlQ6 HbQ6
            go_wp2_with fail
            refine (without_lo AA (m + 4) cA 3 _ M q7 hmt HmQ7.out HM6.out).mono ?_
            rintro e q8 ⟨A8, n8, c8, os8, rfl, hn8, hw, hx, hq⟩
            have HW8 := Lib.hid hw
            have HX8 := Lib.hid hx
            clear hw hx
            have HmQ8 := Lib.hid (HmQ7.out.on hq)
            have HlQ8 := Lib.hid (HlQ7.out.on hq)
            have HbQ8 := Lib.hid (below_trans HbQ7.out hq)
            clear hq HmQ7 HlQ7 HbQ7
            go_wp2_with fail
            refine (scale_any A8 n8 c8 os8 (withoutL 3 M) q8 hn8 HW8.out.1 HW8.out.2).mono ?_
            rw [no_scale]
            rintro e q9 ⟨rfl, hq⟩
            have HmQ9 := Lib.hid (HmQ8.out.on hq)
            have HlQ9 := Lib.hid (HlQ8.out.on hq)
            have HbQ9 := Lib.hid (below_trans HbQ8.out hq)
            clear hq HmQ8 HlQ8 HbQ8
            go_wp2_with fail
            refine (awake_any q9).mono ?_
            rintro e q10 ⟨rfl, hq⟩
            have HmQ10 := Lib.hid (HmQ9.out.on hq)
            have HlQ10 := Lib.hid (HlQ9.out.on hq)
            have HbQ10 := Lib.hid (below_trans HbQ9.out hq)
            clear hq HmQ9 HlQ9 HbQ9
            go_wp2_with fail
            refine (without_lo AA (m + 4) cA 4 _ M q10 hmt HmQ10.out HM6.out).mono ?_
            rintro e q11 ⟨A11, n11, c11, os11, rfl, hn11, hw, hx, hq⟩
            have HW11 := Lib.hid hw
            have HX11 := Lib.hid hx
            clear hw hx
            have HmQ11 := Lib.hid (HmQ10.out.on hq)
            have HlQ11 := Lib.hid (HlQ10.out.on hq)
            have HbQ11 := Lib.hid (below_trans HbQ10.out hq)
            clear hq HmQ10 HlQ10 HbQ10
            go_wp2_with fail
            refine (sackok_any A11 n11 c11 os11 (withoutL 4 M) q11 hn11 HW11.out.1 HW11.out.2).mono ?_
            rw [no_sack]
            rintro e q12 ⟨rfl, hq⟩
            have HmQ12 := Lib.hid (HmQ11.out.on hq)
            have HlQ12 := Lib.hid (HlQ11.out.on hq)
            have HbQ12 := Lib.hid (below_trans HbQ11.out hq)
            clear hq HmQ11 HlQ11 HbQ11
            go_wp2_with fail
            refine (without_lo AA (m + 4) cA 5 _ M q12 hmt HmQ12.out HM6.out).mono ?_
            rintro e q13 ⟨A13, n13, c13, os13, rfl, hn13, hw, hx, hq⟩
            have HW13 := Lib.hid hw
            have HX13 := Lib.hid hx
            clear hw hx
            have HmQ13 := Lib.hid (HmQ12.out.on hq)
            have HlQ13 := Lib.hid (HlQ12.out.on hq)
            have HbQ13 := Lib.hid (below_trans HbQ12.out hq)
            clear hq HmQ12 HlQ12 HbQ12
            go_wp2_with fail
            refine (sacks_any A13 n13 c13 0 os13 (withoutL 5 M) q13 hn13 HW13.out.1 HW13.out.2 (by rw [no_sacks]; rfl)).mono ?_
            rintro e q14 ⟨A14, c14, rfl, -, hq⟩
            have HmQ14 := Lib.hid (HmQ13.out.on hq)
            have HlQ14 := Lib.hid (HlQ13.out.on hq)
            have HbQ14 := Lib.hid (below_trans HbQ13.out hq)
            clear hq HmQ13 HlQ13 HbQ13
            go_wp2_with fail
            refine (without_lo AA (m + 4) cA 2 _ M q14 hmt HmQ14.out HM6.out).mono ?_
            rintro e q15 ⟨A15, n15, c15, os15, rfl, hn15, hw, hx, hq⟩
            have HW15 := Lib.hid hw
            have HX15 := Lib.hid hx
            clear hw hx
            have HmQ15 := Lib.hid (HmQ14.out.on hq)
            have HlQ15 := Lib.hid (HlQ14.out.on hq)
            have HbQ15 := Lib.hid (below_trans HbQ14.out hq)
            clear hq HmQ14 HlQ14 HbQ14
            go_wp2_with fail
            refine (without_lo A15 n15 c15 3 _ (withoutL 2 M) q15 hn15 HW15.out HX15.out).mono ?_
            rintro e q16 ⟨A16, n16, c16, os16, rfl, hn16, hw, hx, hq⟩
            have HW16 := Lib.hid hw
            have HX16 := Lib.hid hx
            clear hw hx
            have HmQ16 := Lib.hid (HmQ15.out.on hq)
            have HlQ16 := Lib.hid (HlQ15.out.on hq)
            have HbQ16 := Lib.hid (below_trans HbQ15.out hq)
            clear hq HmQ15 HlQ15 HbQ15
            go_wp2_with fail
            refine (without_lo A16 n16 c16 4 _ (withoutL 3 (withoutL 2 M)) q16 hn16 HW16.out HX16.out).mono ?_
            rintro e q17 ⟨A17, n17, c17, os17, rfl, hn17, hw, hx, hq⟩
            have HW17 := Lib.hid hw
            have HX17 := Lib.hid hx
            clear hw hx
            have HmQ17 := Lib.hid (HmQ16.out.on hq)
            have HlQ17 := Lib.hid (HlQ16.out.on hq)
            have HbQ17 := Lib.hid (below_trans HbQ16.out hq)
            clear hq HmQ16 HlQ16 HbQ16
            go_wp2_with fail
            refine (without_lo A17 n17 c17 5 _ (withoutL 4 (withoutL 3 (withoutL 2 M))) q17 hn17 HW17.out HX17.out).mono ?_
            rintro e q18 ⟨A18, n18, c18, os18, rfl, hn18, hw, hx, hq⟩
            have HW18 := Lib.hid hw
            have HX18 := Lib.hid hx
            clear hw hx
            have HmQ18 := Lib.hid (HmQ17.out.on hq)
            have HlQ18 := Lib.hid (HlQ17.out.on hq)
            have HbQ18 := Lib.hid (below_trans HbQ17.out hq)
            clear hq HmQ17 HlQ17 HbQ17
            rw [HM5.out] at HW18
            go_wp2_with fail
            refine (same_any A18 A n18 c18 m c os18 os g g q18 hn18 HW18.out.1 HW18.out.2 HlQ18.out.1 HlQ18.out.2).mono ?_
            rw [decide_eq_true (rfl : g = g)]
            rintro e q19 ⟨rfl, hq⟩
            have HbQ19 := Lib.hid (below_trans HbQ18.out hq)
            clear hq
            go_wp2_with fail
            go_ret
            exact ⟨rfl, HbQ19.out⟩
      · have hbn : bl ≠ [] := by intro h; rw [h] at Hbl; exact hk00 Hbl.out.symm
        obtain ⟨AS, cS, rfl, hoS, hbB⟩ : SacksGood k (blkBytes bl) wA e wB := by
          unfold WithSacksIs at hws
          rw [if_neg (by rw [Hbl.out]; exact hk00), if_neg (by rw [Hbl.out]; omega), Hbl.out] at hws
          exact hws
        have hx1 : Below wB.heap.size wB (wB.alloc (.cells #[.int .u8 5, .slice AS (8 * k) cS] 31)) := (Below.refl _ _).alloc (Nat.le_refl _) _
        have hx2 := hx1.alloc hx1.size (.cells #[.int .u8 5, .slice AS (8 * k) cS] 31)
        have hbA2 := below_trans hbB hx2
        have HoA2 := Lib.hid (HownA.out.on hbA2)
        have Hr2 := Lib.hid (RdO.one (wB.alloc (.cells #[.int .u8 5, .slice AS (8 * k) cS] 31)) (wB.heap.size + 1) (by simp) 31 (0, 0) 5 AS (8 * k) cS)
        have HL2 := Lib.hid ((HLA.out.on hbA2).snoc (b := [⟨5, AS, 8 * k, cS⟩]) (l := [(5, blkBytes bl)]) ⟨⟨rfl, ⟨by simp, by simp⟩, blkBytes_bytes bl Hu.out, (hoS.mono (by have h1 := hb.size; have h2 := HbA.out.size; omega)).on hx2⟩, trivial⟩)
        have Hb2 := Lib.hid (HbA.out.trans (hbA2.mono (B' := wr.heap.size) HbA.out.size))
        clear hws hoS hbB hx1 hx2 hbA2 HownA HLA
        go_wp2_with (refine wpList_appO rfl (.tmp 57) (.tmp 59) rfl wr.heap.size AA (some ⟨wB.heap.size + 1, 0, none⟩) (m + 4) cA 1 1 _ _ rfl rfl HoA2.out Hr2.out (by omega) Hb2.out.size ?_; intro AT cT wT hownT hgrT hbT _)
        have HbW := Lib.hid (Hb2.out.trans hbT)
        have HbT := Lib.hid (hb.trans (HbW.out.mono (B' := w.heap.size) hb.size))
        have HmT := Lib.hid (show LO wT AT (m + 4 + 1) _ (rowM g n s n1 (sackZ bl)) from ⟨hownT.rd, by
          have h := (HL2.out.grown HoA2.out hgrT).reads
          unfold rowM sackZ
          rw [if_neg hbn, ← List.append_assoc]
          exact h⟩)
        have HlT := Lib.hid (HL.out.on HbW.out)
        have HM1 := Lib.hid (m_mss (s := s) (n1 := n1) (bl := bl) Hg.out hn)
        have HM2 := Lib.hid (m_scale (n := n) (n1 := n1) (bl := bl) Hg.out hs)
        have HM3 := Lib.hid (m_sack (n := n) (s := s) (n1 := n1) (bl := bl) Hg.out)
        have HM4 := Lib.hid (m_sacks (n := n) (s := s) (n1 := n1) (bl := bl) Hg.out Hu.out (by rw [Hbl.out]; omega))
        have HM5 := Lib.hid (m_back (n := n) (s := s) (n1 := n1) (bl := bl) Hg.out)
        have HM6 := Lib.hid (m_lim (n := n) (s := s) (n1 := n1) (bl := bl) Hgl.out (by rw [Hbl.out]; omega))
        obtain ⟨M, eM⟩ : ∃ M, rowM g n s n1 (sackZ bl) = M := ⟨_, rfl⟩
        rw [eM] at HmT HM1 HM2 HM3 HM4 HM5 HM6
        have hmt : m + 4 + 1 ≤ 1000000 := by omega
        clear hownT hgrT hbT HoA2 Hr2 HL2 Hb2 HbW eM
        go_wp2_with fail
        refine (mss_any AT (m + 4 + 1) cT _ M wT hmt HmT.out.1 HmT.out.2).mono ?_
        rw [HM1.out]
        rintro e q1 ⟨rfl, hq⟩
        have HmQ1 := Lib.hid (HmT.out.on hq)
        have HlQ1 := Lib.hid (HlT.out.on hq)
        have HbQ1 := Lib.hid (below_trans HbT.out hq)
        clear hq HmT HlT HbT
        go_wp2_with fail
        refine (scale_any AT (m + 4 + 1) cT _ M q1 hmt HmQ1.out.1 HmQ1.out.2).mono ?_
        rw [HM2.out]
        rintro e q2 ⟨rfl, hq⟩
        have HmQ2 := Lib.hid (HmQ1.out.on hq)
        have HlQ2 := Lib.hid (HlQ1.out.on hq)
        have HbQ2 := Lib.hid (below_trans HbQ1.out hq)
        clear hq HmQ1 HlQ1 HbQ1
        go_wp2_with fail
        refine (sacks_any AT (m + 4 + 1) cT k _ M q2 hmt HmQ2.out.1 HmQ2.out.2 (by rw [HM4.out]; exact Hbl.out)).mono ?_
        rw [HM4.out]
        rintro e q3 ⟨A9, c9, rfl, ho9, hq⟩
        have HmQ3 := Lib.hid (HmQ2.out.on hq)
        have HlQ3 := Lib.hid (HlQ2.out.on hq)
        have HbQ3 := Lib.hid (below_trans HbQ2.out hq)
        have Hk3 := Lib.hid (ho9.rd Hu.out)
        clear hq ho9 HmQ2 HlQ2 HbQ2
        go_wp2_with fail
        refine (sackok_any AT (m + 4 + 1) cT _ M q3 hmt HmQ3.out.1 HmQ3.out.2).mono ?_
        rw [HM3.out]
        rintro e q4 ⟨rfl, hq⟩
        have HmQ4 := Lib.hid (HmQ3.out.on hq)
        have HlQ4 := Lib.hid (HlQ3.out.on hq)
        have HbQ4 := Lib.hid (below_trans HbQ3.out hq)
        have Hk4 := Lib.hid (Hk3.out.below hq)
        have Hr4 := Lib.hid (Hrb.out.below HbQ4.out)
        have hbz : Below q4.heap.size q4 q4 := Below.refl _ _
        clear hq HmQ3 HlQ3 HbQ3 Hk3
        go_wp2_with fail
        go_loopg [105] k (fun gk i wr => ∃ j : Nat, Hid (gk + j = k) ∧ j ≤ k ∧ i = .int .i64 (j : Int) ∧ Below q4.heap.size q4 wr)
        case atStart => exact ⟨0, rfl, Nat.zero_le _, rfl, hbz⟩
        case round =>
          clear hbz
          obtain ⟨j, hgj, hj, rfl, hq⟩ := hrel
          by_cases hjk : j < k
          · have hjk := hjk
            obtain ⟨b1, p1, hrun1, hb1, hk1, hd1, -⟩ := (Hk4.out.below hq).index_o (c := c9) hjk
            obtain ⟨b2, p2, hrun2, hb2, hk2, hd2, -⟩ := (Hr4.out.below hq).index_o (c := cb) hjk
            obtain ⟨⟨x1, y1⟩, el1⟩ : ∃ v, (bl : List (Int × Int)).getD j (0, 0) = v := ⟨_, rfl⟩
            rw [el1] at hk1 hd1 hk2 hd2
            simp only at hk1 hd1 hk2 hd2
            clear el1
            go_wp2_with fail
            go_quiet (fail)
            go_wp2_with fail
            go_roundg (gk - 1)
            case measure => have := hgj.out; omega
            case rel => exact ⟨j + 1, by have := hgj.out; show gk - 1 + (j + 1) = _; omega, by omega, by go_num, below_drewN_ hq _⟩
          · obtain rfl : k = j := by omega
            have HmQ5 := Lib.hid (HmQ4.out.on hq)
            have HlQ5 := Lib.hid (HlQ4.out.on hq)
            have HbQ5 := Lib.hid (below_trans HbQ4.out hq)
            clear hq HmQ4 HlQ4 HbQ4 Hk4 Hr4
            obtain ⟨q5, eq5⟩ : ∃ q5, wr = q5 := ⟨_, rfl⟩
            rw [eq5] at HmQ5 HlQ5 HbQ5
            go_wp2_with fail
            clear eq5
            refine (without_lo AT (m + 4 + 1) cT 2 _ M q5 hmt HmQ5.out HM6.out).mono ?_
            rintro e q6 ⟨A6, n6, c6, os6, rfl, hn6, hw, hx, hq⟩
            have HW6 := Lib.hid hw
            have HX6 := Lib.hid hx
            clear hw hx
            have HmQ6 := Lib.hid (HmQ5.out.on hq)
            have HlQ6 := Lib.hid (HlQ5.out.on hq)
            have HbQ6 := Lib.hid (below_trans HbQ5.out hq)
            clear hq HmQ5 HlQ5 HbQ5
            go_wp2_with fail
            refine (mss_any A6 n6 c6 os6 (withoutL 2 M) q6 hn6 HW6.out.1 HW6.out.2).mono ?_
            rw [no_mss]
            rintro e q7 ⟨rfl, hq⟩
            have HmQ7 := Lib.hid (HmQ6.out.on hq)
            have HlQ7 := Lib.hid (HlQ6.out.on hq)
            have HbQ7 := Lib.hid (below_trans HbQ6.out hq)
            clear hq HmQ6 HlQ6 HbQ6
            go_wp2_with fail
            refine (without_lo AT (m + 4 + 1) cT 3 _ M q7 hmt HmQ7.out HM6.out).mono ?_
            rintro e q8 ⟨A8, n8, c8, os8, rfl, hn8, hw, hx, hq⟩
            have HW8 := Lib.hid hw
            have HX8 := Lib.hid hx
            clear hw hx
            have HmQ8 := Lib.hid (HmQ7.out.on hq)
            have HlQ8 := Lib.hid (HlQ7.out.on hq)
            have HbQ8 := Lib.hid (below_trans HbQ7.out hq)
            clear hq HmQ7 HlQ7 HbQ7
            go_wp2_with fail
            refine (scale_any A8 n8 c8 os8 (withoutL 3 M) q8 hn8 HW8.out.1 HW8.out.2).mono ?_
            rw [no_scale]
            rintro e q9 ⟨rfl, hq⟩
            have HmQ9 := Lib.hid (HmQ8.out.on hq)
            have HlQ9 := Lib.hid (HlQ8.out.on hq)
            have HbQ9 := Lib.hid (below_trans HbQ8.out hq)
            clear hq HmQ8 HlQ8 HbQ8
            go_wp2_with fail
            refine (awake_any q9).mono ?_
            rintro e q10 ⟨rfl, hq⟩
            have HmQ10 := Lib.hid (HmQ9.out.on hq)
            have HlQ10 := Lib.hid (HlQ9.out.on hq)
            have HbQ10 := Lib.hid (below_trans HbQ9.out hq)
            clear hq HmQ9 HlQ9 HbQ9
            go_wp2_with fail
            refine (without_lo AT (m + 4 + 1) cT 4 _ M q10 hmt HmQ10.out HM6.out).mono ?_
            rintro e q11 ⟨A11, n11, c11, os11, rfl, hn11, hw, hx, hq⟩
            have HW11 := Lib.hid hw
            have HX11 := Lib.hid hx
            clear hw hx
            have HmQ11 := Lib.hid (HmQ10.out.on hq)
            have HlQ11 := Lib.hid (HlQ10.out.on hq)
            have HbQ11 := Lib.hid (below_trans HbQ10.out hq)
            clear hq HmQ10 HlQ10 HbQ10
            go_wp2_with fail
            refine (sackok_any A11 n11 c11 os11 (withoutL 4 M) q11 hn11 HW11.out.1 HW11.out.2).mono ?_
            rw [no_sack]
            rintro e q12 ⟨rfl, hq⟩
            have HmQ12 := Lib.hid (HmQ11.out.on hq)
            have HlQ12 := Lib.hid (HlQ11.out.on hq)
            have HbQ12 := Lib.hid (below_trans HbQ11.out hq)
            clear hq HmQ11 HlQ11 HbQ11
            go_wp2_with fail
            refine (without_lo AT (m + 4 + 1) cT 5 _ M q12 hmt HmQ12.out HM6.out).mono ?_
            rintro e q13 ⟨A13, n13, c13, os13, rfl, hn13, hw, hx, hq⟩
            have HW13 := Lib.hid hw
            have HX13 := Lib.hid hx
            clear hw hx
            have HmQ13 := Lib.hid (HmQ12.out.on hq)
            have HlQ13 := Lib.hid (HlQ12.out.on hq)
            have HbQ13 := Lib.hid (below_trans HbQ12.out hq)
            clear hq HmQ12 HlQ12 HbQ12
            go_wp2_with fail
            refine (sacks_any A13 n13 c13 0 os13 (withoutL 5 M) q13 hn13 HW13.out.1 HW13.out.2 (by rw [no_sacks]; rfl)).mono ?_
            rintro e q14 ⟨A14, c14, rfl, -, hq⟩
            have HmQ14 := Lib.hid (HmQ13.out.on hq)
            have HlQ14 := Lib.hid (HlQ13.out.on hq)
            have HbQ14 := Lib.hid (below_trans HbQ13.out hq)
            clear hq HmQ13 HlQ13 HbQ13
            go_wp2_with fail
            refine (without_lo AT (m + 4 + 1) cT 2 _ M q14 hmt HmQ14.out HM6.out).mono ?_
            rintro e q15 ⟨A15, n15, c15, os15, rfl, hn15, hw, hx, hq⟩
            have HW15 := Lib.hid hw
            have HX15 := Lib.hid hx
            clear hw hx
            have HmQ15 := Lib.hid (HmQ14.out.on hq)
            have HlQ15 := Lib.hid (HlQ14.out.on hq)
            have HbQ15 := Lib.hid (below_trans HbQ14.out hq)
            clear hq HmQ14 HlQ14 HbQ14
            go_wp2_with fail
            refine (without_lo A15 n15 c15 3 _ (withoutL 2 M) q15 hn15 HW15.out HX15.out).mono ?_
            rintro e q16 ⟨A16, n16, c16, os16, rfl, hn16, hw, hx, hq⟩
            have HW16 := Lib.hid hw
            have HX16 := Lib.hid hx
            clear hw hx
            have HmQ16 := Lib.hid (HmQ15.out.on hq)
            have HlQ16 := Lib.hid (HlQ15.out.on hq)
            have HbQ16 := Lib.hid (below_trans HbQ15.out hq)
            clear hq HmQ15 HlQ15 HbQ15
            go_wp2_with fail
            refine (without_lo A16 n16 c16 4 _ (withoutL 3 (withoutL 2 M)) q16 hn16 HW16.out HX16.out).mono ?_
            rintro e q17 ⟨A17, n17, c17, os17, rfl, hn17, hw, hx, hq⟩
            have HW17 := Lib.hid hw
            have HX17 := Lib.hid hx
            clear hw hx
            have HmQ17 := Lib.hid (HmQ16.out.on hq)
            have HlQ17 := Lib.hid (HlQ16.out.on hq)
            have HbQ17 := Lib.hid (below_trans HbQ16.out hq)
            clear hq HmQ16 HlQ16 HbQ16
            go_wp2_with fail
            refine (without_lo A17 n17 c17 5 _ (withoutL 4 (withoutL 3 (withoutL 2 M))) q17 hn17 HW17.out HX17.out).mono ?_
            rintro e q18 ⟨A18, n18, c18, os18, rfl, hn18, hw, hx, hq⟩
            have HW18 := Lib.hid hw
            have HX18 := Lib.hid hx
            clear hw hx
            have HmQ18 := Lib.hid (HmQ17.out.on hq)
            have HlQ18 := Lib.hid (HlQ17.out.on hq)
            have HbQ18 := Lib.hid (below_trans HbQ17.out hq)
            clear hq HmQ17 HlQ17 HbQ17
            rw [HM5.out] at HW18
            go_wp2_with fail
            refine (same_any A18 A n18 c18 m c os18 os g g q18 hn18 HW18.out.1 HW18.out.2 HlQ18.out.1 HlQ18.out.2).mono ?_
            rw [decide_eq_true (rfl : g = g)]
            rintro e q19 ⟨rfl, hq⟩
            have HbQ19 := Lib.hid (below_trans HbQ18.out hq)
            clear hq
            go_wp2_with fail
            go_ret
            exact ⟨rfl, HbQ19.out⟩
theorem own : ownKnob Try.prog.godebug = none := by kernel_rfl
theorem laidOut : laidOutB Try.prog = true := by kernel_rfl

set_option maxRecDepth 100000 in
theorem lifted (os : Os) (started : os.Started) (H : Type) (enc : TypeId × Value → H) :
    ReturnsInHanded {} Try.checked os 8 .any (Rows.optsFoundSpec.pre6 enc Try.prog Try.f8 Rows.optsFoundRow.domain false) (Rows.optsFoundSpec.post enc Try.prog Try.f8 false true false false) := by
  refine returnsInHanded_of_change (C := Try.checked) own started (by kernel_rfl) Try.func8
    (ChangeSpec.witness6 (enc := enc) (C := Try.checked) false ⟨#[], #[(.slice none 0 0), .int .u16 0, (.slice none 0 0)], []⟩ 8 (by kernel_rfl) (by kernel_rfl) (by kernel_rfl) (by kernel_rfl)) ?_
  intro W base args ds gs before hval0 hW hcnd _
  have hval : ∀ (j : Nat) t v, Try.f8.params[j]? = some t → args[j]? = some v → Value.okWide Try.prog W .any base t v := hval0
  have hW' := hW
  obtain ⟨p, q, hA0, hV, rfl, hfz, hnd⟩ := hW
  have hA : DataW.TrodAll enc Try.prog W 0 (fun _ => true) true Try.f8.params.toList args.toList ds p := hA0
  rw [Try.params8] at hA hval
  obtain ⟨v0, vs0, d0, ds0, p0, q0, hargs, rfl, rfl, h0, r0⟩ := trodAll_cons hA
  obtain ⟨v1, vs1, d1, ds1, p1, q1, rfl, rfl, rfl, h1, r1⟩ := trodAll_cons r0
  obtain ⟨v2, vs2, d2, ds2, p2, q2, rfl, rfl, rfl, h2, r2⟩ := trodAll_cons r1
  obtain ⟨rfl, rfl, rfl⟩ := trodAll_nil r2
  obtain rfl : args = #[v0, v1, v2] := by cases args; simp_all
  obtain ⟨rfl, rfl⟩ := trodVars_none hV
  have k0 := opts_open (hval 0 23 v0 rfl rfl) h0
  have lt0 : ∀ x ∈ p0, x.block < W.heap.size := by obtain ⟨m, hm⟩ := h0; exact DataW.trod_lt m _ _ _ hm
  obtain ⟨a1, rfl, rfl, rfl, w1⟩ := open_int Try.underlying43 (hval 1 43 v1 rfl rfl) h1
  have k2 := blks_open (hval 2 42 v2 rfl rfl) h2
  have lt2 : ∀ x ∈ p2, x.block < W.heap.size := by obtain ⟨m, hm⟩ := h2; exact DataW.trod_lt m _ _ _ hm
  clear hA0 hval0
  refine (walk W v0 k0 a1 w1 v2 k2).mono fun e W' ⟨he, bel⟩ => ?_
  subst he
  exact ⟨_, rfl, _, _, _, [], _, [], hW', trodAll_mk1 (shut_bool Try.underlying4 _), (trodAll_cons_mk (Below.trod laidOut (by kernel_rfl) (of_decide_eq_true (by kernel_rfl)) h0 bel lt0) (trodAll_cons_mk (shut_int Try.underlying43 w1) (trodAll_cons_mk (Below.trod laidOut (by kernel_rfl) (of_decide_eq_true (by kernel_rfl)) h2 bel lt2) trodAll_mk0))), rfl, bel.frame _, fun h => by cases h⟩

theorem over : Rows.optsFoundRow.holds Try.pinned (OpenSpec.ofChange Rows.optsFoundSpec) :=
  OpenClaim.holds_of_wide 8 Try.f8 rfl rfl rfl rfl rfl rfl rfl ⟨rfl, rfl, rfl, rfl, rfl⟩ rfl rfl rfl rfl rfl (by kernel_rfl) Try.func8 (by kernel_rfl)
    (of_decide_eq_true (by kernel_rfl)) (by unfold Func.isWrapper; first | (rw [if_pos (by decide +kernel)]; kernel_rfl) | (rw [if_neg (by decide +kernel)]; exact ⟨rfl, rfl⟩))
    (fun os started H enc _ => lifted os started H enc)

/-- The statement. -/
theorem proved : Rows.OptsFoundSaid := over
#print axioms proved
end Go.Proofs.Ytikfklbgncdbnaa.optsFound
