/-
  The contract of culvertref06's Parse where nothing is wrong.
-/
import Derived.Test.YtoblllgefmajiaaSegParse
namespace Go.Proofs.Ytoblllgefmajiaa
set_option maxRecDepth 10000
open Go.RowKit

/-- What Parse tells of bytes that are a segment. -/
def SegGood (b : List Int) (w : World) (e : Ending) (w' : World) : Prop :=
  ∃ AO nO cO os AD cD, e = .returned (.tuple #[.agg (segC (segOf b (offB b)) AO nO cO AD (b.length - offB b) cD), .int .i64 0]) ∧ OwnO w' w.heap.size AO nO cO os ∧ Reads w' os (segOf b (offB b)).os ∧
    OwnB w' w.heap.size AD (b.length - offB b) cD (b.drop (offB b)) ∧ Below w.heap.size w w'

theorem OwnO.at6 {w : World} {B : Nat} {A : Option Addr} {n c k : Nat} {os : List OptV} (h : OwnO w B A n c os) (hA : A = some ⟨k, 0, none⟩) : B ≤ k ∧ k < w.heap.size := by
  rcases h.2 with ⟨e, _⟩ | ⟨g, cap, cur, e, hB, hg, _⟩
  · injection e with e _ _; rw [hA] at e; cases e
  · injection e with e _ _
    rw [hA] at e
    injection e with e
    injection e with e _
    subst e
    exact ⟨hB, lt_of_block hg⟩
theorem set9_but (w : World) (q : Nat) (v0 v1 v2 v3 v4 v5 v6 v7 v8 : Value) : But (fun k => k = q) w (((((((((w.setCell ⟨q, 0, none⟩ v0).setCell ⟨q, 1, none⟩ v1).setCell ⟨q, 2, none⟩ v2).setCell ⟨q, 3, none⟩ v3).setCell ⟨q, 4, none⟩ v4).setCell ⟨q, 5, none⟩ v5).setCell ⟨q, 6, none⟩ v6).setCell ⟨q, 7, none⟩ v7).setCell ⟨q, 8, none⟩ v8) := ((((((((((But.refl (fun k => k = q) w).setCell (p := ⟨q, 0, none⟩) rfl v0).setCell (p := ⟨q, 1, none⟩) rfl v1).setCell (p := ⟨q, 2, none⟩) rfl v2).setCell (p := ⟨q, 3, none⟩) rfl v3).setCell (p := ⟨q, 4, none⟩) rfl v4).setCell (p := ⟨q, 5, none⟩) rfl v5).setCell (p := ⟨q, 6, none⟩) rfl v6).setCell (p := ⟨q, 7, none⟩) rfl v7).setCell (p := ⟨q, 8, none⟩) rfl v8)

set_option maxHeartbeats 1000000 in
theorem rparse6_good (src dst : Int) (A : Option Addr) (n c : Nat) (b : List Int) (w : World) (hc : n ≤ c ∧ c ≤ maxLen) (hr : Rd w A n b) (hx : errSeg src dst b = 0) :
    Calls Try.prog 18 #[.int .u32 src, .int .u32 dst, .slice A n c] w (SegGood b w) := by
  have hl := hr.len
  have hl20 : 20 ≤ n := by
    unfold errSeg at hx
    by_cases h3 : 1480 < b.length
    · rw [if_pos h3] at hx; omega
    by_cases h4 : b.length < 20
    · rw [if_neg h3, if_pos h4] at hx; omega
    omega
  obtain ⟨r, hir, hcr, hrb, hf0, hf1⟩ := byte_at (c := c) hr 13 13 (by omega) rfl
  obtain ⟨f, ef⟩ : ∃ f, b.getD 13 0 = f := ⟨_, rfl⟩
  rw [ef] at hcr hf0 hf1
  have Ef := Lib.hid ef
  have Sof := Lib.hid (show ∀ w', Below w.heap.size w w' → w'.cell? r = some (.int .u8 f) from fun w' h => (h.cell hrb).trans hcr)
  clear ef hcr
  have hb0 : Below w.heap.size w ((w.alloc (.cells #[.int .u16 0, .int .u16 0, .int .u32 0, .int .u32 0, .int .u8 0, .int .u16 0, .int .u16 0, .slice none 0 0, .slice none 0 0] 27)).alloc (.cells #[.int .u16 0, .int .u16 0, .int .u32 0, .int .u32 0, .int .u8 0, .int .u16 0, .int .u16 0, .slice none 0 0, .slice none 0 0] 27)) := ((Below.refl _ _).alloc (Nat.le_refl _) _).alloc (by simp) _
  have Hb0 := Lib.hid hb0
  have Hr := Lib.hid (hr.below hb0)
  have Hl := Lib.hid hl
  obtain ⟨h3, h4, h5, h6, h7, h8⟩ : ¬ 1480 < b.length ∧ ¬ b.length < 20 ∧ ¬ offB b < 20 ∧ ¬ b.length < offB b ∧ sumL (pseudoL src dst 6 b.length ++ b) = 65535 ∧ (parseO ((b.take (offB b)).drop 20)).2 = 0 := by
    unfold errSeg at hx
    by_cases h3 : 1480 < b.length
    · rw [if_pos h3] at hx; omega
    by_cases h4 : b.length < 20
    · rw [if_neg h3, if_pos h4] at hx; omega
    by_cases h5 : offB b < 20
    · rw [if_neg h3, if_neg h4, if_pos h5] at hx; omega
    by_cases h6 : b.length < offB b
    · rw [if_neg h3, if_neg h4, if_neg h5, if_pos h6] at hx; omega
    by_cases h7 : sumL (pseudoL src dst 6 b.length ++ b) = 65535
    · by_cases h8 : (parseO ((b.take (offB b)).drop 20)).2 = 0
      · exact ⟨h3, h4, h5, h6, h7, h8⟩
      · rw [if_neg h3, if_neg h4, if_neg h5, if_neg h6, if_neg (by simp [h7]), if_pos h8] at hx; omega
    · rw [if_neg h3, if_neg h4, if_neg h5, if_neg h6, if_pos h7] at hx; omega
  have i1 : (n : Int) ≤ 1480 := by omega
  have i2 : 20 ≤ (n : Int) := by omega
  obtain ⟨p, hix, hc12, hpb, hx0, hx1⟩ := byte_at (c := c) Hr.out 12 12 (by omega) rfl
  obtain ⟨x, ex⟩ : ∃ x, b.getD 12 0 = x := ⟨_, rfl⟩
  have hoff : offB b = (x / 16 * 4).toNat := by unfold offB; rw [ex]
  rw [ex] at hc12 hx0 hx1
  have Hoff := Lib.hid hoff
  clear ex
  have i3 : 20 ≤ x / 16 * 4 := by omega
  have i4 : x / 16 * 4 ≤ (n : Int) := by omega
  have H7 := Lib.hid h7
  have H8 := Lib.hid h8
  have hob : 20 ≤ offB b ∧ offB b ≤ n := by omega
  have Hob := Lib.hid hob
  clear hr hl hb0 hx hoff h3 h4 h5 h6 h7 h8 hob
  go_enter Try.func18, Try.ntmps18
  go_wp2_with fail
  refine (whole_any src dst A n c b _ (by omega) Hr.out).mono ?_
  rintro e w1 ⟨A1, c1, rfl, _, _, hown, hb1⟩
  have hby : ∀ x ∈ pseudoL src dst 6 n ++ b, 0 ≤ x ∧ x < 256 := fun x hx => by
    rcases List.mem_append.1 hx with h1 | h1
    · exact pseudo_byte _ _ _ _ (by omega) x h1
    · exact Hr.out.byte x h1
  have Hs := Lib.hid (rsum_any A1 (12 + n) c1 _ w1 (by omega) (hown.rd hby))
  have Hb1 := Lib.hid (Hb0.out.trans (hb1.mono Hb0.out.size))
  have Hr1 := Lib.hid (Hr.out.below hb1)
  have Hlt := Lib.hid (show w.heap.size < w1.heap.size by have := hb1.size; simp at this; omega)
  have Hk0 := Lib.hid (blk_on (g := w.heap.size) (by rw [Below.heap_alloc _ _ _ (by simp)]; exact heap_alloc_new w _) hb1)
  clear hown hb1 hby
  go_wp2_with fail
  refine Hs.out.mono ?_
  rintro e w2 ⟨rfl, rfl⟩
  rw [show sumL (pseudoL src dst 6 n ++ b) = 65535 by rw [← H7.out, Hl.out]]
  obtain ⟨A2, hcut, hr2⟩ := Hr1.out.part (c := c) 20 (offB b) 20 (x / 16 * 4) (by omega) Hob.out.1 Hob.out.2 hc.1 hc.2 rfl (by have := Hoff.out; omega)
  have Hp2 := Lib.hid (rparse_own A2 (offB b - 20) (c - 20) ((b.take (offB b)).drop 20) w1 (by have := Hob.out; have := hc.1; have := hc.2; omega) hr2)
  clear hr2
  go_wp2_with fail
  refine Hp2.out.mono ?_
  rintro e w3 ⟨A3, m3, c3, os, rfl, hown3, hrd3, hb3, hfr3⟩
  have Hb3 := Lib.hid (Hb1.out.trans (hb3.mono Hb1.out.size))
  have Hk3 := Lib.hid (blk_on Hk0.out hb3)
  have Hb3w := Lib.hid hb3
  have Hr3 := Lib.hid (Hr1.out.below hb3)
  have Hown3 := Lib.hid hown3
  have Hfr3 := Lib.hid hfr3
  have Hrd3 := Lib.hid hrd3
  rw [H8.out]
  clear hown3 hrd3 hb3 hfr3
  go_wp2_with fail
  obtain ⟨v0, e0⟩ : ∃ v, numL ((b.drop 0).take 2) = v := ⟨_, rfl⟩
  have b0 := numL_bd ((b.drop 0).take 2) (fun x hx => Hr.out.byte x (List.mem_of_mem_drop (List.mem_of_mem_take hx))) (by rw [List.length_take]; omega)
  rw [show ((b.drop 0).take 2).length = 2 by rw [List.length_take, List.length_drop, Hl.out]; omega, e0] at b0
  have E0 := Lib.hid e0
  have u0 : IntKind.u16.wrap v0 = v0 := wraps_u16 _ b0.1 (by omega)
  obtain ⟨v2, e2⟩ : ∃ v, numL ((b.drop 2).take 2) = v := ⟨_, rfl⟩
  have b2 := numL_bd ((b.drop 2).take 2) (fun x hx => Hr.out.byte x (List.mem_of_mem_drop (List.mem_of_mem_take hx))) (by rw [List.length_take]; omega)
  rw [show ((b.drop 2).take 2).length = 2 by rw [List.length_take, List.length_drop, Hl.out]; omega, e2] at b2
  have E2 := Lib.hid e2
  have u2 : IntKind.u16.wrap v2 = v2 := wraps_u16 _ b2.1 (by omega)
  obtain ⟨v4, e4⟩ : ∃ v, numL ((b.drop 4).take 4) = v := ⟨_, rfl⟩
  have b4 := numL_bd ((b.drop 4).take 4) (fun x hx => Hr.out.byte x (List.mem_of_mem_drop (List.mem_of_mem_take hx))) (by rw [List.length_take]; omega)
  rw [show ((b.drop 4).take 4).length = 4 by rw [List.length_take, List.length_drop, Hl.out]; omega, e4] at b4
  have E4 := Lib.hid e4
  obtain ⟨v8, e8⟩ : ∃ v, numL ((b.drop 8).take 4) = v := ⟨_, rfl⟩
  have b8 := numL_bd ((b.drop 8).take 4) (fun x hx => Hr.out.byte x (List.mem_of_mem_drop (List.mem_of_mem_take hx))) (by rw [List.length_take]; omega)
  rw [show ((b.drop 8).take 4).length = 4 by rw [List.length_take, List.length_drop, Hl.out]; omega, e8] at b8
  have E8 := Lib.hid e8
  obtain ⟨v14, e14⟩ : ∃ v, numL ((b.drop 14).take 2) = v := ⟨_, rfl⟩
  have b14 := numL_bd ((b.drop 14).take 2) (fun x hx => Hr.out.byte x (List.mem_of_mem_drop (List.mem_of_mem_take hx))) (by rw [List.length_take]; omega)
  rw [show ((b.drop 14).take 2).length = 2 by rw [List.length_take, List.length_drop, Hl.out]; omega, e14] at b14
  have E14 := Lib.hid e14
  have u14 : IntKind.u16.wrap v14 = v14 := wraps_u16 _ b14.1 (by omega)
  obtain ⟨v18, e18⟩ : ∃ v, numL ((b.drop 18).take 2) = v := ⟨_, rfl⟩
  have b18 := numL_bd ((b.drop 18).take 2) (fun x hx => Hr.out.byte x (List.mem_of_mem_drop (List.mem_of_mem_take hx))) (by rw [List.length_take]; omega)
  rw [show ((b.drop 18).take 2).length = 2 by rw [List.length_take, List.length_drop, Hl.out]; omega, e18] at b18
  have E18 := Lib.hid e18
  have u18 : IntKind.u16.wrap v18 = v18 := wraps_u16 _ b18.1 (by omega)
  clear e0 e2 e4 e8 e14 e18
  obtain ⟨A5, hrest, hr5⟩ := Hr3.out.rest (c := c) (offB b) (x / 16 * 4) (by omega) Hob.out.2 hc.1 hc.2 (by have := Hoff.out; omega)
  have Hr5 := Lib.hid (hr5.below (Below.drew (Below.refl _ w3)))
  have Hrw := Lib.hid (Hr3.out.below (Below.drew (Below.refl _ w3)))
  have Hcw := Lib.hid (Sof.out _ (Below.drew Hb3.out))
  have Hkw := Lib.hid (blk_on Hk3.out (Below.drew (Below.refl _ w3)))
  have HBw := Lib.hid (Below.drew Hb3.out)
  clear hr5
  refine wp_region_held_drew (S := fun w' => w'.cell? r = some (.int .u8 f)) (by kernel_rfl) Hcw.out (fun hHeld => ?_)
  refine wpAnyH_take (i := 0) (oi := { dst := some 52, op := Go.Op.move (Go.Operand.tmp 2), type := 25, pos := "ref.go:107", after := #[], guard := none }) (v := ?_) rfl (by kernel_rfl) (by kernel_rfl) (by kernel_rfl) (fun _ _ _ h => h) (Or.inl ⟨by rfl, ?_⟩) (by assumption) ?_
  rotate_left 1
  · intro w' hSw; (go_simp <;> (with_reducible rfl))
  (try simp only [Act.put, List.setIfInBounds_toArray, List.set_cons_zero, List.set_cons_succ])
  refine wpAnyH_take (i := 3) (oi := { dst := some 55, op := Go.Op.move (Go.Operand.tmp 2), type := 25, pos := "ref.go:107", after := #[], guard := none }) (v := ?_) rfl (by kernel_rfl) (by kernel_rfl) (by kernel_rfl) (fun _ _ _ h => h) (Or.inl ⟨by rfl, ?_⟩) (by assumption) ?_
  rotate_left 1
  · intro w' hSw; (go_simp <;> (with_reducible rfl))
  (try simp only [Act.put, List.setIfInBounds_toArray, List.set_cons_zero, List.set_cons_succ])
  refine wpAnyH_take (i := 6) (oi := { dst := some 58, op := Go.Op.move (Go.Operand.tmp 2), type := 25, pos := "ref.go:107", after := #[], guard := none }) (v := ?_) rfl (by kernel_rfl) (by kernel_rfl) (by kernel_rfl) (fun _ _ _ h => h) (Or.inl ⟨by rfl, ?_⟩) (by assumption) ?_
  rotate_left 1
  · intro w' hSw; (go_simp <;> (with_reducible rfl))
  (try simp only [Act.put, List.setIfInBounds_toArray, List.set_cons_zero, List.set_cons_succ])
  refine wpAnyH_take (i := 8) (oi := { dst := some 60, op := Go.Op.move (Go.Operand.tmp 2), type := 25, pos := "ref.go:107", after := #[], guard := none }) (v := ?_) rfl (by kernel_rfl) (by kernel_rfl) (by kernel_rfl) (fun _ _ _ h => h) (Or.inl ⟨by rfl, ?_⟩) (by assumption) ?_
  rotate_left 1
  · intro w' hSw; (go_simp <;> (with_reducible rfl))
  (try simp only [Act.put, List.setIfInBounds_toArray, List.set_cons_zero, List.set_cons_succ])
  refine wpAnyH_take (i := 10) (oi := { dst := some 62, op := Go.Op.move (Go.Operand.tmp 2), type := 25, pos := "ref.go:107", after := #[], guard := none }) (v := ?_) rfl (by kernel_rfl) (by kernel_rfl) (by kernel_rfl) (fun _ _ _ h => h) (Or.inl ⟨by rfl, ?_⟩) (by assumption) ?_
  rotate_left 1
  · intro w' hSw; (go_simp <;> (with_reducible rfl))
  (try simp only [Act.put, List.setIfInBounds_toArray, List.set_cons_zero, List.set_cons_succ])
  refine wpAnyH_take (i := 11) (oi := { dst := some 63, op := Go.Op.indexAddr 25 (Go.Operand.tmp 62) (Go.Operand.const (Go.Value.int Go.IntKind.i64 13)), type := 0, pos := "ref.go:107", after := #[{ on := 10, ground := Go.Ground.data }], guard := none }) (v := ?_) rfl (by kernel_rfl) (by kernel_rfl) (by kernel_rfl) (fun _ _ _ h => h) (Or.inl ⟨by rfl, ?_⟩) (by assumption) ?_
  rotate_left 1
  · intro w' hSw; (go_simp <;> (with_reducible rfl))
  (try simp only [Act.put, List.setIfInBounds_toArray, List.set_cons_zero, List.set_cons_succ])
  refine wpAnyH_take (i := 12) (oi := { dst := some 64, op := Go.Op.load 5 (Go.Operand.tmp 63), type := 5, pos := "ref.go:107", after := #[{ on := 11, ground := Go.Ground.data }], guard := none }) (v := ?_) rfl (by kernel_rfl) (by kernel_rfl) (by kernel_rfl) (fun _ _ _ h => h) (Or.inl ⟨by rfl, ?_⟩) (by assumption) ?_
  rotate_left 1
  · intro w' hSw; (go_simp <;> (with_reducible rfl))
  (try simp only [Act.put, List.setIfInBounds_toArray, List.set_cons_zero, List.set_cons_succ])
  refine wpAnyH_take (i := 13) (oi := { dst := some 65, op := Go.Op.move (Go.Operand.tmp 2), type := 25, pos := "ref.go:107", after := #[], guard := none }) (v := ?_) rfl (by kernel_rfl) (by kernel_rfl) (by kernel_rfl) (fun _ _ _ h => h) (Or.inl ⟨by rfl, ?_⟩) (by assumption) ?_
  rotate_left 1
  · intro w' hSw; (go_simp <;> (with_reducible rfl))
  (try simp only [Act.put, List.setIfInBounds_toArray, List.set_cons_zero, List.set_cons_succ])
  refine wpAnyH_take (i := 16) (oi := { dst := some 68, op := Go.Op.move (Go.Operand.tmp 2), type := 25, pos := "ref.go:107", after := #[], guard := none }) (v := ?_) rfl (by kernel_rfl) (by kernel_rfl) (by kernel_rfl) (fun _ _ _ h => h) (Or.inl ⟨by rfl, ?_⟩) (by assumption) ?_
  rotate_left 1
  · intro w' hSw; (go_simp <;> (with_reducible rfl))
  (try simp only [Act.put, List.setIfInBounds_toArray, List.set_cons_zero, List.set_cons_succ])
  refine wpAnyH_take (i := 19) (oi := { dst := some 71, op := Go.Op.move (Go.Operand.tmp 10), type := 24, pos := "ref.go:107", after := #[], guard := none }) (v := ?_) rfl (by kernel_rfl) (by kernel_rfl) (by kernel_rfl) (fun _ _ _ h => h) (Or.inl ⟨by rfl, ?_⟩) (by assumption) ?_
  rotate_left 1
  · intro w' hSw; (go_simp <;> (with_reducible rfl))
  (try simp only [Act.put, List.setIfInBounds_toArray, List.set_cons_zero, List.set_cons_succ])
  refine wpAnyH_take (i := 20) (oi := { dst := some 72, op := Go.Op.move (Go.Operand.tmp 12), type := 25, pos := "ref.go:107", after := #[], guard := none }) (v := ?_) rfl (by kernel_rfl) (by kernel_rfl) (by kernel_rfl) (fun _ _ _ h => h) (Or.inl ⟨by rfl, ?_⟩) (by assumption) ?_
  rotate_left 1
  · intro w' hSw; (go_simp <;> (with_reducible rfl))
  (try simp only [Act.put, List.setIfInBounds_toArray, List.set_cons_zero, List.set_cons_succ])
  refine wpAnyH_take (i := 21) (oi := { dst := some 73, op := Go.Op.move (Go.Operand.tmp 2), type := 25, pos := "ref.go:107", after := #[], guard := none }) (v := ?_) rfl (by kernel_rfl) (by kernel_rfl) (by kernel_rfl) (fun _ _ _ h => h) (Or.inl ⟨by rfl, ?_⟩) (by assumption) ?_
  rotate_left 1
  · intro w' hSw; (go_simp <;> (with_reducible rfl))
  (try simp only [Act.put, List.setIfInBounds_toArray, List.set_cons_zero, List.set_cons_succ])
  refine wpAnyH_take (i := 22) (oi := { dst := some 74, op := Go.Op.move (Go.Operand.tmp 9), type := 3, pos := "ref.go:107", after := #[], guard := none }) (v := ?_) rfl (by kernel_rfl) (by kernel_rfl) (by kernel_rfl) (fun _ _ _ h => h) (Or.inl ⟨by rfl, ?_⟩) (by assumption) ?_
  rotate_left 1
  · intro w' hSw; (go_simp <;> (with_reducible rfl))
  (try simp only [Act.put, List.setIfInBounds_toArray, List.set_cons_zero, List.set_cons_succ])
  refine wpAnyH_take (i := 23) (oi := { dst := some 75, op := Go.Op.slice 25 (Go.Operand.tmp 73) (some (Go.Operand.tmp 74)) none none, type := 25, pos := "ref.go:107", after := #[{ on := 21, ground := Go.Ground.data }, { on := 22, ground := Go.Ground.data }], guard := none }) (v := ?_) rfl (by kernel_rfl) (by kernel_rfl) (by kernel_rfl) (fun _ _ _ h => h) (Or.inl ⟨by rfl, ?_⟩) (by assumption) ?_
  rotate_left 1
  · intro w' hSw; (go_simp <;> (with_reducible rfl))
  (try simp only [Act.put, List.setIfInBounds_toArray, List.set_cons_zero, List.set_cons_succ])
  refine wpAnyH_ready (rs := [1]) (by kernel_rfl) (by simp) ?_
  refine AllReadyH.cons (o := { dst := some 53, op := Go.Op.call { callee := Go.Callee.value (Go.Operand.func 66), args := #[Go.Operand.tmp 52, Go.Operand.const (Go.Value.int Go.IntKind.i64 0), Go.Operand.const (Go.Value.int Go.IntKind.i64 2)], argTypes := #[25, 3, 3] }, type := 22, pos := "ref.go:107", after := #[{ on := 0, ground := Go.Ground.data }], guard := none }) rfl (fun K hK => ?_) AllReadyH.nil
  go_simp
  (go_at_call 66; refine (num_any A n c 0 2 0 2 b _ (by omega) (by omega) (by omega) rfl rfl Hrw.out).mono ?_; rintro e w5 ⟨rfl, rfl⟩; rw [E0.out])
  refine hK.out _ _ ?_ (fun hHeld => ?_)
  · exact Hcw.out
  clear hK K
  (try simp only [Act.put, List.setIfInBounds_toArray, List.set_cons_zero, List.set_cons_succ])
  refine wpAnyH_take (i := 2) (oi := { dst := some 54, op := Go.Op.convert 22 23 (Go.Operand.tmp 53), type := 23, pos := "ref.go:107", after := #[{ on := 1, ground := Go.Ground.data }], guard := none }) (v := ?_) rfl (by kernel_rfl) (by kernel_rfl) (by kernel_rfl) (fun _ _ _ h => h) (Or.inl ⟨by rfl, ?_⟩) (by assumption) ?_
  rotate_left 1
  · intro w' hSw; (go_simp <;> (with_reducible rfl))
  (try simp only [Act.put, List.setIfInBounds_toArray, List.set_cons_zero, List.set_cons_succ])
  refine wpAnyH_ready (rs := [4]) (by kernel_rfl) (by simp) ?_
  refine AllReadyH.cons (o := { dst := some 56, op := Go.Op.call { callee := Go.Callee.value (Go.Operand.func 66), args := #[Go.Operand.tmp 55, Go.Operand.const (Go.Value.int Go.IntKind.i64 2), Go.Operand.const (Go.Value.int Go.IntKind.i64 2)], argTypes := #[25, 3, 3] }, type := 22, pos := "ref.go:107", after := #[{ on := 3, ground := Go.Ground.data }, { on := 1, ground := Go.Ground.chain }], guard := none }) rfl (fun K hK => ?_) AllReadyH.nil
  go_simp
  (go_at_call 66; refine (num_any A n c 2 2 2 2 b _ (by omega) (by omega) (by omega) rfl rfl Hrw.out).mono ?_; rintro e w5 ⟨rfl, rfl⟩; rw [E2.out])
  refine hK.out _ _ ?_ (fun hHeld => ?_)
  · exact Hcw.out
  clear hK K
  (try simp only [Act.put, List.setIfInBounds_toArray, List.set_cons_zero, List.set_cons_succ])
  refine wpAnyH_take (i := 5) (oi := { dst := some 57, op := Go.Op.convert 22 23 (Go.Operand.tmp 56), type := 23, pos := "ref.go:107", after := #[{ on := 4, ground := Go.Ground.data }], guard := none }) (v := ?_) rfl (by kernel_rfl) (by kernel_rfl) (by kernel_rfl) (fun _ _ _ h => h) (Or.inl ⟨by rfl, ?_⟩) (by assumption) ?_
  rotate_left 1
  · intro w' hSw; (go_simp <;> (with_reducible rfl))
  (try simp only [Act.put, List.setIfInBounds_toArray, List.set_cons_zero, List.set_cons_succ])
  refine wpAnyH_ready (rs := [7]) (by kernel_rfl) (by simp) ?_
  refine AllReadyH.cons (o := { dst := some 59, op := Go.Op.call { callee := Go.Callee.value (Go.Operand.func 66), args := #[Go.Operand.tmp 58, Go.Operand.const (Go.Value.int Go.IntKind.i64 4), Go.Operand.const (Go.Value.int Go.IntKind.i64 4)], argTypes := #[25, 3, 3] }, type := 22, pos := "ref.go:107", after := #[{ on := 6, ground := Go.Ground.data }, { on := 4, ground := Go.Ground.chain }], guard := none }) rfl (fun K hK => ?_) AllReadyH.nil
  go_simp
  (go_at_call 66; refine (num_any A n c 4 4 4 4 b _ (by omega) (by omega) (by omega) rfl rfl Hrw.out).mono ?_; rintro e w5 ⟨rfl, rfl⟩; rw [E4.out])
  refine hK.out _ _ ?_ (fun hHeld => ?_)
  · exact Hcw.out
  clear hK K
  (try simp only [Act.put, List.setIfInBounds_toArray, List.set_cons_zero, List.set_cons_succ])
  refine wpAnyH_ready (rs := [9]) (by kernel_rfl) (by simp) ?_
  refine AllReadyH.cons (o := { dst := some 61, op := Go.Op.call { callee := Go.Callee.value (Go.Operand.func 66), args := #[Go.Operand.tmp 60, Go.Operand.const (Go.Value.int Go.IntKind.i64 8), Go.Operand.const (Go.Value.int Go.IntKind.i64 4)], argTypes := #[25, 3, 3] }, type := 22, pos := "ref.go:107", after := #[{ on := 8, ground := Go.Ground.data }, { on := 7, ground := Go.Ground.chain }], guard := none }) rfl (fun K hK => ?_) AllReadyH.nil
  go_simp
  (go_at_call 66; refine (num_any A n c 8 4 8 4 b _ (by omega) (by omega) (by omega) rfl rfl Hrw.out).mono ?_; rintro e w5 ⟨rfl, rfl⟩; rw [E8.out])
  refine hK.out _ _ ?_ (fun hHeld => ?_)
  · exact Hcw.out
  clear hK K
  (try simp only [Act.put, List.setIfInBounds_toArray, List.set_cons_zero, List.set_cons_succ])
  refine wpAnyH_ready (rs := [14]) (by kernel_rfl) (by simp) ?_
  refine AllReadyH.cons (o := { dst := some 66, op := Go.Op.call { callee := Go.Callee.value (Go.Operand.func 66), args := #[Go.Operand.tmp 65, Go.Operand.const (Go.Value.int Go.IntKind.i64 14), Go.Operand.const (Go.Value.int Go.IntKind.i64 2)], argTypes := #[25, 3, 3] }, type := 22, pos := "ref.go:107", after := #[{ on := 13, ground := Go.Ground.data }, { on := 9, ground := Go.Ground.chain }], guard := none }) rfl (fun K hK => ?_) AllReadyH.nil
  go_simp
  (go_at_call 66; refine (num_any A n c 14 2 14 2 b _ (by omega) (by omega) (by omega) rfl rfl Hrw.out).mono ?_; rintro e w5 ⟨rfl, rfl⟩; rw [E14.out])
  refine hK.out _ _ ?_ (fun hHeld => ?_)
  · exact Hcw.out
  clear hK K
  (try simp only [Act.put, List.setIfInBounds_toArray, List.set_cons_zero, List.set_cons_succ])
  refine wpAnyH_take (i := 15) (oi := { dst := some 67, op := Go.Op.convert 22 23 (Go.Operand.tmp 66), type := 23, pos := "ref.go:107", after := #[{ on := 14, ground := Go.Ground.data }], guard := none }) (v := ?_) rfl (by kernel_rfl) (by kernel_rfl) (by kernel_rfl) (fun _ _ _ h => h) (Or.inl ⟨by rfl, ?_⟩) (by assumption) ?_
  rotate_left 1
  · intro w' hSw; (go_simp <;> (with_reducible rfl))
  (try simp only [Act.put, List.setIfInBounds_toArray, List.set_cons_zero, List.set_cons_succ])
  refine wpAnyH_ready (rs := [17]) (by kernel_rfl) (by simp) ?_
  refine AllReadyH.cons (o := { dst := some 69, op := Go.Op.call { callee := Go.Callee.value (Go.Operand.func 66), args := #[Go.Operand.tmp 68, Go.Operand.const (Go.Value.int Go.IntKind.i64 18), Go.Operand.const (Go.Value.int Go.IntKind.i64 2)], argTypes := #[25, 3, 3] }, type := 22, pos := "ref.go:107", after := #[{ on := 16, ground := Go.Ground.data }, { on := 14, ground := Go.Ground.chain }], guard := none }) rfl (fun K hK => ?_) AllReadyH.nil
  go_simp
  (go_at_call 66; refine (num_any A n c 18 2 18 2 b _ (by omega) (by omega) (by omega) rfl rfl Hrw.out).mono ?_; rintro e w5 ⟨rfl, rfl⟩; rw [E18.out])
  refine hK.out _ _ ?_ (fun hHeld => ?_)
  · exact Hcw.out
  clear hK K
  (try simp only [Act.put, List.setIfInBounds_toArray, List.set_cons_zero, List.set_cons_succ])
  refine wpAnyH_take (i := 18) (oi := { dst := some 70, op := Go.Op.convert 22 23 (Go.Operand.tmp 69), type := 23, pos := "ref.go:107", after := #[{ on := 17, ground := Go.Ground.data }], guard := none }) (v := ?_) rfl (by kernel_rfl) (by kernel_rfl) (by kernel_rfl) (fun _ _ _ h => h) (Or.inl ⟨by rfl, ?_⟩) (by assumption) ?_
  rotate_left 1
  · intro w' hSw; (go_simp <;> (with_reducible rfl))
  (try simp only [Act.put, List.setIfInBounds_toArray, List.set_cons_zero, List.set_cons_succ])
  refine wpAnyH_ready (rs := [24]) (by kernel_rfl) (by simp) ?_
  refine AllReadyH.cons (o := { dst := some 76, op := Go.Op.call { callee := Go.Callee.builtin Go.Builtin.append, args := #[Go.Operand.tmp 72, Go.Operand.tmp 75], argTypes := #[25, 25] }, type := 25, pos := "ref.go:107", after := #[{ on := 20, ground := Go.Ground.data }, { on := 23, ground := Go.Ground.data }, { on := 17, ground := Go.Ground.chain }], guard := none }) rfl (fun K hK => ?_) AllReadyH.nil
  (refine step_app (by rfl) (.tmp 72) (.tmp 75) (by rfl) w3.drew.heap.size none A5 0 0 (n - offB b) (c - offB b) [] (b.drop (offB b)) (n - offB b) _ (Nat.zero_add _) rfl (by rfl) (by rfl) (OwnB.nil _ _) Hr5.out (by omega) (Nat.le_refl _) ?_; intro A6 c6 w6 hown6 _ hb6; have HB6 := Lib.hid (HBw.out.trans (hb6.mono HBw.out.size)); have Hown6 := Lib.hid hown6; have Hk6 := Lib.hid (blk_on Hkw.out hb6); have Hb6 := Lib.hid hb6; clear hown6 hb6; obtain ⟨p0, p1, p2, p3, p4, p5, p6, p7, p8⟩ := seg_cells Hk6.out; have pf := blk_free Hk6.out)
  refine hK.out _ _ ?_ (fun hHeld => ?_)
  · exact Sof.out _ HB6.out
  clear hK K
  (try simp only [Act.put, List.setIfInBounds_toArray, List.set_cons_zero, List.set_cons_succ])
  refine wpAnyH_take (i := 25) (oi := { dst := some 77, op := Go.Op.build 27 #[(0, Go.Operand.tmp 54), (1, Go.Operand.tmp 57), (2, Go.Operand.tmp 59), (3, Go.Operand.tmp 61), (4, Go.Operand.tmp 64), (5, Go.Operand.tmp 67), (6, Go.Operand.tmp 70), (7, Go.Operand.tmp 71), (8, Go.Operand.tmp 76)], type := 27, pos := "ref.go:107", after := #[{ on := 2, ground := Go.Ground.data }, { on := 5, ground := Go.Ground.data }, { on := 7, ground := Go.Ground.data }, { on := 9, ground := Go.Ground.data }, { on := 12, ground := Go.Ground.data }, { on := 15, ground := Go.Ground.data }, { on := 18, ground := Go.Ground.data }, { on := 19, ground := Go.Ground.data }, { on := 24, ground := Go.Ground.data }], guard := none }) (v := ?_) rfl (by kernel_rfl) (by kernel_rfl) (by kernel_rfl) (fun _ _ _ h => h) (Or.inl ⟨by rfl, ?_⟩) (by assumption) ?_
  rotate_left 1
  · intro w' hSw; (go_simp <;> (with_reducible rfl))
  (try simp only [Act.put, List.setIfInBounds_toArray, List.set_cons_zero, List.set_cons_succ])
  refine wpAnyH_ready (rs := [26]) (by kernel_rfl) (by simp) ?_
  refine AllReadyH.cons (o := { dst := none, op := Go.Op.store 27 (Go.Operand.tmp 6) (Go.Operand.tmp 77), type := 0, pos := "ref.go:107", after := #[{ on := 25, ground := Go.Ground.data }, { on := 24, ground := Go.Ground.chain }, { on := 0, ground := Go.Ground.phase }, { on := 1, ground := Go.Ground.phase }, { on := 2, ground := Go.Ground.phase }, { on := 3, ground := Go.Ground.phase }, { on := 4, ground := Go.Ground.phase }, { on := 5, ground := Go.Ground.phase }, { on := 6, ground := Go.Ground.phase }, { on := 7, ground := Go.Ground.phase }, { on := 8, ground := Go.Ground.phase }, { on := 9, ground := Go.Ground.phase }, { on := 10, ground := Go.Ground.phase }, { on := 11, ground := Go.Ground.phase }, { on := 12, ground := Go.Ground.phase }, { on := 13, ground := Go.Ground.phase }, { on := 14, ground := Go.Ground.phase }, { on := 15, ground := Go.Ground.phase }, { on := 16, ground := Go.Ground.phase }, { on := 17, ground := Go.Ground.phase }, { on := 18, ground := Go.Ground.phase }, { on := 19, ground := Go.Ground.phase }, { on := 20, ground := Go.Ground.phase }, { on := 21, ground := Go.Ground.phase }, { on := 22, ground := Go.Ground.phase }, { on := 23, ground := Go.Ground.phase }, { on := 24, ground := Go.Ground.phase }, { on := 25, ground := Go.Ground.phase }], guard := none }) rfl (fun K hK => ?_) AllReadyH.nil
  go_simp
  skip
  refine hK.out _ _ ?_ (fun hHeld => ?_)
  · exact Sof.out _ (((((((((HB6.out.setCell (by simp) _).setCell (by simp) _).setCell (by simp) _).setCell (by simp) _).setCell (by simp) _).setCell (by simp) _).setCell (by simp) _).setCell (by simp) _).setCell (by simp) _)
  clear hK K
  (try simp only [Act.put, List.setIfInBounds_toArray, List.set_cons_zero, List.set_cons_succ])
  refine wpAnyH_take (i := 27) (oi := { dst := some 7, op := Go.Op.assign (Go.Operand.const (Go.Value.int Go.IntKind.i64 0)), type := 3, pos := "ref.go:107", after := #[{ on := 26, ground := Go.Ground.chain }, { on := 0, ground := Go.Ground.phase }, { on := 1, ground := Go.Ground.phase }, { on := 2, ground := Go.Ground.phase }, { on := 3, ground := Go.Ground.phase }, { on := 4, ground := Go.Ground.phase }, { on := 5, ground := Go.Ground.phase }, { on := 6, ground := Go.Ground.phase }, { on := 7, ground := Go.Ground.phase }, { on := 8, ground := Go.Ground.phase }, { on := 9, ground := Go.Ground.phase }, { on := 10, ground := Go.Ground.phase }, { on := 11, ground := Go.Ground.phase }, { on := 12, ground := Go.Ground.phase }, { on := 13, ground := Go.Ground.phase }, { on := 14, ground := Go.Ground.phase }, { on := 15, ground := Go.Ground.phase }, { on := 16, ground := Go.Ground.phase }, { on := 17, ground := Go.Ground.phase }, { on := 18, ground := Go.Ground.phase }, { on := 19, ground := Go.Ground.phase }, { on := 20, ground := Go.Ground.phase }, { on := 21, ground := Go.Ground.phase }, { on := 22, ground := Go.Ground.phase }, { on := 23, ground := Go.Ground.phase }, { on := 24, ground := Go.Ground.phase }, { on := 25, ground := Go.Ground.phase }, { on := 26, ground := Go.Ground.phase }], guard := none }) (v := ?_) rfl (by kernel_rfl) (by kernel_rfl) (by kernel_rfl) (fun _ _ _ h => h) (Or.inl ⟨by rfl, ?_⟩) (by assumption) ?_
  rotate_left 1
  · intro w' hSw; (go_simp <;> (with_reducible rfl))
  (try simp only [Act.put, List.setIfInBounds_toArray, List.set_cons_zero, List.set_cons_succ])
  refine wpAnyH_done (by kernel_rfl) ?_ _
  go_wp2_with fail
  obtain ⟨s0, s1, s2, s3, s4, s5, s6, s7, s8⟩ := set9_cells Hk6.out (.int .u16 v0) (.int .u16 v2) (.int .u32 v4) (.int .u32 v8) (.int .u8 f) (.int .u16 v14) (.int .u16 v18) (.slice A3 m3 c3) (.slice A6 (n - offB b) c6)
  have hset := set9_but w6 w.heap.size (.int .u16 v0) (.int .u16 v2) (.int .u32 v4) (.int .u32 v8) (.int .u8 f) (.int .u16 v14) (.int .u16 v18) (.slice A3 m3 c3) (.slice A6 (n - offB b) c6)
  have Hset := Lib.hid hset
  clear hset
  refine bodyPost_ret (v := .tuple #[.agg #[.int .u16 v0, .int .u16 v2, .int .u32 v4, .int .u32 v8, .int .u8 f, .int .u16 v14, .int .u16 v18, .slice A3 m3 c3, .slice A6 (n - offB b) c6], .int .i64 0]) (by simp [results, Try.results18, go_sem, s0, s1, s2, s3, s4, s5, s6, s7, s8]) rfl ?_
  have hg3 : w1.heap.size ≤ w3.heap.size := Hb3w.out.size
  refine ⟨A3, m3, c3, os, A6, c6, ?_, ?_, ?_, ?_, ?_⟩
  · unfold segC segOf
    simp only [E0.out, E2.out, E4.out, E8.out, Ef.out, E14.out, E18.out, Hl.out]
  · exact (((Hown3.out.on (Below.drew (Below.refl _ _))).on Hb6.out).but Hset.out (fun k hA hk => by have := (Hown3.out.at6 hA).1; have := Hlt.out; omega)).mono (by have := Hlt.out; omega)
  · exact ((Hrd3.out.below (Below.drew (Below.refl _ _))).below Hb6.out).but Hset.out (fun o ho b off e h0 hk => by have := Hfr3.out o ho b off e h0; have := Hlt.out; omega)
  · rw [Hl.out]
    refine (Hown6.out.but Hset.out (fun k h1 h2 => ?_)).mono ?_
    · have := Hlt.out; have h3 : w3.heap.size ≤ k := h1; omega
    · have := Hlt.out; have h3 : w3.drew.heap.size = w3.heap.size := rfl; omega
  · exact (((((((((HB6.out.setCell (by simp) _).setCell (by simp) _).setCell (by simp) _).setCell (by simp) _).setCell (by simp) _).setCell (by simp) _).setCell (by simp) _).setCell (by simp) _).setCell (by simp) _)
end Go.Proofs.Ytoblllgefmajiaa
