/-
  OptsFinds holds: what is found among options, and options that are made, are the document's.
-/
import Derived.Test.YtikfklbgncdbnaaOptLaw
namespace Go.Proofs.Ytikfklbgncdbnaa.optsFinds
set_option maxRecDepth 10000
open Go.ChangeShapes Go.WideShapes Go.ChangeAt Go.RowKit
set_option linter.unusedVariables false
set_option linter.unusedSimpArgs false

theorem RdO.four (w : World) (g : Nat) (hg : w.heap.size = g) (t : TypeId) (fr : Nat × Nat) (k1 k2 k3 k4 : Int) (A1 A2 A3 A4 : Option Addr) (n1 c1 n2 c2 n3 c3 n4 c4 : Nat) :
    RdO (w.alloc (.cells #[.int .u8 k1, .slice A1 n1 c1, .int .u8 k2, .slice A2 n2 c2, .int .u8 k3, .slice A3 n3 c3, .int .u8 k4, .slice A4 n4 c4] t fr)) (some ⟨g, 0, Option.none⟩) 4 [⟨k1, A1, n1, c1⟩, ⟨k2, A2, n2, c2⟩, ⟨k3, A3, n3, c3⟩, ⟨k4, A4, n4, c4⟩] := by
  subst hg
  refine ⟨rfl, fun _ => ⟨w.heap.size, 0, rfl, by simp, fun i hi => ?_⟩⟩
  simp only [World.cell?_alloc_mark]
  have : i = 0 ∨ i = 1 ∨ i = 2 ∨ i = 3 := by omega
  rcases this with rfl | rfl | rfl | rfl <;> exact ⟨rfl, rfl⟩
theorem beN_u32 {l : List Int} (h : ∀ x ∈ l, 0 ≤ x ∧ x < 256) (hl : l.length ≤ 4) : 0 ≤ beN l ∧ beN l < 4294967296 := by
  by_cases h4 : l.length = 4
  · exact beN4_u32 l h h4
  · have := beN_bd l h (by omega)
    omega
theorem pairs_u32 (d : List Int) (h : ∀ x ∈ d, 0 ≤ x ∧ x < 256) : ∀ t, ∀ p ∈ pairsOf t d, U32P p
  | 0, p, hp => by simp [pairsOf] at hp
  | t + 1, p, hp => by
    rcases List.mem_append.1 hp with h1 | h1
    · exact pairs_u32 d h t p h1
    · simp only [List.mem_singleton] at h1
      subst h1
      exact ⟨beN_u32 (fun x hx => h x (List.mem_of_mem_drop (List.mem_of_mem_take hx))) (by rw [List.length_take]; omega), beN_u32 (fun x hx => h x (List.mem_of_mem_drop (List.mem_of_mem_take hx))) (by rw [List.length_take]; omega)⟩
theorem sacksL_u32 {f : List (Int × List Int)} (h : ∀ l ∈ f, ∀ x ∈ l.2, 0 ≤ x ∧ x < 256) : ∀ p ∈ sacksL f, U32P p := by
  unfold sacksL
  split
  · rename_i l hl
    exact pairs_u32 _ (h l (List.mem_of_find?_eq_some hl)) _
  · simp
theorem sacksL_le (f : List (Int × List Int)) : (sacksL f).length ≤ 4 := by
  unfold sacksL
  split
  · rename_i l hl
    have := List.find?_some hl
    unfold sacksP at this
    simp only [decide_eq_true_eq] at this
    rw [pairsOf_len]
    omega
  · simp
/-- An option's bytes that are read. -/
def RdB (w : World) (A : Option Addr) (n c : Nat) (d : List Int) : Prop := n ≤ c ∧ c ≤ maxLen ∧ Rd w A n d
theorem RdB.below {w w' : World} {A : Option Addr} {n c : Nat} {d : List Int} (h : RdB w A n c d) (hb : Below w.heap.size w w') : RdB w' A n c d := ⟨h.1, h.2.1, h.2.2.below hb⟩
theorem RdB.at_ {w : World} {A : Option Addr} {n c : Nat} {d : List Int} (k : Int) (hk : 0 ≤ k ∧ k < 256) (h : RdB w A n c d) : OptAt w ⟨k, A, n, c⟩ (k, d) := ⟨rfl, hk, h.1, h.2.1, h.2.2⟩
theorem OwnB.rdB {w : World} {B : Nat} {A : Option Addr} {n c : Nat} {d : List Int} (h : OwnB w B A n c d) (hd : ∀ x ∈ d, 0 ≤ x ∧ x < 256) : RdB w A n c d := ⟨h.cap, h.capMax, h.rd hd⟩
/-- What WithSacks tells of blocks, by name: the option's kind and Data, and the error. -/
def wsK (l : List (Int × Int)) : Int := if l.length = 0 then 0 else if 4 < l.length then 0 else 5
def wsD (l : List (Int × Int)) : List Int := if l.length = 0 then [] else if 4 < l.length then [] else blkBytes l
def wsE (l : List (Int × Int)) : Int := if l.length = 0 then 1 else if 4 < l.length then 3 else 0
theorem ws_told {l : List (Int × Int)} {w w' : World} {e : Ending} (hu : ∀ p ∈ l, U32P p) (h : WithSacksIs l w e w') : ∃ A c, e = .returned (.tuple #[.agg #[.int .u8 (wsK l), .slice A (wsD l).length c], .int .i64 (wsE l)]) ∧ RdB w' A (wsD l).length c (wsD l) ∧ Below w.heap.size w w' := by
  unfold WithSacksIs at h
  unfold wsK wsD wsE
  by_cases h0 : l.length = 0
  · rw [if_pos h0] at h
    rw [if_pos h0, if_pos h0, if_pos h0]
    exact ⟨none, 0, h.1, ⟨Nat.le_refl _, by simp [maxLen], Rd.nil _ _⟩, h.2⟩
  · rw [if_neg h0] at h
    rw [if_neg h0, if_neg h0, if_neg h0]
    by_cases h4 : 4 < l.length
    · rw [if_pos h4] at h
      rw [if_pos h4, if_pos h4, if_pos h4]
      exact ⟨none, 0, h.1, ⟨Nat.le_refl _, by simp [maxLen], Rd.nil _ _⟩, h.2⟩
    · rw [if_neg h4] at h
      rw [if_neg h4, if_neg h4, if_neg h4, blkBytes_len]
      obtain ⟨A, c, he, ho, hb⟩ := h
      exact ⟨A, c, he, OwnB.rdB ho (blkBytes_bytes l hu), hb⟩

/-- The three options that lie in variables. -/
def Blks3 (ga gb gc : Nat) (kk : Int) (A12 A14 : Option Addr) (dl c12 c14 gm : Nat) (w : World) : Prop :=
  w.heap[ga]? = some (.cells #[.int .u8 kk, .slice A12 dl c12] 31 (0, 0)) ∧ w.heap[gb]? = some (.cells #[.int .u8 kk, .slice A14 dl c14] 31 (0, 0)) ∧ w.heap[gc]? = some (.cells #[.int .u8 2, .slice (some ⟨gm, 0, none⟩) 2 2] 31 (0, 0))
theorem Blks3.on {ga gb gc : Nat} {kk : Int} {A12 A14 : Option Addr} {dl c12 c14 gm : Nat} {w w' : World} (h : Blks3 ga gb gc kk A12 A14 dl c12 c14 gm w) (hb : Below w.heap.size w w') : Blks3 ga gb gc kk A12 A14 dl c12 c14 gm w' := ⟨blk_on h.1 hb, blk_on h.2.1 hb, blk_on h.2.2 hb⟩
theorem Blks3.cells {ga gb gc : Nat} {kk : Int} {A12 A14 : Option Addr} {dl c12 c14 gm : Nat} {w : World} (h : Blks3 ga gb gc kk A12 A14 dl c12 c14 gm w) :
    (w.cell? ⟨ga, 0, none⟩ = some (.int .u8 kk) ∧ w.cell? ⟨ga, 1, none⟩ = some (.slice A12 dl c12)) ∧ (w.cell? ⟨gb, 0, none⟩ = some (.int .u8 kk) ∧ w.cell? ⟨gb, 1, none⟩ = some (.slice A14 dl c14)) ∧ (w.cell? ⟨gc, 0, none⟩ = some (.int .u8 2) ∧ w.cell? ⟨gc, 1, none⟩ = some (.slice (some ⟨gm, 0, none⟩) 2 2)) :=
  ⟨⟨blk_cell h.1 0, blk_cell h.1 1⟩, ⟨blk_cell h.2.1 0, blk_cell h.2.1 1⟩, ⟨blk_cell h.2.2 0, blk_cell h.2.2 1⟩⟩
/-- Their bytes. -/
def Dat (A12 A14 : Option Addr) (dl c12 c14 gm : Nat) (dd mb : List Int) (w : World) : Prop := RdB w A12 dl c12 dd ∧ RdB w A14 dl c14 dd ∧ RdB w (some ⟨gm, 0, none⟩) 2 2 mb
theorem Dat.below {A12 A14 : Option Addr} {dl c12 c14 gm : Nat} {dd mb : List Int} {w w' : World} (h : Dat A12 A14 dl c12 c14 gm dd mb w) (hb : Below w.heap.size w w') : Dat A12 A14 dl c12 c14 gm dd mb w' := ⟨h.1.below hb, h.2.1.below hb, h.2.2.below hb⟩

set_option maxHeartbeats 4000000 in
set_option maxRecDepth 100000 in
theorem walk (w : World) (v0 : Value) (h0 : OptsAt w v0) (n : Int) (wn : (Lit.int .i64 n).wf = true) (v2 : Value) (h2 : BlksAt w v2) :
    Calls Try.prog 5 #[v0, .int .i64 n, v2] w fun e w' => e = .returned (.bool true) ∧ Below w.heap.size w w' := by
  obtain ⟨A0, n0, c0, os0, ls0, rfl, hn0, hc0, hr0, hs0⟩ := h0
  obtain ⟨AB, nb, cb, bl0, rfl, hnb, hcb, hrb0⟩ := h2
  have hn := bounds_i64 wn
  obtain ⟨k, hk, hkn, hk6⟩ := min_nat 6 nb (by omega)
  have hkc : (k : Int) ≤ (cb : Int) := by omega
  have hk0 : (0 : Int) ≤ (k : Int) := by omega
  have hkc2 : k ≤ cb := by omega
  obtain ⟨bl, ebl⟩ : ∃ bl, bl0.take k = bl := ⟨_, rfl⟩
  have hrb := hrb0.take (k := k) hkn
  rw [ebl] at hrb
  have Hrb := Lib.hid hrb
  have Hbl := Lib.hid hrb.len
  have Hu := Lib.hid hrb.u32
  have Hr0 := Lib.hid hr0
  have Hs0 := Lib.hid hs0
  have Hc0 := Lib.hid (And.intro hn0 hc0)
  clear hrb0 hrb ebl hr0 hs0 hn0 hc0
  go_enter Try.func5, Try.ntmps5
  go_wp2_with fail
  refine wp_region_held_drew (S := fun _ => True) (by kernel_rfl) trivial (fun hHeld => ?_)
  refine wpAnyH_take (i := 0) (oi := { dst := some 23, op := Go.Op.move (Go.Operand.tmp 0), type := 23, pos := "law.go:71", after := #[], guard := none }) (v := ?_) rfl (by kernel_rfl) (by kernel_rfl) (by kernel_rfl) (fun _ _ _ h => h) (Or.inl ⟨by rfl, ?_⟩) (by assumption) ?_
  rotate_left 1
  · intro w' hSw; (go_simp <;> (with_reducible rfl))
  (try simp only [Act.put, List.setIfInBounds_toArray, List.set_cons_zero, List.set_cons_succ])
  refine wpAnyH_take (i := 2) (oi := { dst := some 25, op := Go.Op.move (Go.Operand.tmp 2), type := 42, pos := "law.go:71", after := #[], guard := none }) (v := ?_) rfl (by kernel_rfl) (by kernel_rfl) (by kernel_rfl) (fun _ _ _ h => h) (Or.inl ⟨by rfl, ?_⟩) (by assumption) ?_
  rotate_left 1
  · intro w' hSw; (go_simp <;> (with_reducible rfl))
  (try simp only [Act.put, List.setIfInBounds_toArray, List.set_cons_zero, List.set_cons_succ])
  refine wpAnyH_take (i := 3) (oi := { dst := some 26, op := Go.Op.move (Go.Operand.tmp 2), type := 42, pos := "law.go:71", after := #[], guard := none }) (v := ?_) rfl (by kernel_rfl) (by kernel_rfl) (by kernel_rfl) (fun _ _ _ h => h) (Or.inl ⟨by rfl, ?_⟩) (by assumption) ?_
  rotate_left 1
  · intro w' hSw; (go_simp <;> (with_reducible rfl))
  (try simp only [Act.put, List.setIfInBounds_toArray, List.set_cons_zero, List.set_cons_succ])
  refine wpAnyH_take (i := 4) (oi := { dst := some 27, op := Go.Op.call { callee := Go.Callee.builtin Go.Builtin.len, args := #[Go.Operand.tmp 26], argTypes := #[42] }, type := 3, pos := "law.go:71", after := #[{ on := 3, ground := Go.Ground.data }], guard := none }) (v := ?_) rfl (by kernel_rfl) (by kernel_rfl) (by kernel_rfl) (fun _ _ _ h => h) (Or.inl ⟨by rfl, ?_⟩) (by assumption) ?_
  rotate_left 1
  · intro w' hSw; (go_simp <;> (with_reducible rfl))
  (try simp only [Act.put, List.setIfInBounds_toArray, List.set_cons_zero, List.set_cons_succ])
  refine wpAnyH_take (i := 5) (oi := { dst := some 28, op := Go.Op.call { callee := Go.Callee.builtin Go.Builtin.min, args := #[Go.Operand.tmp 27, Go.Operand.const (Go.Value.int Go.IntKind.i64 6)], argTypes := #[3, 3] }, type := 3, pos := "law.go:71", after := #[{ on := 4, ground := Go.Ground.data }], guard := none }) (v := ?_) rfl (by kernel_rfl) (by kernel_rfl) (by kernel_rfl) (fun _ _ _ h => h) (Or.inl ⟨by rfl, ?_⟩) (by assumption) ?_
  rotate_left 1
  · intro w' hSw; (go_simp <;> (with_reducible rfl))
  (try simp only [Act.put, List.setIfInBounds_toArray, List.set_cons_zero, List.set_cons_succ])
  refine wpAnyH_take (i := 6) (oi := { dst := some 29, op := Go.Op.slice 42 (Go.Operand.tmp 25) none (some (Go.Operand.tmp 28)) none, type := 42, pos := "law.go:71", after := #[{ on := 2, ground := Go.Ground.data }, { on := 5, ground := Go.Ground.data }], guard := none }) (v := ?_) rfl (by kernel_rfl) (by kernel_rfl) (by kernel_rfl) (fun _ _ _ h => h) (Or.inl ⟨by rfl, ?_⟩) (by assumption) ?_
  rotate_left 1
  · intro w' hSw; (go_simp <;> (with_reducible rfl))
  (try simp only [Act.put, List.setIfInBounds_toArray, List.set_cons_zero, List.set_cons_succ])
  refine wpAnyH_ready (rs := [1]) (by kernel_rfl) (by simp) ?_
  refine AllReadyH.cons (o := { dst := some 24, op := Go.Op.call { callee := Go.Callee.value (Go.Operand.func 15), args := #[Go.Operand.tmp 23], argTypes := #[23] }, type := 23, pos := "law.go:71", after := #[{ on := 0, ground := Go.Ground.data }], guard := none }) rfl (fun K hK => ?_) AllReadyH.nil
  go_simp
  (go_at_call 15; refine (few_any A0 n0 c0 os0 ls0 _ Hc0.out (Hr0.out.below (Below.drew (Below.refl _ _))) (Hs0.out.below (Below.drew (Below.refl _ _)))).mono ?_; rintro e w1 ⟨A2, c2, os2, rfl, ho2, hs2, hb1⟩; have Hb1 := Lib.hid (show Below w.heap.size w w1 from (Below.drew (Below.refl _ _)).trans hb1))
  refine hK.out _ _ ?_ (fun hHeld => ?_)
  · exact trivial
  clear hK K
  (try simp only [Act.put, List.setIfInBounds_toArray, List.set_cons_zero, List.set_cons_succ])
  refine wpAnyH_take (i := 7) (oi := { dst := some 0, op := Go.Op.assign (Go.Operand.tmp 24), type := 23, pos := "law.go:71", after := #[{ on := 1, ground := Go.Ground.data }, { on := 1, ground := Go.Ground.chain }, { on := 0, ground := Go.Ground.phase }, { on := 1, ground := Go.Ground.phase }, { on := 2, ground := Go.Ground.textOnly Go.Departure.lateStores }, { on := 3, ground := Go.Ground.textOnly Go.Departure.lateStores }, { on := 4, ground := Go.Ground.textOnly Go.Departure.lateStoresUnsure }, { on := 5, ground := Go.Ground.textOnly Go.Departure.lateStoresUnsure }, { on := 6, ground := Go.Ground.textOnly Go.Departure.lateStoresUnsure }], guard := none }) (v := ?_) rfl (by kernel_rfl) (by kernel_rfl) (by kernel_rfl) (fun _ _ _ h => h) (Or.inl ⟨by rfl, ?_⟩) (by assumption) ?_
  rotate_left 1
  · intro w' hSw; (go_simp <;> (with_reducible rfl))
  (try simp only [Act.put, List.setIfInBounds_toArray, List.set_cons_zero, List.set_cons_succ])
  refine wpAnyH_take (i := 8) (oi := { dst := some 2, op := Go.Op.assign (Go.Operand.tmp 29), type := 42, pos := "law.go:71", after := #[{ on := 6, ground := Go.Ground.data }, { on := 7, ground := Go.Ground.chain }, { on := 0, ground := Go.Ground.phase }, { on := 1, ground := Go.Ground.phase }, { on := 2, ground := Go.Ground.phase }, { on := 3, ground := Go.Ground.phase }, { on := 4, ground := Go.Ground.phase }, { on := 5, ground := Go.Ground.phase }, { on := 6, ground := Go.Ground.phase }, { on := 7, ground := Go.Ground.phase }], guard := none }) (v := ?_) rfl (by kernel_rfl) (by kernel_rfl) (by kernel_rfl) (fun _ _ _ h => h) (Or.inl ⟨by rfl, ?_⟩) (by assumption) ?_
  rotate_left 1
  · intro w' hSw; (go_simp <;> (with_reducible rfl))
  (try simp only [Act.put, List.setIfInBounds_toArray, List.set_cons_zero, List.set_cons_succ])
  refine wpAnyH_done (by kernel_rfl) ?_ _
  have hm0 : min n0 20 ≤ 20 := Nat.min_le_right _ _
  have HL1 := Lib.hid (LO.mk ho2.rd hs2)
  obtain ⟨f, ef⟩ : ∃ f, fewL ls0 = f := ⟨_, rfl⟩
  rw [ef] at HL1
  obtain ⟨m0, em0⟩ : ∃ m, min n0 20 = m := ⟨_, rfl⟩
  rw [em0] at HL1 hm0
  simp only [em0]
  clear ho2 hs2 hb1 Hr0 Hs0 Hc0 ef em0 hHeld
  have hm1 : m0 ≤ 1000000 := by omega
  go_wp2_with fail
  obtain ⟨x1, ex1⟩ : ∃ x, (mssL f).1 = x := ⟨_, rfl⟩
  obtain ⟨y1, ey1⟩ : ∃ x, (mssL f).2 = x := ⟨_, rfl⟩
  obtain ⟨x2, ex2⟩ : ∃ x, (scaleL f).1 = x := ⟨_, rfl⟩
  obtain ⟨y2, ey2⟩ : ∃ x, (scaleL f).2 = x := ⟨_, rfl⟩
  obtain ⟨y3, ey3⟩ : ∃ x, sackL f = x := ⟨_, rfl⟩
  refine (mss_any A2 m0 c2 os2 f w1 hm1 HL1.out.1 HL1.out.2).mono ?_
  rintro e w2 ⟨rfl, hb⟩
  have HL2 := Lib.hid (HL1.out.on hb)
  have Hb2 := Lib.hid (below_trans Hb1.out hb)
  clear hb HL1 Hb1
  rw [ex1, ey1]
  go_wp2_with fail
  refine (rmss_any A2 m0 c2 os2 f w2 hm1 HL2.out.1 HL2.out.2).mono ?_
  rintro e w3 ⟨rfl, hb⟩
  have HL3 := Lib.hid (HL2.out.on hb)
  have Hb3 := Lib.hid (below_trans Hb2.out hb)
  clear hb HL2 Hb2
  rw [ex1, ey1]
  go_wp2_with fail
  refine (scale_any A2 m0 c2 os2 f w3 hm1 HL3.out.1 HL3.out.2).mono ?_
  rintro e w4 ⟨rfl, hb⟩
  have HL4 := Lib.hid (HL3.out.on hb)
  have Hb4 := Lib.hid (below_trans Hb3.out hb)
  clear hb HL3 Hb3
  rw [ex2, ey2]
  go_wp2_with fail
  refine (rscale_any A2 m0 c2 os2 f w4 hm1 HL4.out.1 HL4.out.2).mono ?_
  rintro e w5 ⟨rfl, hb⟩
  have HL5 := Lib.hid (HL4.out.on hb)
  have Hb5 := Lib.hid (below_trans Hb4.out hb)
  clear hb HL4 Hb4
  rw [ex2, ey2]
  clear ex1 ey1 ex2 ey2
  go_wp2_with fail
  refine (sackok_any A2 m0 c2 os2 f w5 hm1 HL5.out.1 HL5.out.2).mono ?_
  rintro e w6 ⟨rfl, hb⟩
  have HL6 := Lib.hid (HL5.out.on hb)
  have Hb6 := Lib.hid (below_trans Hb5.out hb)
  clear hb HL5 Hb5
  rw [ey3]
  go_wp2_with fail
  refine (rsackok_any A2 m0 c2 os2 f w6 hm1 HL6.out.1 HL6.out.2).mono ?_
  rintro e w7 ⟨rfl, hb⟩
  have HL7 := Lib.hid (HL6.out.on hb)
  have Hb7 := Lib.hid (below_trans Hb6.out hb)
  clear hb HL6 Hb6
  rw [ey3]
  clear ey3
  obtain ⟨ms, ems⟩ : ∃ ms, (sacksL f).length = ms := ⟨_, rfl⟩
  have Hsu := Lib.hid (sacksL_u32 (fun l hl => (HL7.out.2.byte l hl).2))
  have hms : ms ≤ 4 := by rw [← ems]; exact sacksL_le f
  go_wp2_with fail
  refine (sacks_any A2 m0 c2 ms os2 f w7 hm1 HL7.out.1 HL7.out.2 ems).mono ?_
  rintro e w8 ⟨A8, c8, rfl, ho8, hb⟩
  have HL8 := Lib.hid (HL7.out.on hb)
  have Hb8 := Lib.hid (below_trans Hb7.out hb)
  have HK8 := Lib.hid (ho8.rd Hsu.out)
  clear hb HL7 Hb7 ho8
  go_wp2_with fail
  refine (rsacks_any A2 m0 c2 ms os2 f w8 hm1 HL8.out.1 HL8.out.2 ems).mono ?_
  rintro e w9 ⟨A9, c9, rfl, ho9, hb⟩
  have Hb9 := Lib.hid (below_trans Hb8.out hb)
  have Hsm := Lib.hid (sameblocks_any A8 A9 ms c8 ms c9 (sacksL f) (sacksL f) w9 (by unfold maxLen; omega) (HK8.out.below hb) (ho9.rd Hsu.out))
  rw [decide_eq_true (rfl : sacksL f = sacksL f)] at Hsm
  clear hb HL8 Hb8 ho9 HK8
  go_wp2_with fail
  refine Hsm.out.mono ?_
  rintro e w10 ⟨rfl, hb⟩
  have Hb10 := Lib.hid (below_trans Hb9.out hb)
  clear hb Hb9 Hsm
  go_wp2_with fail
  go_loopg [15, 85] k (fun gk s i wr => ∃ (j : Nat) (A3 : Option Addr) (c3 : Nat), Hid (gk + j = k) ∧ j ≤ k ∧ i = .int .i64 (j : Int) ∧ s = .slice A3 j c3 ∧ Hid (OwnK 56 wr w.heap.size A3 j c3 (bl.take j)) ∧ Below w.heap.size w wr)
  case atStart => exact ⟨0, none, 0, rfl, Nat.zero_le _, rfl, rfl, Lib.hid (by simpa using OwnK.nil _ _ _), Hb10.out⟩
  case round =>
    obtain ⟨j, A3, c3, hgk, hj, rfl, rfl, hown, hb⟩ := hrel
    by_cases hjk : j < k
    · obtain ⟨b1, p1, hrun1, hb1, hk0', hd0, hu⟩ := Hrb.out.index_o (c := cb) hjk
      have Hsn := Lib.hid (take_snoc_ bl j (0, 0) (by rw [Hbl.out]; exact hjk))
      obtain ⟨l1, el1⟩ : ∃ v, bl.getD j (0, 0) = v := ⟨_, rfl⟩
      rw [el1] at hk0' hd0 hu Hsn
      obtain ⟨xx, yy⟩ := l1
      simp only at hk0' hd0
      have hk1 := (hb.cell (p := ⟨b1, p1, none⟩) hb1).trans hk0'
      have hd1 := (hb.cell (p := ⟨b1, p1 + 1, none⟩) hb1).trans hd0
      have hxa : Below wr.heap.size wr (wr.alloc (.cells #[.int .u32 xx, .int .u32 yy] 55)) := (Below.refl _ _).alloc (Nat.le_refl _) _
      have hxb := hxa.alloc hxa.size (.cells #[.int .u32 xx, .int .u32 yy] 56)
      have Hox := Lib.hid (hown.out.on hxb)
      have Hrx := Lib.hid (RdK.one (wr.alloc (.cells #[.int .u32 xx, .int .u32 yy] 55)) (wr.heap.size + 1) (by simp) 56 (0, 0) xx yy hu)
      have Hbx := Lib.hid (hb.trans (hxb.mono (B' := w.heap.size) hb.size))
      clear el1 hk0' hd0 hxa hxb
      go_wp2_with (refine wpList_appK_r rfl (.tmp 89) (.tmp 91) rfl w.heap.size A3 (some ⟨wr.heap.size + 1, 0, none⟩) j c3 1 1 _ [(xx, yy)] rfl rfl Hox.out Hrx.out (by omega) (by omega) Hbx.out.size ?_; intro A4 c4 w4 hown4 hgr4 hb4)
      go_roundg (gk - 1)
      case measure => have := hgk.out; omega
      case rel => exact ⟨j + 1, A4, c4, by have := hgk.out; show gk - 1 + (j + 1) = _; omega, by omega, by go_num, rfl, Lib.hid (by rw [Hsn.out]; exact hown4), Hbx.out.trans hb4⟩
    · obtain rfl : k = j := by omega
      have Hown := Lib.hid (show OwnK 56 wr w.heap.size A3 k c3 bl by have h := hown.out; rwa [List.take_of_length_le (by rw [Hbl.out]; omega)] at h)
      have Hb11 := Lib.hid hb
      obtain ⟨w11, ew11⟩ : ∃ w11, wr = w11 := ⟨_, rfl⟩
      rw [ew11] at Hown Hb11
      clear hown hb hgk
      go_wp2_with fail
      clear ew11
      have hkm : k ≤ 1000000 := by omega
      refine (withsacks_any AB k cb bl w11 hkm (Hrb.out.below Hb11.out)).mono ?_
      intro e w12 hws
      obtain ⟨A12, c12, rfl, hr12, hb⟩ := ws_told Hu.out hws
      have hb' := hb.alloc hb.size (.cells #[.int .u8 (wsK bl), .slice A12 (wsD bl).length c12] 31)
      have HO12 := Lib.hid (heap_alloc_new w12 (.cells #[.int .u8 (wsK bl), .slice A12 (wsD bl).length c12] 31))
      have HR12 := Lib.hid (hr12.below ((Below.refl _ _).alloc (Nat.le_refl _) (.cells #[.int .u8 (wsK bl), .slice A12 (wsD bl).length c12] 31)))
      have Hb12 := Lib.hid (below_trans Hb11.out hb')
      have HK12 := Lib.hid (Hown.out.on hb')
      obtain ⟨g12, eg12⟩ : ∃ g, w12.heap.size = g := ⟨_, rfl⟩
      rw [eg12] at HO12
      obtain ⟨kk, ekk⟩ : ∃ kk, wsK bl = kk := ⟨_, rfl⟩
      obtain ⟨dd, edd⟩ : ∃ dd, wsD bl = dd := ⟨_, rfl⟩
      obtain ⟨ee, eee⟩ : ∃ ee, wsE bl = ee := ⟨_, rfl⟩
      have hke : 0 ≤ wsK bl ∧ wsK bl < 256 := by unfold wsK; split <;> (try split) <;> omega
      rw [ekk] at hke
      obtain ⟨dl, edl⟩ : ∃ dl, (wsD bl).length = dl := ⟨_, rfl⟩
      rw [ekk, edl] at HO12
      rw [ekk, edl] at Hb12 HK12
      rw [ekk, edl, edd] at HR12
      simp only [ekk, edl, eee]
      clear hws hr12 hb hb' Hown
      go_wp2_with fail
      refine (rwithsacks_any A3 k c3 bl _ (by unfold maxLen; omega) (HK12.out.rd Hu.out)).mono ?_
      intro e w14 hws
      obtain ⟨A14, c14, rfl, hr14, hb⟩ := ws_told Hu.out hws
      rw [ekk, edl, eee]
      rw [edl, edd] at hr14
      have HO14 := Lib.hid (blk_on HO12.out hb)
      have HR14 := Lib.hid (HR12.out.below hb)
      have HS14 := Lib.hid hr14
      have Hb14 := Lib.hid (below_trans Hb12.out hb)
      clear hws hr14 hb HO12 HR12 Hb12 HK12 ekk edl eee edd
      go_wp2_with fail
      obtain ⟨w16, ew16⟩ : ∃ w16, (((w14.alloc (.cells #[.int .u8 kk, .slice A14 dl c14] 31)).alloc (.cells #[.int .u8 (IntKind.u64.wrap n / 256 % 256), .int .u8 (n % 256)] 5)).alloc (.cells #[.int .u8 2, .slice (some ⟨w14.heap.size + 1, 0, none⟩) 2 2] 31)) = w16 := ⟨_, rfl⟩
      have hx1 : Below w14.heap.size w14 (w14.alloc (.cells #[.int .u8 kk, .slice A14 dl c14] 31)) := (Below.refl _ _).alloc (Nat.le_refl _) _
      have hx2 : Below (w14.alloc (.cells #[.int .u8 kk, .slice A14 dl c14] 31)).heap.size (w14.alloc (.cells #[.int .u8 kk, .slice A14 dl c14] 31)) w16 := by rw [← ew16]; exact ((Below.refl _ _).alloc (Nat.le_refl _) _).alloc (by simp) _
      have hx3 : Below w14.heap.size w14 w16 := below_trans hx1 hx2
      have hB3 : Blks3 g12 w14.heap.size (w14.heap.size + 1 + 1) kk A12 A14 dl c12 c14 (w14.heap.size + 1) w16 := by
        refine ⟨blk_on HO14.out hx3, blk_on (heap_alloc_new w14 _) hx2, ?_⟩
        rw [← ew16]
        have h := heap_alloc_new ((w14.alloc (.cells #[.int .u8 kk, .slice A14 dl c14] 31)).alloc (.cells #[.int .u8 (IntKind.u64.wrap n / 256 % 256), .int .u8 (n % 256)] 5)) (.cells #[.int .u8 2, .slice (some ⟨w14.heap.size + 1, 0, none⟩) 2 2] 31)
        simpa using h
      have hmb : [IntKind.u64.wrap n / 256 % 256, n % 256] = be16 (n % 65536) := by
        have e : IntKind.u64.wrap n = n % 18446744073709551616 := by simp [IntKind.wrap, IntKind.bits, IntKind.signed]
        rw [e]
        unfold be16
        congr 1
        · omega
        · congr 1; omega
      have hbm : ∀ x ∈ be16 (n % 65536), 0 ≤ x ∧ x < 256 := by simp [be16]; omega
      have hrm : Rd w16 (some ⟨w14.heap.size + 1, 0, none⟩) 2 (be16 (n % 65536)) := by
        rw [← hmb, ← ew16]
        exact (Rd.const_ (w14.alloc (.cells #[.int .u8 kk, .slice A14 dl c14] 31)) (w14.heap.size + 1) (by simp) [IntKind.u64.wrap n / 256 % 256, n % 256] 5 (0, 0) (by rw [hmb]; exact hbm)).below ((Below.refl _ _).alloc (Nat.le_refl _) _)
      have HD16 := Lib.hid (show Dat A12 A14 dl c12 c14 (w14.heap.size + 1) dd (be16 (n % 65536)) w16 from ⟨HR14.out.below hx3, HS14.out.below hx3, by omega, by simp [maxLen], hrm⟩)
      have HB16 := Lib.hid hB3
      have Hb16 := Lib.hid (below_trans Hb14.out hx3)
      have Hbm := Lib.hid hbm
      clear hx1 hx2 hx3 hB3 hmb hbm hrm HO14 HR14 HS14 Hb14
      obtain ⟨gb, egb⟩ : ∃ gb, w14.heap.size = gb := ⟨_, rfl⟩
      rw [egb] at HD16 HB16 ew16
      simp only [egb]
      obtain ⟨gm, egm⟩ : ∃ gm, gb + 1 = gm := ⟨_, rfl⟩
      rw [egm] at HD16 HB16 ew16
      obtain ⟨gc, egc⟩ : ∃ gc, gm + 1 = gc := ⟨_, rfl⟩
      rw [egc] at HB16
      simp only [egm, egc]
      simp only [ew16]
      clear egb egm egc ew16
      have Hsof := Lib.hid (fun w' (h : Blks3 g12 gb gc kk A12 A14 dl c12 c14 gm w') => h.cells)
      have hs14 := scaleOf_bd n
      obtain ⟨sc, esc⟩ : ∃ sc, scaleOf n = sc := ⟨_, rfl⟩
      rw [esc] at hs14
      have Hws := Lib.hid (fun w' => withscale_any n w')
      have Hrs := Lib.hid (fun w' => rwithscale_any n w')
      rw [esc] at Hws Hrs
      have Hwm := Lib.hid (fun w' => withmss_any (n % 65536) w' (by omega))
      have hwu : IntKind.u16.wrap n = n % 65536 := by simp [IntKind.wrap, IntKind.bits, IntKind.signed]
      clear esc
      refine wp_region_held_drew (S := fun w' => (w'.cell? ⟨g12, 0, none⟩ = some (.int .u8 kk) ∧ w'.cell? ⟨g12, 1, none⟩ = some (.slice A12 dl c12)) ∧ (w'.cell? ⟨gb, 0, none⟩ = some (.int .u8 kk) ∧ w'.cell? ⟨gb, 1, none⟩ = some (.slice A14 dl c14)) ∧ (w'.cell? ⟨gc, 0, none⟩ = some (.int .u8 2) ∧ w'.cell? ⟨gc, 1, none⟩ = some (.slice (some ⟨gm, 0, none⟩) 2 2))) (by kernel_rfl) (Hsof.out _ (HB16.out.on (Below.drew (Below.refl _ _)))) (fun hHeld => ?_)
      refine wpAnyH_ready (rs := [0]) (by kernel_rfl) (by simp) ?_
      refine AllReadyH.cons (o := { dst := some 112, op := Go.Op.call { callee := Go.Callee.value (Go.Operand.func 13), args := #[], argTypes := #[] }, type := 4, pos := "law.go:86", after := #[], guard := none }) rfl (fun K hK => ?_) AllReadyH.nil
      go_simp
      (go_at_call 13; refine (awake_any _).mono ?_; rintro e wa ⟨rfl, hb⟩; have hb' := Below.trans (Below.drew (Below.refl w16.heap.size w16)) hb; have HBa := Lib.hid (HB16.out.on hb'); have HDa := Lib.hid (HD16.out.below hb'); have Hba := Lib.hid (below_trans Hb16.out hb'); clear hb hb')
      refine hK.out _ _ ?_ (fun hHeld => ?_)
      · exact Hsof.out _ HBa.out
      clear hK K
      (try simp only [Act.put, List.setIfInBounds_toArray, List.set_cons_zero, List.set_cons_succ])
      refine wpAnyH_take (i := 1) (oi := { dst := some 113, op := Go.Op.move (Go.Operand.tmp 112), type := 4, pos := "law.go:86", after := #[{ on := 0, ground := Go.Ground.data }, { on := 0, ground := Go.Ground.chain }], guard := none }) (v := ?_) rfl (by kernel_rfl) (by kernel_rfl) (by kernel_rfl) (fun _ _ _ h => h) (Or.inl ⟨by rfl, ?_⟩) (by assumption) ?_
      rotate_left 1
      · intro w' hSw; (go_simp <;> (with_reducible rfl))
      (try simp only [Act.put, List.setIfInBounds_toArray, List.set_cons_zero, List.set_cons_succ])
      refine wpAnyH_take (i := 2) (oi := { dst := some 114, op := Go.Op.move (Go.Operand.tmp 19), type := 24, pos := "law.go:86", after := #[{ on := 1, ground := Go.Ground.guard }], guard := some (1, true) }) (v := ?_) rfl (by kernel_rfl) (by kernel_rfl) (by kernel_rfl) (fun _ _ _ h => h) (Or.inl ⟨by rfl, ?_⟩) (by assumption) ?_
      rotate_left 1
      · intro w' hSw; (go_simp <;> (with_reducible rfl))
      (try simp only [Act.put, List.setIfInBounds_toArray, List.set_cons_zero, List.set_cons_succ])
      refine wpAnyH_take (i := 3) (oi := { dst := some 115, op := Go.Op.move (Go.Operand.tmp 21), type := 3, pos := "law.go:86", after := #[{ on := 1, ground := Go.Ground.guard }], guard := some (1, true) }) (v := ?_) rfl (by kernel_rfl) (by kernel_rfl) (by kernel_rfl) (fun _ _ _ h => h) (Or.inl ⟨by rfl, ?_⟩) (by assumption) ?_
      rotate_left 1
      · intro w' hSw; (go_simp <;> (with_reducible rfl))
      (try simp only [Act.put, List.setIfInBounds_toArray, List.set_cons_zero, List.set_cons_succ])
      refine wpAnyH_take (i := 4) (oi := { dst := some 116, op := Go.Op.binOp Go.BinOp.eql 3 (Go.Operand.tmp 114) (Go.Operand.tmp 115) 3, type := 4, pos := "law.go:86", after := #[{ on := 2, ground := Go.Ground.data }, { on := 3, ground := Go.Ground.data }, { on := 1, ground := Go.Ground.guard }], guard := some (1, true) }) (v := ?_) rfl (by kernel_rfl) (by kernel_rfl) (by kernel_rfl) (fun _ _ _ h => h) (Or.inl ⟨by rfl, ?_⟩) (by assumption) ?_
      rotate_left 1
      · intro w' hSw; (go_simp <;> (with_reducible rfl))
      (try simp only [Act.put, List.setIfInBounds_toArray, List.set_cons_zero, List.set_cons_succ])
      refine wpAnyH_take (i := 5) (oi := { dst := some 117, op := Go.Op.pick (Go.Operand.tmp 113) (Go.Operand.tmp 116) (Go.Operand.const (Go.Value.bool false)), type := 4, pos := "law.go:86", after := #[{ on := 1, ground := Go.Ground.data }, { on := 4, ground := Go.Ground.data }], guard := none }) (v := ?_) rfl (by kernel_rfl) (by kernel_rfl) (by kernel_rfl) (fun _ _ _ h => h) (Or.inl ⟨by rfl, ?_⟩) (by assumption) ?_
      rotate_left 1
      · intro w' hSw; (go_simp <;> (with_reducible rfl))
      (try simp only [Act.put, List.setIfInBounds_toArray, List.set_cons_zero, List.set_cons_succ])
      refine wpAnyH_take (i := 6) (oi := { dst := some 118, op := Go.Op.move (Go.Operand.tmp 117), type := 4, pos := "law.go:86", after := #[{ on := 5, ground := Go.Ground.data }, { on := 1, ground := Go.Ground.chain }], guard := none }) (v := ?_) rfl (by kernel_rfl) (by kernel_rfl) (by kernel_rfl) (fun _ _ _ h => h) (Or.inl ⟨by rfl, ?_⟩) (by assumption) ?_
      rotate_left 1
      · intro w' hSw; (go_simp <;> (with_reducible rfl))
      (try simp only [Act.put, List.setIfInBounds_toArray, List.set_cons_zero, List.set_cons_succ])
      refine wpAnyH_take (i := 7) (oi := { dst := some 119, op := Go.Op.load 31 (Go.Operand.tmp 18), type := 31, pos := "law.go:86", after := #[{ on := 6, ground := Go.Ground.guard }], guard := some (6, true) }) (v := ?_) rfl (by kernel_rfl) (by kernel_rfl) (by kernel_rfl) (fun _ _ _ h => h) (Or.inl ⟨by rfl, ?_⟩) (by assumption) ?_
      rotate_left 1
      · intro w' hSw; (go_simp <;> (with_reducible rfl))
      (try simp only [Act.put, List.setIfInBounds_toArray, List.set_cons_zero, List.set_cons_succ])
      refine wpAnyH_take (i := 8) (oi := { dst := some 120, op := Go.Op.move (Go.Operand.tmp 1), type := 3, pos := "law.go:86", after := #[{ on := 6, ground := Go.Ground.guard }], guard := some (6, true) }) (v := ?_) rfl (by kernel_rfl) (by kernel_rfl) (by kernel_rfl) (fun _ _ _ h => h) (Or.inl ⟨by rfl, ?_⟩) (by assumption) ?_
      rotate_left 1
      · intro w' hSw; (go_simp <;> (with_reducible rfl))
      (try simp only [Act.put, List.setIfInBounds_toArray, List.set_cons_zero, List.set_cons_succ])
      refine wpAnyH_take (i := 10) (oi := { dst := some 122, op := Go.Op.move (Go.Operand.tmp 1), type := 3, pos := "law.go:86", after := #[{ on := 6, ground := Go.Ground.guard }], guard := some (6, true) }) (v := ?_) rfl (by kernel_rfl) (by kernel_rfl) (by kernel_rfl) (fun _ _ _ h => h) (Or.inl ⟨by rfl, ?_⟩) (by assumption) ?_
      rotate_left 1
      · intro w' hSw; (go_simp <;> (with_reducible rfl))
      (try simp only [Act.put, List.setIfInBounds_toArray, List.set_cons_zero, List.set_cons_succ])
      refine wpAnyH_take (i := 11) (oi := { dst := some 123, op := Go.Op.convert 3 43 (Go.Operand.tmp 122), type := 43, pos := "law.go:86", after := #[{ on := 10, ground := Go.Ground.data }, { on := 6, ground := Go.Ground.guard }], guard := some (6, true) }) (v := ?_) rfl (by kernel_rfl) (by kernel_rfl) (by kernel_rfl) (fun _ _ _ h => h) (Or.inl ⟨by rfl, ?_⟩) (by assumption) ?_
      rotate_left 1
      · intro w' hSw; (go_simp <;> (with_reducible rfl))
      (try simp only [Act.put, List.setIfInBounds_toArray, List.set_cons_zero, List.set_cons_succ])
      refine wpAnyH_take (i := 15) (oi := { dst := some 127, op := Go.Op.load 31 (Go.Operand.tmp 20), type := 31, pos := "law.go:86", after := #[{ on := 6, ground := Go.Ground.guard }], guard := some (6, true) }) (v := ?_) rfl (by kernel_rfl) (by kernel_rfl) (by kernel_rfl) (fun _ _ _ h => h) (Or.inl ⟨by rfl, ?_⟩) (by assumption) ?_
      rotate_left 1
      · intro w' hSw; (go_simp <;> (with_reducible rfl))
      (try simp only [Act.put, List.setIfInBounds_toArray, List.set_cons_zero, List.set_cons_succ])
      refine wpAnyH_take (i := 16) (oi := { dst := some 128, op := Go.Op.move (Go.Operand.tmp 1), type := 3, pos := "law.go:86", after := #[{ on := 6, ground := Go.Ground.guard }], guard := some (6, true) }) (v := ?_) rfl (by kernel_rfl) (by kernel_rfl) (by kernel_rfl) (fun _ _ _ h => h) (Or.inl ⟨by rfl, ?_⟩) (by assumption) ?_
      rotate_left 1
      · intro w' hSw; (go_simp <;> (with_reducible rfl))
      (try simp only [Act.put, List.setIfInBounds_toArray, List.set_cons_zero, List.set_cons_succ])
      refine wpAnyH_take (i := 18) (oi := { dst := some 130, op := Go.Op.load 31 (Go.Operand.tmp 22), type := 31, pos := "law.go:86", after := #[{ on := 6, ground := Go.Ground.guard }], guard := some (6, true) }) (v := ?_) rfl (by kernel_rfl) (by kernel_rfl) (by kernel_rfl) (fun _ _ _ h => h) (Or.inl ⟨by rfl, ?_⟩) (by assumption) ?_
      rotate_left 1
      · intro w' hSw; (go_simp <;> (with_reducible rfl))
      (try simp only [Act.put, List.setIfInBounds_toArray, List.set_cons_zero, List.set_cons_succ])
      refine wpAnyH_take (i := 19) (oi := { dst := some 131, op := Go.Op.build 31 #[(0, Go.Operand.const (Go.Value.int Go.IntKind.u8 4))], type := 31, pos := "law.go:86", after := #[{ on := 6, ground := Go.Ground.guard }], guard := some (6, true) }) (v := ?_) rfl (by kernel_rfl) (by kernel_rfl) (by kernel_rfl) (fun _ _ _ h => h) (Or.inl ⟨by rfl, ?_⟩) (by assumption) ?_
      rotate_left 1
      · intro w' hSw; (go_simp <;> (with_reducible rfl))
      (try simp only [Act.put, List.setIfInBounds_toArray, List.set_cons_zero, List.set_cons_succ])
      refine wpAnyH_ready (rs := [9]) (by kernel_rfl) (by simp) ?_
      refine AllReadyH.cons (o := { dst := some 121, op := Go.Op.call { callee := Go.Callee.value (Go.Operand.func 32), args := #[Go.Operand.tmp 120], argTypes := #[3] }, type := 31, pos := "law.go:86", after := #[{ on := 8, ground := Go.Ground.data }, { on := 6, ground := Go.Ground.chain }, { on := 6, ground := Go.Ground.guard }], guard := some (6, true) }) rfl (fun K hK => ?_) AllReadyH.nil
      go_simp
      (go_at_call 32; refine (Hws.out _).mono ?_; rintro e wb ⟨As, cs, rfl, ho, hb⟩; have HBb := Lib.hid (HBa.out.on hb); have HDb := Lib.hid (HDa.out.below hb); have Hbb := Lib.hid (below_trans Hba.out hb); have HAs := Lib.hid (OwnB.rdB ho (by simp; omega)); clear hb ho)
      refine hK.out _ _ ?_ (fun hHeld => ?_)
      · exact Hsof.out _ HBb.out
      clear hK K
      (try simp only [Act.put, List.setIfInBounds_toArray, List.set_cons_zero, List.set_cons_succ])
      refine wpAnyH_ready (rs := [12]) (by kernel_rfl) (by simp) ?_
      refine AllReadyH.cons (o := { dst := some 124, op := Go.Op.call { callee := Go.Callee.value (Go.Operand.func 33), args := #[Go.Operand.tmp 123], argTypes := #[43] }, type := 31, pos := "law.go:86", after := #[{ on := 11, ground := Go.Ground.data }, { on := 9, ground := Go.Ground.chain }, { on := 6, ground := Go.Ground.guard }], guard := some (6, true) }) rfl (fun K hK => ?_) AllReadyH.nil
      go_simp
      (go_at_call 33; refine (Hwm.out _).mono ?_; rintro e wc ⟨Am, cm, rfl, ho, hb⟩; have HBc := Lib.hid (HBb.out.on hb); have HDc := Lib.hid (HDb.out.below hb); have Hbc := Lib.hid (below_trans Hbb.out hb); have HAs := Lib.hid (HAs.out.below hb); have HAm := Lib.hid (OwnB.rdB ho Hbm.out); clear hb ho)
      refine hK.out _ _ ?_ (fun hHeld => ?_)
      · exact Hsof.out _ HBc.out
      clear hK K
      (try simp only [Act.put, List.setIfInBounds_toArray, List.set_cons_zero, List.set_cons_succ])
      refine wpAnyH_ready (rs := [13]) (by kernel_rfl) (by simp) ?_
      refine AllReadyH.cons (o := { dst := some 125, op := Go.Op.call { callee := Go.Callee.value (Go.Operand.func 34), args := #[], argTypes := #[] }, type := 31, pos := "law.go:86", after := #[{ on := 12, ground := Go.Ground.chain }, { on := 6, ground := Go.Ground.guard }], guard := some (6, true) }) rfl (fun K hK => ?_) AllReadyH.nil
      go_simp
      (go_at_call 34; refine (permit_any _).mono ?_; rintro e wd ⟨Ap, cp, rfl, ho, hb⟩; have HBd := Lib.hid (HBc.out.on hb); have HDd := Lib.hid (HDc.out.below hb); have Hbd := Lib.hid (below_trans Hbc.out hb); have HAs := Lib.hid (HAs.out.below hb); have HAm := Lib.hid (HAm.out.below hb); have HAp := Lib.hid (OwnB.rdB ho (by simp)); clear hb ho)
      refine hK.out _ _ ?_ (fun hHeld => ?_)
      · exact Hsof.out _ HBd.out
      clear hK K
      (try simp only [Act.put, List.setIfInBounds_toArray, List.set_cons_zero, List.set_cons_succ])
      obtain ⟨P, hon', hBk', hDt', hS', hM', hP', hW', hPd⟩ : ∃ P : World → Prop, (∀ a b, P a → Below a.heap.size a b → P b) ∧ (∀ a, P a → Blks3 g12 gb gc kk A12 A14 dl c12 c14 gm a) ∧ (∀ a, P a → Dat A12 A14 dl c12 c14 gm dd (be16 (n % 65536)) a) ∧ (∀ a, P a → RdB a As 1 cs [sc]) ∧ (∀ a, P a → RdB a Am 2 cm (be16 (n % 65536))) ∧ (∀ a, P a → RdB a Ap 0 cp []) ∧ (∀ a, P a → Below w.heap.size w a) ∧ P wd :=
        ⟨fun a => Blks3 g12 gb gc kk A12 A14 dl c12 c14 gm a ∧ Dat A12 A14 dl c12 c14 gm dd (be16 (n % 65536)) a ∧ RdB a As 1 cs [sc] ∧ RdB a Am 2 cm (be16 (n % 65536)) ∧ RdB a Ap 0 cp [] ∧ Below w.heap.size w a,
          fun a b h hb => ⟨h.1.on hb, h.2.1.below hb, h.2.2.1.below hb, h.2.2.2.1.below hb, h.2.2.2.2.1.below hb, below_trans h.2.2.2.2.2 hb⟩,
          fun a h => h.1, fun a h => h.2.1, fun a h => h.2.2.1, fun a h => h.2.2.2.1, fun a h => h.2.2.2.2.1, fun a h => h.2.2.2.2.2, HBd.out, HDd.out, HAs.out, HAm.out, HAp.out, Hbd.out⟩
      have hon := Lib.hid hon'
      have hBk := Lib.hid hBk'
      have hDt := Lib.hid hDt'
      have hSs := Lib.hid hS'
      have hMs := Lib.hid hM'
      have hPs := Lib.hid hP'
      have hWs := Lib.hid hW'
      have HPd := Lib.hid hPd
      clear hon' hBk' hDt' hS' hM' hP' hW' hPd HBd HDd HAs HAm HAp Hbd HBc HDc Hbc HBb HDb Hbb HBa HDa Hba HB16 HD16 Hb16
      refine wpAnyH_ready (rs := [14, 17]) (by kernel_rfl) (by simp) ?_
      refine AllReadyH.cons (o := { dst := some 126, op := Go.Op.buildSlice 23 4 #[(0, Go.Operand.tmp 119), (1, Go.Operand.tmp 121), (2, Go.Operand.tmp 124), (3, Go.Operand.tmp 125)], type := 23, pos := "law.go:86", after := #[{ on := 7, ground := Go.Ground.data }, { on := 9, ground := Go.Ground.data }, { on := 12, ground := Go.Ground.data }, { on := 13, ground := Go.Ground.data }, { on := 6, ground := Go.Ground.guard }], guard := some (6, true) }) rfl (fun K hK => ?_) (AllReadyH.cons (o := { dst := some 129, op := Go.Op.call { callee := Go.Callee.value (Go.Operand.func 35), args := #[Go.Operand.tmp 128], argTypes := #[3] }, type := 31, pos := "law.go:86", after := #[{ on := 16, ground := Go.Ground.data }, { on := 13, ground := Go.Ground.chain }, { on := 6, ground := Go.Ground.guard }], guard := some (6, true) }) rfl (fun K hK => ?_) AllReadyH.nil)
      · skip
        go_simp
        refine hK.out _ _ ?_ (fun hHeld => ?_)
        · exact Hsof.out _ (hBk.out _ (hon.out _ _ HPd.out ((Below.refl _ _).alloc (Nat.le_refl _) _)))
        clear hK K
        (try simp only [Act.put, List.setIfInBounds_toArray, List.set_cons_zero, List.set_cons_succ])
        have HF1 := Lib.hid (RdO.four wd wd.heap.size rfl 31 (0, 0) kk 3 2 4 A12 As Am Ap dl c12 1 cs 2 cm 0 cp)
        have hba := (Below.refl wd.heap.size wd).alloc (Nat.le_refl _) (.cells #[.int .u8 kk, .slice A12 dl c12, .int .u8 3, .slice As 1 cs, .int .u8 2, .slice Am 2 cm, .int .u8 4, .slice Ap 0 cp] 31)
        have HP := Lib.hid (hon.out _ _ HPd.out hba)
        refine wpAnyH_ready (rs := [17]) (by kernel_rfl) (by simp) ?_
        refine AllReadyH.cons (o := { dst := some 129, op := Go.Op.call { callee := Go.Callee.value (Go.Operand.func 35), args := #[Go.Operand.tmp 128], argTypes := #[3] }, type := 31, pos := "law.go:86", after := #[{ on := 16, ground := Go.Ground.data }, { on := 13, ground := Go.Ground.chain }, { on := 6, ground := Go.Ground.guard }], guard := some (6, true) }) rfl (fun K hK => ?_) AllReadyH.nil
        go_simp
        go_at_call 35
        refine (Hrs.out _).mono ?_
        rintro e wf ⟨Ar, cr, rfl, ho, hb⟩
        have HP := Lib.hid (hon.out _ _ HP.out hb)
        have HAr := Lib.hid (OwnB.rdB ho (by simp; omega))
        refine hK.out _ _ ?_ (fun hHeld => ?_)
        · exact Hsof.out _ (hBk.out _ HP.out)
        clear hK K
        (try simp only [Act.put, List.setIfInBounds_toArray, List.set_cons_zero, List.set_cons_succ])
        refine wpAnyH_ready (rs := [20]) (by kernel_rfl) (by simp) ?_
        refine AllReadyH.cons (o := { dst := some 132, op := Go.Op.buildSlice 23 4 #[(0, Go.Operand.tmp 127), (1, Go.Operand.tmp 129), (2, Go.Operand.tmp 130), (3, Go.Operand.tmp 131)], type := 23, pos := "law.go:86", after := #[{ on := 15, ground := Go.Ground.data }, { on := 17, ground := Go.Ground.data }, { on := 18, ground := Go.Ground.data }, { on := 19, ground := Go.Ground.data }, { on := 6, ground := Go.Ground.guard }], guard := some (6, true) }) rfl (fun K hK => ?_) AllReadyH.nil
        go_simp
        refine hK.out _ _ ?_ (fun hHeld => ?_)
        · exact Hsof.out _ (hBk.out _ (hon.out _ _ HP.out ((Below.refl _ _).alloc (Nat.le_refl _) _)))
        clear hK K
        (try simp only [Act.put, List.setIfInBounds_toArray, List.set_cons_zero, List.set_cons_succ])
        have HF2 := Lib.hid (RdO.four (wf) wf.heap.size (by simp) 31 (0, 0) kk 3 2 4 A14 Ar (some ⟨gm, 0, none⟩) none dl c14 1 cr 2 2 0 0)
        have hba2 := (Below.refl (wf).heap.size (wf)).alloc (Nat.le_refl _) (.cells #[.int .u8 kk, .slice A14 dl c14, .int .u8 3, .slice Ar 1 cr, .int .u8 2, .slice (some ⟨gm, 0, none⟩) 2 2, .int .u8 4, .slice none 0 0] 31)
        have HP := Lib.hid (hon.out _ _ HP.out hba2)
        refine wpAnyH_ready (rs := [21]) (by kernel_rfl) (by simp) ?_
        refine AllReadyH.cons (o := { dst := some 133, op := Go.Op.call { callee := Go.Callee.value (Go.Operand.func 12), args := #[Go.Operand.tmp 126, Go.Operand.tmp 132], argTypes := #[23, 23] }, type := 4, pos := "law.go:86", after := #[{ on := 14, ground := Go.Ground.data }, { on := 20, ground := Go.Ground.data }, { on := 17, ground := Go.Ground.chain }, { on := 6, ground := Go.Ground.guard }], guard := some (6, true) }) rfl (fun K hK => ?_) AllReadyH.nil
        go_simp
        go_at_call 12
        refine (rsame_any (some ⟨wd.heap.size, 0, none⟩) (some ⟨wf.heap.size, 0, none⟩) 4 4 4 4 _ _ [(kk, dd), (3, [sc]), (2, be16 (n % 65536)), (4, [])] [(kk, dd), (3, [sc]), (2, be16 (n % 65536)), (4, [])] _ (by unfold maxLen; omega) ((HF1.out.below hb).below hba2)
          ⟨(hDt.out _ HP.out).1.at_ kk hke, (hSs.out _ HP.out).at_ 3 (by omega), (hMs.out _ HP.out).at_ 2 (by omega), (hPs.out _ HP.out).at_ 4 (by omega), trivial⟩ HF2.out
          ⟨(hDt.out _ HP.out).2.1.at_ kk hke, ((HAr.out.below hba2)).at_ 3 (by omega), (hDt.out _ HP.out).2.2.at_ 2 (by omega), ⟨rfl, ⟨by simp, by simp⟩, Nat.le_refl _, by simp [maxLen], Rd.nil _ _⟩, trivial⟩).mono ?_
        rw [decide_eq_true (rfl : [(kk, dd), (3, [sc]), (2, be16 (n % 65536)), (4, [])] = [(kk, dd), (3, [sc]), (2, be16 (n % 65536)), (4, [])])]
        rintro e wz ⟨rfl, hb⟩
        have HPz := Lib.hid (hon.out _ _ HP.out hb)
        refine hK.out _ _ ?_ (fun hHeld => ?_)
        · exact Hsof.out _ (hBk.out _ HPz.out)
        clear hK K
        (try simp only [Act.put, List.setIfInBounds_toArray, List.set_cons_zero, List.set_cons_succ])
        refine wpAnyH_take (i := 22) (oi := { dst := some 134, op := Go.Op.pick (Go.Operand.tmp 118) (Go.Operand.tmp 133) (Go.Operand.const (Go.Value.bool false)), type := 4, pos := "law.go:86", after := #[{ on := 6, ground := Go.Ground.data }, { on := 21, ground := Go.Ground.data }], guard := none }) (v := ?_) rfl (by kernel_rfl) (by kernel_rfl) (by kernel_rfl) (fun _ _ _ h => h) (Or.inl ⟨by rfl, ?_⟩) (by assumption) ?_
        rotate_left 1
        · intro w' hSw; (go_simp <;> (with_reducible rfl))
        (try simp only [Act.put, List.setIfInBounds_toArray, List.set_cons_zero, List.set_cons_succ])
        refine wpAnyH_take (i := 23) (oi := { dst := some 6, op := Go.Op.assign (Go.Operand.tmp 134), type := 4, pos := "law.go:86", after := #[{ on := 22, ground := Go.Ground.data }, { on := 21, ground := Go.Ground.chain }, { on := 0, ground := Go.Ground.phase }, { on := 1, ground := Go.Ground.phase }, { on := 2, ground := Go.Ground.phase }, { on := 3, ground := Go.Ground.phase }, { on := 4, ground := Go.Ground.phase }, { on := 5, ground := Go.Ground.phase }, { on := 6, ground := Go.Ground.phase }, { on := 7, ground := Go.Ground.phase }, { on := 8, ground := Go.Ground.phase }, { on := 9, ground := Go.Ground.phase }, { on := 10, ground := Go.Ground.phase }, { on := 11, ground := Go.Ground.phase }, { on := 12, ground := Go.Ground.phase }, { on := 13, ground := Go.Ground.phase }, { on := 14, ground := Go.Ground.phase }, { on := 15, ground := Go.Ground.phase }, { on := 16, ground := Go.Ground.phase }, { on := 17, ground := Go.Ground.phase }, { on := 18, ground := Go.Ground.phase }, { on := 19, ground := Go.Ground.phase }, { on := 20, ground := Go.Ground.phase }, { on := 21, ground := Go.Ground.phase }, { on := 22, ground := Go.Ground.phase }], guard := none }) (v := ?_) rfl (by kernel_rfl) (by kernel_rfl) (by kernel_rfl) (fun _ _ _ h => h) (Or.inl ⟨by rfl, ?_⟩) (by assumption) ?_
        rotate_left 1
        · intro w' hSw; (go_simp <;> (with_reducible rfl))
        (try simp only [Act.put, List.setIfInBounds_toArray, List.set_cons_zero, List.set_cons_succ])
        refine wpAnyH_done (by kernel_rfl) ?_ _
        go_wp2_with fail
        go_ret
        exact ⟨rfl, hWs.out _ HPz.out⟩
      · skip
        go_simp
        go_at_call 35
        refine (Hrs.out _).mono ?_
        rintro e wf ⟨Ar, cr, rfl, ho, hb⟩
        have HP := Lib.hid (hon.out _ _ HPd.out hb)
        have HAr := Lib.hid (OwnB.rdB ho (by simp; omega))
        refine hK.out _ _ ?_ (fun hHeld => ?_)
        · exact Hsof.out _ (hBk.out _ HP.out)
        clear hK K
        (try simp only [Act.put, List.setIfInBounds_toArray, List.set_cons_zero, List.set_cons_succ])
        refine wpAnyH_ready (rs := [14, 20]) (by kernel_rfl) (by simp) ?_
        refine AllReadyH.cons (o := { dst := some 126, op := Go.Op.buildSlice 23 4 #[(0, Go.Operand.tmp 119), (1, Go.Operand.tmp 121), (2, Go.Operand.tmp 124), (3, Go.Operand.tmp 125)], type := 23, pos := "law.go:86", after := #[{ on := 7, ground := Go.Ground.data }, { on := 9, ground := Go.Ground.data }, { on := 12, ground := Go.Ground.data }, { on := 13, ground := Go.Ground.data }, { on := 6, ground := Go.Ground.guard }], guard := some (6, true) }) rfl (fun K hK => ?_) (AllReadyH.cons (o := { dst := some 132, op := Go.Op.buildSlice 23 4 #[(0, Go.Operand.tmp 127), (1, Go.Operand.tmp 129), (2, Go.Operand.tmp 130), (3, Go.Operand.tmp 131)], type := 23, pos := "law.go:86", after := #[{ on := 15, ground := Go.Ground.data }, { on := 17, ground := Go.Ground.data }, { on := 18, ground := Go.Ground.data }, { on := 19, ground := Go.Ground.data }, { on := 6, ground := Go.Ground.guard }], guard := some (6, true) }) rfl (fun K hK => ?_) AllReadyH.nil)
        · skip
          go_simp
          refine hK.out _ _ ?_ (fun hHeld => ?_)
          · exact Hsof.out _ (hBk.out _ (hon.out _ _ HP.out ((Below.refl _ _).alloc (Nat.le_refl _) _)))
          clear hK K
          (try simp only [Act.put, List.setIfInBounds_toArray, List.set_cons_zero, List.set_cons_succ])
          have HF1 := Lib.hid (RdO.four wf wf.heap.size rfl 31 (0, 0) kk 3 2 4 A12 As Am Ap dl c12 1 cs 2 cm 0 cp)
          have hba := (Below.refl wf.heap.size wf).alloc (Nat.le_refl _) (.cells #[.int .u8 kk, .slice A12 dl c12, .int .u8 3, .slice As 1 cs, .int .u8 2, .slice Am 2 cm, .int .u8 4, .slice Ap 0 cp] 31)
          have HP := Lib.hid (hon.out _ _ HP.out hba)
          refine wpAnyH_ready (rs := [20]) (by kernel_rfl) (by simp) ?_
          refine AllReadyH.cons (o := { dst := some 132, op := Go.Op.buildSlice 23 4 #[(0, Go.Operand.tmp 127), (1, Go.Operand.tmp 129), (2, Go.Operand.tmp 130), (3, Go.Operand.tmp 131)], type := 23, pos := "law.go:86", after := #[{ on := 15, ground := Go.Ground.data }, { on := 17, ground := Go.Ground.data }, { on := 18, ground := Go.Ground.data }, { on := 19, ground := Go.Ground.data }, { on := 6, ground := Go.Ground.guard }], guard := some (6, true) }) rfl (fun K hK => ?_) AllReadyH.nil
          go_simp
          refine hK.out _ _ ?_ (fun hHeld => ?_)
          · exact Hsof.out _ (hBk.out _ (hon.out _ _ HP.out ((Below.refl _ _).alloc (Nat.le_refl _) _)))
          clear hK K
          (try simp only [Act.put, List.setIfInBounds_toArray, List.set_cons_zero, List.set_cons_succ])
          have HF2 := Lib.hid (RdO.four (wf.alloc (.cells #[.int .u8 kk, .slice A12 dl c12, .int .u8 3, .slice As 1 cs, .int .u8 2, .slice Am 2 cm, .int .u8 4, .slice Ap 0 cp] 31)) (wf.heap.size + 1) (by simp) 31 (0, 0) kk 3 2 4 A14 Ar (some ⟨gm, 0, none⟩) none dl c14 1 cr 2 2 0 0)
          have hba2 := (Below.refl (wf.alloc (.cells #[.int .u8 kk, .slice A12 dl c12, .int .u8 3, .slice As 1 cs, .int .u8 2, .slice Am 2 cm, .int .u8 4, .slice Ap 0 cp] 31)).heap.size (wf.alloc (.cells #[.int .u8 kk, .slice A12 dl c12, .int .u8 3, .slice As 1 cs, .int .u8 2, .slice Am 2 cm, .int .u8 4, .slice Ap 0 cp] 31))).alloc (Nat.le_refl _) (.cells #[.int .u8 kk, .slice A14 dl c14, .int .u8 3, .slice Ar 1 cr, .int .u8 2, .slice (some ⟨gm, 0, none⟩) 2 2, .int .u8 4, .slice none 0 0] 31)
          have HP := Lib.hid (hon.out _ _ HP.out hba2)
          refine wpAnyH_ready (rs := [21]) (by kernel_rfl) (by simp) ?_
          refine AllReadyH.cons (o := { dst := some 133, op := Go.Op.call { callee := Go.Callee.value (Go.Operand.func 12), args := #[Go.Operand.tmp 126, Go.Operand.tmp 132], argTypes := #[23, 23] }, type := 4, pos := "law.go:86", after := #[{ on := 14, ground := Go.Ground.data }, { on := 20, ground := Go.Ground.data }, { on := 17, ground := Go.Ground.chain }, { on := 6, ground := Go.Ground.guard }], guard := some (6, true) }) rfl (fun K hK => ?_) AllReadyH.nil
          go_simp
          go_at_call 12
          refine (rsame_any (some ⟨wf.heap.size, 0, none⟩) (some ⟨wf.heap.size + 1, 0, none⟩) 4 4 4 4 _ _ [(kk, dd), (3, [sc]), (2, be16 (n % 65536)), (4, [])] [(kk, dd), (3, [sc]), (2, be16 (n % 65536)), (4, [])] _ (by unfold maxLen; omega) (HF1.out.below hba2)
            ⟨(hDt.out _ HP.out).1.at_ kk hke, (hSs.out _ HP.out).at_ 3 (by omega), (hMs.out _ HP.out).at_ 2 (by omega), (hPs.out _ HP.out).at_ 4 (by omega), trivial⟩ HF2.out
            ⟨(hDt.out _ HP.out).2.1.at_ kk hke, (((HAr.out.below hba).below hba2)).at_ 3 (by omega), (hDt.out _ HP.out).2.2.at_ 2 (by omega), ⟨rfl, ⟨by simp, by simp⟩, Nat.le_refl _, by simp [maxLen], Rd.nil _ _⟩, trivial⟩).mono ?_
          rw [decide_eq_true (rfl : [(kk, dd), (3, [sc]), (2, be16 (n % 65536)), (4, [])] = [(kk, dd), (3, [sc]), (2, be16 (n % 65536)), (4, [])])]
          rintro e wz ⟨rfl, hb⟩
          have HPz := Lib.hid (hon.out _ _ HP.out hb)
          refine hK.out _ _ ?_ (fun hHeld => ?_)
          · exact Hsof.out _ (hBk.out _ HPz.out)
          clear hK K
          (try simp only [Act.put, List.setIfInBounds_toArray, List.set_cons_zero, List.set_cons_succ])
          refine wpAnyH_take (i := 22) (oi := { dst := some 134, op := Go.Op.pick (Go.Operand.tmp 118) (Go.Operand.tmp 133) (Go.Operand.const (Go.Value.bool false)), type := 4, pos := "law.go:86", after := #[{ on := 6, ground := Go.Ground.data }, { on := 21, ground := Go.Ground.data }], guard := none }) (v := ?_) rfl (by kernel_rfl) (by kernel_rfl) (by kernel_rfl) (fun _ _ _ h => h) (Or.inl ⟨by rfl, ?_⟩) (by assumption) ?_
          rotate_left 1
          · intro w' hSw; (go_simp <;> (with_reducible rfl))
          (try simp only [Act.put, List.setIfInBounds_toArray, List.set_cons_zero, List.set_cons_succ])
          refine wpAnyH_take (i := 23) (oi := { dst := some 6, op := Go.Op.assign (Go.Operand.tmp 134), type := 4, pos := "law.go:86", after := #[{ on := 22, ground := Go.Ground.data }, { on := 21, ground := Go.Ground.chain }, { on := 0, ground := Go.Ground.phase }, { on := 1, ground := Go.Ground.phase }, { on := 2, ground := Go.Ground.phase }, { on := 3, ground := Go.Ground.phase }, { on := 4, ground := Go.Ground.phase }, { on := 5, ground := Go.Ground.phase }, { on := 6, ground := Go.Ground.phase }, { on := 7, ground := Go.Ground.phase }, { on := 8, ground := Go.Ground.phase }, { on := 9, ground := Go.Ground.phase }, { on := 10, ground := Go.Ground.phase }, { on := 11, ground := Go.Ground.phase }, { on := 12, ground := Go.Ground.phase }, { on := 13, ground := Go.Ground.phase }, { on := 14, ground := Go.Ground.phase }, { on := 15, ground := Go.Ground.phase }, { on := 16, ground := Go.Ground.phase }, { on := 17, ground := Go.Ground.phase }, { on := 18, ground := Go.Ground.phase }, { on := 19, ground := Go.Ground.phase }, { on := 20, ground := Go.Ground.phase }, { on := 21, ground := Go.Ground.phase }, { on := 22, ground := Go.Ground.phase }], guard := none }) (v := ?_) rfl (by kernel_rfl) (by kernel_rfl) (by kernel_rfl) (fun _ _ _ h => h) (Or.inl ⟨by rfl, ?_⟩) (by assumption) ?_
          rotate_left 1
          · intro w' hSw; (go_simp <;> (with_reducible rfl))
          (try simp only [Act.put, List.setIfInBounds_toArray, List.set_cons_zero, List.set_cons_succ])
          refine wpAnyH_done (by kernel_rfl) ?_ _
          go_wp2_with fail
          go_ret
          exact ⟨rfl, hWs.out _ HPz.out⟩
        · skip
          go_simp
          refine hK.out _ _ ?_ (fun hHeld => ?_)
          · exact Hsof.out _ (hBk.out _ (hon.out _ _ HP.out ((Below.refl _ _).alloc (Nat.le_refl _) _)))
          clear hK K
          (try simp only [Act.put, List.setIfInBounds_toArray, List.set_cons_zero, List.set_cons_succ])
          have HF2 := Lib.hid (RdO.four (wf) wf.heap.size (by simp) 31 (0, 0) kk 3 2 4 A14 Ar (some ⟨gm, 0, none⟩) none dl c14 1 cr 2 2 0 0)
          have hba2 := (Below.refl (wf).heap.size (wf)).alloc (Nat.le_refl _) (.cells #[.int .u8 kk, .slice A14 dl c14, .int .u8 3, .slice Ar 1 cr, .int .u8 2, .slice (some ⟨gm, 0, none⟩) 2 2, .int .u8 4, .slice none 0 0] 31)
          have HP := Lib.hid (hon.out _ _ HP.out hba2)
          refine wpAnyH_ready (rs := [14]) (by kernel_rfl) (by simp) ?_
          refine AllReadyH.cons (o := { dst := some 126, op := Go.Op.buildSlice 23 4 #[(0, Go.Operand.tmp 119), (1, Go.Operand.tmp 121), (2, Go.Operand.tmp 124), (3, Go.Operand.tmp 125)], type := 23, pos := "law.go:86", after := #[{ on := 7, ground := Go.Ground.data }, { on := 9, ground := Go.Ground.data }, { on := 12, ground := Go.Ground.data }, { on := 13, ground := Go.Ground.data }, { on := 6, ground := Go.Ground.guard }], guard := some (6, true) }) rfl (fun K hK => ?_) AllReadyH.nil
          go_simp
          refine hK.out _ _ ?_ (fun hHeld => ?_)
          · exact Hsof.out _ (hBk.out _ (hon.out _ _ HP.out ((Below.refl _ _).alloc (Nat.le_refl _) _)))
          clear hK K
          (try simp only [Act.put, List.setIfInBounds_toArray, List.set_cons_zero, List.set_cons_succ])
          have HF1 := Lib.hid (RdO.four (wf.alloc (.cells #[.int .u8 kk, .slice A14 dl c14, .int .u8 3, .slice Ar 1 cr, .int .u8 2, .slice (some ⟨gm, 0, none⟩) 2 2, .int .u8 4, .slice none 0 0] 31)) (wf.heap.size + 1) (by simp) 31 (0, 0) kk 3 2 4 A12 As Am Ap dl c12 1 cs 2 cm 0 cp)
          have hba := (Below.refl (wf.alloc (.cells #[.int .u8 kk, .slice A14 dl c14, .int .u8 3, .slice Ar 1 cr, .int .u8 2, .slice (some ⟨gm, 0, none⟩) 2 2, .int .u8 4, .slice none 0 0] 31)).heap.size (wf.alloc (.cells #[.int .u8 kk, .slice A14 dl c14, .int .u8 3, .slice Ar 1 cr, .int .u8 2, .slice (some ⟨gm, 0, none⟩) 2 2, .int .u8 4, .slice none 0 0] 31))).alloc (Nat.le_refl _) (.cells #[.int .u8 kk, .slice A12 dl c12, .int .u8 3, .slice As 1 cs, .int .u8 2, .slice Am 2 cm, .int .u8 4, .slice Ap 0 cp] 31)
          have HP := Lib.hid (hon.out _ _ HP.out hba)
          refine wpAnyH_ready (rs := [21]) (by kernel_rfl) (by simp) ?_
          refine AllReadyH.cons (o := { dst := some 133, op := Go.Op.call { callee := Go.Callee.value (Go.Operand.func 12), args := #[Go.Operand.tmp 126, Go.Operand.tmp 132], argTypes := #[23, 23] }, type := 4, pos := "law.go:86", after := #[{ on := 14, ground := Go.Ground.data }, { on := 20, ground := Go.Ground.data }, { on := 17, ground := Go.Ground.chain }, { on := 6, ground := Go.Ground.guard }], guard := some (6, true) }) rfl (fun K hK => ?_) AllReadyH.nil
          go_simp
          go_at_call 12
          refine (rsame_any (some ⟨wf.heap.size + 1, 0, none⟩) (some ⟨wf.heap.size, 0, none⟩) 4 4 4 4 _ _ [(kk, dd), (3, [sc]), (2, be16 (n % 65536)), (4, [])] [(kk, dd), (3, [sc]), (2, be16 (n % 65536)), (4, [])] _ (by unfold maxLen; omega) HF1.out
            ⟨(hDt.out _ HP.out).1.at_ kk hke, (hSs.out _ HP.out).at_ 3 (by omega), (hMs.out _ HP.out).at_ 2 (by omega), (hPs.out _ HP.out).at_ 4 (by omega), trivial⟩ (HF2.out.below hba)
            ⟨(hDt.out _ HP.out).2.1.at_ kk hke, (((HAr.out.below hba2).below hba)).at_ 3 (by omega), (hDt.out _ HP.out).2.2.at_ 2 (by omega), ⟨rfl, ⟨by simp, by simp⟩, Nat.le_refl _, by simp [maxLen], Rd.nil _ _⟩, trivial⟩).mono ?_
          rw [decide_eq_true (rfl : [(kk, dd), (3, [sc]), (2, be16 (n % 65536)), (4, [])] = [(kk, dd), (3, [sc]), (2, be16 (n % 65536)), (4, [])])]
          rintro e wz ⟨rfl, hb⟩
          have HPz := Lib.hid (hon.out _ _ HP.out hb)
          refine hK.out _ _ ?_ (fun hHeld => ?_)
          · exact Hsof.out _ (hBk.out _ HPz.out)
          clear hK K
          (try simp only [Act.put, List.setIfInBounds_toArray, List.set_cons_zero, List.set_cons_succ])
          refine wpAnyH_take (i := 22) (oi := { dst := some 134, op := Go.Op.pick (Go.Operand.tmp 118) (Go.Operand.tmp 133) (Go.Operand.const (Go.Value.bool false)), type := 4, pos := "law.go:86", after := #[{ on := 6, ground := Go.Ground.data }, { on := 21, ground := Go.Ground.data }], guard := none }) (v := ?_) rfl (by kernel_rfl) (by kernel_rfl) (by kernel_rfl) (fun _ _ _ h => h) (Or.inl ⟨by rfl, ?_⟩) (by assumption) ?_
          rotate_left 1
          · intro w' hSw; (go_simp <;> (with_reducible rfl))
          (try simp only [Act.put, List.setIfInBounds_toArray, List.set_cons_zero, List.set_cons_succ])
          refine wpAnyH_take (i := 23) (oi := { dst := some 6, op := Go.Op.assign (Go.Operand.tmp 134), type := 4, pos := "law.go:86", after := #[{ on := 22, ground := Go.Ground.data }, { on := 21, ground := Go.Ground.chain }, { on := 0, ground := Go.Ground.phase }, { on := 1, ground := Go.Ground.phase }, { on := 2, ground := Go.Ground.phase }, { on := 3, ground := Go.Ground.phase }, { on := 4, ground := Go.Ground.phase }, { on := 5, ground := Go.Ground.phase }, { on := 6, ground := Go.Ground.phase }, { on := 7, ground := Go.Ground.phase }, { on := 8, ground := Go.Ground.phase }, { on := 9, ground := Go.Ground.phase }, { on := 10, ground := Go.Ground.phase }, { on := 11, ground := Go.Ground.phase }, { on := 12, ground := Go.Ground.phase }, { on := 13, ground := Go.Ground.phase }, { on := 14, ground := Go.Ground.phase }, { on := 15, ground := Go.Ground.phase }, { on := 16, ground := Go.Ground.phase }, { on := 17, ground := Go.Ground.phase }, { on := 18, ground := Go.Ground.phase }, { on := 19, ground := Go.Ground.phase }, { on := 20, ground := Go.Ground.phase }, { on := 21, ground := Go.Ground.phase }, { on := 22, ground := Go.Ground.phase }], guard := none }) (v := ?_) rfl (by kernel_rfl) (by kernel_rfl) (by kernel_rfl) (fun _ _ _ h => h) (Or.inl ⟨by rfl, ?_⟩) (by assumption) ?_
          rotate_left 1
          · intro w' hSw; (go_simp <;> (with_reducible rfl))
          (try simp only [Act.put, List.setIfInBounds_toArray, List.set_cons_zero, List.set_cons_succ])
          refine wpAnyH_done (by kernel_rfl) ?_ _
          go_wp2_with fail
          go_ret
          exact ⟨rfl, hWs.out _ HPz.out⟩
theorem own : ownKnob Try.prog.godebug = none := by kernel_rfl
theorem laidOut : laidOutB Try.prog = true := by kernel_rfl

set_option maxRecDepth 100000 in
theorem lifted (os : Os) (started : os.Started) (H : Type) (enc : TypeId × Value → H) :
    ReturnsInHanded {} Try.checked os 5 .any (Rows.optsFindsSpec.pre6 enc Try.prog Try.f5 Rows.optsFindsRow.domain false) (Rows.optsFindsSpec.post enc Try.prog Try.f5 false true false false) := by
  refine returnsInHanded_of_change (C := Try.checked) own started (by kernel_rfl) Try.func5
    (ChangeSpec.witness6 (enc := enc) (C := Try.checked) false ⟨#[], #[(.slice none 0 0), .int .i64 0, (.slice none 0 0)], []⟩ 8 (by kernel_rfl) (by kernel_rfl) (by kernel_rfl) (by kernel_rfl)) ?_
  intro W base args ds gs before hval0 hW hcnd _
  have hval : ∀ (j : Nat) t v, Try.f5.params[j]? = some t → args[j]? = some v → Value.okWide Try.prog W .any base t v := hval0
  have hW' := hW
  obtain ⟨p, q, hA0, hV, rfl, hfz, hnd⟩ := hW
  have hA : DataW.TrodAll enc Try.prog W 0 (fun _ => true) true Try.f5.params.toList args.toList ds p := hA0
  rw [Try.params5] at hA hval
  obtain ⟨v0, vs0, d0, ds0, p0, q0, hargs, rfl, rfl, h0, r0⟩ := trodAll_cons hA
  obtain ⟨v1, vs1, d1, ds1, p1, q1, rfl, rfl, rfl, h1, r1⟩ := trodAll_cons r0
  obtain ⟨v2, vs2, d2, ds2, p2, q2, rfl, rfl, rfl, h2, r2⟩ := trodAll_cons r1
  obtain ⟨rfl, rfl, rfl⟩ := trodAll_nil r2
  obtain rfl : args = #[v0, v1, v2] := by cases args; simp_all
  obtain ⟨rfl, rfl⟩ := trodVars_none hV
  have k0 := opts_open (hval 0 23 v0 rfl rfl) h0
  have lt0 : ∀ x ∈ p0, x.block < W.heap.size := by obtain ⟨m, hm⟩ := h0; exact DataW.trod_lt m _ _ _ hm
  obtain ⟨a1, rfl, rfl, rfl, w1⟩ := open_int Try.underlying3 (hval 1 3 v1 rfl rfl) h1
  have k2 := blks_open (hval 2 42 v2 rfl rfl) h2
  have lt2 : ∀ x ∈ p2, x.block < W.heap.size := by obtain ⟨m, hm⟩ := h2; exact DataW.trod_lt m _ _ _ hm
  clear hA0 hval0
  refine (walk W v0 k0 a1 w1 v2 k2).mono fun e W' ⟨he, bel⟩ => ?_
  subst he
  exact ⟨_, rfl, _, _, _, [], _, [], hW', trodAll_mk1 (shut_bool Try.underlying4 _), (trodAll_cons_mk (Below.trod laidOut (by kernel_rfl) (of_decide_eq_true (by kernel_rfl)) h0 bel lt0) (trodAll_cons_mk (shut_int Try.underlying3 w1) (trodAll_cons_mk (Below.trod laidOut (by kernel_rfl) (of_decide_eq_true (by kernel_rfl)) h2 bel lt2) trodAll_mk0))), rfl, bel.frame _, fun h => by cases h⟩

theorem over : Rows.optsFindsRow.holds Try.pinned (OpenSpec.ofChange Rows.optsFindsSpec) :=
  OpenClaim.holds_of_wide 5 Try.f5 rfl rfl rfl rfl rfl rfl rfl ⟨rfl, rfl, rfl, rfl, rfl⟩ rfl rfl rfl rfl rfl (by kernel_rfl) Try.func5 (by kernel_rfl)
    (of_decide_eq_true (by kernel_rfl)) (by unfold Func.isWrapper; first | (rw [if_pos (by decide +kernel)]; kernel_rfl) | (rw [if_neg (by decide +kernel)]; exact ⟨rfl, rfl⟩))
    (fun os started H enc _ => lifted os started H enc)

/-- The statement. -/
theorem proved : Rows.OptsFindsSaid := over
#print axioms proved
end Go.Proofs.Ytikfklbgncdbnaa.optsFinds
