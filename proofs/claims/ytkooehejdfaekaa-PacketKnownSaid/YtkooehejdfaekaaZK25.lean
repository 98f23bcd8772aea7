/-
  Texts laid together: PkRead, PkSame, PkMay.
-/
import Derived.Test.YtkooehejdfaekaaZK23
import Derived.Test.YtkooehejdfaekaaZK24
import Derived.Test.YtkooehejdfaekaaZK17
import Derived.Test.YtkooehejdfaekaaZK21
import Derived.Test.YtkooehejdfaekaaZK22
import Derived.Test.YtkooehejdfaekaaZK19
import Derived.Test.YtkooehejdfaekaaZK12

/-
  Package packet's readings: a map of closures that read a Proto's part out of a payload into a packet; what each does.
-/
namespace Go.Proofs.Ytkooehejdfaekaa
set_option maxRecDepth 10000
open Go.RowKit
set_option linter.unusedSimpArgs false
set_option linter.unusedVariables false

def readF6 (q r y x : Nat) : Value := .func (.func 54) #[] #[.pointer (some ⟨q, 0, none⟩), .pointer (some ⟨r, 0, none⟩), .pointer (some ⟨y, 0, none⟩), .pointer (some ⟨x, 0, none⟩)]
def readF17 (q r y x : Nat) : Value := .func (.func 56) #[] #[.pointer (some ⟨q, 0, none⟩), .pointer (some ⟨r, 0, none⟩), .pointer (some ⟨y, 0, none⟩), .pointer (some ⟨x, 0, none⟩)]
def readF1 (y x : Nat) : Value := .func (.func 58) #[] #[.pointer (some ⟨y, 0, none⟩), .pointer (some ⟨x, 0, none⟩)]
/-- Where readings' closures find what they took. -/
structure ReadAt (b : Nat) (sr ds : Int) (A : Option Addr) (n c q r y x B : Nat) (w : World) : Prop where
  src : Box w q 23 (.int .u32 sr)
  dst : Box w r 23 (.int .u32 ds)
  row : Box w y 24 (.slice A n c)
  ptr : Box w x 72 (.pointer (some ⟨b, 0, none⟩))
  at_ : B ≤ q ∧ B ≤ r ∧ B ≤ y ∧ B ≤ x
theorem ReadAt.on {b : Nat} {sr ds : Int} {A : Option Addr} {n c q r y x B : Nat} {w w' : World} (h : ReadAt b sr ds A n c q r y x B w) (hb : Below w.heap.size w w') : ReadAt b sr ds A n c q r y x B w' :=
  ⟨blk_on h.src hb, blk_on h.dst hb, blk_on h.row hb, blk_on h.ptr hb, h.at_⟩
def ReadsIs (b : Nat) (sr ds : Int) (A : Option Addr) (n c : Nat) (w : World) (e : Ending) (w' : World) : Prop :=
  ∃ g q r y x, e = .returned (.map (some g)) ∧ w'.heap[g]? = some (threeO (readF6 q r y x) (readF17 q r y x) (readF1 y x)) ∧ ReadAt b sr ds A n c q r y x w.heap.size w' ∧ Below w.heap.size w w'
set_option maxHeartbeats 2000000 in
theorem readings_any (b : Nat) (sr ds : Int) (A : Option Addr) (n c : Nat) (w : World) (hbs : b < w.heap.size) (h5 : w.cell? ⟨b, 5, none⟩ = some (.int .u32 sr)) (h6 : w.cell? ⟨b, 6, none⟩ = some (.int .u32 ds)) :
    Calls Try.prog 25 #[.pointer (some ⟨b, 0, none⟩), .slice A n c] w (ReadsIs b sr ds A n c w) := by
  have hmf : ∀ (fn : Fn) (first cap : Array Value) (w : World), (Instr.makeFunc fn first cap).run Try.prog w = .ok (.func fn first cap) w := fun _ _ _ _ => rfl
  obtain ⟨z, hz⟩ : ∃ z, w.heap.size = z := ⟨_, rfl⟩
  obtain ⟨w0, ew⟩ : ∃ w0, (w.alloc (.cells #[.pointer (some ⟨b, 0, none⟩)] 72)).alloc (.cells #[.slice A n c] 24) = w0 := ⟨_, rfl⟩
  have hb0 : Below w.heap.size w w0 := by rw [← ew]; exact ((Below.refl _ _).alloc (Nat.le_refl _) _).alloc (by simp) _
  have hk0 : Box w0 z 72 (.pointer (some ⟨b, 0, none⟩)) := by unfold Box; rw [← ew, Below.heap_alloc _ _ _ (by simp [hz]), ← hz]; exact heap_alloc_new w _
  have hk1 : Box w0 (z + 1) 24 (.slice A n c) := by
    unfold Box
    rw [← ew, ← hz]; simpa using heap_alloc_new (w.alloc (.cells #[.pointer (some ⟨b, 0, none⟩)] 72)) (.cells #[.slice A n c] 24)
  have hs0 : w0.heap.size = z + 2 := by rw [← ew, ← hz]; simp
  have Hs0 := Lib.hid hs0
  have HS := Lib.hid (show ∀ w', Below w0.heap.size w0 w' → w'.cell? ⟨z, 0, none⟩ = some (.pointer (some ⟨b, 0, none⟩)) ∧ w'.cell? ⟨b, 5, none⟩ = some (.int .u32 sr) ∧ w'.cell? ⟨b, 6, none⟩ = some (.int .u32 ds) from
    fun w' hb => ⟨(show Box w' z _ _ from blk_on hk0 hb).cell, ((hb0.trans (hb.mono hb0.size)).cell (p := ⟨b, 5, none⟩) hbs).trans h5, ((hb0.trans (hb.mono hb0.size)).cell (p := ⟨b, 6, none⟩) hbs).trans h6⟩)
  have Hb0 := Lib.hid hb0
  have Ew := Lib.hid ew
  have Hz := Lib.hid hz
  have HK0 := Lib.hid hk0
  have HK1 := Lib.hid hk1
  clear hz ew hb0 hk0 hk1 h5 h6 hs0
  go_enter Try.func25, Try.ntmps25
  go_upto_region 1 with (fail)
  rw [Ew.out]
  try rw [Hz.out]
  go_cut [5, 6] (fun s5 s6 wx => ∃ (q r : Nat), s5 = .pointer (some ⟨q, 0, none⟩) ∧ s6 = .pointer (some ⟨r, 0, none⟩) ∧ Hid (ReadAt b sr ds A n c q r (z + 1) z w.heap.size wx) ∧ Hid (Below w.heap.size w wx))
  case first =>
    go_region_held3 (fun w' => w'.cell? ⟨z, 0, none⟩ = some (.pointer (some ⟨b, 0, none⟩)) ∧ w'.cell? ⟨b, 5, none⟩ = some (.int .u32 sr) ∧ w'.cell? ⟨b, 6, none⟩ = some (.int .u32 ds)) (exact HS.out _ (by repeat (first | exact Below.refl _ _ | refine Below.drew ?_ | (refine Below.alloc ?_ (by simp) _) | (refine Below.setCell ?_ (by simp) _)))) (fail)
    · go_wp2_with fail
      obtain ⟨h1, h2, h3⟩ := box_two w0 (.int .u32 sr) (.int .u32 ds) 23
      have hs := below_trans Hb0.out h3
      have hsz := Hb0.out.size
      have hz := Hz.out
      have hs0 := Hs0.out
      go_meet
      exact ⟨_, _, rfl, rfl, Lib.hid ⟨h1, h2, blk_on HK1.out h3, blk_on HK0.out h3, ⟨by omega, by omega, by omega, by omega⟩⟩, Lib.hid hs⟩
    · go_wp2_with fail
      obtain ⟨h1, h2, h3⟩ := box_two w0 (.int .u32 ds) (.int .u32 sr) 23
      have hs := below_trans Hb0.out h3
      have hsz := Hb0.out.size
      have hz := Hz.out
      have hs0 := Hs0.out
      go_meet
      exact ⟨_, _, rfl, rfl, Lib.hid ⟨h2, h1, blk_on HK1.out h3, blk_on HK0.out h3, ⟨by omega, by omega, by omega, by omega⟩⟩, Lib.hid hs⟩
  case rest =>
    obtain ⟨q, r, rfl, rfl, HP, HB⟩ := hcut
    clear HK0 HK1 Hb0 Ew HS
    obtain ⟨w2, e2⟩ : ∃ v, wc.alloc (.map #[] 0) = v := ⟨_, rfl⟩
    have k2 : w2.heap[wc.heap.size]? = some (.map #[] 0) := by rw [← e2]; exact heap_alloc_new wc _
    have b2 : Below wc.heap.size wc w2 := by rw [← e2]; exact (Below.refl _ _).alloc (Nat.le_refl _) _
    obtain ⟨w3, w4, w5, r1, r2, r3, hg, hb⟩ := runs_reading (readF6 q r (z + 1) z) (readF17 q r (z + 1) z) (readF1 (z + 1) z) b2 (Nat.le_refl _) k2
    have hmk := run_makeMap_plain (P := Try.prog) wc 70
    rw [e2] at hmk
    have Hg := Lib.hid hg
    have Hb := Lib.hid hb
    clear k2 b2 hg hb e2
    unfold readF6 at r1
    unfold readF17 at r2
    unfold readF1 at r3
    go_wp2_with fail
    go_ret
    exact ⟨_, q, r, z + 1, z, rfl, Hg.out, HP.out.on Hb.out, HB.out.trans (Hb.out.mono HB.out.size)⟩
theorem set9_24u (w : World) (b : Nat) (u0 u1 u2 u3 u4 u5 u6 u7 u8 : Value) : But (fun k => k = b) w (((((((((w.setCell ⟨b, 8, none⟩ u0).setCell ⟨b, 9, none⟩ u1).setCell ⟨b, 10, none⟩ u2).setCell ⟨b, 11, none⟩ u3).setCell ⟨b, 12, none⟩ u4).setCell ⟨b, 13, none⟩ u5).setCell ⟨b, 14, none⟩ u6).setCell ⟨b, 15, none⟩ u7).setCell ⟨b, 16, none⟩ u8) :=
  (((((((((But.refl (fun k => k = b) w).setCell (p := ⟨b, 8, none⟩) rfl _).setCell (p := ⟨b, 9, none⟩) rfl _).setCell (p := ⟨b, 10, none⟩) rfl _).setCell (p := ⟨b, 11, none⟩) rfl _).setCell (p := ⟨b, 12, none⟩) rfl _).setCell (p := ⟨b, 13, none⟩) rfl _).setCell (p := ⟨b, 14, none⟩) rfl _).setCell (p := ⟨b, 15, none⟩) rfl _).setCell (p := ⟨b, 16, none⟩) rfl _
theorem ReadAt.but {b : Nat} {sr ds : Int} {A : Option Addr} {n c q r y x B : Nat} {w w' : World} (h : ReadAt b sr ds A n c q r y x B w) (hb : But (fun k => k = b) w w') (hB : b < B) : ReadAt b sr ds A n c q r y x B w' := by
  have := h.at_
  exact ⟨hb.blk h.src (by omega), hb.blk h.dst (by omega), hb.blk h.row (by omega), hb.blk h.ptr (by omega), h.at_⟩
theorem ReadAt.cells {b : Nat} {sr ds : Int} {A : Option Addr} {n c q r y x B : Nat} {w : World} (h : ReadAt b sr ds A n c q r y x B w) : w.cell? ⟨x, 0, none⟩ = some (.pointer (some ⟨b, 0, none⟩)) ∧ w.cell? ⟨q, 0, none⟩ = some (.int .u32 sr) ∧ w.cell? ⟨r, 0, none⟩ = some (.int .u32 ds) ∧ w.cell? ⟨y, 0, none⟩ = some (.slice A n c) :=
  ⟨h.ptr.cell, h.src.cell, h.dst.cell, h.row.cell⟩

def ReadSeg (b nD : Nat) (S : Seg) (v0 v1 v2 v3 v4 v5 v6 v7 v17 v18 v19 v20 v21 v22 v23 : Value) (w : World) (e : Ending) (w' : World) : Prop :=
  ∃ AO nO cO os AD cD, e = .returned (.int .i64 0) ∧ w'.heap[b]? = some (.cells #[v0, v1, v2, v3, v4, v5, v6, v7, .int .u16 S.sp, .int .u16 S.dp, .int .u32 S.sq, .int .u32 S.ak, .int .u8 S.fl, .int .u16 S.wn, .int .u16 S.ug, .slice AO nO cO, .slice AD nD cD, v17, v18, v19, v20, v21, v22, v23] 35 (0, 0)) ∧ SegRd w' S AO nO cO os AD nD cD ∧ nO ≤ 20 ∧
    OwnO w' w.heap.size AO nO cO os ∧ OwnL w' w.heap.size os S.os ∧ OwnB w' w.heap.size AD nD cD S.d ∧ But (fun k => k = b) w w'
set_option maxHeartbeats 2000000 in
theorem read_good_6 (b : Nat) (sr ds : Int) (A : Option Addr) (n c q r y x B nD : Nat) (w : World) (l : List Int) (S : Seg) (v0 v1 v2 v3 v4 v5 v6 v7 v8 v9 v10 v11 v12 v13 v14 v15 v16 v17 v18 v19 v20 v21 v22 v23 : Value) (hk : w.heap[b]? = some (.cells #[v0, v1, v2, v3, v4, v5, v6, v7, v8, v9, v10, v11, v12, v13, v14, v15, v16, v17, v18, v19, v20, v21, v22, v23] 35 (0, 0))) (h : ReadAt b sr ds A n c q r y x B w) (hap : b < B)
    (hc : n ≤ c ∧ c ≤ maxLen) (hA : Rd w A n l) (hx : errSeg sr ds l = 0) (hS : segOf l (offB l) = S) (hn : S.d.length = nD) :
    Calls Try.prog 54 #[.pointer (some ⟨q, 0, none⟩), .pointer (some ⟨r, 0, none⟩), .pointer (some ⟨y, 0, none⟩), .pointer (some ⟨x, 0, none⟩)] w (ReadSeg b nD S v0 v1 v2 v3 v4 v5 v6 v7 v17 v18 v19 v20 v21 v22 v23 w) := by
  have Hx := Lib.hid hx
  have HS := Lib.hid hS
  have Hn := Lib.hid hn
  clear hx hS hn
  have HR := Lib.hid h
  have HK := Lib.hid hk
  have HA := Lib.hid hA
  have Hc := Lib.hid hc
  have Hbl := Lib.hid (lt_of_block hk)
  have Hap := Lib.hid hap
  clear h hk hA hc hap
  go_enter Try.func54, Try.ntmps54
  go_upto_region 1 with (fail)
  have HBd := Lib.hid (Below.drew (Below.refl w.heap.size w))
  refine wp_region_held_drew (S := fun w' => (w'.cell? ⟨x, 0, none⟩ = some (.pointer (some ⟨b, 0, none⟩)) ∧ w'.cell? ⟨q, 0, none⟩ = some (.int .u32 sr) ∧ w'.cell? ⟨r, 0, none⟩ = some (.int .u32 ds) ∧ w'.cell? ⟨y, 0, none⟩ = some (.slice A n c))) (by kernel_rfl) (HR.out.on HBd.out).cells (fun hHeld => ?_)
  obtain ⟨wd, ewd⟩ : ∃ wd, w.drew = wd := ⟨_, rfl⟩
  rw [ewd] at HBd hHeld ⊢
  clear ewd
  refine wpAnyH_take (i := 0) (oi := { dst := some 6, op := Go.Op.load 72 (Go.Operand.tmp 3), type := 72, pos := "packet.go:101", after := #[], guard := none }) (v := ?_) rfl (by kernel_rfl) (by kernel_rfl) (by kernel_rfl) (fun _ _ _ h => h) (Or.inl ⟨by rfl, ?_⟩) (by assumption) ?_
  rotate_left 1
  · intro w' hSw; (go_simp <;> (with_reducible rfl))
  (try simp only [Act.put, List.setIfInBounds_toArray, List.set_cons_zero, List.set_cons_succ])
  refine wpAnyH_take (i := 1) (oi := { dst := some 7, op := Go.Op.load 23 (Go.Operand.tmp 0), type := 23, pos := "packet.go:101", after := #[], guard := none }) (v := ?_) rfl (by kernel_rfl) (by kernel_rfl) (by kernel_rfl) (fun _ _ _ h => h) (Or.inl ⟨by rfl, ?_⟩) (by assumption) ?_
  rotate_left 1
  · intro w' hSw; (go_simp <;> (with_reducible rfl))
  (try simp only [Act.put, List.setIfInBounds_toArray, List.set_cons_zero, List.set_cons_succ])
  refine wpAnyH_take (i := 2) (oi := { dst := some 8, op := Go.Op.load 23 (Go.Operand.tmp 1), type := 23, pos := "packet.go:101", after := #[], guard := none }) (v := ?_) rfl (by kernel_rfl) (by kernel_rfl) (by kernel_rfl) (fun _ _ _ h => h) (Or.inl ⟨by rfl, ?_⟩) (by assumption) ?_
  rotate_left 1
  · intro w' hSw; (go_simp <;> (with_reducible rfl))
  (try simp only [Act.put, List.setIfInBounds_toArray, List.set_cons_zero, List.set_cons_succ])
  refine wpAnyH_take (i := 3) (oi := { dst := some 9, op := Go.Op.load 24 (Go.Operand.tmp 2), type := 24, pos := "packet.go:101", after := #[], guard := none }) (v := ?_) rfl (by kernel_rfl) (by kernel_rfl) (by kernel_rfl) (fun _ _ _ h => h) (Or.inl ⟨by rfl, ?_⟩) (by assumption) ?_
  rotate_left 1
  · intro w' hSw; (go_simp <;> (with_reducible rfl))
  (try simp only [Act.put, List.setIfInBounds_toArray, List.set_cons_zero, List.set_cons_succ])
  refine wpAnyH_ready (rs := [4]) (by kernel_rfl) (by simp) ?_
  refine AllReadyH.cons (o := { dst := some 10, op := Go.Op.call { callee := Go.Callee.value (Go.Operand.func 55), args := #[Go.Operand.tmp 7, Go.Operand.tmp 8, Go.Operand.tmp 9], argTypes := #[23, 23, 24] }, type := 102, pos := "packet.go:101", after := #[{ on := 1, ground := Go.Ground.data }, { on := 2, ground := Go.Ground.data }, { on := 3, ground := Go.Ground.data }], guard := none }) rfl (fun K hK => ?_) AllReadyH.nil
  go_simp
  (refine (tparse_told sr ds A n c l S nD _ Hc.out (HA.out.below HBd.out) Hx.out HS.out Hn.out).mono ?_; (rintro e w1 ⟨AO, nO, cO, os, AD, cD, rfl, hsr, hnO, ho, hl, hd, hb1⟩; have Hsr := Lib.hid hsr; have HnO := Lib.hid hnO; have Ho := Lib.hid (ho.mono HBd.out.size); have Hl := Lib.hid (hl.low HBd.out.size); have Hd := Lib.hid (hd.mono HBd.out.size); clear hsr hnO ho hl hd); have HB1 := Lib.hid (below_trans HBd.out hb1); have Hb1 := Lib.hid hb1; clear hb1)
  refine hK.out _ _ ?_ (fun hHeld => ?_)
  · exact (HR.out.on HB1.out).cells
  clear hK K
  (try simp only [Act.put, List.setIfInBounds_toArray, List.set_cons_zero, List.set_cons_succ])
  refine wpAnyH_take (i := 5) (oi := { dst := some 5, op := Go.Op.move (Go.Operand.tmp 10), type := 102, pos := "packet.go:101", after := #[{ on := 4, ground := Go.Ground.data }], guard := none }) (v := ?_) rfl (by kernel_rfl) (by kernel_rfl) (by kernel_rfl) (fun _ _ _ h => h) (Or.inl ⟨by rfl, ?_⟩) (by assumption) ?_
  rotate_left 1
  · intro w' hSw; (go_simp <;> (with_reducible rfl))
  (try simp only [Act.put, List.setIfInBounds_toArray, List.set_cons_zero, List.set_cons_succ])
  refine wpAnyH_take (i := 6) (oi := { dst := some 11, op := Go.Op.extract (Go.Operand.tmp 5) 0, type := 29, pos := "packet.go:101", after := #[{ on := 5, ground := Go.Ground.data }], guard := none }) (v := ?_) rfl (by kernel_rfl) (by kernel_rfl) (by kernel_rfl) (fun _ _ _ h => h) (Or.inl ⟨by rfl, ?_⟩) (by assumption) ?_
  rotate_left 1
  · intro w' hSw; (go_simp <;> (with_reducible rfl))
  (try simp only [Act.put, List.setIfInBounds_toArray, List.set_cons_zero, List.set_cons_succ])
  refine wpAnyH_take (i := 7) (oi := { dst := some 12, op := Go.Op.extract (Go.Operand.tmp 5) 1, type := 37, pos := "packet.go:101", after := #[{ on := 5, ground := Go.Ground.data }, { on := 10, ground := Go.Ground.gcOnly Go.Departure.lateStores }], guard := none }) (v := ?_) rfl (by kernel_rfl) (by kernel_rfl) (by kernel_rfl) (fun _ _ _ h => h) (Or.inl ⟨by rfl, ?_⟩) (by assumption) ?_
  rotate_left 1
  · intro w' hSw; (go_simp <;> (with_reducible rfl))
  (try simp only [Act.put, List.setIfInBounds_toArray, List.set_cons_zero, List.set_cons_succ])
  refine wpAnyH_take (i := 8) (oi := { dst := some 13, op := Go.Op.nilCheck (Go.Operand.tmp 6), type := 0, pos := "packet.go:101", after := #[{ on := 0, ground := Go.Ground.data }, { on := 0, ground := Go.Ground.phase }, { on := 1, ground := Go.Ground.phase }, { on := 2, ground := Go.Ground.phase }, { on := 3, ground := Go.Ground.phase }, { on := 4, ground := Go.Ground.phase }, { on := 5, ground := Go.Ground.phase }, { on := 6, ground := Go.Ground.phase }, { on := 7, ground := Go.Ground.textOnly Go.Departure.lateStores }], guard := none }) (v := ?_) rfl (by kernel_rfl) (by kernel_rfl) (by kernel_rfl) (fun _ _ _ h => h) (Or.inl ⟨by rfl, ?_⟩) (by assumption) ?_
  rotate_left 1
  · intro w' hSw; (go_simp <;> (with_reducible rfl))
  (try simp only [Act.put, List.setIfInBounds_toArray, List.set_cons_zero, List.set_cons_succ])
  refine wpAnyH_take (i := 9) (oi := { dst := some 14, op := Go.Op.fieldAddr 35 (Go.Operand.tmp 13) 1, type := 0, pos := "packet.go:101", after := #[{ on := 8, ground := Go.Ground.data }, { on := 0, ground := Go.Ground.phase }, { on := 1, ground := Go.Ground.phase }, { on := 2, ground := Go.Ground.phase }, { on := 3, ground := Go.Ground.phase }, { on := 4, ground := Go.Ground.phase }, { on := 5, ground := Go.Ground.phase }, { on := 6, ground := Go.Ground.phase }, { on := 7, ground := Go.Ground.textOnly Go.Departure.lateStores }], guard := none }) (v := ?_) rfl (by kernel_rfl) (by kernel_rfl) (by kernel_rfl) (fun _ _ _ h => h) (Or.inl ⟨by rfl, ?_⟩) (by assumption) ?_
  rotate_left 1
  · intro w' hSw; (go_simp <;> (with_reducible rfl))
  (try simp only [Act.put, List.setIfInBounds_toArray, List.set_cons_zero, List.set_cons_succ])
  have hk1 := blk_on HK.out HB1.out
  obtain ⟨k0, k1, k2, k3, k4, k5, k6, k7, k8, k9, k10, k11, k12, k13, k14, k15, k16, k17, k18, k19, k20, k21, k22, k23⟩ := cells24 hk1
  have kf := fun i => late_free hk1 i
  have HS1 := Lib.hid (fun u0 u1 u2 u3 u4 u5 u6 u7 u8 => set9_24u w1 b u0 u1 u2 u3 u4 u5 u6 u7 u8)
  refine wpAnyH_ready (rs := [10]) (by kernel_rfl) (by simp) ?_
  refine AllReadyH.cons (o := { dst := none, op := Go.Op.store 29 (Go.Operand.tmp 14) (Go.Operand.tmp 11), type := 0, pos := "packet.go:101", after := #[{ on := 9, ground := Go.Ground.data }, { on := 6, ground := Go.Ground.data }, { on := 4, ground := Go.Ground.chain }, { on := 0, ground := Go.Ground.phase }, { on := 1, ground := Go.Ground.phase }, { on := 2, ground := Go.Ground.phase }, { on := 3, ground := Go.Ground.phase }, { on := 4, ground := Go.Ground.phase }, { on := 5, ground := Go.Ground.phase }, { on := 6, ground := Go.Ground.phase }, { on := 7, ground := Go.Ground.textOnly Go.Departure.lateStores }], guard := none }) rfl (fun K hK => ?_) AllReadyH.nil
  go_simp
  skip
  refine hK.out _ _ ?_ (fun hHeld => ?_)
  · exact ((HR.out.on HB1.out).but (HS1.out (.int .u16 S.sp) (.int .u16 S.dp) (.int .u32 S.sq) (.int .u32 S.ak) (.int .u8 S.fl) (.int .u16 S.wn) (.int .u16 S.ug) (.slice AO nO cO) (.slice AD nD cD)) Hap.out).cells
  clear hK K
  (try simp only [Act.put, List.setIfInBounds_toArray, List.set_cons_zero, List.set_cons_succ])
  clear k0 k1 k2 k3 k4 k5 k6 k7 k8 k9 k10 k11 k12 k13 k14 k15 k16 k17 k18 k19 k20 k21 k22 k23
  clear kf
  refine wpAnyH_take (i := 11) (oi := { dst := some 4, op := Go.Op.assign (Go.Operand.tmp 12), type := 37, pos := "packet.go:101", after := #[{ on := 7, ground := Go.Ground.data }, { on := 10, ground := Go.Ground.chain }, { on := 0, ground := Go.Ground.phase }, { on := 1, ground := Go.Ground.phase }, { on := 2, ground := Go.Ground.phase }, { on := 3, ground := Go.Ground.phase }, { on := 4, ground := Go.Ground.phase }, { on := 5, ground := Go.Ground.phase }, { on := 6, ground := Go.Ground.phase }, { on := 7, ground := Go.Ground.phase }, { on := 8, ground := Go.Ground.phase }, { on := 9, ground := Go.Ground.phase }, { on := 10, ground := Go.Ground.phase }], guard := none }) (v := ?_) rfl (by kernel_rfl) (by kernel_rfl) (by kernel_rfl) (fun _ _ _ h => h) (Or.inl ⟨by rfl, ?_⟩) (by assumption) ?_
  rotate_left 1
  · intro w' hSw; (go_simp <;> (with_reducible rfl))
  (try simp only [Act.put, List.setIfInBounds_toArray, List.set_cons_zero, List.set_cons_succ])
  have HSb := Lib.hid (set9_24 (blk_on HK.out HB1.out) (.int .u16 S.sp) (.int .u16 S.dp) (.int .u32 S.sq) (.int .u32 S.ak) (.int .u8 S.fl) (.int .u16 S.wn) (.int .u16 S.ug) (.slice AO nO cO) (.slice AD nD cD))
  refine wpAnyH_done (by kernel_rfl) ?_ _
  clear hHeld
  go_wp2_with fail
  go_ret
  have hbl := Hbl.out
  have hsz := HBd.out.size
  have hbs := HS1.out (.int .u16 S.sp) (.int .u16 S.dp) (.int .u32 S.sq) (.int .u32 S.ak) (.int .u8 S.fl) (.int .u16 S.wn) (.int .u16 S.ug) (.slice AO nO cO) (.slice AD nD cD)
  exact ⟨AO, nO, cO, os, AD, cD, rfl, HSb.out, own_seg Hsr.out.num (Ho.out.but hbs (fun k hk e => by have := (World.ownsRow.lt Ho.out k (by rw [hk]; rfl)).1; omega)) (Hl.out.but hbs (fun n c l k h2 e => by have := h2.at_ rfl; omega)) (Hd.out.but hbs (fun k hk e => by omega)) Hsr.out.d.byte, HnO.out, Ho.out.but hbs (fun k hk e => by have := (World.ownsRow.lt Ho.out k (by rw [hk]; rfl)).1; omega), Hl.out.but hbs (fun n c l k h2 e => by have := h2.at_ rfl; omega), Hd.out.but hbs (fun k hk e => by omega), (But.of HB1.out).trans hbs⟩
end Go.Proofs.Ytkooehejdfaekaa

/-
  Whether two heads (ipv4.Same), two packets (packet.Same) have all the same.
-/
namespace Go.Proofs.Ytkooehejdfaekaa
set_option maxRecDepth 10000
open Go.RowKit
set_option linter.unusedSimpArgs false
set_option linter.unusedVariables false

theorem same4_any (h h' : Hd) (A : Option Addr) (n c : Nat) (A' : Option Addr) (n' c' : Nat) (w : World) (x : Bool) (hr : Rd w A n h.o) (hr' : Rd w A' n' h'.o) (hx : hdSame h h' = x) :
    Calls Try.prog 38 #[.agg #[.int .u8 h.to, .int .u16 h.id, .bool h.df, .int .u8 h.tt, .int .u8 h.pr, .int .u32 h.sr, .int .u32 h.ds, .slice A n c], .agg #[.int .u8 h'.to, .int .u16 h'.id, .bool h'.df, .int .u8 h'.tt, .int .u8 h'.pr, .int .u32 h'.sr, .int .u32 h'.ds, .slice A' n' c']] w (BoolIs x w) := by
  obtain ⟨to_, id_, df, tt, pr, sr, ds, o⟩ := h
  obtain ⟨to2, id2, df2, tt2, pr2, sr2, ds2, o2⟩ := h'
  simp only at hr hr' ⊢
  have hb := ((Below.refl w.heap.size w).alloc (Nat.le_refl _) (.cells #[.int .u8 to_, .int .u16 id_, .bool df, .int .u8 tt, .int .u8 pr, .int .u32 sr, .int .u32 ds, .slice A n c] 26)).alloc (by simp) (.cells #[.int .u8 to2, .int .u16 id2, .bool df2, .int .u8 tt2, .int .u8 pr2, .int .u32 sr2, .int .u32 ds2, .slice A' n' c'] 26)
  have H1 := Lib.hid (hr.below hb)
  have H2 := Lib.hid (hr'.below hb)
  have Hb := Lib.hid hb
  clear hr hr' hb
  unfold hdSame at hx
  simp only at hx
  by_cases h1 : to_ = to2
  case neg =>
    have h1b : (to_ == to2) = false := by simpa using h1
    have Hx := Lib.hid (show x = false by rw [← hx]; simp [h1])
    clear hx h1
    go_enter Try.func38, Try.ntmps38
    go_wp2_with fail
    go_ret
    exact ⟨ret_bool (by rw [Hx.out]), Hb.out⟩
  subst h1
  by_cases h2 : id_ = id2
  case neg =>
    have h2b : (id_ == id2) = false := by simpa using h2
    have Hx := Lib.hid (show x = false by rw [← hx]; simp [h2])
    clear hx h2
    go_enter Try.func38, Try.ntmps38
    go_wp2_with fail
    go_ret
    exact ⟨ret_bool (by rw [Hx.out]), Hb.out⟩
  subst h2
  by_cases h3 : df = df2
  case neg =>
    have h3b : (df == df2) = false := by simpa using h3
    have Hx := Lib.hid (show x = false by rw [← hx]; simp [h3])
    clear hx h3
    go_enter Try.func38, Try.ntmps38
    go_wp2_with fail
    go_ret
    exact ⟨ret_bool (by rw [Hx.out]), Hb.out⟩
  subst h3
  by_cases h4 : tt = tt2
  case neg =>
    have h4b : (tt == tt2) = false := by simpa using h4
    have Hx := Lib.hid (show x = false by rw [← hx]; simp [h4])
    clear hx h4
    go_enter Try.func38, Try.ntmps38
    go_wp2_with fail
    go_ret
    exact ⟨ret_bool (by rw [Hx.out]), Hb.out⟩
  subst h4
  by_cases h5 : pr = pr2
  case neg =>
    have h5b : (pr == pr2) = false := by simpa using h5
    have Hx := Lib.hid (show x = false by rw [← hx]; simp [h5])
    clear hx h5
    go_enter Try.func38, Try.ntmps38
    go_wp2_with fail
    go_ret
    exact ⟨ret_bool (by rw [Hx.out]), Hb.out⟩
  subst h5
  by_cases h6 : sr = sr2
  case neg =>
    have h6b : (sr == sr2) = false := by simpa using h6
    have Hx := Lib.hid (show x = false by rw [← hx]; simp [h6])
    clear hx h6
    go_enter Try.func38, Try.ntmps38
    go_wp2_with fail
    go_ret
    exact ⟨ret_bool (by rw [Hx.out]), Hb.out⟩
  subst h6
  by_cases h7 : ds = ds2
  case neg =>
    have h7b : (ds == ds2) = false := by simpa using h7
    have Hx := Lib.hid (show x = false by rw [← hx]; simp [h7])
    clear hx h7
    go_enter Try.func38, Try.ntmps38
    go_wp2_with fail
    go_ret
    exact ⟨ret_bool (by rw [Hx.out]), Hb.out⟩
  subst h7
  have Hse := Lib.hid (show decide (o = o2) = x by simpa using hx)
  clear hx
  go_enter Try.func38, Try.ntmps38
  go_wp2_with fail
  refine (bequal_any A A' n n' c c' o o2 _ x H1.out H2.out Hse.out).mono ?_
  rintro e w' ⟨rfl, rfl⟩
  go_wp2_with fail
  go_ret
  exact ⟨rfl, Hb.out⟩

set_option maxHeartbeats 2000000 in
theorem same9_any (p q : Pk) (a b : PkA) (w : World) (x : Bool) (hp : PkRd w p a) (hq : PkRd w q b) (hn : a.nO ≤ 2000000) (hx : pkSame p q = x) :
    Calls Try.prog 17 #[.agg #[.int .u8 p.h.to, .int .u16 p.h.id, .bool p.h.df, .int .u8 p.h.tt, .int .u8 p.h.pr, .int .u32 p.h.sr, .int .u32 p.h.ds, .slice a.AH a.nH a.cH, .int .u16 p.s.sp, .int .u16 p.s.dp, .int .u32 p.s.sq, .int .u32 p.s.ak, .int .u8 p.s.fl, .int .u16 p.s.wn, .int .u16 p.s.ug, .slice a.AO a.nO a.cO, .slice a.AD a.nD a.cD, .int .u16 p.u.sp, .int .u16 p.u.dp, .slice a.AU a.nU a.cU, .int .u8 p.m.ty, .int .u8 p.m.cd, .int .u32 p.m.rs, .slice a.AM a.nM a.cM], .agg #[.int .u8 q.h.to, .int .u16 q.h.id, .bool q.h.df, .int .u8 q.h.tt, .int .u8 q.h.pr, .int .u32 q.h.sr, .int .u32 q.h.ds, .slice b.AH b.nH b.cH, .int .u16 q.s.sp, .int .u16 q.s.dp, .int .u32 q.s.sq, .int .u32 q.s.ak, .int .u8 q.s.fl, .int .u16 q.s.wn, .int .u16 q.s.ug, .slice b.AO b.nO b.cO, .slice b.AD b.nD b.cD, .int .u16 q.u.sp, .int .u16 q.u.dp, .slice b.AU b.nU b.cU, .int .u8 q.m.ty, .int .u8 q.m.cd, .int .u32 q.m.rs, .slice b.AM b.nM b.cM]] w (BoolIs x w) := by
  obtain ⟨z, hz⟩ : ∃ z, w.heap.size = z := ⟨_, rfl⟩
  obtain ⟨w0, ew⟩ : ∃ w0, (w.alloc (.cells #[.int .u8 p.h.to, .int .u16 p.h.id, .bool p.h.df, .int .u8 p.h.tt, .int .u8 p.h.pr, .int .u32 p.h.sr, .int .u32 p.h.ds, .slice a.AH a.nH a.cH, .int .u16 p.s.sp, .int .u16 p.s.dp, .int .u32 p.s.sq, .int .u32 p.s.ak, .int .u8 p.s.fl, .int .u16 p.s.wn, .int .u16 p.s.ug, .slice a.AO a.nO a.cO, .slice a.AD a.nD a.cD, .int .u16 p.u.sp, .int .u16 p.u.dp, .slice a.AU a.nU a.cU, .int .u8 p.m.ty, .int .u8 p.m.cd, .int .u32 p.m.rs, .slice a.AM a.nM a.cM] 35)).alloc (.cells #[.int .u8 q.h.to, .int .u16 q.h.id, .bool q.h.df, .int .u8 q.h.tt, .int .u8 q.h.pr, .int .u32 q.h.sr, .int .u32 q.h.ds, .slice b.AH b.nH b.cH, .int .u16 q.s.sp, .int .u16 q.s.dp, .int .u32 q.s.sq, .int .u32 q.s.ak, .int .u8 q.s.fl, .int .u16 q.s.wn, .int .u16 q.s.ug, .slice b.AO b.nO b.cO, .slice b.AD b.nD b.cD, .int .u16 q.u.sp, .int .u16 q.u.dp, .slice b.AU b.nU b.cU, .int .u8 q.m.ty, .int .u8 q.m.cd, .int .u32 q.m.rs, .slice b.AM b.nM b.cM] 35) = w0 := ⟨_, rfl⟩
  have hb0 : Below w.heap.size w w0 := by rw [← ew]; exact ((Below.refl _ _).alloc (Nat.le_refl _) _).alloc (by simp) _
  have hk0 : w0.heap[z]? = some (.cells #[.int .u8 p.h.to, .int .u16 p.h.id, .bool p.h.df, .int .u8 p.h.tt, .int .u8 p.h.pr, .int .u32 p.h.sr, .int .u32 p.h.ds, .slice a.AH a.nH a.cH, .int .u16 p.s.sp, .int .u16 p.s.dp, .int .u32 p.s.sq, .int .u32 p.s.ak, .int .u8 p.s.fl, .int .u16 p.s.wn, .int .u16 p.s.ug, .slice a.AO a.nO a.cO, .slice a.AD a.nD a.cD, .int .u16 p.u.sp, .int .u16 p.u.dp, .slice a.AU a.nU a.cU, .int .u8 p.m.ty, .int .u8 p.m.cd, .int .u32 p.m.rs, .slice a.AM a.nM a.cM] 35 (0, 0)) := by rw [← ew, Below.heap_alloc _ _ _ (by simp [hz]), ← hz]; exact heap_alloc_new w _
  have hk1 : w0.heap[z + 1]? = some (.cells #[.int .u8 q.h.to, .int .u16 q.h.id, .bool q.h.df, .int .u8 q.h.tt, .int .u8 q.h.pr, .int .u32 q.h.sr, .int .u32 q.h.ds, .slice b.AH b.nH b.cH, .int .u16 q.s.sp, .int .u16 q.s.dp, .int .u32 q.s.sq, .int .u32 q.s.ak, .int .u8 q.s.fl, .int .u16 q.s.wn, .int .u16 q.s.ug, .slice b.AO b.nO b.cO, .slice b.AD b.nD b.cD, .int .u16 q.u.sp, .int .u16 q.u.dp, .slice b.AU b.nU b.cU, .int .u8 q.m.ty, .int .u8 q.m.cd, .int .u32 q.m.rs, .slice b.AM b.nM b.cM] 35 (0, 0)) := by
    rw [← ew, ← hz]; simpa using heap_alloc_new (w.alloc (.cells #[.int .u8 p.h.to, .int .u16 p.h.id, .bool p.h.df, .int .u8 p.h.tt, .int .u8 p.h.pr, .int .u32 p.h.sr, .int .u32 p.h.ds, .slice a.AH a.nH a.cH, .int .u16 p.s.sp, .int .u16 p.s.dp, .int .u32 p.s.sq, .int .u32 p.s.ak, .int .u8 p.s.fl, .int .u16 p.s.wn, .int .u16 p.s.ug, .slice a.AO a.nO a.cO, .slice a.AD a.nD a.cD, .int .u16 p.u.sp, .int .u16 p.u.dp, .slice a.AU a.nU a.cU, .int .u8 p.m.ty, .int .u8 p.m.cd, .int .u32 p.m.rs, .slice a.AM a.nM a.cM] 35)) (.cells #[.int .u8 q.h.to, .int .u16 q.h.id, .bool q.h.df, .int .u8 q.h.tt, .int .u8 q.h.pr, .int .u32 q.h.sr, .int .u32 q.h.ds, .slice b.AH b.nH b.cH, .int .u16 q.s.sp, .int .u16 q.s.dp, .int .u32 q.s.sq, .int .u32 q.s.ak, .int .u8 q.s.fl, .int .u16 q.s.wn, .int .u16 q.s.ug, .slice b.AO b.nO b.cO, .slice b.AD b.nD b.cD, .int .u16 q.u.sp, .int .u16 q.u.dp, .slice b.AU b.nU b.cU, .int .u8 q.m.ty, .int .u8 q.m.cd, .int .u32 q.m.rs, .slice b.AM b.nM b.cM] 35)
  have HK := Lib.hid (show ∀ w', Below w0.heap.size w0 w' → w'.heap[z]? = some (.cells #[.int .u8 p.h.to, .int .u16 p.h.id, .bool p.h.df, .int .u8 p.h.tt, .int .u8 p.h.pr, .int .u32 p.h.sr, .int .u32 p.h.ds, .slice a.AH a.nH a.cH, .int .u16 p.s.sp, .int .u16 p.s.dp, .int .u32 p.s.sq, .int .u32 p.s.ak, .int .u8 p.s.fl, .int .u16 p.s.wn, .int .u16 p.s.ug, .slice a.AO a.nO a.cO, .slice a.AD a.nD a.cD, .int .u16 p.u.sp, .int .u16 p.u.dp, .slice a.AU a.nU a.cU, .int .u8 p.m.ty, .int .u8 p.m.cd, .int .u32 p.m.rs, .slice a.AM a.nM a.cM] 35 (0, 0)) ∧ w'.heap[z + 1]? = some (.cells #[.int .u8 q.h.to, .int .u16 q.h.id, .bool q.h.df, .int .u8 q.h.tt, .int .u8 q.h.pr, .int .u32 q.h.sr, .int .u32 q.h.ds, .slice b.AH b.nH b.cH, .int .u16 q.s.sp, .int .u16 q.s.dp, .int .u32 q.s.sq, .int .u32 q.s.ak, .int .u8 q.s.fl, .int .u16 q.s.wn, .int .u16 q.s.ug, .slice b.AO b.nO b.cO, .slice b.AD b.nD b.cD, .int .u16 q.u.sp, .int .u16 q.u.dp, .slice b.AU b.nU b.cU, .int .u8 q.m.ty, .int .u8 q.m.cd, .int .u32 q.m.rs, .slice b.AM b.nM b.cM] 35 (0, 0)) ∧ PkRd w' p a ∧ PkRd w' q b from
    fun w' hb => ⟨blk_on hk0 hb, blk_on hk1 hb, (hp.below hb0).below hb, (hq.below hb0).below hb⟩)
  have Hb0 := Lib.hid hb0
  have Hew := Lib.hid ew
  have Hz := Lib.hid hz
  have Hn := Lib.hid hn
  obtain ⟨y1, ey1⟩ : ∃ y, hdSame p.h q.h = y := ⟨_, rfl⟩
  obtain ⟨y2, ey2⟩ : ∃ y, segSame p.s q.s = y := ⟨_, rfl⟩
  obtain ⟨y3, ey3⟩ : ∃ y, dgSame p.u q.u = y := ⟨_, rfl⟩
  obtain ⟨y4, ey4⟩ : ∃ y, msgSame p.m q.m = y := ⟨_, rfl⟩
  unfold pkSame at hx
  rw [ey1, ey2, ey3, ey4] at hx
  have E1 := Lib.hid ey1
  have E2 := Lib.hid ey2
  have E3 := Lib.hid ey3
  have E4 := Lib.hid ey4
  have Hx := Lib.hid hx
  clear hk0 hk1 hb0 ew hp hq hn ey1 ey2 ey3 ey4 hx
  go_enter Try.func17, Try.ntmps17
  go_upto_region 1 with (fail)
  rw [Hew.out]
  try rw [Hz.out]
  have Hb := Lib.hid (Below.refl w0.heap.size w0)
  obtain ⟨k0, k1, k2, k3, k4, k5, k6, k7, k8, k9, k10, k11, k12, k13, k14, k15, k16, k17, k18, k19, k20, k21, k22, k23⟩ := cells24 (HK.out _ Hb.out).1
  obtain ⟨l0, l1, l2, l3, l4, l5, l6, l7, l8, l9, l10, l11, l12, l13, l14, l15, l16, l17, l18, l19, l20, l21, l22, l23⟩ := cells24 (HK.out _ Hb.out).2.1
  go_wp2_with fail
  refine (same4_any p.h q.h a.AH a.nH a.cH b.AH b.nH b.cH _ y1 (HK.out _ Hb.out).2.2.1.hr (HK.out _ Hb.out).2.2.2.hr E1.out).mono ?_
  rintro e w1 ⟨rfl, hb1⟩
  have Hb := Lib.hid (below_trans Hb.out hb1)
  clear hb1
  clear k0 k1 k2 k3 k4 k5 k6 k7 k8 k9 k10 k11 k12 k13 k14 k15 k16 k17 k18 k19 k20 k21 k22 k23
  clear l0 l1 l2 l3 l4 l5 l6 l7 l8 l9 l10 l11 l12 l13 l14 l15 l16 l17 l18 l19 l20 l21 l22 l23
  cases y1 with
  | false =>
    go_wp2_with fail
    go_ret
    exact ⟨ret_bool (by rw [← Hx.out]; simp), below_trans Hb0.out Hb.out⟩
  | true =>
    obtain ⟨k0, k1, k2, k3, k4, k5, k6, k7, k8, k9, k10, k11, k12, k13, k14, k15, k16, k17, k18, k19, k20, k21, k22, k23⟩ := cells24 (HK.out _ Hb.out).1
    obtain ⟨l0, l1, l2, l3, l4, l5, l6, l7, l8, l9, l10, l11, l12, l13, l14, l15, l16, l17, l18, l19, l20, l21, l22, l23⟩ := cells24 (HK.out _ Hb.out).2.1
    go_wp2_with fail
    refine (same6_any p.s q.s a.AO b.AO a.nO a.cO b.nO b.cO a.os b.os a.AD b.AD a.nD a.cD b.nD b.cD _ Hn.out (HK.out _ Hb.out).2.2.1.sr (HK.out _ Hb.out).2.2.2.sr).mono ?_
    rw [E2.out]
    rintro e w2 ⟨rfl, hb2⟩
    have Hb := Lib.hid (below_trans Hb.out hb2)
    clear hb2
    clear k0 k1 k2 k3 k4 k5 k6 k7 k8 k9 k10 k11 k12 k13 k14 k15 k16 k17 k18 k19 k20 k21 k22 k23
    clear l0 l1 l2 l3 l4 l5 l6 l7 l8 l9 l10 l11 l12 l13 l14 l15 l16 l17 l18 l19 l20 l21 l22 l23
    cases y2 with
    | false =>
      go_wp2_with fail
      go_ret
      exact ⟨ret_bool (by rw [← Hx.out]; simp), below_trans Hb0.out Hb.out⟩
    | true =>
      obtain ⟨k0, k1, k2, k3, k4, k5, k6, k7, k8, k9, k10, k11, k12, k13, k14, k15, k16, k17, k18, k19, k20, k21, k22, k23⟩ := cells24 (HK.out _ Hb.out).1
      obtain ⟨l0, l1, l2, l3, l4, l5, l6, l7, l8, l9, l10, l11, l12, l13, l14, l15, l16, l17, l18, l19, l20, l21, l22, l23⟩ := cells24 (HK.out _ Hb.out).2.1
      go_wp2_with fail
      refine (usame_any p.u q.u a.AU a.nU a.cU b.AU b.nU b.cU _ y3 (HK.out _ Hb.out).2.2.1.ur (HK.out _ Hb.out).2.2.2.ur E3.out).mono ?_
      rintro e w3 ⟨rfl, hb3⟩
      have Hb := Lib.hid (below_trans Hb.out hb3)
      clear hb3
      clear k0 k1 k2 k3 k4 k5 k6 k7 k8 k9 k10 k11 k12 k13 k14 k15 k16 k17 k18 k19 k20 k21 k22 k23
      clear l0 l1 l2 l3 l4 l5 l6 l7 l8 l9 l10 l11 l12 l13 l14 l15 l16 l17 l18 l19 l20 l21 l22 l23
      cases y3 with
      | false =>
        go_wp2_with fail
        go_ret
        exact ⟨ret_bool (by rw [← Hx.out]; simp), below_trans Hb0.out Hb.out⟩
      | true =>
        obtain ⟨k0, k1, k2, k3, k4, k5, k6, k7, k8, k9, k10, k11, k12, k13, k14, k15, k16, k17, k18, k19, k20, k21, k22, k23⟩ := cells24 (HK.out _ Hb.out).1
        obtain ⟨l0, l1, l2, l3, l4, l5, l6, l7, l8, l9, l10, l11, l12, l13, l14, l15, l16, l17, l18, l19, l20, l21, l22, l23⟩ := cells24 (HK.out _ Hb.out).2.1
        go_wp2_with fail
        refine (same8_any p.m q.m a.AM a.nM a.cM b.AM b.nM b.cM _ y4 (HK.out _ Hb.out).2.2.1.mr (HK.out _ Hb.out).2.2.2.mr E4.out).mono ?_
        rintro e w4 ⟨rfl, hb4⟩
        have Hb := Lib.hid (below_trans Hb.out hb4)
        clear hb4
        clear k0 k1 k2 k3 k4 k5 k6 k7 k8 k9 k10 k11 k12 k13 k14 k15 k16 k17 k18 k19 k20 k21 k22 k23
        clear l0 l1 l2 l3 l4 l5 l6 l7 l8 l9 l10 l11 l12 l13 l14 l15 l16 l17 l18 l19 l20 l21 l22 l23
        go_wp2_with fail
        go_ret
        exact ⟨ret_bool (by rw [← Hx.out]; simp), below_trans Hb0.out Hb.out⟩
end Go.Proofs.Ytkooehejdfaekaa

/-
  Package packet's May: whether a packet may be.
-/
namespace Go.Proofs.Ytkooehejdfaekaa
set_option maxRecDepth 10000
open Go.RowKit
set_option linter.unusedSimpArgs false
set_option linter.unusedVariables false

theorem dgSame_turn (s t : Dg) : dgSame s t = dgSame t s := by
  rw [Bool.eq_iff_iff, dgSame_iff, dgSame_iff]; exact eq_comm
theorem msgSame_turn (s t : Msg) : msgSame s t = msgSame t s := by
  rw [Bool.eq_iff_iff, msgSame_iff, msgSame_iff]; exact eq_comm
theorem segSame_turn (s t : Seg) : segSame s t = segSame t s := by
  rw [Bool.eq_iff_iff, segSame_iff, segSame_iff]; exact eq_comm
theorem dgSame_refl (h : Dg) : dgSame h h = true := (dgSame_iff h h).2 rfl
theorem msgSame_refl (h : Msg) : msgSame h h = true := (msgSame_iff h h).2 rfl
theorem mayP_6 (p : Pk) (h : p.h.pr = 6) : mayP p = (mayB p.h.tt p.h.o.length && (dgSame p.u zeroDg && msgSame p.m zeroM)) := by
  unfold mayP partP pkSame
  simp only [h, reduceIte, decide_true, Bool.true_or, Bool.true_and]
  rw [hdSame_self, segSame_self, dgSame_turn, msgSame_turn zeroM]
  simp
theorem mayP_17 (p : Pk) (h : p.h.pr = 17) : mayP p = (mayB p.h.tt p.h.o.length && (segSame p.s zeroSeg && msgSame p.m zeroM)) := by
  unfold mayP partP pkSame
  simp only [h, reduceIte, decide_true, Bool.true_or, Bool.or_true, Bool.true_and, show ¬ (17 : Int) = 6 by decide]
  rw [hdSame_self, dgSame_refl, segSame_turn, msgSame_turn zeroM]
  simp
theorem mayP_1 (p : Pk) (h : p.h.pr = 1) : mayP p = (mayB p.h.tt p.h.o.length && (segSame p.s zeroSeg && dgSame p.u zeroDg)) := by
  unfold mayP partP pkSame
  simp only [h, reduceIte, decide_true, Bool.true_or, Bool.or_true, Bool.true_and, show ¬ (1 : Int) = 6 by decide, show ¬ (1 : Int) = 17 by decide]
  rw [hdSame_self, msgSame_refl, segSame_turn, dgSame_turn zeroDg]
  simp
theorem mayP_no (p : Pk) (h6 : p.h.pr ≠ 6) (h17 : p.h.pr ≠ 17) (h1 : p.h.pr ≠ 1) : mayP p = false := by
  unfold mayP
  simp [h6, h17, h1]

set_option maxHeartbeats 2000000 in
theorem may9_6 (p : Pk) (a : PkA) (w : World) (x : Bool) (hp : PkRd w p a) (hn : a.nO ≤ 2000000) (hx : mayP p = x) (h6 : p.h.pr = 6) :
    Calls Try.prog 13 #[.agg #[.int .u8 p.h.to, .int .u16 p.h.id, .bool p.h.df, .int .u8 p.h.tt, .int .u8 p.h.pr, .int .u32 p.h.sr, .int .u32 p.h.ds, .slice a.AH a.nH a.cH, .int .u16 p.s.sp, .int .u16 p.s.dp, .int .u32 p.s.sq, .int .u32 p.s.ak, .int .u8 p.s.fl, .int .u16 p.s.wn, .int .u16 p.s.ug, .slice a.AO a.nO a.cO, .slice a.AD a.nD a.cD, .int .u16 p.u.sp, .int .u16 p.u.dp, .slice a.AU a.nU a.cU, .int .u8 p.m.ty, .int .u8 p.m.cd, .int .u32 p.m.rs, .slice a.AM a.nM a.cM]] w (BoolIs x w) := by
  have h6b : (p.h.pr == 6) = true := by rw [h6]; rfl
  have h17b : (p.h.pr == 17) = false := by rw [h6]; rfl
  have h1b : (p.h.pr == 1) = false := by rw [h6]; rfl
  have hkn : knownP p.h.pr = true := by rw [h6]; rfl
  rw [mayP_6 p h6] at hx
  obtain ⟨y, ey⟩ : ∃ y, mayB p.h.tt a.nH = y := ⟨_, rfl⟩
  obtain ⟨y1, ey1⟩ : ∃ y, dgSame p.u zeroDg = y := ⟨_, rfl⟩
  obtain ⟨y2, ey2⟩ : ∃ y, msgSame p.m zeroM = y := ⟨_, rfl⟩
  rw [hp.hr.len, ey, ey1, ey2] at hx
  have Hx := Lib.hid hx
  have Hy := Lib.hid ey
  have E1 := Lib.hid ey1
  have E2 := Lib.hid ey2
  have Hn := Lib.hid hn
  clear hx ey ey1 ey2 h6 hn
  obtain ⟨z, hz⟩ : ∃ z, w.heap.size = z := ⟨_, rfl⟩
  obtain ⟨w0, ew⟩ : ∃ w0, w.alloc (.cells #[.int .u8 p.h.to, .int .u16 p.h.id, .bool p.h.df, .int .u8 p.h.tt, .int .u8 p.h.pr, .int .u32 p.h.sr, .int .u32 p.h.ds, .slice a.AH a.nH a.cH, .int .u16 p.s.sp, .int .u16 p.s.dp, .int .u32 p.s.sq, .int .u32 p.s.ak, .int .u8 p.s.fl, .int .u16 p.s.wn, .int .u16 p.s.ug, .slice a.AO a.nO a.cO, .slice a.AD a.nD a.cD, .int .u16 p.u.sp, .int .u16 p.u.dp, .slice a.AU a.nU a.cU, .int .u8 p.m.ty, .int .u8 p.m.cd, .int .u32 p.m.rs, .slice a.AM a.nM a.cM] 35) = w0 := ⟨_, rfl⟩
  have hb0 : Below w.heap.size w w0 := by rw [← ew]; exact (Below.refl _ _).alloc (Nat.le_refl _) _
  have hk0 : w0.heap[z]? = some (.cells #[.int .u8 p.h.to, .int .u16 p.h.id, .bool p.h.df, .int .u8 p.h.tt, .int .u8 p.h.pr, .int .u32 p.h.sr, .int .u32 p.h.ds, .slice a.AH a.nH a.cH, .int .u16 p.s.sp, .int .u16 p.s.dp, .int .u32 p.s.sq, .int .u32 p.s.ak, .int .u8 p.s.fl, .int .u16 p.s.wn, .int .u16 p.s.ug, .slice a.AO a.nO a.cO, .slice a.AD a.nD a.cD, .int .u16 p.u.sp, .int .u16 p.u.dp, .slice a.AU a.nU a.cU, .int .u8 p.m.ty, .int .u8 p.m.cd, .int .u32 p.m.rs, .slice a.AM a.nM a.cM] 35 (0, 0)) := by rw [← ew, ← hz]; exact heap_alloc_new w _
  have HK := Lib.hid (show ∀ w', Below w0.heap.size w0 w' → w'.heap[z]? = some (.cells #[.int .u8 p.h.to, .int .u16 p.h.id, .bool p.h.df, .int .u8 p.h.tt, .int .u8 p.h.pr, .int .u32 p.h.sr, .int .u32 p.h.ds, .slice a.AH a.nH a.cH, .int .u16 p.s.sp, .int .u16 p.s.dp, .int .u32 p.s.sq, .int .u32 p.s.ak, .int .u8 p.s.fl, .int .u16 p.s.wn, .int .u16 p.s.ug, .slice a.AO a.nO a.cO, .slice a.AD a.nD a.cD, .int .u16 p.u.sp, .int .u16 p.u.dp, .slice a.AU a.nU a.cU, .int .u8 p.m.ty, .int .u8 p.m.cd, .int .u32 p.m.rs, .slice a.AM a.nM a.cM] 35 (0, 0)) ∧ PkRd w' p a from fun w' hb => ⟨blk_on hk0 hb, (hp.below hb0).below hb⟩)
  have Hb0 := Lib.hid hb0
  have Ew := Lib.hid ew
  have Hz := Lib.hid hz
  have HA := Lib.hid hk0
  have Hpay := Lib.hid (payloads_any p a w0)
  have Hkn := Lib.hid hkn
  have Hol := Lib.hid hp.hr.len
  clear hz ew hb0 hk0 hp hkn
  go_enter Try.func13, Try.ntmps13
  go_upto_region 1 with (fail)
  rw [Ew.out]
  try rw [Hz.out]
  obtain ⟨k0, k1, k2, k3, k4, k5, k6, k7, k8, k9, k10, k11, k12, k13, k14, k15, k16, k17, k18, k19, k20, k21, k22, k23⟩ := cells24 HA.out
  go_upto_region 2 with (fail)
  clear k0 k1 k2 k3 k4 k5 k6 k7 k8 k9 k10 k11 k12 k13 k14 k15 k16 k17 k18 k19 k20 k21 k22 k23
  repeat (first | (refine wp_load_row 35 (.tmp 1) rfl z _ _ _ _ HA.out rfl Try.underlying35 rfl (by kernel_rfl) ?_; simp only [Act.put, List.setIfInBounds_toArray, List.set_cons_zero, List.set_cons_succ]) | go_values | go_skip | go_guarded | go_step | go_upon | go_back)
  refine Hpay.out.mono ?_
  rintro e w1 ⟨g, q, r, b, rfl, hg, -, hb1⟩
  obtain ⟨f, ef⟩ : ∃ f, atP (payF6 q r b) (payF17 q r b) (payF1 b) p.h.pr = f := ⟨_, rfl⟩
  have hlook := look3_payload w1 g _ _ _ p.h.pr f true hg ef Hkn.out
  have Hb := Lib.hid hb1
  clear hb1 hg ef Hpay HA
  obtain ⟨k0, k1, k2, k3, k4, k5, k6, k7, k8, k9, k10, k11, k12, k13, k14, k15, k16, k17, k18, k19, k20, k21, k22, k23⟩ := cells24 (HK.out _ Hb.out).1
  go_upto_region 3 with (fail)
  clear hlook
  go_wp2_with fail
  refine (may_any p.h.to p.h.id p.h.tt p.h.pr p.h.sr p.h.ds p.h.df a.AH a.nH a.cH _).mono ?_
  rw [Hy.out]
  rintro e w2 ⟨rfl, hb2⟩
  have Hb := Lib.hid (below_trans Hb.out hb2)
  clear hb2
  clear k0 k1 k2 k3 k4 k5 k6 k7 k8 k9 k10 k11 k12 k13 k14 k15 k16 k17 k18 k19 k20 k21 k22 k23
  cases y with
  | false =>
    go_wp2_with fail
    go_ret
    exact ⟨ret_bool (by rw [← Hx.out]; simp), below_trans Hb0.out Hb.out⟩
  | true =>
    obtain ⟨k0, k1, k2, k3, k4, k5, k6, k7, k8, k9, k10, k11, k12, k13, k14, k15, k16, k17, k18, k19, k20, k21, k22, k23⟩ := cells24 (HK.out _ Hb.out).1
    go_wp2_with fail
    refine (usame_any p.u zeroDg a.AU a.nU a.cU none 0 0 _ y1 (HK.out _ Hb.out).2.ur (Rd.nil _ _) E1.out).mono ?_
    skip
    rintro e w3 ⟨rfl, hb3⟩
    have Hb := Lib.hid (below_trans Hb.out hb3)
    clear hb3
    clear k0 k1 k2 k3 k4 k5 k6 k7 k8 k9 k10 k11 k12 k13 k14 k15 k16 k17 k18 k19 k20 k21 k22 k23
    cases y1 with
    | false =>
      go_wp2_with fail
      go_ret
      exact ⟨ret_bool (by rw [← Hx.out]; simp), below_trans Hb0.out Hb.out⟩
    | true =>
      obtain ⟨k0, k1, k2, k3, k4, k5, k6, k7, k8, k9, k10, k11, k12, k13, k14, k15, k16, k17, k18, k19, k20, k21, k22, k23⟩ := cells24 (HK.out _ Hb.out).1
      go_wp2_with fail
      refine (same8_any p.m zeroM a.AM a.nM a.cM none 0 0 _ y2 (HK.out _ Hb.out).2.mr (Rd.nil _ _) E2.out).mono ?_
      skip
      rintro e w4 ⟨rfl, hb4⟩
      have Hb := Lib.hid (below_trans Hb.out hb4)
      clear hb4
      clear k0 k1 k2 k3 k4 k5 k6 k7 k8 k9 k10 k11 k12 k13 k14 k15 k16 k17 k18 k19 k20 k21 k22 k23
      cases y2 with
      | false =>
        go_wp2_with fail
        go_ret
        exact ⟨ret_bool (by rw [← Hx.out]; simp), below_trans Hb0.out Hb.out⟩
      | true =>
        go_wp2_with fail
        go_ret
        exact ⟨ret_bool (by rw [← Hx.out]; simp), below_trans Hb0.out Hb.out⟩
set_option maxHeartbeats 2000000 in
theorem may9_17 (p : Pk) (a : PkA) (w : World) (x : Bool) (hp : PkRd w p a) (hn : a.nO ≤ 2000000) (hx : mayP p = x) (h6 : p.h.pr = 17) :
    Calls Try.prog 13 #[.agg #[.int .u8 p.h.to, .int .u16 p.h.id, .bool p.h.df, .int .u8 p.h.tt, .int .u8 p.h.pr, .int .u32 p.h.sr, .int .u32 p.h.ds, .slice a.AH a.nH a.cH, .int .u16 p.s.sp, .int .u16 p.s.dp, .int .u32 p.s.sq, .int .u32 p.s.ak, .int .u8 p.s.fl, .int .u16 p.s.wn, .int .u16 p.s.ug, .slice a.AO a.nO a.cO, .slice a.AD a.nD a.cD, .int .u16 p.u.sp, .int .u16 p.u.dp, .slice a.AU a.nU a.cU, .int .u8 p.m.ty, .int .u8 p.m.cd, .int .u32 p.m.rs, .slice a.AM a.nM a.cM]] w (BoolIs x w) := by
  have h6b : (p.h.pr == 6) = false := by rw [h6]; rfl
  have h17b : (p.h.pr == 17) = true := by rw [h6]; rfl
  have h1b : (p.h.pr == 1) = false := by rw [h6]; rfl
  have hkn : knownP p.h.pr = true := by rw [h6]; rfl
  rw [mayP_17 p h6] at hx
  obtain ⟨y, ey⟩ : ∃ y, mayB p.h.tt a.nH = y := ⟨_, rfl⟩
  obtain ⟨y1, ey1⟩ : ∃ y, segSame p.s zeroSeg = y := ⟨_, rfl⟩
  obtain ⟨y2, ey2⟩ : ∃ y, msgSame p.m zeroM = y := ⟨_, rfl⟩
  rw [hp.hr.len, ey, ey1, ey2] at hx
  have Hx := Lib.hid hx
  have Hy := Lib.hid ey
  have E1 := Lib.hid ey1
  have E2 := Lib.hid ey2
  have Hn := Lib.hid hn
  clear hx ey ey1 ey2 h6 hn
  obtain ⟨z, hz⟩ : ∃ z, w.heap.size = z := ⟨_, rfl⟩
  obtain ⟨w0, ew⟩ : ∃ w0, w.alloc (.cells #[.int .u8 p.h.to, .int .u16 p.h.id, .bool p.h.df, .int .u8 p.h.tt, .int .u8 p.h.pr, .int .u32 p.h.sr, .int .u32 p.h.ds, .slice a.AH a.nH a.cH, .int .u16 p.s.sp, .int .u16 p.s.dp, .int .u32 p.s.sq, .int .u32 p.s.ak, .int .u8 p.s.fl, .int .u16 p.s.wn, .int .u16 p.s.ug, .slice a.AO a.nO a.cO, .slice a.AD a.nD a.cD, .int .u16 p.u.sp, .int .u16 p.u.dp, .slice a.AU a.nU a.cU, .int .u8 p.m.ty, .int .u8 p.m.cd, .int .u32 p.m.rs, .slice a.AM a.nM a.cM] 35) = w0 := ⟨_, rfl⟩
  have hb0 : Below w.heap.size w w0 := by rw [← ew]; exact (Below.refl _ _).alloc (Nat.le_refl _) _
  have hk0 : w0.heap[z]? = some (.cells #[.int .u8 p.h.to, .int .u16 p.h.id, .bool p.h.df, .int .u8 p.h.tt, .int .u8 p.h.pr, .int .u32 p.h.sr, .int .u32 p.h.ds, .slice a.AH a.nH a.cH, .int .u16 p.s.sp, .int .u16 p.s.dp, .int .u32 p.s.sq, .int .u32 p.s.ak, .int .u8 p.s.fl, .int .u16 p.s.wn, .int .u16 p.s.ug, .slice a.AO a.nO a.cO, .slice a.AD a.nD a.cD, .int .u16 p.u.sp, .int .u16 p.u.dp, .slice a.AU a.nU a.cU, .int .u8 p.m.ty, .int .u8 p.m.cd, .int .u32 p.m.rs, .slice a.AM a.nM a.cM] 35 (0, 0)) := by rw [← ew, ← hz]; exact heap_alloc_new w _
  have HK := Lib.hid (show ∀ w', Below w0.heap.size w0 w' → w'.heap[z]? = some (.cells #[.int .u8 p.h.to, .int .u16 p.h.id, .bool p.h.df, .int .u8 p.h.tt, .int .u8 p.h.pr, .int .u32 p.h.sr, .int .u32 p.h.ds, .slice a.AH a.nH a.cH, .int .u16 p.s.sp, .int .u16 p.s.dp, .int .u32 p.s.sq, .int .u32 p.s.ak, .int .u8 p.s.fl, .int .u16 p.s.wn, .int .u16 p.s.ug, .slice a.AO a.nO a.cO, .slice a.AD a.nD a.cD, .int .u16 p.u.sp, .int .u16 p.u.dp, .slice a.AU a.nU a.cU, .int .u8 p.m.ty, .int .u8 p.m.cd, .int .u32 p.m.rs, .slice a.AM a.nM a.cM] 35 (0, 0)) ∧ PkRd w' p a from fun w' hb => ⟨blk_on hk0 hb, (hp.below hb0).below hb⟩)
  have Hb0 := Lib.hid hb0
  have Ew := Lib.hid ew
  have Hz := Lib.hid hz
  have HA := Lib.hid hk0
  have Hpay := Lib.hid (payloads_any p a w0)
  have Hkn := Lib.hid hkn
  have Hol := Lib.hid hp.hr.len
  clear hz ew hb0 hk0 hp hkn
  go_enter Try.func13, Try.ntmps13
  go_upto_region 1 with (fail)
  rw [Ew.out]
  try rw [Hz.out]
  obtain ⟨k0, k1, k2, k3, k4, k5, k6, k7, k8, k9, k10, k11, k12, k13, k14, k15, k16, k17, k18, k19, k20, k21, k22, k23⟩ := cells24 HA.out
  go_upto_region 2 with (fail)
  clear k0 k1 k2 k3 k4 k5 k6 k7 k8 k9 k10 k11 k12 k13 k14 k15 k16 k17 k18 k19 k20 k21 k22 k23
  repeat (first | (refine wp_load_row 35 (.tmp 1) rfl z _ _ _ _ HA.out rfl Try.underlying35 rfl (by kernel_rfl) ?_; simp only [Act.put, List.setIfInBounds_toArray, List.set_cons_zero, List.set_cons_succ]) | go_values | go_skip | go_guarded | go_step | go_upon | go_back)
  refine Hpay.out.mono ?_
  rintro e w1 ⟨g, q, r, b, rfl, hg, -, hb1⟩
  obtain ⟨f, ef⟩ : ∃ f, atP (payF6 q r b) (payF17 q r b) (payF1 b) p.h.pr = f := ⟨_, rfl⟩
  have hlook := look3_payload w1 g _ _ _ p.h.pr f true hg ef Hkn.out
  have Hb := Lib.hid hb1
  clear hb1 hg ef Hpay HA
  obtain ⟨k0, k1, k2, k3, k4, k5, k6, k7, k8, k9, k10, k11, k12, k13, k14, k15, k16, k17, k18, k19, k20, k21, k22, k23⟩ := cells24 (HK.out _ Hb.out).1
  go_upto_region 3 with (fail)
  clear hlook
  go_wp2_with fail
  refine (may_any p.h.to p.h.id p.h.tt p.h.pr p.h.sr p.h.ds p.h.df a.AH a.nH a.cH _).mono ?_
  rw [Hy.out]
  rintro e w2 ⟨rfl, hb2⟩
  have Hb := Lib.hid (below_trans Hb.out hb2)
  clear hb2
  clear k0 k1 k2 k3 k4 k5 k6 k7 k8 k9 k10 k11 k12 k13 k14 k15 k16 k17 k18 k19 k20 k21 k22 k23
  cases y with
  | false =>
    go_wp2_with fail
    go_ret
    exact ⟨ret_bool (by rw [← Hx.out]; simp), below_trans Hb0.out Hb.out⟩
  | true =>
    obtain ⟨k0, k1, k2, k3, k4, k5, k6, k7, k8, k9, k10, k11, k12, k13, k14, k15, k16, k17, k18, k19, k20, k21, k22, k23⟩ := cells24 (HK.out _ Hb.out).1
    go_wp2_with fail
    refine (same6_any p.s zeroSeg a.AO none a.nO a.cO 0 0 a.os [] a.AD none a.nD a.cD 0 0 _ Hn.out (HK.out _ Hb.out).2.sr (zero_rd _)).mono ?_
    rw [E1.out]
    rintro e w3 ⟨rfl, hb3⟩
    have Hb := Lib.hid (below_trans Hb.out hb3)
    clear hb3
    clear k0 k1 k2 k3 k4 k5 k6 k7 k8 k9 k10 k11 k12 k13 k14 k15 k16 k17 k18 k19 k20 k21 k22 k23
    cases y1 with
    | false =>
      go_wp2_with fail
      go_ret
      exact ⟨ret_bool (by rw [← Hx.out]; simp), below_trans Hb0.out Hb.out⟩
    | true =>
      obtain ⟨k0, k1, k2, k3, k4, k5, k6, k7, k8, k9, k10, k11, k12, k13, k14, k15, k16, k17, k18, k19, k20, k21, k22, k23⟩ := cells24 (HK.out _ Hb.out).1
      go_wp2_with fail
      refine (same8_any p.m zeroM a.AM a.nM a.cM none 0 0 _ y2 (HK.out _ Hb.out).2.mr (Rd.nil _ _) E2.out).mono ?_
      skip
      rintro e w4 ⟨rfl, hb4⟩
      have Hb := Lib.hid (below_trans Hb.out hb4)
      clear hb4
      clear k0 k1 k2 k3 k4 k5 k6 k7 k8 k9 k10 k11 k12 k13 k14 k15 k16 k17 k18 k19 k20 k21 k22 k23
      cases y2 with
      | false =>
        go_wp2_with fail
        go_ret
        exact ⟨ret_bool (by rw [← Hx.out]; simp), below_trans Hb0.out Hb.out⟩
      | true =>
        go_wp2_with fail
        go_ret
        exact ⟨ret_bool (by rw [← Hx.out]; simp), below_trans Hb0.out Hb.out⟩
set_option maxHeartbeats 2000000 in
theorem may9_1 (p : Pk) (a : PkA) (w : World) (x : Bool) (hp : PkRd w p a) (hn : a.nO ≤ 2000000) (hx : mayP p = x) (h6 : p.h.pr = 1) :
    Calls Try.prog 13 #[.agg #[.int .u8 p.h.to, .int .u16 p.h.id, .bool p.h.df, .int .u8 p.h.tt, .int .u8 p.h.pr, .int .u32 p.h.sr, .int .u32 p.h.ds, .slice a.AH a.nH a.cH, .int .u16 p.s.sp, .int .u16 p.s.dp, .int .u32 p.s.sq, .int .u32 p.s.ak, .int .u8 p.s.fl, .int .u16 p.s.wn, .int .u16 p.s.ug, .slice a.AO a.nO a.cO, .slice a.AD a.nD a.cD, .int .u16 p.u.sp, .int .u16 p.u.dp, .slice a.AU a.nU a.cU, .int .u8 p.m.ty, .int .u8 p.m.cd, .int .u32 p.m.rs, .slice a.AM a.nM a.cM]] w (BoolIs x w) := by
  have h6b : (p.h.pr == 6) = false := by rw [h6]; rfl
  have h17b : (p.h.pr == 17) = false := by rw [h6]; rfl
  have h1b : (p.h.pr == 1) = true := by rw [h6]; rfl
  have hkn : knownP p.h.pr = true := by rw [h6]; rfl
  rw [mayP_1 p h6] at hx
  obtain ⟨y, ey⟩ : ∃ y, mayB p.h.tt a.nH = y := ⟨_, rfl⟩
  obtain ⟨y1, ey1⟩ : ∃ y, segSame p.s zeroSeg = y := ⟨_, rfl⟩
  obtain ⟨y2, ey2⟩ : ∃ y, dgSame p.u zeroDg = y := ⟨_, rfl⟩
  rw [hp.hr.len, ey, ey1, ey2] at hx
  have Hx := Lib.hid hx
  have Hy := Lib.hid ey
  have E1 := Lib.hid ey1
  have E2 := Lib.hid ey2
  have Hn := Lib.hid hn
  clear hx ey ey1 ey2 h6 hn
  obtain ⟨z, hz⟩ : ∃ z, w.heap.size = z := ⟨_, rfl⟩
  obtain ⟨w0, ew⟩ : ∃ w0, w.alloc (.cells #[.int .u8 p.h.to, .int .u16 p.h.id, .bool p.h.df, .int .u8 p.h.tt, .int .u8 p.h.pr, .int .u32 p.h.sr, .int .u32 p.h.ds, .slice a.AH a.nH a.cH, .int .u16 p.s.sp, .int .u16 p.s.dp, .int .u32 p.s.sq, .int .u32 p.s.ak, .int .u8 p.s.fl, .int .u16 p.s.wn, .int .u16 p.s.ug, .slice a.AO a.nO a.cO, .slice a.AD a.nD a.cD, .int .u16 p.u.sp, .int .u16 p.u.dp, .slice a.AU a.nU a.cU, .int .u8 p.m.ty, .int .u8 p.m.cd, .int .u32 p.m.rs, .slice a.AM a.nM a.cM] 35) = w0 := ⟨_, rfl⟩
  have hb0 : Below w.heap.size w w0 := by rw [← ew]; exact (Below.refl _ _).alloc (Nat.le_refl _) _
  have hk0 : w0.heap[z]? = some (.cells #[.int .u8 p.h.to, .int .u16 p.h.id, .bool p.h.df, .int .u8 p.h.tt, .int .u8 p.h.pr, .int .u32 p.h.sr, .int .u32 p.h.ds, .slice a.AH a.nH a.cH, .int .u16 p.s.sp, .int .u16 p.s.dp, .int .u32 p.s.sq, .int .u32 p.s.ak, .int .u8 p.s.fl, .int .u16 p.s.wn, .int .u16 p.s.ug, .slice a.AO a.nO a.cO, .slice a.AD a.nD a.cD, .int .u16 p.u.sp, .int .u16 p.u.dp, .slice a.AU a.nU a.cU, .int .u8 p.m.ty, .int .u8 p.m.cd, .int .u32 p.m.rs, .slice a.AM a.nM a.cM] 35 (0, 0)) := by rw [← ew, ← hz]; exact heap_alloc_new w _
  have HK := Lib.hid (show ∀ w', Below w0.heap.size w0 w' → w'.heap[z]? = some (.cells #[.int .u8 p.h.to, .int .u16 p.h.id, .bool p.h.df, .int .u8 p.h.tt, .int .u8 p.h.pr, .int .u32 p.h.sr, .int .u32 p.h.ds, .slice a.AH a.nH a.cH, .int .u16 p.s.sp, .int .u16 p.s.dp, .int .u32 p.s.sq, .int .u32 p.s.ak, .int .u8 p.s.fl, .int .u16 p.s.wn, .int .u16 p.s.ug, .slice a.AO a.nO a.cO, .slice a.AD a.nD a.cD, .int .u16 p.u.sp, .int .u16 p.u.dp, .slice a.AU a.nU a.cU, .int .u8 p.m.ty, .int .u8 p.m.cd, .int .u32 p.m.rs, .slice a.AM a.nM a.cM] 35 (0, 0)) ∧ PkRd w' p a from fun w' hb => ⟨blk_on hk0 hb, (hp.below hb0).below hb⟩)
  have Hb0 := Lib.hid hb0
  have Ew := Lib.hid ew
  have Hz := Lib.hid hz
  have HA := Lib.hid hk0
  have Hpay := Lib.hid (payloads_any p a w0)
  have Hkn := Lib.hid hkn
  have Hol := Lib.hid hp.hr.len
  clear hz ew hb0 hk0 hp hkn
  go_enter Try.func13, Try.ntmps13
  go_upto_region 1 with (fail)
  rw [Ew.out]
  try rw [Hz.out]
  obtain ⟨k0, k1, k2, k3, k4, k5, k6, k7, k8, k9, k10, k11, k12, k13, k14, k15, k16, k17, k18, k19, k20, k21, k22, k23⟩ := cells24 HA.out
  go_upto_region 2 with (fail)
  clear k0 k1 k2 k3 k4 k5 k6 k7 k8 k9 k10 k11 k12 k13 k14 k15 k16 k17 k18 k19 k20 k21 k22 k23
  repeat (first | (refine wp_load_row 35 (.tmp 1) rfl z _ _ _ _ HA.out rfl Try.underlying35 rfl (by kernel_rfl) ?_; simp only [Act.put, List.setIfInBounds_toArray, List.set_cons_zero, List.set_cons_succ]) | go_values | go_skip | go_guarded | go_step | go_upon | go_back)
  refine Hpay.out.mono ?_
  rintro e w1 ⟨g, q, r, b, rfl, hg, -, hb1⟩
  obtain ⟨f, ef⟩ : ∃ f, atP (payF6 q r b) (payF17 q r b) (payF1 b) p.h.pr = f := ⟨_, rfl⟩
  have hlook := look3_payload w1 g _ _ _ p.h.pr f true hg ef Hkn.out
  have Hb := Lib.hid hb1
  clear hb1 hg ef Hpay HA
  obtain ⟨k0, k1, k2, k3, k4, k5, k6, k7, k8, k9, k10, k11, k12, k13, k14, k15, k16, k17, k18, k19, k20, k21, k22, k23⟩ := cells24 (HK.out _ Hb.out).1
  go_upto_region 3 with (fail)
  clear hlook
  go_wp2_with fail
  refine (may_any p.h.to p.h.id p.h.tt p.h.pr p.h.sr p.h.ds p.h.df a.AH a.nH a.cH _).mono ?_
  rw [Hy.out]
  rintro e w2 ⟨rfl, hb2⟩
  have Hb := Lib.hid (below_trans Hb.out hb2)
  clear hb2
  clear k0 k1 k2 k3 k4 k5 k6 k7 k8 k9 k10 k11 k12 k13 k14 k15 k16 k17 k18 k19 k20 k21 k22 k23
  cases y with
  | false =>
    go_wp2_with fail
    go_ret
    exact ⟨ret_bool (by rw [← Hx.out]; simp), below_trans Hb0.out Hb.out⟩
  | true =>
    obtain ⟨k0, k1, k2, k3, k4, k5, k6, k7, k8, k9, k10, k11, k12, k13, k14, k15, k16, k17, k18, k19, k20, k21, k22, k23⟩ := cells24 (HK.out _ Hb.out).1
    go_wp2_with fail
    refine (same6_any p.s zeroSeg a.AO none a.nO a.cO 0 0 a.os [] a.AD none a.nD a.cD 0 0 _ Hn.out (HK.out _ Hb.out).2.sr (zero_rd _)).mono ?_
    rw [E1.out]
    rintro e w3 ⟨rfl, hb3⟩
    have Hb := Lib.hid (below_trans Hb.out hb3)
    clear hb3
    clear k0 k1 k2 k3 k4 k5 k6 k7 k8 k9 k10 k11 k12 k13 k14 k15 k16 k17 k18 k19 k20 k21 k22 k23
    cases y1 with
    | false =>
      go_wp2_with fail
      go_ret
      exact ⟨ret_bool (by rw [← Hx.out]; simp), below_trans Hb0.out Hb.out⟩
    | true =>
      obtain ⟨k0, k1, k2, k3, k4, k5, k6, k7, k8, k9, k10, k11, k12, k13, k14, k15, k16, k17, k18, k19, k20, k21, k22, k23⟩ := cells24 (HK.out _ Hb.out).1
      go_wp2_with fail
      refine (usame_any p.u zeroDg a.AU a.nU a.cU none 0 0 _ y2 (HK.out _ Hb.out).2.ur (Rd.nil _ _) E2.out).mono ?_
      skip
      rintro e w4 ⟨rfl, hb4⟩
      have Hb := Lib.hid (below_trans Hb.out hb4)
      clear hb4
      clear k0 k1 k2 k3 k4 k5 k6 k7 k8 k9 k10 k11 k12 k13 k14 k15 k16 k17 k18 k19 k20 k21 k22 k23
      cases y2 with
      | false =>
        go_wp2_with fail
        go_ret
        exact ⟨ret_bool (by rw [← Hx.out]; simp), below_trans Hb0.out Hb.out⟩
      | true =>
        go_wp2_with fail
        go_ret
        exact ⟨ret_bool (by rw [← Hx.out]; simp), below_trans Hb0.out Hb.out⟩
theorem may9_no (p : Pk) (a : PkA) (w : World) (hp : PkRd w p a) (h6 : p.h.pr ≠ 6) (h17 : p.h.pr ≠ 17) (h1 : p.h.pr ≠ 1) :
    Calls Try.prog 13 #[.agg #[.int .u8 p.h.to, .int .u16 p.h.id, .bool p.h.df, .int .u8 p.h.tt, .int .u8 p.h.pr, .int .u32 p.h.sr, .int .u32 p.h.ds, .slice a.AH a.nH a.cH, .int .u16 p.s.sp, .int .u16 p.s.dp, .int .u32 p.s.sq, .int .u32 p.s.ak, .int .u8 p.s.fl, .int .u16 p.s.wn, .int .u16 p.s.ug, .slice a.AO a.nO a.cO, .slice a.AD a.nD a.cD, .int .u16 p.u.sp, .int .u16 p.u.dp, .slice a.AU a.nU a.cU, .int .u8 p.m.ty, .int .u8 p.m.cd, .int .u32 p.m.rs, .slice a.AM a.nM a.cM]] w (BoolIs false w) := by
  have h6b : (p.h.pr == 6) = false := by simpa using h6
  have h17b : (p.h.pr == 17) = false := by simpa using h17
  have h1b : (p.h.pr == 1) = false := by simpa using h1
  have hkn : knownP p.h.pr = false := by simp [knownP, h6, h17, h1]
  clear h6 h17 h1
  obtain ⟨z, hz⟩ : ∃ z, w.heap.size = z := ⟨_, rfl⟩
  obtain ⟨w0, ew⟩ : ∃ w0, w.alloc (.cells #[.int .u8 p.h.to, .int .u16 p.h.id, .bool p.h.df, .int .u8 p.h.tt, .int .u8 p.h.pr, .int .u32 p.h.sr, .int .u32 p.h.ds, .slice a.AH a.nH a.cH, .int .u16 p.s.sp, .int .u16 p.s.dp, .int .u32 p.s.sq, .int .u32 p.s.ak, .int .u8 p.s.fl, .int .u16 p.s.wn, .int .u16 p.s.ug, .slice a.AO a.nO a.cO, .slice a.AD a.nD a.cD, .int .u16 p.u.sp, .int .u16 p.u.dp, .slice a.AU a.nU a.cU, .int .u8 p.m.ty, .int .u8 p.m.cd, .int .u32 p.m.rs, .slice a.AM a.nM a.cM] 35) = w0 := ⟨_, rfl⟩
  have hb0 : Below w.heap.size w w0 := by rw [← ew]; exact (Below.refl _ _).alloc (Nat.le_refl _) _
  have hk0 : w0.heap[z]? = some (.cells #[.int .u8 p.h.to, .int .u16 p.h.id, .bool p.h.df, .int .u8 p.h.tt, .int .u8 p.h.pr, .int .u32 p.h.sr, .int .u32 p.h.ds, .slice a.AH a.nH a.cH, .int .u16 p.s.sp, .int .u16 p.s.dp, .int .u32 p.s.sq, .int .u32 p.s.ak, .int .u8 p.s.fl, .int .u16 p.s.wn, .int .u16 p.s.ug, .slice a.AO a.nO a.cO, .slice a.AD a.nD a.cD, .int .u16 p.u.sp, .int .u16 p.u.dp, .slice a.AU a.nU a.cU, .int .u8 p.m.ty, .int .u8 p.m.cd, .int .u32 p.m.rs, .slice a.AM a.nM a.cM] 35 (0, 0)) := by rw [← ew, ← hz]; exact heap_alloc_new w _
  have HK := Lib.hid (show ∀ w', Below w0.heap.size w0 w' → w'.heap[z]? = some (.cells #[.int .u8 p.h.to, .int .u16 p.h.id, .bool p.h.df, .int .u8 p.h.tt, .int .u8 p.h.pr, .int .u32 p.h.sr, .int .u32 p.h.ds, .slice a.AH a.nH a.cH, .int .u16 p.s.sp, .int .u16 p.s.dp, .int .u32 p.s.sq, .int .u32 p.s.ak, .int .u8 p.s.fl, .int .u16 p.s.wn, .int .u16 p.s.ug, .slice a.AO a.nO a.cO, .slice a.AD a.nD a.cD, .int .u16 p.u.sp, .int .u16 p.u.dp, .slice a.AU a.nU a.cU, .int .u8 p.m.ty, .int .u8 p.m.cd, .int .u32 p.m.rs, .slice a.AM a.nM a.cM] 35 (0, 0)) ∧ PkRd w' p a from fun w' hb => ⟨blk_on hk0 hb, (hp.below hb0).below hb⟩)
  have Hb0 := Lib.hid hb0
  have Ew := Lib.hid ew
  have Hz := Lib.hid hz
  have HA := Lib.hid hk0
  have Hpay := Lib.hid (payloads_any p a w0)
  have Hkn := Lib.hid hkn
  have Hol := Lib.hid hp.hr.len
  clear hz ew hb0 hk0 hp hkn
  go_enter Try.func13, Try.ntmps13
  go_upto_region 1 with (fail)
  rw [Ew.out]
  try rw [Hz.out]
  obtain ⟨k0, k1, k2, k3, k4, k5, k6, k7, k8, k9, k10, k11, k12, k13, k14, k15, k16, k17, k18, k19, k20, k21, k22, k23⟩ := cells24 HA.out
  go_upto_region 2 with (fail)
  clear k0 k1 k2 k3 k4 k5 k6 k7 k8 k9 k10 k11 k12 k13 k14 k15 k16 k17 k18 k19 k20 k21 k22 k23
  repeat (first | (refine wp_load_row 35 (.tmp 1) rfl z _ _ _ _ HA.out rfl Try.underlying35 rfl (by kernel_rfl) ?_; simp only [Act.put, List.setIfInBounds_toArray, List.set_cons_zero, List.set_cons_succ]) | go_values | go_skip | go_guarded | go_step | go_upon | go_back)
  refine Hpay.out.mono ?_
  rintro e w1 ⟨g, q, r, b, rfl, hg, -, hb1⟩
  obtain ⟨f, ef⟩ : ∃ f, atP (payF6 q r b) (payF17 q r b) (payF1 b) p.h.pr = f := ⟨_, rfl⟩
  have hlook := look3_payload w1 g _ _ _ p.h.pr f false hg ef Hkn.out
  have Hb := Lib.hid hb1
  clear hb1 hg ef Hpay HA
  go_wp2_with fail
  go_ret
  exact ⟨rfl, below_trans Hb0.out Hb.out⟩
theorem may9_any (p : Pk) (a : PkA) (w : World) (x : Bool) (hp : PkRd w p a) (hn : a.nO ≤ 2000000) (hx : mayP p = x) :
    Calls Try.prog 13 #[.agg #[.int .u8 p.h.to, .int .u16 p.h.id, .bool p.h.df, .int .u8 p.h.tt, .int .u8 p.h.pr, .int .u32 p.h.sr, .int .u32 p.h.ds, .slice a.AH a.nH a.cH, .int .u16 p.s.sp, .int .u16 p.s.dp, .int .u32 p.s.sq, .int .u32 p.s.ak, .int .u8 p.s.fl, .int .u16 p.s.wn, .int .u16 p.s.ug, .slice a.AO a.nO a.cO, .slice a.AD a.nD a.cD, .int .u16 p.u.sp, .int .u16 p.u.dp, .slice a.AU a.nU a.cU, .int .u8 p.m.ty, .int .u8 p.m.cd, .int .u32 p.m.rs, .slice a.AM a.nM a.cM]] w (BoolIs x w) := by
  by_cases h6 : p.h.pr = 6
  · exact may9_6 p a w x hp hn hx h6
  by_cases h17 : p.h.pr = 17
  · exact may9_17 p a w x hp hn hx h17
  by_cases h1 : p.h.pr = 1
  · exact may9_1 p a w x hp hn hx h1
  rw [show x = false by rw [← hx, mayP_no p h6 h17 h1]]
  exact may9_no p a w hp h6 h17 h1
end Go.Proofs.Ytkooehejdfaekaa
