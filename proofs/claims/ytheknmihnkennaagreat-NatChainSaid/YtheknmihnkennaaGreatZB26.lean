/-
  Texts laid together: PkRead, PkSame.
-/
import Derived.Test.YtheknmihnkennaaGreatZB01
import Derived.Test.YtheknmihnkennaaGreatZB24
import Derived.Test.YtheknmihnkennaaGreatZB25
import Derived.Test.YtheknmihnkennaaGreatZB19
import Derived.Test.YtheknmihnkennaaGreatZB23
import Derived.Test.YtheknmihnkennaaGreatZB21
import Derived.Test.YtheknmihnkennaaGreatZB14

/-
  Package packet's readings: a map of closures that read a Proto's part out of a payload into a packet; what each does.
-/
namespace Go.Proofs.YtheknmihnkennaaGreat
set_option maxRecDepth 10000
open Go.RowKit
set_option linter.unusedSimpArgs false
set_option linter.unusedVariables false

def readF6 (q r y x : Nat) : Value := .func (.func 40) #[] #[.pointer (some ⟨q, 0, none⟩), .pointer (some ⟨r, 0, none⟩), .pointer (some ⟨y, 0, none⟩), .pointer (some ⟨x, 0, none⟩)]
def readF17 (q r y x : Nat) : Value := .func (.func 42) #[] #[.pointer (some ⟨q, 0, none⟩), .pointer (some ⟨r, 0, none⟩), .pointer (some ⟨y, 0, none⟩), .pointer (some ⟨x, 0, none⟩)]
def readF1 (y x : Nat) : Value := .func (.func 44) #[] #[.pointer (some ⟨y, 0, none⟩), .pointer (some ⟨x, 0, none⟩)]
/-- Where readings' closures find what they took. -/
structure ReadAt (b : Nat) (sr ds : Int) (A : Option Addr) (n c q r y x B : Nat) (w : World) : Prop where
  src : Box w q 24 (.int .u32 sr)
  dst : Box w r 24 (.int .u32 ds)
  row : Box w y 22 (.slice A n c)
  ptr : Box w x 60 (.pointer (some ⟨b, 0, none⟩))
  at_ : B ≤ q ∧ B ≤ r ∧ B ≤ y ∧ B ≤ x
theorem ReadAt.on {b : Nat} {sr ds : Int} {A : Option Addr} {n c q r y x B : Nat} {w w' : World} (h : ReadAt b sr ds A n c q r y x B w) (hb : Below w.heap.size w w') : ReadAt b sr ds A n c q r y x B w' :=
  ⟨blk_on h.src hb, blk_on h.dst hb, blk_on h.row hb, blk_on h.ptr hb, h.at_⟩
def ReadsIs (b : Nat) (sr ds : Int) (A : Option Addr) (n c : Nat) (w : World) (e : Ending) (w' : World) : Prop :=
  ∃ g q r y x, e = .returned (.map (some g)) ∧ w'.heap[g]? = some (threeO (readF6 q r y x) (readF17 q r y x) (readF1 y x)) ∧ ReadAt b sr ds A n c q r y x w.heap.size w' ∧ Below w.heap.size w w'
set_option maxHeartbeats 2000000 in
theorem readings_any (b : Nat) (sr ds : Int) (A : Option Addr) (n c : Nat) (w : World) (hbs : b < w.heap.size) (h5 : w.cell? ⟨b, 5, none⟩ = some (.int .u32 sr)) (h6 : w.cell? ⟨b, 6, none⟩ = some (.int .u32 ds)) :
    Calls Tryz.prog 16 #[.pointer (some ⟨b, 0, none⟩), .slice A n c] w (ReadsIs b sr ds A n c w) := by
  have hmf : ∀ (fn : Fn) (first cap : Array Value) (w : World), (Instr.makeFunc fn first cap).run Tryz.prog w = .ok (.func fn first cap) w := fun _ _ _ _ => rfl
  obtain ⟨z, hz⟩ : ∃ z, w.heap.size = z := ⟨_, rfl⟩
  obtain ⟨w0, ew⟩ : ∃ w0, (w.alloc (.cells #[.pointer (some ⟨b, 0, none⟩)] 60)).alloc (.cells #[.slice A n c] 22) = w0 := ⟨_, rfl⟩
  have hb0 : Below w.heap.size w w0 := by rw [← ew]; exact ((Below.refl _ _).alloc (Nat.le_refl _) _).alloc (by simp) _
  have hk0 : Box w0 z 60 (.pointer (some ⟨b, 0, none⟩)) := by unfold Box; rw [← ew, Below.heap_alloc _ _ _ (by simp [hz]), ← hz]; exact heap_alloc_new w _
  have hk1 : Box w0 (z + 1) 22 (.slice A n c) := by
    unfold Box
    rw [← ew, ← hz]; simpa using heap_alloc_new (w.alloc (.cells #[.pointer (some ⟨b, 0, none⟩)] 60)) (.cells #[.slice A n c] 22)
  have hs0 : w0.heap.size = z + 2 := by rw [← ew, ← hz]; simp
  have Hs0 := Lib.hid hs0
  have HS := Lib.hid (show ∀ w', Below w0.heap.size w0 w' → w'.cell? ⟨z, 0, none⟩ = some (.pointer (some ⟨b, 0, none⟩)) ∧ w'.cell? ⟨b, 5, none⟩ = some (.int .u32 sr) ∧ w'.cell? ⟨b, 6, none⟩ = some (.int .u32 ds) from
    fun w' hb => ⟨(show Box w' z _ _ from blk_on hk0 hb).cell, ((hb0.trans (hb.mono hb0.size)).cell (p := ⟨b, 5, none⟩) hbs).trans h5, ((hb0.trans (hb.mono hb0.size)).cell (p := ⟨b, 6, none⟩) hbs).trans h6⟩)
  have Hb0 := Lib.hid hb0
  have Ew := Lib.hid ew
  have Hz := Lib.hid hz
  have HK0 := Lib.hid hk0
  have HK1 := Lib.hid hk1
  clear hz ew hb0 hk0 hk1 h5 h6 hs0
  go_enter Tryz.func16, Tryz.ntmps16
  go_upto_region 1 with (fail)
  rw [Ew.out]
  try rw [Hz.out]
  go_cut [5, 6] (fun s5 s6 wx => ∃ (q r : Nat), s5 = .pointer (some ⟨q, 0, none⟩) ∧ s6 = .pointer (some ⟨r, 0, none⟩) ∧ Hid (ReadAt b sr ds A n c q r (z + 1) z w.heap.size wx) ∧ Hid (Below w.heap.size w wx))
  case first =>
    go_region_held3 (fun w' => w'.cell? ⟨z, 0, none⟩ = some (.pointer (some ⟨b, 0, none⟩)) ∧ w'.cell? ⟨b, 5, none⟩ = some (.int .u32 sr) ∧ w'.cell? ⟨b, 6, none⟩ = some (.int .u32 ds)) (exact HS.out _ (by repeat (first | exact Below.refl _ _ | refine Below.drew ?_ | (refine Below.alloc ?_ (by simp) _) | (refine Below.setCell ?_ (by simp) _)))) (fail)
    · go_wp2_with fail
      obtain ⟨h1, h2, h3⟩ := box_two w0 (.int .u32 sr) (.int .u32 ds) 24
      have hs := below_trans Hb0.out h3
      have hsz := Hb0.out.size
      have hz := Hz.out
      have hs0 := Hs0.out
      go_meet
      exact ⟨_, _, rfl, rfl, Lib.hid ⟨h1, h2, blk_on HK1.out h3, blk_on HK0.out h3, ⟨by omega, by omega, by omega, by omega⟩⟩, Lib.hid hs⟩
    · go_wp2_with fail
      obtain ⟨h1, h2, h3⟩ := box_two w0 (.int .u32 ds) (.int .u32 sr) 24
      have hs := below_trans Hb0.out h3
      have hsz := Hb0.out.size
      have hz := Hz.out
      have hs0 := Hs0.out
      go_meet
      exact ⟨_, _, rfl, rfl, Lib.hid ⟨h2, h1, blk_on HK1.out h3, blk_on HK0.out h3, ⟨by omega, by omega, by omega, by omega⟩⟩, Lib.hid hs⟩
  case rest =>
    obtain ⟨q, r, rfl, rfl, HP, HB⟩ := hcut
    clear HK0 HK1 Hb0 Ew HS
    obtain ⟨w2, e2⟩ : ∃ v, wc.alloc (.map #[] 0) = v := ⟨_, rfl⟩
    have k2 : w2.heap[wc.heap.size]? = some (.map #[] 0) := by rw [← e2]; exact heap_alloc_new wc _
    have b2 : Below wc.heap.size wc w2 := by rw [← e2]; exact (Below.refl _ _).alloc (Nat.le_refl _) _
    obtain ⟨w3, w4, w5, r1, r2, r3, hg, hb⟩ := runs_reading (readF6 q r (z + 1) z) (readF17 q r (z + 1) z) (readF1 (z + 1) z) b2 (Nat.le_refl _) k2
    have hmk := run_makeMap_plain (P := Tryz.prog) wc 58
    rw [e2] at hmk
    have Hg := Lib.hid hg
    have Hb := Lib.hid hb
    clear k2 b2 hg hb e2
    unfold readF6 at r1
    unfold readF17 at r2
    unfold readF1 at r3
    go_wp2_with fail
    go_ret
    exact ⟨_, q, r, z + 1, z, rfl, Hg.out, HP.out.on Hb.out, HB.out.trans (Hb.out.mono HB.out.size)⟩
theorem set9_24u (w : World) (b : Nat) (u0 u1 u2 u3 u4 u5 u6 u7 u8 : Value) : But (fun k => k = b) w (((((((((w.setCell ⟨b, 8, none⟩ u0).setCell ⟨b, 9, none⟩ u1).setCell ⟨b, 10, none⟩ u2).setCell ⟨b, 11, none⟩ u3).setCell ⟨b, 12, none⟩ u4).setCell ⟨b, 13, none⟩ u5).setCell ⟨b, 14, none⟩ u6).setCell ⟨b, 15, none⟩ u7).setCell ⟨b, 16, none⟩ u8) :=
  (((((((((But.refl (fun k => k = b) w).setCell (p := ⟨b, 8, none⟩) rfl _).setCell (p := ⟨b, 9, none⟩) rfl _).setCell (p := ⟨b, 10, none⟩) rfl _).setCell (p := ⟨b, 11, none⟩) rfl _).setCell (p := ⟨b, 12, none⟩) rfl _).setCell (p := ⟨b, 13, none⟩) rfl _).setCell (p := ⟨b, 14, none⟩) rfl _).setCell (p := ⟨b, 15, none⟩) rfl _).setCell (p := ⟨b, 16, none⟩) rfl _
theorem set3_24u (w : World) (b : Nat) (u0 u1 u2 : Value) : But (fun k => k = b) w (((w.setCell ⟨b, 17, none⟩ u0).setCell ⟨b, 18, none⟩ u1).setCell ⟨b, 19, none⟩ u2) :=
  (((But.refl (fun k => k = b) w).setCell (p := ⟨b, 17, none⟩) rfl _).setCell (p := ⟨b, 18, none⟩) rfl _).setCell (p := ⟨b, 19, none⟩) rfl _
theorem set4_24u (w : World) (b : Nat) (u0 u1 u2 u3 : Value) : But (fun k => k = b) w ((((w.setCell ⟨b, 20, none⟩ u0).setCell ⟨b, 21, none⟩ u1).setCell ⟨b, 22, none⟩ u2).setCell ⟨b, 23, none⟩ u3) :=
  ((((But.refl (fun k => k = b) w).setCell (p := ⟨b, 20, none⟩) rfl _).setCell (p := ⟨b, 21, none⟩) rfl _).setCell (p := ⟨b, 22, none⟩) rfl _).setCell (p := ⟨b, 23, none⟩) rfl _
theorem ReadAt.but {b : Nat} {sr ds : Int} {A : Option Addr} {n c q r y x B : Nat} {w w' : World} (h : ReadAt b sr ds A n c q r y x B w) (hb : But (fun k => k = b) w w') (hB : b < B) : ReadAt b sr ds A n c q r y x B w' := by
  have := h.at_
  exact ⟨hb.blk h.src (by omega), hb.blk h.dst (by omega), hb.blk h.row (by omega), hb.blk h.ptr (by omega), h.at_⟩
theorem ReadAt.cells {b : Nat} {sr ds : Int} {A : Option Addr} {n c q r y x B : Nat} {w : World} (h : ReadAt b sr ds A n c q r y x B w) : w.cell? ⟨x, 0, none⟩ = some (.pointer (some ⟨b, 0, none⟩)) ∧ w.cell? ⟨q, 0, none⟩ = some (.int .u32 sr) ∧ w.cell? ⟨r, 0, none⟩ = some (.int .u32 ds) ∧ w.cell? ⟨y, 0, none⟩ = some (.slice A n c) :=
  ⟨h.ptr.cell, h.src.cell, h.dst.cell, h.row.cell⟩

/-- A reading has failed; a segment has been read. -/
def ReadBad (b : Nat) (x : Int) (w : World) (e : Ending) (w' : World) : Prop := e = .returned (.int .i64 x) ∧ But (fun k => k = b) w w'
set_option maxHeartbeats 2000000 in
theorem read_bad_6 (b : Nat) (sr ds : Int) (A : Option Addr) (n c q r y x B : Nat) (w : World) (l : List Int) (k : Int) (v0 v1 v2 v3 v4 v5 v6 v7 v8 v9 v10 v11 v12 v13 v14 v15 v16 v17 v18 v19 v20 v21 v22 v23 : Value) (hk : w.heap[b]? = some (.cells #[v0, v1, v2, v3, v4, v5, v6, v7, v8, v9, v10, v11, v12, v13, v14, v15, v16, v17, v18, v19, v20, v21, v22, v23] 35 (0, 0))) (h : ReadAt b sr ds A n c q r y x B w) (hap : b < B)
    (hc : n ≤ c ∧ c ≤ maxLen) (hA : Rd w A n l) (hx : errSeg sr ds l = k) (h0 : k ≠ 0) :
    Calls Tryz.prog 40 #[.pointer (some ⟨q, 0, none⟩), .pointer (some ⟨r, 0, none⟩), .pointer (some ⟨y, 0, none⟩), .pointer (some ⟨x, 0, none⟩)] w (ReadBad b k w) := by
  have Hx := Lib.hid hx
  have H0 := Lib.hid h0
  clear hx h0
  have HR := Lib.hid h
  have HK := Lib.hid hk
  have HA := Lib.hid hA
  have Hc := Lib.hid hc
  have Hbl := Lib.hid (lt_of_block hk)
  have Hap := Lib.hid hap
  clear h hk hA hc hap
  go_enter Tryz.func40, Tryz.ntmps40
  go_upto_region 1 with (fail)
  have HBd := Lib.hid (Below.drew (Below.refl w.heap.size w))
  refine wp_region_held_drew (S := fun w' => (w'.cell? ⟨x, 0, none⟩ = some (.pointer (some ⟨b, 0, none⟩)) ∧ w'.cell? ⟨q, 0, none⟩ = some (.int .u32 sr) ∧ w'.cell? ⟨r, 0, none⟩ = some (.int .u32 ds) ∧ w'.cell? ⟨y, 0, none⟩ = some (.slice A n c))) (by kernel_rfl) (HR.out.on HBd.out).cells (fun hHeld => ?_)
  obtain ⟨wd, ewd⟩ : ∃ wd, w.drew = wd := ⟨_, rfl⟩
  rw [ewd] at HBd hHeld ⊢
  clear ewd
  refine tk 0 ?_ rfl ?_ ?_
  rotate_left
  · intro w' hSw; (go_simp <;> (with_reducible rfl))
  try simp only [Act.put, putL]
  refine tk 1 ?_ rfl ?_ ?_
  rotate_left
  · intro w' hSw; (go_simp <;> (with_reducible rfl))
  try simp only [Act.put, putL]
  refine tk 2 ?_ rfl ?_ ?_
  rotate_left
  · intro w' hSw; (go_simp <;> (with_reducible rfl))
  try simp only [Act.put, putL]
  refine tk 3 ?_ rfl ?_ ?_
  rotate_left
  · intro w' hSw; (go_simp <;> (with_reducible rfl))
  try simp only [Act.put, putL]
  refine tkC 4 rfl (fun K hK => ?_)
  go_simp
  (refine (tparse_err sr ds A n c l k _ Hc.out (HA.out.below HBd.out) Hx.out H0.out).mono ?_; (rintro e w1 ⟨rfl, hb1⟩); have HB1 := Lib.hid (below_trans HBd.out hb1); have Hb1 := Lib.hid hb1; clear hb1)
  refine hK.out _ _ ?_ (fun hHeld => ?_)
  · exact (HR.out.on HB1.out).cells
  clear hK K
  try simp only [Act.put, putL]
  refine tk 5 ?_ rfl ?_ ?_
  rotate_left
  · intro w' hSw; (go_simp <;> (with_reducible rfl))
  try simp only [Act.put, putL]
  refine tk 6 ?_ rfl ?_ ?_
  rotate_left
  · intro w' hSw; (go_simp <;> (with_reducible rfl))
  try simp only [Act.put, putL]
  refine tk 7 ?_ rfl ?_ ?_
  rotate_left
  · intro w' hSw; (go_simp <;> (with_reducible rfl))
  try simp only [Act.put, putL]
  refine tk 8 ?_ rfl ?_ ?_
  rotate_left
  · intro w' hSw; (go_simp <;> (with_reducible rfl))
  try simp only [Act.put, putL]
  refine tk 9 ?_ rfl ?_ ?_
  rotate_left
  · intro w' hSw; (go_simp <;> (with_reducible rfl))
  try simp only [Act.put, putL]
  have hk1 := blk_on HK.out HB1.out
  obtain ⟨k0, k1, k2, k3, k4, k5, k6, k7, k8, k9, k10, k11, k12, k13, k14, k15, k16, k17, k18, k19, k20, k21, k22, k23⟩ := cells24 hk1
  have kf := fun i => late_free hk1 i
  have HS1 := Lib.hid (fun u0 u1 u2 u3 u4 u5 u6 u7 u8 => set9_24u w1 b u0 u1 u2 u3 u4 u5 u6 u7 u8)
  refine tkC 10 rfl (fun K hK => ?_)
  go_simp
  skip
  refine hK.out _ _ ?_ (fun hHeld => ?_)
  · exact ((HR.out.on HB1.out).but (HS1.out (.int .u16 0) (.int .u16 0) (.int .u32 0) (.int .u32 0) (.int .u8 0) (.int .u16 0) (.int .u16 0) (.slice none 0 0) (.slice none 0 0)) Hap.out).cells
  clear hK K
  try simp only [Act.put, putL]
  clear k0 k1 k2 k3 k4 k5 k6 k7 k8 k9 k10 k11 k12 k13 k14 k15 k16 k17 k18 k19 k20 k21 k22 k23
  clear kf
  refine tk 11 ?_ rfl ?_ ?_
  rotate_left
  · intro w' hSw; (go_simp <;> (with_reducible rfl))
  try simp only [Act.put, putL]
  refine wpAnyH_done (by kernel_rfl) ?_ _
  clear hHeld
  go_wp2_with fail
  go_ret
  exact ⟨rfl, (But.of HB1.out).trans (HS1.out (.int .u16 0) (.int .u16 0) (.int .u32 0) (.int .u32 0) (.int .u8 0) (.int .u16 0) (.int .u16 0) (.slice none 0 0) (.slice none 0 0))⟩
set_option maxHeartbeats 2000000 in
theorem read_bad_17 (b : Nat) (sr ds : Int) (A : Option Addr) (n c q r y x B : Nat) (w : World) (l : List Int) (k : Int) (v0 v1 v2 v3 v4 v5 v6 v7 v8 v9 v10 v11 v12 v13 v14 v15 v16 v17 v18 v19 v20 v21 v22 v23 : Value) (hk : w.heap[b]? = some (.cells #[v0, v1, v2, v3, v4, v5, v6, v7, v8, v9, v10, v11, v12, v13, v14, v15, v16, v17, v18, v19, v20, v21, v22, v23] 35 (0, 0))) (h : ReadAt b sr ds A n c q r y x B w) (hap : b < B)
    (hc : n ≤ c ∧ c ≤ maxLen) (hA : Rd w A n l) (hx : errU sr ds l = k) (h0 : k ≠ 0) :
    Calls Tryz.prog 42 #[.pointer (some ⟨q, 0, none⟩), .pointer (some ⟨r, 0, none⟩), .pointer (some ⟨y, 0, none⟩), .pointer (some ⟨x, 0, none⟩)] w (ReadBad b k w) := by
  have Hx := Lib.hid hx
  have H0 := Lib.hid h0
  clear hx h0
  have HR := Lib.hid h
  have HK := Lib.hid hk
  have HA := Lib.hid hA
  have Hc := Lib.hid hc
  have Hbl := Lib.hid (lt_of_block hk)
  have Hap := Lib.hid hap
  clear h hk hA hc hap
  go_enter Tryz.func42, Tryz.ntmps42
  go_upto_region 1 with (fail)
  have HBd := Lib.hid (Below.drew (Below.refl w.heap.size w))
  refine wp_region_held_drew (S := fun w' => (w'.cell? ⟨x, 0, none⟩ = some (.pointer (some ⟨b, 0, none⟩)) ∧ w'.cell? ⟨q, 0, none⟩ = some (.int .u32 sr) ∧ w'.cell? ⟨r, 0, none⟩ = some (.int .u32 ds) ∧ w'.cell? ⟨y, 0, none⟩ = some (.slice A n c))) (by kernel_rfl) (HR.out.on HBd.out).cells (fun hHeld => ?_)
  obtain ⟨wd, ewd⟩ : ∃ wd, w.drew = wd := ⟨_, rfl⟩
  rw [ewd] at HBd hHeld ⊢
  clear ewd
  refine tk 0 ?_ rfl ?_ ?_
  rotate_left
  · intro w' hSw; (go_simp <;> (with_reducible rfl))
  try simp only [Act.put, putL]
  refine tk 1 ?_ rfl ?_ ?_
  rotate_left
  · intro w' hSw; (go_simp <;> (with_reducible rfl))
  try simp only [Act.put, putL]
  refine tk 2 ?_ rfl ?_ ?_
  rotate_left
  · intro w' hSw; (go_simp <;> (with_reducible rfl))
  try simp only [Act.put, putL]
  refine tk 3 ?_ rfl ?_ ?_
  rotate_left
  · intro w' hSw; (go_simp <;> (with_reducible rfl))
  try simp only [Act.put, putL]
  refine tkC 4 rfl (fun K hK => ?_)
  go_simp
  (refine (uparse_err sr ds A n c l k _ Hc.out (HA.out.below HBd.out) Hx.out H0.out).mono ?_; (rintro e w1 ⟨rfl, hb1⟩); have HB1 := Lib.hid (below_trans HBd.out hb1); have Hb1 := Lib.hid hb1; clear hb1)
  refine hK.out _ _ ?_ (fun hHeld => ?_)
  · exact (HR.out.on HB1.out).cells
  clear hK K
  try simp only [Act.put, putL]
  refine tk 5 ?_ rfl ?_ ?_
  rotate_left
  · intro w' hSw; (go_simp <;> (with_reducible rfl))
  try simp only [Act.put, putL]
  refine tk 6 ?_ rfl ?_ ?_
  rotate_left
  · intro w' hSw; (go_simp <;> (with_reducible rfl))
  try simp only [Act.put, putL]
  refine tk 7 ?_ rfl ?_ ?_
  rotate_left
  · intro w' hSw; (go_simp <;> (with_reducible rfl))
  try simp only [Act.put, putL]
  refine tk 8 ?_ rfl ?_ ?_
  rotate_left
  · intro w' hSw; (go_simp <;> (with_reducible rfl))
  try simp only [Act.put, putL]
  refine tk 9 ?_ rfl ?_ ?_
  rotate_left
  · intro w' hSw; (go_simp <;> (with_reducible rfl))
  try simp only [Act.put, putL]
  have hk1 := blk_on HK.out HB1.out
  obtain ⟨k0, k1, k2, k3, k4, k5, k6, k7, k8, k9, k10, k11, k12, k13, k14, k15, k16, k17, k18, k19, k20, k21, k22, k23⟩ := cells24 hk1
  have kf := fun i => late_free hk1 i
  have HS1 := Lib.hid (fun u0 u1 u2 => set3_24u w1 b u0 u1 u2)
  refine tkC 10 rfl (fun K hK => ?_)
  go_simp
  skip
  refine hK.out _ _ ?_ (fun hHeld => ?_)
  · exact ((HR.out.on HB1.out).but (HS1.out (.int .u16 0) (.int .u16 0) (.slice none 0 0)) Hap.out).cells
  clear hK K
  try simp only [Act.put, putL]
  clear k0 k1 k2 k3 k4 k5 k6 k7 k8 k9 k10 k11 k12 k13 k14 k15 k16 k17 k18 k19 k20 k21 k22 k23
  clear kf
  refine tk 11 ?_ rfl ?_ ?_
  rotate_left
  · intro w' hSw; (go_simp <;> (with_reducible rfl))
  try simp only [Act.put, putL]
  refine wpAnyH_done (by kernel_rfl) ?_ _
  clear hHeld
  go_wp2_with fail
  go_ret
  exact ⟨rfl, (But.of HB1.out).trans (HS1.out (.int .u16 0) (.int .u16 0) (.slice none 0 0))⟩
set_option maxHeartbeats 2000000 in
theorem read_bad_1 (b : Nat) (sr ds : Int) (A : Option Addr) (n c q r y x B : Nat) (w : World) (l : List Int) (k : Int) (v0 v1 v2 v3 v4 v5 v6 v7 v8 v9 v10 v11 v12 v13 v14 v15 v16 v17 v18 v19 v20 v21 v22 v23 : Value) (hk : w.heap[b]? = some (.cells #[v0, v1, v2, v3, v4, v5, v6, v7, v8, v9, v10, v11, v12, v13, v14, v15, v16, v17, v18, v19, v20, v21, v22, v23] 35 (0, 0))) (h : ReadAt b sr ds A n c q r y x B w) (hap : b < B)
    (hc : n ≤ c ∧ c ≤ maxLen) (hA : Rd w A n l) (hx : errM l = k) (h0 : k ≠ 0) :
    Calls Tryz.prog 44 #[.pointer (some ⟨y, 0, none⟩), .pointer (some ⟨x, 0, none⟩)] w (ReadBad b k w) := by
  have Hx := Lib.hid hx
  have H0 := Lib.hid h0
  clear hx h0
  have HR := Lib.hid h
  have HK := Lib.hid hk
  have HA := Lib.hid hA
  have Hc := Lib.hid hc
  have Hbl := Lib.hid (lt_of_block hk)
  have Hap := Lib.hid hap
  clear h hk hA hc hap
  go_enter Tryz.func44, Tryz.ntmps44
  go_upto_region 1 with (fail)
  have HBd := Lib.hid (Below.drew (Below.refl w.heap.size w))
  refine wp_region_held_drew (S := fun w' => (w'.cell? ⟨x, 0, none⟩ = some (.pointer (some ⟨b, 0, none⟩)) ∧ w'.cell? ⟨q, 0, none⟩ = some (.int .u32 sr) ∧ w'.cell? ⟨r, 0, none⟩ = some (.int .u32 ds) ∧ w'.cell? ⟨y, 0, none⟩ = some (.slice A n c))) (by kernel_rfl) (HR.out.on HBd.out).cells (fun hHeld => ?_)
  obtain ⟨wd, ewd⟩ : ∃ wd, w.drew = wd := ⟨_, rfl⟩
  rw [ewd] at HBd hHeld ⊢
  clear ewd
  refine tk 0 ?_ rfl ?_ ?_
  rotate_left
  · intro w' hSw; (go_simp <;> (with_reducible rfl))
  try simp only [Act.put, putL]
  refine tk 1 ?_ rfl ?_ ?_
  rotate_left
  · intro w' hSw; (go_simp <;> (with_reducible rfl))
  try simp only [Act.put, putL]
  refine tkC 2 rfl (fun K hK => ?_)
  go_simp
  (refine (parse8_err A n c l k _ Hc.out (HA.out.below HBd.out) Hx.out H0.out).mono ?_; (rintro e w1 ⟨rfl, hb1⟩); have HB1 := Lib.hid (below_trans HBd.out hb1); have Hb1 := Lib.hid hb1; clear hb1)
  refine hK.out _ _ ?_ (fun hHeld => ?_)
  · exact (HR.out.on HB1.out).cells
  clear hK K
  try simp only [Act.put, putL]
  refine tk 3 ?_ rfl ?_ ?_
  rotate_left
  · intro w' hSw; (go_simp <;> (with_reducible rfl))
  try simp only [Act.put, putL]
  refine tk 4 ?_ rfl ?_ ?_
  rotate_left
  · intro w' hSw; (go_simp <;> (with_reducible rfl))
  try simp only [Act.put, putL]
  refine tk 5 ?_ rfl ?_ ?_
  rotate_left
  · intro w' hSw; (go_simp <;> (with_reducible rfl))
  try simp only [Act.put, putL]
  refine tk 6 ?_ rfl ?_ ?_
  rotate_left
  · intro w' hSw; (go_simp <;> (with_reducible rfl))
  try simp only [Act.put, putL]
  refine tk 7 ?_ rfl ?_ ?_
  rotate_left
  · intro w' hSw; (go_simp <;> (with_reducible rfl))
  try simp only [Act.put, putL]
  have hk1 := blk_on HK.out HB1.out
  obtain ⟨k0, k1, k2, k3, k4, k5, k6, k7, k8, k9, k10, k11, k12, k13, k14, k15, k16, k17, k18, k19, k20, k21, k22, k23⟩ := cells24 hk1
  have kf := fun i => late_free hk1 i
  have HS1 := Lib.hid (fun u0 u1 u2 u3 => set4_24u w1 b u0 u1 u2 u3)
  refine tkC 8 rfl (fun K hK => ?_)
  go_simp
  skip
  refine hK.out _ _ ?_ (fun hHeld => ?_)
  · exact ((HR.out.on HB1.out).but (HS1.out (.int .u8 0) (.int .u8 0) (.int .u32 0) (.slice none 0 0)) Hap.out).cells
  clear hK K
  try simp only [Act.put, putL]
  clear k0 k1 k2 k3 k4 k5 k6 k7 k8 k9 k10 k11 k12 k13 k14 k15 k16 k17 k18 k19 k20 k21 k22 k23
  clear kf
  refine tk 9 ?_ rfl ?_ ?_
  rotate_left
  · intro w' hSw; (go_simp <;> (with_reducible rfl))
  try simp only [Act.put, putL]
  refine wpAnyH_done (by kernel_rfl) ?_ _
  clear hHeld
  go_wp2_with fail
  go_ret
  exact ⟨rfl, (But.of HB1.out).trans (HS1.out (.int .u8 0) (.int .u8 0) (.int .u32 0) (.slice none 0 0))⟩

def ReadSeg (b nD : Nat) (S : Seg) (v0 v1 v2 v3 v4 v5 v6 v7 v17 v18 v19 v20 v21 v22 v23 : Value) (w : World) (e : Ending) (w' : World) : Prop :=
  ∃ AO nO cO os AD cD, e = .returned (.int .i64 0) ∧ w'.heap[b]? = some (.cells #[v0, v1, v2, v3, v4, v5, v6, v7, .int .u16 S.sp, .int .u16 S.dp, .int .u32 S.sq, .int .u32 S.ak, .int .u8 S.fl, .int .u16 S.wn, .int .u16 S.ug, .slice AO nO cO, .slice AD nD cD, v17, v18, v19, v20, v21, v22, v23] 35 (0, 0)) ∧ SegRd w' S AO nO cO os AD nD cD ∧ nO ≤ 20 ∧
    OwnO w' w.heap.size AO nO cO os ∧ OwnL w' w.heap.size os S.os ∧ OwnB w' w.heap.size AD nD cD S.d ∧ But (fun k => k = b) w w'
def ReadDg (b nD : Nat) (S : Dg) (v0 v1 v2 v3 v4 v5 v6 v7 v8 v9 v10 v11 v12 v13 v14 v15 v16 v20 v21 v22 v23 : Value) (w : World) (e : Ending) (w' : World) : Prop :=
  ∃ AD cD, e = .returned (.int .i64 0) ∧ w'.heap[b]? = some (.cells #[v0, v1, v2, v3, v4, v5, v6, v7, v8, v9, v10, v11, v12, v13, v14, v15, v16, .int .u16 S.sp, .int .u16 S.dp, .slice AD nD cD, v20, v21, v22, v23] 35 (0, 0)) ∧ OwnB w' w.heap.size AD nD cD S.d ∧ But (fun k => k = b) w w'
def ReadMsg (b nD : Nat) (S : Msg) (v0 v1 v2 v3 v4 v5 v6 v7 v8 v9 v10 v11 v12 v13 v14 v15 v16 v17 v18 v19 : Value) (w : World) (e : Ending) (w' : World) : Prop :=
  ∃ AD cD, e = .returned (.int .i64 0) ∧ w'.heap[b]? = some (.cells #[v0, v1, v2, v3, v4, v5, v6, v7, v8, v9, v10, v11, v12, v13, v14, v15, v16, v17, v18, v19, .int .u8 S.ty, .int .u8 S.cd, .int .u32 S.rs, .slice AD nD cD] 35 (0, 0)) ∧ OwnB w' w.heap.size AD nD cD S.d ∧ But (fun k => k = b) w w'
set_option maxHeartbeats 2000000 in
theorem read_good_6 (b : Nat) (sr ds : Int) (A : Option Addr) (n c q r y x B nD : Nat) (w : World) (l : List Int) (S : Seg) (v0 v1 v2 v3 v4 v5 v6 v7 v8 v9 v10 v11 v12 v13 v14 v15 v16 v17 v18 v19 v20 v21 v22 v23 : Value) (hk : w.heap[b]? = some (.cells #[v0, v1, v2, v3, v4, v5, v6, v7, v8, v9, v10, v11, v12, v13, v14, v15, v16, v17, v18, v19, v20, v21, v22, v23] 35 (0, 0))) (h : ReadAt b sr ds A n c q r y x B w) (hap : b < B)
    (hc : n ≤ c ∧ c ≤ maxLen) (hA : Rd w A n l) (hx : errSeg sr ds l = 0) (hS : segOf l (offB l) = S) (hn : S.d.length = nD) :
    Calls Tryz.prog 40 #[.pointer (some ⟨q, 0, none⟩), .pointer (some ⟨r, 0, none⟩), .pointer (some ⟨y, 0, none⟩), .pointer (some ⟨x, 0, none⟩)] w (ReadSeg b nD S v0 v1 v2 v3 v4 v5 v6 v7 v17 v18 v19 v20 v21 v22 v23 w) := by
  have Hx := Lib.hid hx
  have HS := Lib.hid hS
  have Hn := Lib.hid hn
  clear hx hS hn
  have HR := Lib.hid h
  have HK := Lib.hid hk
  have HA := Lib.hid hA
  have Hc := Lib.hid hc
  have Hbl := Lib.hid (lt_of_block hk)
  have Hap := Lib.hid hap
  clear h hk hA hc hap
  go_enter Tryz.func40, Tryz.ntmps40
  go_upto_region 1 with (fail)
  have HBd := Lib.hid (Below.drew (Below.refl w.heap.size w))
  refine wp_region_held_drew (S := fun w' => (w'.cell? ⟨x, 0, none⟩ = some (.pointer (some ⟨b, 0, none⟩)) ∧ w'.cell? ⟨q, 0, none⟩ = some (.int .u32 sr) ∧ w'.cell? ⟨r, 0, none⟩ = some (.int .u32 ds) ∧ w'.cell? ⟨y, 0, none⟩ = some (.slice A n c))) (by kernel_rfl) (HR.out.on HBd.out).cells (fun hHeld => ?_)
  obtain ⟨wd, ewd⟩ : ∃ wd, w.drew = wd := ⟨_, rfl⟩
  rw [ewd] at HBd hHeld ⊢
  clear ewd
  refine tk 0 ?_ rfl ?_ ?_
  rotate_left
  · intro w' hSw; (go_simp <;> (with_reducible rfl))
  try simp only [Act.put, putL]
  refine tk 1 ?_ rfl ?_ ?_
  rotate_left
  · intro w' hSw; (go_simp <;> (with_reducible rfl))
  try simp only [Act.put, putL]
  refine tk 2 ?_ rfl ?_ ?_
  rotate_left
  · intro w' hSw; (go_simp <;> (with_reducible rfl))
  try simp only [Act.put, putL]
  refine tk 3 ?_ rfl ?_ ?_
  rotate_left
  · intro w' hSw; (go_simp <;> (with_reducible rfl))
  try simp only [Act.put, putL]
  refine tkC 4 rfl (fun K hK => ?_)
  go_simp
  (refine (tparse_told sr ds A n c l S nD _ Hc.out (HA.out.below HBd.out) Hx.out HS.out Hn.out).mono ?_; (rintro e w1 ⟨AO, nO, cO, os, AD, cD, rfl, hsr, hnO, ho, hl, hd, hb1⟩; have Hsr := Lib.hid hsr; have HnO := Lib.hid hnO; have Ho := Lib.hid (ho.mono HBd.out.size); have Hl := Lib.hid (hl.low HBd.out.size); have Hd := Lib.hid (hd.mono HBd.out.size); clear hsr hnO ho hl hd); have HB1 := Lib.hid (below_trans HBd.out hb1); have Hb1 := Lib.hid hb1; clear hb1)
  refine hK.out _ _ ?_ (fun hHeld => ?_)
  · exact (HR.out.on HB1.out).cells
  clear hK K
  try simp only [Act.put, putL]
  refine tk 5 ?_ rfl ?_ ?_
  rotate_left
  · intro w' hSw; (go_simp <;> (with_reducible rfl))
  try simp only [Act.put, putL]
  refine tk 6 ?_ rfl ?_ ?_
  rotate_left
  · intro w' hSw; (go_simp <;> (with_reducible rfl))
  try simp only [Act.put, putL]
  refine tk 7 ?_ rfl ?_ ?_
  rotate_left
  · intro w' hSw; (go_simp <;> (with_reducible rfl))
  try simp only [Act.put, putL]
  refine tk 8 ?_ rfl ?_ ?_
  rotate_left
  · intro w' hSw; (go_simp <;> (with_reducible rfl))
  try simp only [Act.put, putL]
  refine tk 9 ?_ rfl ?_ ?_
  rotate_left
  · intro w' hSw; (go_simp <;> (with_reducible rfl))
  try simp only [Act.put, putL]
  have hk1 := blk_on HK.out HB1.out
  obtain ⟨k0, k1, k2, k3, k4, k5, k6, k7, k8, k9, k10, k11, k12, k13, k14, k15, k16, k17, k18, k19, k20, k21, k22, k23⟩ := cells24 hk1
  have kf := fun i => late_free hk1 i
  have HS1 := Lib.hid (fun u0 u1 u2 u3 u4 u5 u6 u7 u8 => set9_24u w1 b u0 u1 u2 u3 u4 u5 u6 u7 u8)
  refine tkC 10 rfl (fun K hK => ?_)
  go_simp
  skip
  refine hK.out _ _ ?_ (fun hHeld => ?_)
  · exact ((HR.out.on HB1.out).but (HS1.out (.int .u16 S.sp) (.int .u16 S.dp) (.int .u32 S.sq) (.int .u32 S.ak) (.int .u8 S.fl) (.int .u16 S.wn) (.int .u16 S.ug) (.slice AO nO cO) (.slice AD nD cD)) Hap.out).cells
  clear hK K
  try simp only [Act.put, putL]
  clear k0 k1 k2 k3 k4 k5 k6 k7 k8 k9 k10 k11 k12 k13 k14 k15 k16 k17 k18 k19 k20 k21 k22 k23
  clear kf
  refine tk 11 ?_ rfl ?_ ?_
  rotate_left
  · intro w' hSw; (go_simp <;> (with_reducible rfl))
  try simp only [Act.put, putL]
  have HSb := Lib.hid (set9_24 (blk_on HK.out HB1.out) (.int .u16 S.sp) (.int .u16 S.dp) (.int .u32 S.sq) (.int .u32 S.ak) (.int .u8 S.fl) (.int .u16 S.wn) (.int .u16 S.ug) (.slice AO nO cO) (.slice AD nD cD))
  refine wpAnyH_done (by kernel_rfl) ?_ _
  clear hHeld
  go_wp2_with fail
  go_ret
  have hbl := Hbl.out
  have hsz := HBd.out.size
  have hbs := HS1.out (.int .u16 S.sp) (.int .u16 S.dp) (.int .u32 S.sq) (.int .u32 S.ak) (.int .u8 S.fl) (.int .u16 S.wn) (.int .u16 S.ug) (.slice AO nO cO) (.slice AD nD cD)
  exact ⟨AO, nO, cO, os, AD, cD, rfl, HSb.out, own_seg Hsr.out.num (Ho.out.but hbs (fun k hk e => by have := (World.ownsRow.lt Ho.out k (by rw [hk]; rfl)).1; omega)) (Hl.out.but hbs (fun n c l k h2 e => by have := h2.at_ rfl; omega)) (Hd.out.but hbs (fun k hk e => by omega)) Hsr.out.d.byte, HnO.out, Ho.out.but hbs (fun k hk e => by have := (World.ownsRow.lt Ho.out k (by rw [hk]; rfl)).1; omega), Hl.out.but hbs (fun n c l k h2 e => by have := h2.at_ rfl; omega), Hd.out.but hbs (fun k hk e => by omega), (But.of HB1.out).trans hbs⟩
set_option maxHeartbeats 2000000 in
theorem read_good_17 (b : Nat) (sr ds : Int) (A : Option Addr) (n c q r y x B nD : Nat) (w : World) (l : List Int) (S : Dg) (v0 v1 v2 v3 v4 v5 v6 v7 v8 v9 v10 v11 v12 v13 v14 v15 v16 v17 v18 v19 v20 v21 v22 v23 : Value) (hk : w.heap[b]? = some (.cells #[v0, v1, v2, v3, v4, v5, v6, v7, v8, v9, v10, v11, v12, v13, v14, v15, v16, v17, v18, v19, v20, v21, v22, v23] 35 (0, 0))) (h : ReadAt b sr ds A n c q r y x B w) (hap : b < B)
    (hc : n ≤ c ∧ c ≤ maxLen) (hA : Rd w A n l) (hx : errU sr ds l = 0) (hS : dgOf l = S) (hn : S.d.length = nD) :
    Calls Tryz.prog 42 #[.pointer (some ⟨q, 0, none⟩), .pointer (some ⟨r, 0, none⟩), .pointer (some ⟨y, 0, none⟩), .pointer (some ⟨x, 0, none⟩)] w (ReadDg b nD S v0 v1 v2 v3 v4 v5 v6 v7 v8 v9 v10 v11 v12 v13 v14 v15 v16 v20 v21 v22 v23 w) := by
  have Hx := Lib.hid hx
  have HS := Lib.hid hS
  have Hn := Lib.hid hn
  clear hx hS hn
  have HR := Lib.hid h
  have HK := Lib.hid hk
  have HA := Lib.hid hA
  have Hc := Lib.hid hc
  have Hbl := Lib.hid (lt_of_block hk)
  have Hap := Lib.hid hap
  clear h hk hA hc hap
  go_enter Tryz.func42, Tryz.ntmps42
  go_upto_region 1 with (fail)
  have HBd := Lib.hid (Below.drew (Below.refl w.heap.size w))
  refine wp_region_held_drew (S := fun w' => (w'.cell? ⟨x, 0, none⟩ = some (.pointer (some ⟨b, 0, none⟩)) ∧ w'.cell? ⟨q, 0, none⟩ = some (.int .u32 sr) ∧ w'.cell? ⟨r, 0, none⟩ = some (.int .u32 ds) ∧ w'.cell? ⟨y, 0, none⟩ = some (.slice A n c))) (by kernel_rfl) (HR.out.on HBd.out).cells (fun hHeld => ?_)
  obtain ⟨wd, ewd⟩ : ∃ wd, w.drew = wd := ⟨_, rfl⟩
  rw [ewd] at HBd hHeld ⊢
  clear ewd
  refine tk 0 ?_ rfl ?_ ?_
  rotate_left
  · intro w' hSw; (go_simp <;> (with_reducible rfl))
  try simp only [Act.put, putL]
  refine tk 1 ?_ rfl ?_ ?_
  rotate_left
  · intro w' hSw; (go_simp <;> (with_reducible rfl))
  try simp only [Act.put, putL]
  refine tk 2 ?_ rfl ?_ ?_
  rotate_left
  · intro w' hSw; (go_simp <;> (with_reducible rfl))
  try simp only [Act.put, putL]
  refine tk 3 ?_ rfl ?_ ?_
  rotate_left
  · intro w' hSw; (go_simp <;> (with_reducible rfl))
  try simp only [Act.put, putL]
  refine tkC 4 rfl (fun K hK => ?_)
  go_simp
  (refine (uparse_told sr ds A n c nD l S.sp S.dp S.d _ Hc.out (HA.out.below HBd.out) Hx.out HS.out Hn.out).mono ?_; (rintro e w1 ⟨AD, cD, rfl, -, -, hd, hb1⟩; have Hd := Lib.hid (hd.mono HBd.out.size); clear hd); have HB1 := Lib.hid (below_trans HBd.out hb1); have Hb1 := Lib.hid hb1; clear hb1)
  refine hK.out _ _ ?_ (fun hHeld => ?_)
  · exact (HR.out.on HB1.out).cells
  clear hK K
  try simp only [Act.put, putL]
  refine tk 5 ?_ rfl ?_ ?_
  rotate_left
  · intro w' hSw; (go_simp <;> (with_reducible rfl))
  try simp only [Act.put, putL]
  refine tk 6 ?_ rfl ?_ ?_
  rotate_left
  · intro w' hSw; (go_simp <;> (with_reducible rfl))
  try simp only [Act.put, putL]
  refine tk 7 ?_ rfl ?_ ?_
  rotate_left
  · intro w' hSw; (go_simp <;> (with_reducible rfl))
  try simp only [Act.put, putL]
  refine tk 8 ?_ rfl ?_ ?_
  rotate_left
  · intro w' hSw; (go_simp <;> (with_reducible rfl))
  try simp only [Act.put, putL]
  refine tk 9 ?_ rfl ?_ ?_
  rotate_left
  · intro w' hSw; (go_simp <;> (with_reducible rfl))
  try simp only [Act.put, putL]
  have hk1 := blk_on HK.out HB1.out
  obtain ⟨k0, k1, k2, k3, k4, k5, k6, k7, k8, k9, k10, k11, k12, k13, k14, k15, k16, k17, k18, k19, k20, k21, k22, k23⟩ := cells24 hk1
  have kf := fun i => late_free hk1 i
  have HS1 := Lib.hid (fun u0 u1 u2 => set3_24u w1 b u0 u1 u2)
  refine tkC 10 rfl (fun K hK => ?_)
  go_simp
  skip
  refine hK.out _ _ ?_ (fun hHeld => ?_)
  · exact ((HR.out.on HB1.out).but (HS1.out (.int .u16 S.sp) (.int .u16 S.dp) (.slice AD nD cD)) Hap.out).cells
  clear hK K
  try simp only [Act.put, putL]
  clear k0 k1 k2 k3 k4 k5 k6 k7 k8 k9 k10 k11 k12 k13 k14 k15 k16 k17 k18 k19 k20 k21 k22 k23
  clear kf
  refine tk 11 ?_ rfl ?_ ?_
  rotate_left
  · intro w' hSw; (go_simp <;> (with_reducible rfl))
  try simp only [Act.put, putL]
  have HSb := Lib.hid (set3_24 (blk_on HK.out HB1.out) (.int .u16 S.sp) (.int .u16 S.dp) (.slice AD nD cD))
  refine wpAnyH_done (by kernel_rfl) ?_ _
  clear hHeld
  go_wp2_with fail
  go_ret
  have hbl := Hbl.out
  have hsz := HBd.out.size
  have hbs := HS1.out (.int .u16 S.sp) (.int .u16 S.dp) (.slice AD nD cD)
  exact ⟨AD, cD, rfl, HSb.out, Hd.out.but hbs (fun k hk e => by omega), (But.of HB1.out).trans hbs⟩
set_option maxHeartbeats 2000000 in
theorem read_good_1 (b : Nat) (sr ds : Int) (A : Option Addr) (n c q r y x B nD : Nat) (w : World) (l : List Int) (S : Msg) (v0 v1 v2 v3 v4 v5 v6 v7 v8 v9 v10 v11 v12 v13 v14 v15 v16 v17 v18 v19 v20 v21 v22 v23 : Value) (hk : w.heap[b]? = some (.cells #[v0, v1, v2, v3, v4, v5, v6, v7, v8, v9, v10, v11, v12, v13, v14, v15, v16, v17, v18, v19, v20, v21, v22, v23] 35 (0, 0))) (h : ReadAt b sr ds A n c q r y x B w) (hap : b < B)
    (hc : n ≤ c ∧ c ≤ maxLen) (hA : Rd w A n l) (hx : errM l = 0) (hS : msgOf l = S) (hn : S.d.length = nD) :
    Calls Tryz.prog 44 #[.pointer (some ⟨y, 0, none⟩), .pointer (some ⟨x, 0, none⟩)] w (ReadMsg b nD S v0 v1 v2 v3 v4 v5 v6 v7 v8 v9 v10 v11 v12 v13 v14 v15 v16 v17 v18 v19 w) := by
  have Hx := Lib.hid hx
  have HS := Lib.hid hS
  have Hn := Lib.hid hn
  clear hx hS hn
  have HR := Lib.hid h
  have HK := Lib.hid hk
  have HA := Lib.hid hA
  have Hc := Lib.hid hc
  have Hbl := Lib.hid (lt_of_block hk)
  have Hap := Lib.hid hap
  clear h hk hA hc hap
  go_enter Tryz.func44, Tryz.ntmps44
  go_upto_region 1 with (fail)
  have HBd := Lib.hid (Below.drew (Below.refl w.heap.size w))
  refine wp_region_held_drew (S := fun w' => (w'.cell? ⟨x, 0, none⟩ = some (.pointer (some ⟨b, 0, none⟩)) ∧ w'.cell? ⟨q, 0, none⟩ = some (.int .u32 sr) ∧ w'.cell? ⟨r, 0, none⟩ = some (.int .u32 ds) ∧ w'.cell? ⟨y, 0, none⟩ = some (.slice A n c))) (by kernel_rfl) (HR.out.on HBd.out).cells (fun hHeld => ?_)
  obtain ⟨wd, ewd⟩ : ∃ wd, w.drew = wd := ⟨_, rfl⟩
  rw [ewd] at HBd hHeld ⊢
  clear ewd
  refine tk 0 ?_ rfl ?_ ?_
  rotate_left
  · intro w' hSw; (go_simp <;> (with_reducible rfl))
  try simp only [Act.put, putL]
  refine tk 1 ?_ rfl ?_ ?_
  rotate_left
  · intro w' hSw; (go_simp <;> (with_reducible rfl))
  try simp only [Act.put, putL]
  refine tkC 2 rfl (fun K hK => ?_)
  go_simp
  (refine (parse8_told A n c nD l S.ty S.cd S.rs S.d _ Hc.out (HA.out.below HBd.out) Hx.out HS.out Hn.out).mono ?_; (rintro e w1 ⟨AD, cD, rfl, -, -, hd, hb1⟩; have Hd := Lib.hid (hd.mono HBd.out.size); clear hd); have HB1 := Lib.hid (below_trans HBd.out hb1); have Hb1 := Lib.hid hb1; clear hb1)
  refine hK.out _ _ ?_ (fun hHeld => ?_)
  · exact (HR.out.on HB1.out).cells
  clear hK K
  try simp only [Act.put, putL]
  refine tk 3 ?_ rfl ?_ ?_
  rotate_left
  · intro w' hSw; (go_simp <;> (with_reducible rfl))
  try simp only [Act.put, putL]
  refine tk 4 ?_ rfl ?_ ?_
  rotate_left
  · intro w' hSw; (go_simp <;> (with_reducible rfl))
  try simp only [Act.put, putL]
  refine tk 5 ?_ rfl ?_ ?_
  rotate_left
  · intro w' hSw; (go_simp <;> (with_reducible rfl))
  try simp only [Act.put, putL]
  refine tk 6 ?_ rfl ?_ ?_
  rotate_left
  · intro w' hSw; (go_simp <;> (with_reducible rfl))
  try simp only [Act.put, putL]
  refine tk 7 ?_ rfl ?_ ?_
  rotate_left
  · intro w' hSw; (go_simp <;> (with_reducible rfl))
  try simp only [Act.put, putL]
  have hk1 := blk_on HK.out HB1.out
  obtain ⟨k0, k1, k2, k3, k4, k5, k6, k7, k8, k9, k10, k11, k12, k13, k14, k15, k16, k17, k18, k19, k20, k21, k22, k23⟩ := cells24 hk1
  have kf := fun i => late_free hk1 i
  have HS1 := Lib.hid (fun u0 u1 u2 u3 => set4_24u w1 b u0 u1 u2 u3)
  refine tkC 8 rfl (fun K hK => ?_)
  go_simp
  skip
  refine hK.out _ _ ?_ (fun hHeld => ?_)
  · exact ((HR.out.on HB1.out).but (HS1.out (.int .u8 S.ty) (.int .u8 S.cd) (.int .u32 S.rs) (.slice AD nD cD)) Hap.out).cells
  clear hK K
  try simp only [Act.put, putL]
  clear k0 k1 k2 k3 k4 k5 k6 k7 k8 k9 k10 k11 k12 k13 k14 k15 k16 k17 k18 k19 k20 k21 k22 k23
  clear kf
  refine tk 9 ?_ rfl ?_ ?_
  rotate_left
  · intro w' hSw; (go_simp <;> (with_reducible rfl))
  try simp only [Act.put, putL]
  have HSb := Lib.hid (set4_24 (blk_on HK.out HB1.out) (.int .u8 S.ty) (.int .u8 S.cd) (.int .u32 S.rs) (.slice AD nD cD))
  refine wpAnyH_done (by kernel_rfl) ?_ _
  clear hHeld
  go_wp2_with fail
  go_ret
  have hbl := Hbl.out
  have hsz := HBd.out.size
  have hbs := HS1.out (.int .u8 S.ty) (.int .u8 S.cd) (.int .u32 S.rs) (.slice AD nD cD)
  exact ⟨AD, cD, rfl, HSb.out, Hd.out.but hbs (fun k hk e => by omega), (But.of HB1.out).trans hbs⟩
end Go.Proofs.YtheknmihnkennaaGreat

/-
  Whether two heads (ipv4.Same), two packets (packet.Same) have all the same.
-/
namespace Go.Proofs.YtheknmihnkennaaGreat
set_option maxRecDepth 10000
open Go.RowKit
set_option linter.unusedSimpArgs false
set_option linter.unusedVariables false

end Go.Proofs.YtheknmihnkennaaGreat
