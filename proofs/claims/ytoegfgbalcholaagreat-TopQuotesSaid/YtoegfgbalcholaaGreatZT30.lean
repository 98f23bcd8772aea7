/-
  Texts laid together: IcmpLaw, PkRead, PkSame.
-/
import Derived.Test.YtoegfgbalcholaaGreatZT25
import Derived.Test.YtoegfgbalcholaaGreatZT11
import Derived.Lib.SmallJoins
import Derived.Test.YtoegfgbalcholaaGreatZT01
import Derived.Test.YtoegfgbalcholaaGreatZT29
import Derived.Test.YtoegfgbalcholaaGreatZT23
import Derived.Test.YtoegfgbalcholaaGreatZT26
import Derived.Test.YtoegfgbalcholaaGreatZT27
import Derived.Test.YtoegfgbalcholaaGreatZT20
import Derived.Test.YtoegfgbalcholaaGreatZT15
import Derived.Test.YtoegfgbalcholaaGreatZT24

/-
  What the laws of icmp have in common: Parse's error alone; culvertlaw08's wakes; a message that comes in, opened.
-/
namespace Go.Proofs.YtoegfgbalcholaaGreat
set_option maxRecDepth 10000
open Go.Joins Go.ChangeShapes Go.WideShapes Go.ChangeAt Go.RowKit Go.Deep
set_option linter.unusedSimpArgs false
set_option linter.unusedVariables false

end Go.Proofs.YtoegfgbalcholaaGreat

/-
  Package packet's readings: a map of closures that read a Proto's part out of a payload into a packet; what each does.
-/
namespace Go.Proofs.YtoegfgbalcholaaGreat
set_option maxRecDepth 10000
open Go.RowKit
set_option linter.unusedSimpArgs false
set_option linter.unusedVariables false

def readF6 (q r y x : Nat) : Value := .func (.func 71) #[] #[.pointer (some ⟨q, 0, none⟩), .pointer (some ⟨r, 0, none⟩), .pointer (some ⟨y, 0, none⟩), .pointer (some ⟨x, 0, none⟩)]
def readF17 (q r y x : Nat) : Value := .func (.func 73) #[] #[.pointer (some ⟨q, 0, none⟩), .pointer (some ⟨r, 0, none⟩), .pointer (some ⟨y, 0, none⟩), .pointer (some ⟨x, 0, none⟩)]
def readF1 (y x : Nat) : Value := .func (.func 75) #[] #[.pointer (some ⟨y, 0, none⟩), .pointer (some ⟨x, 0, none⟩)]
/-- Where readings' closures find what they took. -/
structure ReadAt (b : Nat) (sr ds : Int) (A : Option Addr) (n c q r y x B : Nat) (w : World) : Prop where
  src : Box w q 23 (.int .u32 sr)
  dst : Box w r 23 (.int .u32 ds)
  row : Box w y 24 (.slice A n c)
  ptr : Box w x 87 (.pointer (some ⟨b, 0, none⟩))
  at_ : B ≤ q ∧ B ≤ r ∧ B ≤ y ∧ B ≤ x
theorem ReadAt.on {b : Nat} {sr ds : Int} {A : Option Addr} {n c q r y x B : Nat} {w w' : World} (h : ReadAt b sr ds A n c q r y x B w) (hb : Below w.heap.size w w') : ReadAt b sr ds A n c q r y x B w' :=
  ⟨blk_on h.src hb, blk_on h.dst hb, blk_on h.row hb, blk_on h.ptr hb, h.at_⟩
def ReadsIs (b : Nat) (sr ds : Int) (A : Option Addr) (n c : Nat) (w : World) (e : Ending) (w' : World) : Prop :=
  ∃ g q r y x, e = .returned (.map (some g)) ∧ w'.heap[g]? = some (threeO (readF6 q r y x) (readF17 q r y x) (readF1 y x)) ∧ ReadAt b sr ds A n c q r y x w.heap.size w' ∧ Below w.heap.size w w'
set_option maxHeartbeats 2000000 in
theorem readings_any (b : Nat) (sr ds : Int) (A : Option Addr) (n c : Nat) (w : World) (hbs : b < w.heap.size) (h5 : w.cell? ⟨b, 5, none⟩ = some (.int .u32 sr)) (h6 : w.cell? ⟨b, 6, none⟩ = some (.int .u32 ds)) :
    Calls Tryz.prog 29 #[.pointer (some ⟨b, 0, none⟩), .slice A n c] w (ReadsIs b sr ds A n c w) := by
  have hmf : ∀ (fn : Fn) (first cap : Array Value) (w : World), (Instr.makeFunc fn first cap).run Tryz.prog w = .ok (.func fn first cap) w := fun _ _ _ _ => rfl
  obtain ⟨z, hz⟩ : ∃ z, w.heap.size = z := ⟨_, rfl⟩
  obtain ⟨w0, ew⟩ : ∃ w0, (w.alloc (.cells #[.pointer (some ⟨b, 0, none⟩)] 87)).alloc (.cells #[.slice A n c] 24) = w0 := ⟨_, rfl⟩
  have hb0 : Below w.heap.size w w0 := by rw [← ew]; exact ((Below.refl _ _).alloc (Nat.le_refl _) _).alloc (by simp) _
  have hk0 : Box w0 z 87 (.pointer (some ⟨b, 0, none⟩)) := by unfold Box; rw [← ew, Below.heap_alloc _ _ _ (by simp [hz]), ← hz]; exact heap_alloc_new w _
  have hk1 : Box w0 (z + 1) 24 (.slice A n c) := by
    unfold Box
    rw [← ew, ← hz]; simpa using heap_alloc_new (w.alloc (.cells #[.pointer (some ⟨b, 0, none⟩)] 87)) (.cells #[.slice A n c] 24)
  have hs0 : w0.heap.size = z + 2 := by rw [← ew, ← hz]; simp
  have Hs0 := Lib.hid hs0
  have HS := Lib.hid (show ∀ w', Below w0.heap.size w0 w' → w'.cell? ⟨z, 0, none⟩ = some (.pointer (some ⟨b, 0, none⟩)) ∧ w'.cell? ⟨b, 5, none⟩ = some (.int .u32 sr) ∧ w'.cell? ⟨b, 6, none⟩ = some (.int .u32 ds) from
    fun w' hb => ⟨(show Box w' z _ _ from blk_on hk0 hb).cell, ((hb0.trans (hb.mono hb0.size)).cell (p := ⟨b, 5, none⟩) hbs).trans h5, ((hb0.trans (hb.mono hb0.size)).cell (p := ⟨b, 6, none⟩) hbs).trans h6⟩)
  have Hb0 := Lib.hid hb0
  have Ew := Lib.hid ew
  have Hz := Lib.hid hz
  have HK0 := Lib.hid hk0
  have HK1 := Lib.hid hk1
  clear hz ew hb0 hk0 hk1 h5 h6 hs0
  go_enter Tryz.func29, Tryz.ntmps29
  go_upto_region 1 with (fail)
  rw [Ew.out]
  try rw [Hz.out]
  go_cut [5, 6] (fun s5 s6 wx => ∃ (q r : Nat), s5 = .pointer (some ⟨q, 0, none⟩) ∧ s6 = .pointer (some ⟨r, 0, none⟩) ∧ Hid (ReadAt b sr ds A n c q r (z + 1) z w.heap.size wx) ∧ Hid (Below w.heap.size w wx))
  case first =>
    go_region_held3 (fun w' => w'.cell? ⟨z, 0, none⟩ = some (.pointer (some ⟨b, 0, none⟩)) ∧ w'.cell? ⟨b, 5, none⟩ = some (.int .u32 sr) ∧ w'.cell? ⟨b, 6, none⟩ = some (.int .u32 ds)) (exact HS.out _ (by repeat (first | exact Below.refl _ _ | refine Below.drew ?_ | (refine Below.alloc ?_ (by simp) _) | (refine Below.setCell ?_ (by simp) _)))) (fail)
    · go_wp2_with fail
      obtain ⟨h1, h2, h3⟩ := box_two w0 (.int .u32 sr) (.int .u32 ds) 23
      have hs := below_trans Hb0.out h3
      have hsz := Hb0.out.size
      have hz := Hz.out
      have hs0 := Hs0.out
      go_meet
      exact ⟨_, _, rfl, rfl, Lib.hid ⟨h1, h2, blk_on HK1.out h3, blk_on HK0.out h3, ⟨by omega, by omega, by omega, by omega⟩⟩, Lib.hid hs⟩
    · go_wp2_with fail
      obtain ⟨h1, h2, h3⟩ := box_two w0 (.int .u32 ds) (.int .u32 sr) 23
      have hs := below_trans Hb0.out h3
      have hsz := Hb0.out.size
      have hz := Hz.out
      have hs0 := Hs0.out
      go_meet
      exact ⟨_, _, rfl, rfl, Lib.hid ⟨h2, h1, blk_on HK1.out h3, blk_on HK0.out h3, ⟨by omega, by omega, by omega, by omega⟩⟩, Lib.hid hs⟩
  case rest =>
    obtain ⟨q, r, rfl, rfl, HP, HB⟩ := hcut
    clear HK0 HK1 Hb0 Ew HS
    obtain ⟨w2, e2⟩ : ∃ v, wc.alloc (.map #[] 0) = v := ⟨_, rfl⟩
    have k2 : w2.heap[wc.heap.size]? = some (.map #[] 0) := by rw [← e2]; exact heap_alloc_new wc _
    have b2 : Below wc.heap.size wc w2 := by rw [← e2]; exact (Below.refl _ _).alloc (Nat.le_refl _) _
    obtain ⟨w3, w4, w5, r1, r2, r3, hg, hb⟩ := runs_reading (readF6 q r (z + 1) z) (readF17 q r (z + 1) z) (readF1 (z + 1) z) b2 (Nat.le_refl _) k2
    have hmk := run_makeMap_plain (P := Tryz.prog) wc 85
    rw [e2] at hmk
    have Hg := Lib.hid hg
    have Hb := Lib.hid hb
    clear k2 b2 hg hb e2
    unfold readF6 at r1
    unfold readF17 at r2
    unfold readF1 at r3
    go_wp2_with fail
    go_ret
    exact ⟨_, q, r, z + 1, z, rfl, Hg.out, HP.out.on Hb.out, HB.out.trans (Hb.out.mono HB.out.size)⟩
theorem set9_24u (w : World) (b : Nat) (u0 u1 u2 u3 u4 u5 u6 u7 u8 : Value) : But (fun k => k = b) w (((((((((w.setCell ⟨b, 8, none⟩ u0).setCell ⟨b, 9, none⟩ u1).setCell ⟨b, 10, none⟩ u2).setCell ⟨b, 11, none⟩ u3).setCell ⟨b, 12, none⟩ u4).setCell ⟨b, 13, none⟩ u5).setCell ⟨b, 14, none⟩ u6).setCell ⟨b, 15, none⟩ u7).setCell ⟨b, 16, none⟩ u8) :=
  (((((((((But.refl (fun k => k = b) w).setCell (p := ⟨b, 8, none⟩) rfl _).setCell (p := ⟨b, 9, none⟩) rfl _).setCell (p := ⟨b, 10, none⟩) rfl _).setCell (p := ⟨b, 11, none⟩) rfl _).setCell (p := ⟨b, 12, none⟩) rfl _).setCell (p := ⟨b, 13, none⟩) rfl _).setCell (p := ⟨b, 14, none⟩) rfl _).setCell (p := ⟨b, 15, none⟩) rfl _).setCell (p := ⟨b, 16, none⟩) rfl _
theorem set3_24u (w : World) (b : Nat) (u0 u1 u2 : Value) : But (fun k => k = b) w (((w.setCell ⟨b, 17, none⟩ u0).setCell ⟨b, 18, none⟩ u1).setCell ⟨b, 19, none⟩ u2) :=
  (((But.refl (fun k => k = b) w).setCell (p := ⟨b, 17, none⟩) rfl _).setCell (p := ⟨b, 18, none⟩) rfl _).setCell (p := ⟨b, 19, none⟩) rfl _
theorem set4_24u (w : World) (b : Nat) (u0 u1 u2 u3 : Value) : But (fun k => k = b) w ((((w.setCell ⟨b, 20, none⟩ u0).setCell ⟨b, 21, none⟩ u1).setCell ⟨b, 22, none⟩ u2).setCell ⟨b, 23, none⟩ u3) :=
  ((((But.refl (fun k => k = b) w).setCell (p := ⟨b, 20, none⟩) rfl _).setCell (p := ⟨b, 21, none⟩) rfl _).setCell (p := ⟨b, 22, none⟩) rfl _).setCell (p := ⟨b, 23, none⟩) rfl _
theorem ReadAt.but {b : Nat} {sr ds : Int} {A : Option Addr} {n c q r y x B : Nat} {w w' : World} (h : ReadAt b sr ds A n c q r y x B w) (hb : But (fun k => k = b) w w') (hB : b < B) : ReadAt b sr ds A n c q r y x B w' := by
  have := h.at_
  exact ⟨hb.blk h.src (by omega), hb.blk h.dst (by omega), hb.blk h.row (by omega), hb.blk h.ptr (by omega), h.at_⟩
theorem ReadAt.cells {b : Nat} {sr ds : Int} {A : Option Addr} {n c q r y x B : Nat} {w : World} (h : ReadAt b sr ds A n c q r y x B w) : w.cell? ⟨x, 0, none⟩ = some (.pointer (some ⟨b, 0, none⟩)) ∧ w.cell? ⟨q, 0, none⟩ = some (.int .u32 sr) ∧ w.cell? ⟨r, 0, none⟩ = some (.int .u32 ds) ∧ w.cell? ⟨y, 0, none⟩ = some (.slice A n c) :=
  ⟨h.ptr.cell, h.src.cell, h.dst.cell, h.row.cell⟩

def ReadSeg (b nD : Nat) (S : Seg) (v0 v1 v2 v3 v4 v5 v6 v7 v17 v18 v19 v20 v21 v22 v23 : Value) (w : World) (e : Ending) (w' : World) : Prop :=
  ∃ AO nO cO os AD cD, e = .returned (.int .i64 0) ∧ w'.heap[b]? = some (.cells #[v0, v1, v2, v3, v4, v5, v6, v7, .int .u16 S.sp, .int .u16 S.dp, .int .u32 S.sq, .int .u32 S.ak, .int .u8 S.fl, .int .u16 S.wn, .int .u16 S.ug, .slice AO nO cO, .slice AD nD cD, v17, v18, v19, v20, v21, v22, v23] 35 (0, 0)) ∧ SegRd w' S AO nO cO os AD nD cD ∧ nO ≤ 20 ∧
    OwnO w' w.heap.size AO nO cO os ∧ OwnL w' w.heap.size os S.os ∧ OwnB w' w.heap.size AD nD cD S.d ∧ But (fun k => k = b) w w'
def ReadDg (b nD : Nat) (S : Dg) (v0 v1 v2 v3 v4 v5 v6 v7 v8 v9 v10 v11 v12 v13 v14 v15 v16 v20 v21 v22 v23 : Value) (w : World) (e : Ending) (w' : World) : Prop :=
  ∃ AD cD, e = .returned (.int .i64 0) ∧ w'.heap[b]? = some (.cells #[v0, v1, v2, v3, v4, v5, v6, v7, v8, v9, v10, v11, v12, v13, v14, v15, v16, .int .u16 S.sp, .int .u16 S.dp, .slice AD nD cD, v20, v21, v22, v23] 35 (0, 0)) ∧ OwnB w' w.heap.size AD nD cD S.d ∧ But (fun k => k = b) w w'
def ReadMsg (b nD : Nat) (S : Msg) (v0 v1 v2 v3 v4 v5 v6 v7 v8 v9 v10 v11 v12 v13 v14 v15 v16 v17 v18 v19 : Value) (w : World) (e : Ending) (w' : World) : Prop :=
  ∃ AD cD, e = .returned (.int .i64 0) ∧ w'.heap[b]? = some (.cells #[v0, v1, v2, v3, v4, v5, v6, v7, v8, v9, v10, v11, v12, v13, v14, v15, v16, v17, v18, v19, .int .u8 S.ty, .int .u8 S.cd, .int .u32 S.rs, .slice AD nD cD] 35 (0, 0)) ∧ OwnB w' w.heap.size AD nD cD S.d ∧ But (fun k => k = b) w w'
set_option maxHeartbeats 2000000 in
theorem read_good_6 (b : Nat) (sr ds : Int) (A : Option Addr) (n c q r y x B nD : Nat) (w : World) (l : List Int) (S : Seg) (v0 v1 v2 v3 v4 v5 v6 v7 v8 v9 v10 v11 v12 v13 v14 v15 v16 v17 v18 v19 v20 v21 v22 v23 : Value) (hk : w.heap[b]? = some (.cells #[v0, v1, v2, v3, v4, v5, v6, v7, v8, v9, v10, v11, v12, v13, v14, v15, v16, v17, v18, v19, v20, v21, v22, v23] 35 (0, 0))) (h : ReadAt b sr ds A n c q r y x B w) (hap : b < B)
    (hc : n ≤ c ∧ c ≤ maxLen) (hA : Rd w A n l) (hx : errSeg sr ds l = 0) (hS : segOf l (offB l) = S) (hn : S.d.length = nD) :
    Calls Tryz.prog 71 #[.pointer (some ⟨q, 0, none⟩), .pointer (some ⟨r, 0, none⟩), .pointer (some ⟨y, 0, none⟩), .pointer (some ⟨x, 0, none⟩)] w (ReadSeg b nD S v0 v1 v2 v3 v4 v5 v6 v7 v17 v18 v19 v20 v21 v22 v23 w) := by
  have Hx := Lib.hid hx
  have HS := Lib.hid hS
  have Hn := Lib.hid hn
  clear hx hS hn
  have HR := Lib.hid h
  have HK := Lib.hid hk
  have HA := Lib.hid hA
  have Hc := Lib.hid hc
  have Hbl := Lib.hid (lt_of_block hk)
  have Hap := Lib.hid hap
  clear h hk hA hc hap
  go_enter Tryz.func71, Tryz.ntmps71
  go_upto_region 1 with (fail)
  have HBd := Lib.hid (Below.drew (Below.refl w.heap.size w))
  refine wp_region_held_drew (S := fun w' => (w'.cell? ⟨x, 0, none⟩ = some (.pointer (some ⟨b, 0, none⟩)) ∧ w'.cell? ⟨q, 0, none⟩ = some (.int .u32 sr) ∧ w'.cell? ⟨r, 0, none⟩ = some (.int .u32 ds) ∧ w'.cell? ⟨y, 0, none⟩ = some (.slice A n c))) (by kernel_rfl) (HR.out.on HBd.out).cells (fun hHeld => ?_)
  obtain ⟨wd, ewd⟩ : ∃ wd, w.drew = wd := ⟨_, rfl⟩
  rw [ewd] at HBd hHeld ⊢
  clear ewd
  refine tk 0 ?_ rfl ?_ ?_
  rotate_left
  · intro w' hSw; (go_simp <;> (with_reducible rfl))
  try simp only [Act.put, putL]
  refine tk 1 ?_ rfl ?_ ?_
  rotate_left
  · intro w' hSw; (go_simp <;> (with_reducible rfl))
  try simp only [Act.put, putL]
  refine tk 2 ?_ rfl ?_ ?_
  rotate_left
  · intro w' hSw; (go_simp <;> (with_reducible rfl))
  try simp only [Act.put, putL]
  refine tk 3 ?_ rfl ?_ ?_
  rotate_left
  · intro w' hSw; (go_simp <;> (with_reducible rfl))
  try simp only [Act.put, putL]
  refine tkC 4 rfl (fun K hK => ?_)
  go_simp
  (refine (tparse_told sr ds A n c l S nD _ Hc.out (HA.out.below HBd.out) Hx.out HS.out Hn.out).mono ?_; (rintro e w1 ⟨AO, nO, cO, os, AD, cD, rfl, hsr, hnO, ho, hl, hd, hb1⟩; have Hsr := Lib.hid hsr; have HnO := Lib.hid hnO; have Ho := Lib.hid (ho.mono HBd.out.size); have Hl := Lib.hid (hl.low HBd.out.size); have Hd := Lib.hid (hd.mono HBd.out.size); clear hsr hnO ho hl hd); have HB1 := Lib.hid (below_trans HBd.out hb1); have Hb1 := Lib.hid hb1; clear hb1)
  refine hK.out _ _ ?_ (fun hHeld => ?_)
  · exact (HR.out.on HB1.out).cells
  clear hK K
  try simp only [Act.put, putL]
  refine tk 5 ?_ rfl ?_ ?_
  rotate_left
  · intro w' hSw; (go_simp <;> (with_reducible rfl))
  try simp only [Act.put, putL]
  refine tk 6 ?_ rfl ?_ ?_
  rotate_left
  · intro w' hSw; (go_simp <;> (with_reducible rfl))
  try simp only [Act.put, putL]
  refine tk 7 ?_ rfl ?_ ?_
  rotate_left
  · intro w' hSw; (go_simp <;> (with_reducible rfl))
  try simp only [Act.put, putL]
  refine tk 8 ?_ rfl ?_ ?_
  rotate_left
  · intro w' hSw; (go_simp <;> (with_reducible rfl))
  try simp only [Act.put, putL]
  refine tk 9 ?_ rfl ?_ ?_
  rotate_left
  · intro w' hSw; (go_simp <;> (with_reducible rfl))
  try simp only [Act.put, putL]
  have hk1 := blk_on HK.out HB1.out
  obtain ⟨k0, k1, k2, k3, k4, k5, k6, k7, k8, k9, k10, k11, k12, k13, k14, k15, k16, k17, k18, k19, k20, k21, k22, k23⟩ := cells24 hk1
  have kf := fun i => late_free hk1 i
  have HS1 := Lib.hid (fun u0 u1 u2 u3 u4 u5 u6 u7 u8 => set9_24u w1 b u0 u1 u2 u3 u4 u5 u6 u7 u8)
  refine tkC 10 rfl (fun K hK => ?_)
  go_simp
  skip
  refine hK.out _ _ ?_ (fun hHeld => ?_)
  · exact ((HR.out.on HB1.out).but (HS1.out (.int .u16 S.sp) (.int .u16 S.dp) (.int .u32 S.sq) (.int .u32 S.ak) (.int .u8 S.fl) (.int .u16 S.wn) (.int .u16 S.ug) (.slice AO nO cO) (.slice AD nD cD)) Hap.out).cells
  clear hK K
  try simp only [Act.put, putL]
  clear k0 k1 k2 k3 k4 k5 k6 k7 k8 k9 k10 k11 k12 k13 k14 k15 k16 k17 k18 k19 k20 k21 k22 k23
  clear kf
  refine tk 11 ?_ rfl ?_ ?_
  rotate_left
  · intro w' hSw; (go_simp <;> (with_reducible rfl))
  try simp only [Act.put, putL]
  have HSb := Lib.hid (set9_24 (blk_on HK.out HB1.out) (.int .u16 S.sp) (.int .u16 S.dp) (.int .u32 S.sq) (.int .u32 S.ak) (.int .u8 S.fl) (.int .u16 S.wn) (.int .u16 S.ug) (.slice AO nO cO) (.slice AD nD cD))
  refine wpAnyH_done (by kernel_rfl) ?_ _
  clear hHeld
  go_wp2_with fail
  go_ret
  have hbl := Hbl.out
  have hsz := HBd.out.size
  have hbs := HS1.out (.int .u16 S.sp) (.int .u16 S.dp) (.int .u32 S.sq) (.int .u32 S.ak) (.int .u8 S.fl) (.int .u16 S.wn) (.int .u16 S.ug) (.slice AO nO cO) (.slice AD nD cD)
  exact ⟨AO, nO, cO, os, AD, cD, rfl, HSb.out, own_seg Hsr.out.num (Ho.out.but hbs (fun k hk e => by have := (World.ownsRow.lt Ho.out k (by rw [hk]; rfl)).1; omega)) (Hl.out.but hbs (fun n c l k h2 e => by have := h2.at_ rfl; omega)) (Hd.out.but hbs (fun k hk e => by omega)) Hsr.out.d.byte, HnO.out, Ho.out.but hbs (fun k hk e => by have := (World.ownsRow.lt Ho.out k (by rw [hk]; rfl)).1; omega), Hl.out.but hbs (fun n c l k h2 e => by have := h2.at_ rfl; omega), Hd.out.but hbs (fun k hk e => by omega), (But.of HB1.out).trans hbs⟩
set_option maxHeartbeats 2000000 in
theorem read_good_17 (b : Nat) (sr ds : Int) (A : Option Addr) (n c q r y x B nD : Nat) (w : World) (l : List Int) (S : Dg) (v0 v1 v2 v3 v4 v5 v6 v7 v8 v9 v10 v11 v12 v13 v14 v15 v16 v17 v18 v19 v20 v21 v22 v23 : Value) (hk : w.heap[b]? = some (.cells #[v0, v1, v2, v3, v4, v5, v6, v7, v8, v9, v10, v11, v12, v13, v14, v15, v16, v17, v18, v19, v20, v21, v22, v23] 35 (0, 0))) (h : ReadAt b sr ds A n c q r y x B w) (hap : b < B)
    (hc : n ≤ c ∧ c ≤ maxLen) (hA : Rd w A n l) (hx : errU sr ds l = 0) (hS : dgOf l = S) (hn : S.d.length = nD) :
    Calls Tryz.prog 73 #[.pointer (some ⟨q, 0, none⟩), .pointer (some ⟨r, 0, none⟩), .pointer (some ⟨y, 0, none⟩), .pointer (some ⟨x, 0, none⟩)] w (ReadDg b nD S v0 v1 v2 v3 v4 v5 v6 v7 v8 v9 v10 v11 v12 v13 v14 v15 v16 v20 v21 v22 v23 w) := by
  have Hx := Lib.hid hx
  have HS := Lib.hid hS
  have Hn := Lib.hid hn
  clear hx hS hn
  have HR := Lib.hid h
  have HK := Lib.hid hk
  have HA := Lib.hid hA
  have Hc := Lib.hid hc
  have Hbl := Lib.hid (lt_of_block hk)
  have Hap := Lib.hid hap
  clear h hk hA hc hap
  go_enter Tryz.func73, Tryz.ntmps73
  go_upto_region 1 with (fail)
  have HBd := Lib.hid (Below.drew (Below.refl w.heap.size w))
  refine wp_region_held_drew (S := fun w' => (w'.cell? ⟨x, 0, none⟩ = some (.pointer (some ⟨b, 0, none⟩)) ∧ w'.cell? ⟨q, 0, none⟩ = some (.int .u32 sr) ∧ w'.cell? ⟨r, 0, none⟩ = some (.int .u32 ds) ∧ w'.cell? ⟨y, 0, none⟩ = some (.slice A n c))) (by kernel_rfl) (HR.out.on HBd.out).cells (fun hHeld => ?_)
  obtain ⟨wd, ewd⟩ : ∃ wd, w.drew = wd := ⟨_, rfl⟩
  rw [ewd] at HBd hHeld ⊢
  clear ewd
  refine tk 0 ?_ rfl ?_ ?_
  rotate_left
  · intro w' hSw; (go_simp <;> (with_reducible rfl))
  try simp only [Act.put, putL]
  refine tk 1 ?_ rfl ?_ ?_
  rotate_left
  · intro w' hSw; (go_simp <;> (with_reducible rfl))
  try simp only [Act.put, putL]
  refine tk 2 ?_ rfl ?_ ?_
  rotate_left
  · intro w' hSw; (go_simp <;> (with_reducible rfl))
  try simp only [Act.put, putL]
  refine tk 3 ?_ rfl ?_ ?_
  rotate_left
  · intro w' hSw; (go_simp <;> (with_reducible rfl))
  try simp only [Act.put, putL]
  refine tkC 4 rfl (fun K hK => ?_)
  go_simp
  (refine (uparse_told sr ds A n c nD l S.sp S.dp S.d _ Hc.out (HA.out.below HBd.out) Hx.out HS.out Hn.out).mono ?_; (rintro e w1 ⟨AD, cD, rfl, -, -, hd, hb1⟩; have Hd := Lib.hid (hd.mono HBd.out.size); clear hd); have HB1 := Lib.hid (below_trans HBd.out hb1); have Hb1 := Lib.hid hb1; clear hb1)
  refine hK.out _ _ ?_ (fun hHeld => ?_)
  · exact (HR.out.on HB1.out).cells
  clear hK K
  try simp only [Act.put, putL]
  refine tk 5 ?_ rfl ?_ ?_
  rotate_left
  · intro w' hSw; (go_simp <;> (with_reducible rfl))
  try simp only [Act.put, putL]
  refine tk 6 ?_ rfl ?_ ?_
  rotate_left
  · intro w' hSw; (go_simp <;> (with_reducible rfl))
  try simp only [Act.put, putL]
  refine tk 7 ?_ rfl ?_ ?_
  rotate_left
  · intro w' hSw; (go_simp <;> (with_reducible rfl))
  try simp only [Act.put, putL]
  refine tk 8 ?_ rfl ?_ ?_
  rotate_left
  · intro w' hSw; (go_simp <;> (with_reducible rfl))
  try simp only [Act.put, putL]
  refine tk 9 ?_ rfl ?_ ?_
  rotate_left
  · intro w' hSw; (go_simp <;> (with_reducible rfl))
  try simp only [Act.put, putL]
  have hk1 := blk_on HK.out HB1.out
  obtain ⟨k0, k1, k2, k3, k4, k5, k6, k7, k8, k9, k10, k11, k12, k13, k14, k15, k16, k17, k18, k19, k20, k21, k22, k23⟩ := cells24 hk1
  have kf := fun i => late_free hk1 i
  have HS1 := Lib.hid (fun u0 u1 u2 => set3_24u w1 b u0 u1 u2)
  refine tkC 10 rfl (fun K hK => ?_)
  go_simp
  skip
  refine hK.out _ _ ?_ (fun hHeld => ?_)
  · exact ((HR.out.on HB1.out).but (HS1.out (.int .u16 S.sp) (.int .u16 S.dp) (.slice AD nD cD)) Hap.out).cells
  clear hK K
  try simp only [Act.put, putL]
  clear k0 k1 k2 k3 k4 k5 k6 k7 k8 k9 k10 k11 k12 k13 k14 k15 k16 k17 k18 k19 k20 k21 k22 k23
  clear kf
  refine tk 11 ?_ rfl ?_ ?_
  rotate_left
  · intro w' hSw; (go_simp <;> (with_reducible rfl))
  try simp only [Act.put, putL]
  have HSb := Lib.hid (set3_24 (blk_on HK.out HB1.out) (.int .u16 S.sp) (.int .u16 S.dp) (.slice AD nD cD))
  refine wpAnyH_done (by kernel_rfl) ?_ _
  clear hHeld
  go_wp2_with fail
  go_ret
  have hbl := Hbl.out
  have hsz := HBd.out.size
  have hbs := HS1.out (.int .u16 S.sp) (.int .u16 S.dp) (.slice AD nD cD)
  exact ⟨AD, cD, rfl, HSb.out, Hd.out.but hbs (fun k hk e => by omega), (But.of HB1.out).trans hbs⟩
set_option maxHeartbeats 2000000 in
theorem read_good_1 (b : Nat) (sr ds : Int) (A : Option Addr) (n c q r y x B nD : Nat) (w : World) (l : List Int) (S : Msg) (v0 v1 v2 v3 v4 v5 v6 v7 v8 v9 v10 v11 v12 v13 v14 v15 v16 v17 v18 v19 v20 v21 v22 v23 : Value) (hk : w.heap[b]? = some (.cells #[v0, v1, v2, v3, v4, v5, v6, v7, v8, v9, v10, v11, v12, v13, v14, v15, v16, v17, v18, v19, v20, v21, v22, v23] 35 (0, 0))) (h : ReadAt b sr ds A n c q r y x B w) (hap : b < B)
    (hc : n ≤ c ∧ c ≤ maxLen) (hA : Rd w A n l) (hx : errM l = 0) (hS : msgOf l = S) (hn : S.d.length = nD) :
    Calls Tryz.prog 75 #[.pointer (some ⟨y, 0, none⟩), .pointer (some ⟨x, 0, none⟩)] w (ReadMsg b nD S v0 v1 v2 v3 v4 v5 v6 v7 v8 v9 v10 v11 v12 v13 v14 v15 v16 v17 v18 v19 w) := by
  have Hx := Lib.hid hx
  have HS := Lib.hid hS
  have Hn := Lib.hid hn
  clear hx hS hn
  have HR := Lib.hid h
  have HK := Lib.hid hk
  have HA := Lib.hid hA
  have Hc := Lib.hid hc
  have Hbl := Lib.hid (lt_of_block hk)
  have Hap := Lib.hid hap
  clear h hk hA hc hap
  go_enter Tryz.func75, Tryz.ntmps75
  go_upto_region 1 with (fail)
  have HBd := Lib.hid (Below.drew (Below.refl w.heap.size w))
  refine wp_region_held_drew (S := fun w' => (w'.cell? ⟨x, 0, none⟩ = some (.pointer (some ⟨b, 0, none⟩)) ∧ w'.cell? ⟨q, 0, none⟩ = some (.int .u32 sr) ∧ w'.cell? ⟨r, 0, none⟩ = some (.int .u32 ds) ∧ w'.cell? ⟨y, 0, none⟩ = some (.slice A n c))) (by kernel_rfl) (HR.out.on HBd.out).cells (fun hHeld => ?_)
  obtain ⟨wd, ewd⟩ : ∃ wd, w.drew = wd := ⟨_, rfl⟩
  rw [ewd] at HBd hHeld ⊢
  clear ewd
  refine tk 0 ?_ rfl ?_ ?_
  rotate_left
  · intro w' hSw; (go_simp <;> (with_reducible rfl))
  try simp only [Act.put, putL]
  refine tk 1 ?_ rfl ?_ ?_
  rotate_left
  · intro w' hSw; (go_simp <;> (with_reducible rfl))
  try simp only [Act.put, putL]
  refine tkC 2 rfl (fun K hK => ?_)
  go_simp
  (refine (parse8_told A n c nD l S.ty S.cd S.rs S.d _ Hc.out (HA.out.below HBd.out) Hx.out HS.out Hn.out).mono ?_; (rintro e w1 ⟨AD, cD, rfl, -, -, hd, hb1⟩; have Hd := Lib.hid (hd.mono HBd.out.size); clear hd); have HB1 := Lib.hid (below_trans HBd.out hb1); have Hb1 := Lib.hid hb1; clear hb1)
  refine hK.out _ _ ?_ (fun hHeld => ?_)
  · exact (HR.out.on HB1.out).cells
  clear hK K
  try simp only [Act.put, putL]
  refine tk 3 ?_ rfl ?_ ?_
  rotate_left
  · intro w' hSw; (go_simp <;> (with_reducible rfl))
  try simp only [Act.put, putL]
  refine tk 4 ?_ rfl ?_ ?_
  rotate_left
  · intro w' hSw; (go_simp <;> (with_reducible rfl))
  try simp only [Act.put, putL]
  refine tk 5 ?_ rfl ?_ ?_
  rotate_left
  · intro w' hSw; (go_simp <;> (with_reducible rfl))
  try simp only [Act.put, putL]
  refine tk 6 ?_ rfl ?_ ?_
  rotate_left
  · intro w' hSw; (go_simp <;> (with_reducible rfl))
  try simp only [Act.put, putL]
  refine tk 7 ?_ rfl ?_ ?_
  rotate_left
  · intro w' hSw; (go_simp <;> (with_reducible rfl))
  try simp only [Act.put, putL]
  have hk1 := blk_on HK.out HB1.out
  obtain ⟨k0, k1, k2, k3, k4, k5, k6, k7, k8, k9, k10, k11, k12, k13, k14, k15, k16, k17, k18, k19, k20, k21, k22, k23⟩ := cells24 hk1
  have kf := fun i => late_free hk1 i
  have HS1 := Lib.hid (fun u0 u1 u2 u3 => set4_24u w1 b u0 u1 u2 u3)
  refine tkC 8 rfl (fun K hK => ?_)
  go_simp
  skip
  refine hK.out _ _ ?_ (fun hHeld => ?_)
  · exact ((HR.out.on HB1.out).but (HS1.out (.int .u8 S.ty) (.int .u8 S.cd) (.int .u32 S.rs) (.slice AD nD cD)) Hap.out).cells
  clear hK K
  try simp only [Act.put, putL]
  clear k0 k1 k2 k3 k4 k5 k6 k7 k8 k9 k10 k11 k12 k13 k14 k15 k16 k17 k18 k19 k20 k21 k22 k23
  clear kf
  refine tk 9 ?_ rfl ?_ ?_
  rotate_left
  · intro w' hSw; (go_simp <;> (with_reducible rfl))
  try simp only [Act.put, putL]
  have HSb := Lib.hid (set4_24 (blk_on HK.out HB1.out) (.int .u8 S.ty) (.int .u8 S.cd) (.int .u32 S.rs) (.slice AD nD cD))
  refine wpAnyH_done (by kernel_rfl) ?_ _
  clear hHeld
  go_wp2_with fail
  go_ret
  have hbl := Hbl.out
  have hsz := HBd.out.size
  have hbs := HS1.out (.int .u8 S.ty) (.int .u8 S.cd) (.int .u32 S.rs) (.slice AD nD cD)
  exact ⟨AD, cD, rfl, HSb.out, Hd.out.but hbs (fun k hk e => by omega), (But.of HB1.out).trans hbs⟩
end Go.Proofs.YtoegfgbalcholaaGreat

/-
  Whether two heads (ipv4.Same), two packets (packet.Same) have all the same.
-/
namespace Go.Proofs.YtoegfgbalcholaaGreat
set_option maxRecDepth 10000
open Go.RowKit
set_option linter.unusedSimpArgs false
set_option linter.unusedVariables false

theorem same4_any (h h' : Hd) (A : Option Addr) (n c : Nat) (A' : Option Addr) (n' c' : Nat) (w : World) (x : Bool) (hr : Rd w A n h.o) (hr' : Rd w A' n' h'.o) (hx : hdSame h h' = x) :
    Calls Tryz.prog 31 #[.agg #[.int .u8 h.to, .int .u16 h.id, .bool h.df, .int .u8 h.tt, .int .u8 h.pr, .int .u32 h.sr, .int .u32 h.ds, .slice A n c], .agg #[.int .u8 h'.to, .int .u16 h'.id, .bool h'.df, .int .u8 h'.tt, .int .u8 h'.pr, .int .u32 h'.sr, .int .u32 h'.ds, .slice A' n' c']] w (BoolIs x w) := by
  obtain ⟨to_, id_, df, tt, pr, sr, ds, o⟩ := h
  obtain ⟨to2, id2, df2, tt2, pr2, sr2, ds2, o2⟩ := h'
  simp only at hr hr' ⊢
  have hb := ((Below.refl w.heap.size w).alloc (Nat.le_refl _) (.cells #[.int .u8 to_, .int .u16 id_, .bool df, .int .u8 tt, .int .u8 pr, .int .u32 sr, .int .u32 ds, .slice A n c] 26)).alloc (by simp) (.cells #[.int .u8 to2, .int .u16 id2, .bool df2, .int .u8 tt2, .int .u8 pr2, .int .u32 sr2, .int .u32 ds2, .slice A' n' c'] 26)
  have H1 := Lib.hid (hr.below hb)
  have H2 := Lib.hid (hr'.below hb)
  have Hb := Lib.hid hb
  clear hr hr' hb
  unfold hdSame at hx
  simp only at hx
  by_cases h1 : to_ = to2
  case neg =>
    have h1b : (to_ == to2) = false := by simpa using h1
    have Hx := Lib.hid (show x = false by rw [← hx]; simp [h1])
    clear hx h1
    go_enter Tryz.func31, Tryz.ntmps31
    go_wp2_with fail
    go_ret
    exact ⟨ret_bool (by rw [Hx.out]), Hb.out⟩
  subst h1
  by_cases h2 : id_ = id2
  case neg =>
    have h2b : (id_ == id2) = false := by simpa using h2
    have Hx := Lib.hid (show x = false by rw [← hx]; simp [h2])
    clear hx h2
    go_enter Tryz.func31, Tryz.ntmps31
    go_wp2_with fail
    go_ret
    exact ⟨ret_bool (by rw [Hx.out]), Hb.out⟩
  subst h2
  by_cases h3 : df = df2
  case neg =>
    have h3b : (df == df2) = false := by simpa using h3
    have Hx := Lib.hid (show x = false by rw [← hx]; simp [h3])
    clear hx h3
    go_enter Tryz.func31, Tryz.ntmps31
    go_wp2_with fail
    go_ret
    exact ⟨ret_bool (by rw [Hx.out]), Hb.out⟩
  subst h3
  by_cases h4 : tt = tt2
  case neg =>
    have h4b : (tt == tt2) = false := by simpa using h4
    have Hx := Lib.hid (show x = false by rw [← hx]; simp [h4])
    clear hx h4
    go_enter Tryz.func31, Tryz.ntmps31
    go_wp2_with fail
    go_ret
    exact ⟨ret_bool (by rw [Hx.out]), Hb.out⟩
  subst h4
  by_cases h5 : pr = pr2
  case neg =>
    have h5b : (pr == pr2) = false := by simpa using h5
    have Hx := Lib.hid (show x = false by rw [← hx]; simp [h5])
    clear hx h5
    go_enter Tryz.func31, Tryz.ntmps31
    go_wp2_with fail
    go_ret
    exact ⟨ret_bool (by rw [Hx.out]), Hb.out⟩
  subst h5
  by_cases h6 : sr = sr2
  case neg =>
    have h6b : (sr == sr2) = false := by simpa using h6
    have Hx := Lib.hid (show x = false by rw [← hx]; simp [h6])
    clear hx h6
    go_enter Tryz.func31, Tryz.ntmps31
    go_wp2_with fail
    go_ret
    exact ⟨ret_bool (by rw [Hx.out]), Hb.out⟩
  subst h6
  by_cases h7 : ds = ds2
  case neg =>
    have h7b : (ds == ds2) = false := by simpa using h7
    have Hx := Lib.hid (show x = false by rw [← hx]; simp [h7])
    clear hx h7
    go_enter Tryz.func31, Tryz.ntmps31
    go_wp2_with fail
    go_ret
    exact ⟨ret_bool (by rw [Hx.out]), Hb.out⟩
  subst h7
  have Hse := Lib.hid (show decide (o = o2) = x by simpa using hx)
  clear hx
  go_enter Tryz.func31, Tryz.ntmps31
  go_wp2_with fail
  refine (bequal_any A A' n n' c c' o o2 _ x H1.out H2.out Hse.out).mono ?_
  rintro e w' ⟨rfl, rfl⟩
  go_wp2_with fail
  go_ret
  exact ⟨rfl, Hb.out⟩

set_option maxHeartbeats 2000000 in
theorem same9_any (p q : Pk) (a b : PkA) (w : World) (x : Bool) (hp : PkRd w p a) (hq : PkRd w q b) (hn : a.nO ≤ 140737488355328) (hx : pkSame p q = x) :
    Calls Tryz.prog 9 #[.agg #[.int .u8 p.h.to, .int .u16 p.h.id, .bool p.h.df, .int .u8 p.h.tt, .int .u8 p.h.pr, .int .u32 p.h.sr, .int .u32 p.h.ds, .slice a.AH a.nH a.cH, .int .u16 p.s.sp, .int .u16 p.s.dp, .int .u32 p.s.sq, .int .u32 p.s.ak, .int .u8 p.s.fl, .int .u16 p.s.wn, .int .u16 p.s.ug, .slice a.AO a.nO a.cO, .slice a.AD a.nD a.cD, .int .u16 p.u.sp, .int .u16 p.u.dp, .slice a.AU a.nU a.cU, .int .u8 p.m.ty, .int .u8 p.m.cd, .int .u32 p.m.rs, .slice a.AM a.nM a.cM], .agg #[.int .u8 q.h.to, .int .u16 q.h.id, .bool q.h.df, .int .u8 q.h.tt, .int .u8 q.h.pr, .int .u32 q.h.sr, .int .u32 q.h.ds, .slice b.AH b.nH b.cH, .int .u16 q.s.sp, .int .u16 q.s.dp, .int .u32 q.s.sq, .int .u32 q.s.ak, .int .u8 q.s.fl, .int .u16 q.s.wn, .int .u16 q.s.ug, .slice b.AO b.nO b.cO, .slice b.AD b.nD b.cD, .int .u16 q.u.sp, .int .u16 q.u.dp, .slice b.AU b.nU b.cU, .int .u8 q.m.ty, .int .u8 q.m.cd, .int .u32 q.m.rs, .slice b.AM b.nM b.cM]] w (BoolIs x w) := by
  obtain ⟨z, hz⟩ : ∃ z, w.heap.size = z := ⟨_, rfl⟩
  obtain ⟨w0, ew⟩ : ∃ w0, (w.alloc (.cells #[.int .u8 p.h.to, .int .u16 p.h.id, .bool p.h.df, .int .u8 p.h.tt, .int .u8 p.h.pr, .int .u32 p.h.sr, .int .u32 p.h.ds, .slice a.AH a.nH a.cH, .int .u16 p.s.sp, .int .u16 p.s.dp, .int .u32 p.s.sq, .int .u32 p.s.ak, .int .u8 p.s.fl, .int .u16 p.s.wn, .int .u16 p.s.ug, .slice a.AO a.nO a.cO, .slice a.AD a.nD a.cD, .int .u16 p.u.sp, .int .u16 p.u.dp, .slice a.AU a.nU a.cU, .int .u8 p.m.ty, .int .u8 p.m.cd, .int .u32 p.m.rs, .slice a.AM a.nM a.cM] 35)).alloc (.cells #[.int .u8 q.h.to, .int .u16 q.h.id, .bool q.h.df, .int .u8 q.h.tt, .int .u8 q.h.pr, .int .u32 q.h.sr, .int .u32 q.h.ds, .slice b.AH b.nH b.cH, .int .u16 q.s.sp, .int .u16 q.s.dp, .int .u32 q.s.sq, .int .u32 q.s.ak, .int .u8 q.s.fl, .int .u16 q.s.wn, .int .u16 q.s.ug, .slice b.AO b.nO b.cO, .slice b.AD b.nD b.cD, .int .u16 q.u.sp, .int .u16 q.u.dp, .slice b.AU b.nU b.cU, .int .u8 q.m.ty, .int .u8 q.m.cd, .int .u32 q.m.rs, .slice b.AM b.nM b.cM] 35) = w0 := ⟨_, rfl⟩
  have hb0 : Below w.heap.size w w0 := by rw [← ew]; exact ((Below.refl _ _).alloc (Nat.le_refl _) _).alloc (by simp) _
  have hk0 : w0.heap[z]? = some (.cells #[.int .u8 p.h.to, .int .u16 p.h.id, .bool p.h.df, .int .u8 p.h.tt, .int .u8 p.h.pr, .int .u32 p.h.sr, .int .u32 p.h.ds, .slice a.AH a.nH a.cH, .int .u16 p.s.sp, .int .u16 p.s.dp, .int .u32 p.s.sq, .int .u32 p.s.ak, .int .u8 p.s.fl, .int .u16 p.s.wn, .int .u16 p.s.ug, .slice a.AO a.nO a.cO, .slice a.AD a.nD a.cD, .int .u16 p.u.sp, .int .u16 p.u.dp, .slice a.AU a.nU a.cU, .int .u8 p.m.ty, .int .u8 p.m.cd, .int .u32 p.m.rs, .slice a.AM a.nM a.cM] 35 (0, 0)) := by rw [← ew, Below.heap_alloc _ _ _ (by simp [hz]), ← hz]; exact heap_alloc_new w _
  have hk1 : w0.heap[z + 1]? = some (.cells #[.int .u8 q.h.to, .int .u16 q.h.id, .bool q.h.df, .int .u8 q.h.tt, .int .u8 q.h.pr, .int .u32 q.h.sr, .int .u32 q.h.ds, .slice b.AH b.nH b.cH, .int .u16 q.s.sp, .int .u16 q.s.dp, .int .u32 q.s.sq, .int .u32 q.s.ak, .int .u8 q.s.fl, .int .u16 q.s.wn, .int .u16 q.s.ug, .slice b.AO b.nO b.cO, .slice b.AD b.nD b.cD, .int .u16 q.u.sp, .int .u16 q.u.dp, .slice b.AU b.nU b.cU, .int .u8 q.m.ty, .int .u8 q.m.cd, .int .u32 q.m.rs, .slice b.AM b.nM b.cM] 35 (0, 0)) := by
    rw [← ew, ← hz]; simpa using heap_alloc_new (w.alloc (.cells #[.int .u8 p.h.to, .int .u16 p.h.id, .bool p.h.df, .int .u8 p.h.tt, .int .u8 p.h.pr, .int .u32 p.h.sr, .int .u32 p.h.ds, .slice a.AH a.nH a.cH, .int .u16 p.s.sp, .int .u16 p.s.dp, .int .u32 p.s.sq, .int .u32 p.s.ak, .int .u8 p.s.fl, .int .u16 p.s.wn, .int .u16 p.s.ug, .slice a.AO a.nO a.cO, .slice a.AD a.nD a.cD, .int .u16 p.u.sp, .int .u16 p.u.dp, .slice a.AU a.nU a.cU, .int .u8 p.m.ty, .int .u8 p.m.cd, .int .u32 p.m.rs, .slice a.AM a.nM a.cM] 35)) (.cells #[.int .u8 q.h.to, .int .u16 q.h.id, .bool q.h.df, .int .u8 q.h.tt, .int .u8 q.h.pr, .int .u32 q.h.sr, .int .u32 q.h.ds, .slice b.AH b.nH b.cH, .int .u16 q.s.sp, .int .u16 q.s.dp, .int .u32 q.s.sq, .int .u32 q.s.ak, .int .u8 q.s.fl, .int .u16 q.s.wn, .int .u16 q.s.ug, .slice b.AO b.nO b.cO, .slice b.AD b.nD b.cD, .int .u16 q.u.sp, .int .u16 q.u.dp, .slice b.AU b.nU b.cU, .int .u8 q.m.ty, .int .u8 q.m.cd, .int .u32 q.m.rs, .slice b.AM b.nM b.cM] 35)
  have HK := Lib.hid (show ∀ w', Below w0.heap.size w0 w' → w'.heap[z]? = some (.cells #[.int .u8 p.h.to, .int .u16 p.h.id, .bool p.h.df, .int .u8 p.h.tt, .int .u8 p.h.pr, .int .u32 p.h.sr, .int .u32 p.h.ds, .slice a.AH a.nH a.cH, .int .u16 p.s.sp, .int .u16 p.s.dp, .int .u32 p.s.sq, .int .u32 p.s.ak, .int .u8 p.s.fl, .int .u16 p.s.wn, .int .u16 p.s.ug, .slice a.AO a.nO a.cO, .slice a.AD a.nD a.cD, .int .u16 p.u.sp, .int .u16 p.u.dp, .slice a.AU a.nU a.cU, .int .u8 p.m.ty, .int .u8 p.m.cd, .int .u32 p.m.rs, .slice a.AM a.nM a.cM] 35 (0, 0)) ∧ w'.heap[z + 1]? = some (.cells #[.int .u8 q.h.to, .int .u16 q.h.id, .bool q.h.df, .int .u8 q.h.tt, .int .u8 q.h.pr, .int .u32 q.h.sr, .int .u32 q.h.ds, .slice b.AH b.nH b.cH, .int .u16 q.s.sp, .int .u16 q.s.dp, .int .u32 q.s.sq, .int .u32 q.s.ak, .int .u8 q.s.fl, .int .u16 q.s.wn, .int .u16 q.s.ug, .slice b.AO b.nO b.cO, .slice b.AD b.nD b.cD, .int .u16 q.u.sp, .int .u16 q.u.dp, .slice b.AU b.nU b.cU, .int .u8 q.m.ty, .int .u8 q.m.cd, .int .u32 q.m.rs, .slice b.AM b.nM b.cM] 35 (0, 0)) ∧ PkRd w' p a ∧ PkRd w' q b from
    fun w' hb => ⟨blk_on hk0 hb, blk_on hk1 hb, (hp.below hb0).below hb, (hq.below hb0).below hb⟩)
  have Hb0 := Lib.hid hb0
  have Hew := Lib.hid ew
  have Hz := Lib.hid hz
  have Hn := Lib.hid hn
  obtain ⟨y1, ey1⟩ : ∃ y, hdSame p.h q.h = y := ⟨_, rfl⟩
  obtain ⟨y2, ey2⟩ : ∃ y, segSame p.s q.s = y := ⟨_, rfl⟩
  obtain ⟨y3, ey3⟩ : ∃ y, dgSame p.u q.u = y := ⟨_, rfl⟩
  obtain ⟨y4, ey4⟩ : ∃ y, msgSame p.m q.m = y := ⟨_, rfl⟩
  unfold pkSame at hx
  rw [ey1, ey2, ey3, ey4] at hx
  have E1 := Lib.hid ey1
  have E2 := Lib.hid ey2
  have E3 := Lib.hid ey3
  have E4 := Lib.hid ey4
  have Hx := Lib.hid hx
  clear hk0 hk1 hb0 ew hp hq hn ey1 ey2 ey3 ey4 hx
  go_enter Tryz.func9, Tryz.ntmps9
  go_upto_region 1 with (fail)
  rw [Hew.out]
  try rw [Hz.out]
  have Hb := Lib.hid (Below.refl w0.heap.size w0)
  obtain ⟨k0, k1, k2, k3, k4, k5, k6, k7, k8, k9, k10, k11, k12, k13, k14, k15, k16, k17, k18, k19, k20, k21, k22, k23⟩ := cells24 (HK.out _ Hb.out).1
  obtain ⟨l0, l1, l2, l3, l4, l5, l6, l7, l8, l9, l10, l11, l12, l13, l14, l15, l16, l17, l18, l19, l20, l21, l22, l23⟩ := cells24 (HK.out _ Hb.out).2.1
  go_wp2_with fail
  refine (same4_any p.h q.h a.AH a.nH a.cH b.AH b.nH b.cH _ y1 (HK.out _ Hb.out).2.2.1.hr (HK.out _ Hb.out).2.2.2.hr E1.out).mono ?_
  rintro e w1 ⟨rfl, hb1⟩
  have Hb := Lib.hid (below_trans Hb.out hb1)
  clear hb1
  clear k0 k1 k2 k3 k4 k5 k6 k7 k8 k9 k10 k11 k12 k13 k14 k15 k16 k17 k18 k19 k20 k21 k22 k23
  clear l0 l1 l2 l3 l4 l5 l6 l7 l8 l9 l10 l11 l12 l13 l14 l15 l16 l17 l18 l19 l20 l21 l22 l23
  cases y1 with
  | false =>
    go_wp2_with fail
    go_ret
    exact ⟨ret_bool (by rw [← Hx.out]; simp), below_trans Hb0.out Hb.out⟩
  | true =>
    obtain ⟨k0, k1, k2, k3, k4, k5, k6, k7, k8, k9, k10, k11, k12, k13, k14, k15, k16, k17, k18, k19, k20, k21, k22, k23⟩ := cells24 (HK.out _ Hb.out).1
    obtain ⟨l0, l1, l2, l3, l4, l5, l6, l7, l8, l9, l10, l11, l12, l13, l14, l15, l16, l17, l18, l19, l20, l21, l22, l23⟩ := cells24 (HK.out _ Hb.out).2.1
    go_wp2_with fail
    refine (same6_any p.s q.s a.AO b.AO a.nO a.cO b.nO b.cO a.os b.os a.AD b.AD a.nD a.cD b.nD b.cD _ Hn.out (HK.out _ Hb.out).2.2.1.sr (HK.out _ Hb.out).2.2.2.sr).mono ?_
    rw [E2.out]
    rintro e w2 ⟨rfl, hb2⟩
    have Hb := Lib.hid (below_trans Hb.out hb2)
    clear hb2
    clear k0 k1 k2 k3 k4 k5 k6 k7 k8 k9 k10 k11 k12 k13 k14 k15 k16 k17 k18 k19 k20 k21 k22 k23
    clear l0 l1 l2 l3 l4 l5 l6 l7 l8 l9 l10 l11 l12 l13 l14 l15 l16 l17 l18 l19 l20 l21 l22 l23
    cases y2 with
    | false =>
      go_wp2_with fail
      go_ret
      exact ⟨ret_bool (by rw [← Hx.out]; simp), below_trans Hb0.out Hb.out⟩
    | true =>
      obtain ⟨k0, k1, k2, k3, k4, k5, k6, k7, k8, k9, k10, k11, k12, k13, k14, k15, k16, k17, k18, k19, k20, k21, k22, k23⟩ := cells24 (HK.out _ Hb.out).1
      obtain ⟨l0, l1, l2, l3, l4, l5, l6, l7, l8, l9, l10, l11, l12, l13, l14, l15, l16, l17, l18, l19, l20, l21, l22, l23⟩ := cells24 (HK.out _ Hb.out).2.1
      go_wp2_with fail
      refine (usame_any p.u q.u a.AU a.nU a.cU b.AU b.nU b.cU _ y3 (HK.out _ Hb.out).2.2.1.ur (HK.out _ Hb.out).2.2.2.ur E3.out).mono ?_
      rintro e w3 ⟨rfl, hb3⟩
      have Hb := Lib.hid (below_trans Hb.out hb3)
      clear hb3
      clear k0 k1 k2 k3 k4 k5 k6 k7 k8 k9 k10 k11 k12 k13 k14 k15 k16 k17 k18 k19 k20 k21 k22 k23
      clear l0 l1 l2 l3 l4 l5 l6 l7 l8 l9 l10 l11 l12 l13 l14 l15 l16 l17 l18 l19 l20 l21 l22 l23
      cases y3 with
      | false =>
        go_wp2_with fail
        go_ret
        exact ⟨ret_bool (by rw [← Hx.out]; simp), below_trans Hb0.out Hb.out⟩
      | true =>
        obtain ⟨k0, k1, k2, k3, k4, k5, k6, k7, k8, k9, k10, k11, k12, k13, k14, k15, k16, k17, k18, k19, k20, k21, k22, k23⟩ := cells24 (HK.out _ Hb.out).1
        obtain ⟨l0, l1, l2, l3, l4, l5, l6, l7, l8, l9, l10, l11, l12, l13, l14, l15, l16, l17, l18, l19, l20, l21, l22, l23⟩ := cells24 (HK.out _ Hb.out).2.1
        go_wp2_with fail
        refine (same8_any p.m q.m a.AM a.nM a.cM b.AM b.nM b.cM _ y4 (HK.out _ Hb.out).2.2.1.mr (HK.out _ Hb.out).2.2.2.mr E4.out).mono ?_
        rintro e w4 ⟨rfl, hb4⟩
        have Hb := Lib.hid (below_trans Hb.out hb4)
        clear hb4
        clear k0 k1 k2 k3 k4 k5 k6 k7 k8 k9 k10 k11 k12 k13 k14 k15 k16 k17 k18 k19 k20 k21 k22 k23
        clear l0 l1 l2 l3 l4 l5 l6 l7 l8 l9 l10 l11 l12 l13 l14 l15 l16 l17 l18 l19 l20 l21 l22 l23
        go_wp2_with fail
        go_ret
        exact ⟨ret_bool (by rw [← Hx.out]; simp), below_trans Hb0.out Hb.out⟩
end Go.Proofs.YtoegfgbalcholaaGreat
