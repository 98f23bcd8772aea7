/-
  Texts laid together: TupRef, NatFace, NatPlace, NatChainP.
-/
import Derived.Test.YtheknmihnkennaaGreatZB31
import Derived.Test.YtheknmihnkennaaGreatZB09
import Derived.Test.YtheknmihnkennaaGreatZB05
import Derived.Test.YtheknmihnkennaaGreatZB04
import Derived.Deep.CutRange
import Derived.RegionTactic
import Derived.Test.YtheknmihnkennaaGreatZB30
import Derived.Test.YtheknmihnkennaaGreatZB01
import Derived.Test.YtheknmihnkennaaGreatZB06
import Derived.Test.YtheknmihnkennaaGreatZB02

/-
  The document's own answers for tuples (culvertref10): Reverse, Of, Bytes, Compare.
-/
namespace Go.Proofs.YtheknmihnkennaaGreat
set_option maxRecDepth 10000
open Go.RowKit
set_option linter.unusedSimpArgs false
set_option linter.unusedVariables false

/-- A packet's tuple, if it has one. -/
def isT (p : Pk) : Bool := decide (p.h.pr = 6) || (decide (p.h.pr = 17) || (decide (p.h.pr = 1) && echoM p.m.ty p.m.cd))
def zeroTu : Tu := ⟨0, 0, 0, 0, 0⟩
def tupT (p : Pk) : Tu := if p.h.pr = 6 then ⟨p.h.pr, p.h.sr, p.h.ds, p.s.sp, p.s.dp⟩ else if p.h.pr = 17 then ⟨p.h.pr, p.h.sr, p.h.ds, p.u.sp, p.u.dp⟩ else if p.h.pr = 1 ∧ echoM p.m.ty p.m.cd = true then ⟨p.h.pr, p.h.sr, p.h.ds, p.m.rs / 65536, 0⟩ else zeroTu
def OfIs (t : Tu) (x : Bool) (w : World) (e : Ending) (w' : World) : Prop := e = .returned (.tuple #[.agg #[.int .u8 t.pr, .int .u32 t.sr, .int .u32 t.ds, .int .u16 t.sp, .int .u16 t.dp], .bool x]) ∧ Below w.heap.size w w'
end Go.Proofs.YtheknmihnkennaaGreat

/-
  What Hop and Rewrite must do, as the laws ask it (stage 15, written ahead).
-/
namespace Go.Proofs.YtheknmihnkennaaGreat
set_option maxRecDepth 10000
open Go.RowKit
set_option linter.unusedSimpArgs false
set_option linter.unusedVariables false

/-- Bytes of the call's own and an error. -/
def OwnGot (L : List Int) (m : Nat) (x : Int) (w : World) (e : Ending) (w' : World) : Prop := ∃ A c, e = .returned (.tuple #[.slice A m c, .int .i64 x]) ∧ OwnB w' w.heap.size A m c L ∧ Below w.heap.size w w'
/-- The words that become the tuple's. -/
def portK (b : List Int) (t : Tu) : List (Nat × Int) := if b.getD 9 0 = 1 then [(hdW b + 2, t.sp)] else [(hdW b, t.sp), (hdW b + 1, t.dp)]
def rwK (b : List Int) (t : Tu) (hop : Bool) : List (Nat × Int) := [(6, t.sr / 65536), (7, t.sr % 65536), (8, t.ds / 65536), (9, t.ds % 65536)] ++ (portK b t ++ (if hop = true then [hopK b] else []))
/-- What Rewrite tells of any bytes. -/
def errRw (b : List Int) (t : Tu) (hop : Bool) : Int :=
  if errAll b ≠ 0 then errAll b
  else if isT (pkOfB b) = false then 22
  else if t.pr ≠ b.getD 9 0 ∨ (t.pr = 1 ∧ t.dp ≠ 0) then 1
  else if hop = true ∧ b.getD 8 0 = 1 then 23
  else 0
def rwT (b : List Int) (t : Tu) (hop : Bool) : List Int := if errRw b t hop = 0 then rwB b (rwK b t hop) else []
def RwF : Prop := ∀ (A : Option Addr) (n c : Nat) (l : List Int) (t : Tu) (hop : Bool) (w : World) (L : List Int) (m : Nat) (x : Int), n ≤ c ∧ c ≤ maxLen → n ≤ 1600 → Rd w A n l → TuNum t → rwT l t hop = L → L.length = m → errRw l t hop = x →
  Calls Tryz.prog 11 #[.slice A n c, .agg #[.int .u8 t.pr, .int .u32 t.sr, .int .u32 t.ds, .int .u16 t.sp, .int .u16 t.dp], .bool hop] w (OwnGot L m x w)
def AwF : Prop := ∀ w : World, Calls Tryz.prog 8 #[] w (Woke w)
/-- The words of a rewriting may be changed. -/
theorem rw_may {b : List Int} {t : Tu} {hop : Bool} (hb : Bytes b) (ht : TuNum t) (h8 : hop = true → 1 < b.getD 8 0) : ∀ p ∈ rwK b t hop, MayW b p := by
  have h1 := ht.sr; have h2 := ht.ds; have h3 := ht.sp; have h4 := ht.dp
  intro p hp
  unfold rwK at hp
  rcases List.mem_append.1 hp with hp | hp
  · simp only [List.mem_cons, List.not_mem_nil, or_false] at hp
    rcases hp with rfl | rfl | rfl | rfl
    · exact ⟨⟨by simp only; omega, by simp only; omega⟩, .inr (.inl ⟨by simp only; omega, by simp only; omega⟩)⟩
    · exact ⟨⟨by simp only; omega, by simp only; omega⟩, .inr (.inl ⟨by simp only; omega, by simp only; omega⟩)⟩
    · exact ⟨⟨by simp only; omega, by simp only; omega⟩, .inr (.inl ⟨by simp only; omega, by simp only; omega⟩)⟩
    · exact ⟨⟨by simp only; omega, by simp only; omega⟩, .inr (.inl ⟨by simp only; omega, by simp only; omega⟩)⟩
  rcases List.mem_append.1 hp with hp | hp
  · unfold portK at hp
    by_cases hc : b.getD 9 0 = 1
    · rw [if_pos hc] at hp
      rcases List.mem_singleton.1 hp
      exact ⟨⟨by simp only; omega, by simp only; omega⟩, .inr (.inr (.inr ⟨hc, rfl⟩))⟩
    · rw [if_neg hc] at hp
      simp only [List.mem_cons, List.not_mem_nil, or_false] at hp
      rcases hp with rfl | rfl
      · exact ⟨⟨by simp only; omega, by simp only; omega⟩, .inr (.inr (.inl ⟨hc, by simp only; omega, by simp only; omega⟩))⟩
      · exact ⟨⟨by simp only; omega, by simp only; omega⟩, .inr (.inr (.inl ⟨hc, by simp only; omega, by simp only; omega⟩))⟩
  · by_cases hh : hop = true
    · rw [if_pos hh] at hp
      exact hop_may hb (h8 hh) p hp
    · rw [if_neg hh] at hp; cases hp
end Go.Proofs.YtheknmihnkennaaGreat

/-
  culvertlaw15's place and like (stage 15, written ahead).
-/
namespace Go.Proofs.YtheknmihnkennaaGreat
set_option maxRecDepth 10000
open Go.RowKit
set_option linter.unusedSimpArgs false
set_option linter.unusedVariables false

def placeO : Obj := .map #[⟨.int .u8 6, .int .i64 16, 0⟩, ⟨.int .u8 17, .int .i64 6, 1⟩, ⟨.int .u8 1, .int .i64 2, 2⟩] 3
def plc (pr : Int) : Int := if pr = 6 then 16 else if pr = 17 then 6 else if pr = 1 then 2 else 0
theorem place_runs (w : World) : ∃ w1 w2 w3 : World,
    (Instr.mapUpdate 78 (.map (some w.heap.size)) (.int .u8 6) (.int .i64 16)).run Tryz.prog (w.alloc (.map #[] 0)) = .ok () w1 ∧
    (Instr.mapUpdate 78 (.map (some w.heap.size)) (.int .u8 17) (.int .i64 6)).run Tryz.prog w1 = .ok () w2 ∧
    (Instr.mapUpdate 78 (.map (some w.heap.size)) (.int .u8 1) (.int .i64 2)).run Tryz.prog w2 = .ok () w3 ∧
    w3.heap[w.heap.size]? = some placeO ∧ Below w.heap.size w w3 := by
  obtain ⟨w0, e0⟩ : ∃ w0, w.alloc (.map #[] 0) = w0 := ⟨_, rfl⟩
  have k0 : w0.heap[w.heap.size]? = some (.map #[] 0) := by rw [← e0]; exact heap_alloc_new w _
  have b0 : Below w.heap.size w w0 := by rw [← e0]; exact (Below.refl _ _).alloc (Nat.le_refl _) _
  rw [e0]
  have r1 := put_u8 w0 w.heap.size _ _ 6 16 k0 (findU8 _ _ _ (by simp))
  have k1 := setO_at (.map (#[].push ⟨.int .u8 6, .int .i64 16, 0⟩) 1) k0
  have b1 := setO_below (o := .map (#[].push ⟨.int .u8 6, .int .i64 16, 0⟩) 1) b0 (Nat.le_refl _)
  simp only [List.push_toArray, List.nil_append, List.cons_append, Nat.reduceAdd] at r1 k1 b1
  obtain ⟨w1, e1⟩ : ∃ v, setO w0 w.heap.size (.map #[⟨.int .u8 6, .int .i64 16, 0⟩] 1) = v := ⟨_, rfl⟩
  rw [e1] at r1 k1 b1
  clear e1
  have r2 := put_u8 w1 w.heap.size _ _ 17 6 k1 (findU8 _ _ _ (by simp))
  have k2 := setO_at (.map (#[⟨.int .u8 6, .int .i64 16, 0⟩].push ⟨.int .u8 17, .int .i64 6, 1⟩) 2) k1
  have b2 := setO_below (o := .map (#[⟨.int .u8 6, .int .i64 16, 0⟩].push ⟨.int .u8 17, .int .i64 6, 1⟩) 2) b1 (Nat.le_refl _)
  simp only [List.push_toArray, List.nil_append, List.cons_append, Nat.reduceAdd] at r2 k2 b2
  obtain ⟨w2, e2⟩ : ∃ v, setO w1 w.heap.size (.map #[⟨.int .u8 6, .int .i64 16, 0⟩, ⟨.int .u8 17, .int .i64 6, 1⟩] 2) = v := ⟨_, rfl⟩
  rw [e2] at r2 k2 b2
  clear e2
  have r3 := put_u8 w2 w.heap.size _ _ 1 2 k2 (findU8 _ _ _ (by simp))
  have k3 := setO_at (.map (#[⟨.int .u8 6, .int .i64 16, 0⟩, ⟨.int .u8 17, .int .i64 6, 1⟩].push ⟨.int .u8 1, .int .i64 2, 2⟩) 3) k2
  have b3 := setO_below (o := .map (#[⟨.int .u8 6, .int .i64 16, 0⟩, ⟨.int .u8 17, .int .i64 6, 1⟩].push ⟨.int .u8 1, .int .i64 2, 2⟩) 3) b2 (Nat.le_refl _)
  simp only [List.push_toArray, List.nil_append, List.cons_append, Nat.reduceAdd] at r3 k3 b3
  obtain ⟨w3, e3⟩ : ∃ v, setO w2 w.heap.size (.map #[⟨.int .u8 6, .int .i64 16, 0⟩, ⟨.int .u8 17, .int .i64 6, 1⟩, ⟨.int .u8 1, .int .i64 2, 2⟩] 3) = v := ⟨_, rfl⟩
  rw [e3] at r3 k3 b3
  clear e3
  exact ⟨w1, w2, w3, r1, r2, r3, k3, b3⟩
theorem look_place (w : World) (g : Nat) (pr y : Int) (hg : w.heap[g]? = some placeO) (hy : plc pr = y) : (Instr.lookup 78 (.map (some g)) (.int .u8 pr) false).run Tryz.prog w = .ok (.int .i64 y) w := by
  refine look_u8 w g _ _ pr y hg ?_
  subst hy
  by_cases h6 : pr = 6
  · subst h6; exact .inr ⟨0, rfl⟩
  by_cases h17 : pr = 17
  · subst h17; exact .inr ⟨1, rfl⟩
  by_cases h1 : pr = 1
  · subst h1; exact .inr ⟨2, rfl⟩
  exact .inl ⟨findU8 _ _ _ (by simp [h6, h17, h1]), by unfold plc; rw [if_neg h6, if_neg h17, if_neg h1]⟩
def IntIs15 (x : Int) (w : World) (e : Ending) (w' : World) : Prop := e = .returned (.int .i64 x) ∧ Below w.heap.size w w'
theorem place_any (p : Pk) (a : PkA) (w : World) (x : Int) (hx : 20 + (a.nH : Int) + plc p.h.pr = x) (hn : a.nH ≤ 1000000) :
    Calls Tryz.prog 12 #[.agg #[.int .u8 p.h.to, .int .u16 p.h.id, .bool p.h.df, .int .u8 p.h.tt, .int .u8 p.h.pr, .int .u32 p.h.sr, .int .u32 p.h.ds, .slice a.AH a.nH a.cH, .int .u16 p.s.sp, .int .u16 p.s.dp, .int .u32 p.s.sq, .int .u32 p.s.ak, .int .u8 p.s.fl, .int .u16 p.s.wn, .int .u16 p.s.ug, .slice a.AO a.nO a.cO, .slice a.AD a.nD a.cD, .int .u16 p.u.sp, .int .u16 p.u.dp, .slice a.AU a.nU a.cU, .int .u8 p.m.ty, .int .u8 p.m.cd, .int .u32 p.m.rs, .slice a.AM a.nM a.cM]] w (IntIs15 x w) := by
  obtain ⟨z, hz⟩ : ∃ z, w.heap.size = z := ⟨_, rfl⟩
  obtain ⟨w0, ew⟩ : ∃ w0, w.alloc (.cells #[.int .u8 p.h.to, .int .u16 p.h.id, .bool p.h.df, .int .u8 p.h.tt, .int .u8 p.h.pr, .int .u32 p.h.sr, .int .u32 p.h.ds, .slice a.AH a.nH a.cH, .int .u16 p.s.sp, .int .u16 p.s.dp, .int .u32 p.s.sq, .int .u32 p.s.ak, .int .u8 p.s.fl, .int .u16 p.s.wn, .int .u16 p.s.ug, .slice a.AO a.nO a.cO, .slice a.AD a.nD a.cD, .int .u16 p.u.sp, .int .u16 p.u.dp, .slice a.AU a.nU a.cU, .int .u8 p.m.ty, .int .u8 p.m.cd, .int .u32 p.m.rs, .slice a.AM a.nM a.cM] 35) = w0 := ⟨_, rfl⟩
  have hb0 : Below w.heap.size w w0 := by rw [← ew]; exact (Below.refl _ _).alloc (Nat.le_refl _) _
  have hk0 : w0.heap[z]? = some (.cells #[.int .u8 p.h.to, .int .u16 p.h.id, .bool p.h.df, .int .u8 p.h.tt, .int .u8 p.h.pr, .int .u32 p.h.sr, .int .u32 p.h.ds, .slice a.AH a.nH a.cH, .int .u16 p.s.sp, .int .u16 p.s.dp, .int .u32 p.s.sq, .int .u32 p.s.ak, .int .u8 p.s.fl, .int .u16 p.s.wn, .int .u16 p.s.ug, .slice a.AO a.nO a.cO, .slice a.AD a.nD a.cD, .int .u16 p.u.sp, .int .u16 p.u.dp, .slice a.AU a.nU a.cU, .int .u8 p.m.ty, .int .u8 p.m.cd, .int .u32 p.m.rs, .slice a.AM a.nM a.cM] 35 (0, 0)) := by rw [← ew, ← hz]; exact heap_alloc_new w _
  obtain ⟨w1, w2, w3, r1, r2, r3, k3, b3⟩ := place_runs w0
  have hmk := run_makeMap_plain (P := Tryz.prog) w0 78
  obtain ⟨wm, em⟩ : ∃ v, w0.alloc (.map #[] 0) = v := ⟨_, rfl⟩
  rw [em] at hmk r1
  obtain ⟨y, ey⟩ : ∃ y, plc p.h.pr = y := ⟨_, rfl⟩
  have hy : 0 ≤ y ∧ y ≤ 16 := by
    rw [← ey]; unfold plc
    split
    · decide
    · split
      · decide
      · split <;> decide
  have hl := look_place w3 w0.heap.size p.h.pr y k3 ey
  have c7 := (cells24 hk0).2.2.2.2.2.2.2.1
  have c4 := (cells24 (blk_on hk0 b3)).2.2.2.2.1
  rw [ey] at hx
  have wr1 : IntKind.i64.wrap (20 + (a.nH : Int)) = 20 + (a.nH : Int) := IntWalk.i64_in _ (by omega)
  have wr2 : IntKind.i64.wrap (20 + (a.nH : Int) + y) = x := by rw [hx]; exact IntWalk.i64_in _ (by omega)
  have HB := Lib.hid (below_trans hb0 b3)
  have Ew := Lib.hid ew
  have Hz := Lib.hid hz
  clear hz ew hb0 hk0 k3 b3 em ey hx hy
  go_enter Tryz.func12, Tryz.ntmps12
  go_upto_region 1 with (fail)
  rw [Ew.out]
  try rw [Hz.out]
  go_wp2_with fail
  go_ret
  exact ⟨rfl, HB.out⟩

def TrueIs15 (w : World) (e : Ending) (w' : World) : Prop := e = .returned (.bool true) ∧ Below w.heap.size w w'
theorem wraps16_ (n : Int) (h₀ : 0 ≤ n) (h₁ : n < 65536) : IntKind.u16.wrap n = n := by simp [IntKind.wrap, IntKind.bits, IntKind.signed]; omega
set_option maxHeartbeats 1000000 in
theorem like15_any (A B : Option Addr) (n c m d j : Nat) (k : Nat) (l r : List Int) (w : World) (hA : Rd w A n l) (hB : Rd w B m r) (hj : j = 2 * k) (h1 : j + 1 < n) (h2 : j + 1 < m) (hn : n ≤ 1600) (hlk : likeB (wordL l k) (wordL r k) = true) :
    Calls Tryz.prog 13 #[.slice A n c, .slice B m d, .int .i64 (j : Int)] w (TrueIs15 w) := by
  have a0 := getD_mem l hA.byte j
  have a1 := getD_mem l hA.byte (j + 1)
  have b0 := getD_mem r hB.byte j
  have b1 := getD_mem r hB.byte (j + 1)
  obtain ⟨p0, r0, c0, l0⟩ := hA.index (c := c) (j := j) (by omega)
  obtain ⟨p1, r1, c1, l1⟩ := hA.index (c := c) (j := j + 1) (by omega)
  obtain ⟨p2, r2, c2, l2⟩ := hB.index (c := d) (j := j) (by omega)
  obtain ⟨p3, r3, c3, l3⟩ := hB.index (c := d) (j := j + 1) (by omega)
  unfold wordL at hlk
  rw [← hj] at hlk
  obtain ⟨u0, e0⟩ : ∃ v, l.getD j 0 = v := ⟨_, rfl⟩
  obtain ⟨u1, e1⟩ : ∃ v, l.getD (j + 1) 0 = v := ⟨_, rfl⟩
  obtain ⟨v0, e2⟩ : ∃ v, r.getD j 0 = v := ⟨_, rfl⟩
  obtain ⟨v1, e3⟩ : ∃ v, r.getD (j + 1) 0 = v := ⟨_, rfl⟩
  rw [e0] at a0 c0 hlk
  rw [e1] at a1 c1 hlk
  rw [e2] at b0 c2 hlk
  rw [e3] at b1 c3 hlk
  have o1 := or16 u0 u1 a0 a1
  have o2 := or16 v0 v1 b0 b1
  have s1 : IntKind.u16.wrap u0 = u0 := wraps16_ _ (by omega) (by omega)
  have s2 : IntKind.u16.wrap u1 = u1 := wraps16_ _ (by omega) (by omega)
  have s3 : IntKind.u16.wrap v0 = v0 := wraps16_ _ (by omega) (by omega)
  have s4 : IntKind.u16.wrap v1 = v1 := wraps16_ _ (by omega) (by omega)
  have s5 : IntKind.u16.wrap (u0 * 256) = u0 * 256 := wraps16_ _ (by omega) (by omega)
  have s6 : IntKind.u16.wrap (v0 * 256) = v0 * 256 := wraps16_ _ (by omega) (by omega)
  have wj : IntKind.i64.wrap ((j : Int) + 1) = (j : Int) + 1 := IntWalk.i64_in _ (by omega)
  have ej : ((j + 1 : Nat) : Int) = (j : Int) + 1 := by omega
  rw [ej] at r1 r3
  clear ej
  obtain ⟨x, ex⟩ : ∃ x, u0 * 256 + u1 = x := ⟨_, rfl⟩
  obtain ⟨y, ey⟩ : ∃ y, v0 * 256 + v1 = y := ⟨_, rfl⟩
  rw [ex] at o1 hlk
  rw [ey] at o2 hlk
  have Hlk := Lib.hid hlk
  clear e0 e1 e2 e3 l0 l1 l2 l3 a0 a1 b0 b1 hA hB hj h1 h2 hn hlk ex ey
  go_enter Tryz.func13, Tryz.ntmps13
  go_upto_region 1 with (fail)
  have HBd := Lib.hid (Below.drew (Below.refl w.heap.size w))
  refine wp_region_held_drew (S := fun w' => w'.cell? p0 = some (.int .u8 u0) ∧ w'.cell? p1 = some (.int .u8 u1) ∧ w'.cell? p2 = some (.int .u8 v0) ∧ w'.cell? p3 = some (.int .u8 v1)) (by kernel_rfl) ⟨c0, c1, c2, c3⟩ (fun hHeld => ?_)
  obtain ⟨wd, ewd⟩ : ∃ wd, w.drew = wd := ⟨_, rfl⟩
  rw [ewd] at HBd hHeld ⊢
  clear ewd
  refine tk 0 ?_ rfl ?_ ?_
  rotate_left
  · intro w' hSw; (go_simp <;> (with_reducible rfl))
  try simp only [Act.put, putL]
  refine tk 1 ?_ rfl ?_ ?_
  rotate_left
  · intro w' hSw; (go_simp <;> (with_reducible rfl))
  try simp only [Act.put, putL]
  refine tk 2 ?_ rfl ?_ ?_
  rotate_left
  · intro w' hSw; (go_simp <;> (with_reducible rfl))
  try simp only [Act.put, putL]
  refine tk 3 ?_ rfl ?_ ?_
  rotate_left
  · intro w' hSw; (go_simp <;> (with_reducible rfl))
  try simp only [Act.put, putL]
  refine tk 4 ?_ rfl ?_ ?_
  rotate_left
  · intro w' hSw; (go_simp <;> (with_reducible rfl))
  try simp only [Act.put, putL]
  refine tk 5 ?_ rfl ?_ ?_
  rotate_left
  · intro w' hSw; (go_simp <;> (with_reducible rfl))
  try simp only [Act.put, putL]
  refine tk 6 ?_ rfl ?_ ?_
  rotate_left
  · intro w' hSw; (go_simp <;> (with_reducible rfl))
  try simp only [Act.put, putL]
  refine tk 7 ?_ rfl ?_ ?_
  rotate_left
  · intro w' hSw; (go_simp <;> (with_reducible rfl))
  try simp only [Act.put, putL]
  refine tk 8 ?_ rfl ?_ ?_
  rotate_left
  · intro w' hSw; (go_simp <;> (with_reducible rfl))
  try simp only [Act.put, putL]
  refine tk 9 ?_ rfl ?_ ?_
  rotate_left
  · intro w' hSw; (go_simp <;> (with_reducible rfl))
  try simp only [Act.put, putL]
  refine tk 10 ?_ rfl ?_ ?_
  rotate_left
  · intro w' hSw; (go_simp <;> (with_reducible rfl))
  try simp only [Act.put, putL]
  refine tk 11 ?_ rfl ?_ ?_
  rotate_left
  · intro w' hSw; (go_simp <;> (with_reducible rfl))
  try simp only [Act.put, putL]
  refine tk 12 ?_ rfl ?_ ?_
  rotate_left
  · intro w' hSw; (go_simp <;> (with_reducible rfl))
  try simp only [Act.put, putL]
  refine tk 13 ?_ rfl ?_ ?_
  rotate_left
  · intro w' hSw; (go_simp <;> (with_reducible rfl))
  try simp only [Act.put, putL]
  refine tk 14 ?_ rfl ?_ ?_
  rotate_left
  · intro w' hSw; (go_simp <;> (with_reducible rfl))
  try simp only [Act.put, putL]
  refine tk 15 ?_ rfl ?_ ?_
  rotate_left
  · intro w' hSw; (go_simp <;> (with_reducible rfl))
  try simp only [Act.put, putL]
  refine tk 16 ?_ rfl ?_ ?_
  rotate_left
  · intro w' hSw; (go_simp <;> (with_reducible rfl))
  try simp only [Act.put, putL]
  refine tk 17 ?_ rfl ?_ ?_
  rotate_left
  · intro w' hSw; (go_simp <;> (with_reducible rfl))
  try simp only [Act.put, putL]
  refine tk 18 ?_ rfl ?_ ?_
  rotate_left
  · intro w' hSw; (go_simp <;> (with_reducible rfl))
  try simp only [Act.put, putL]
  refine tk 19 ?_ rfl ?_ ?_
  rotate_left
  · intro w' hSw; (go_simp <;> (with_reducible rfl))
  try simp only [Act.put, putL]
  refine tk 20 ?_ rfl ?_ ?_
  rotate_left
  · intro w' hSw; (go_simp <;> (with_reducible rfl))
  try simp only [Act.put, putL]
  refine tk 21 ?_ rfl ?_ ?_
  rotate_left
  · intro w' hSw; (go_simp <;> (with_reducible rfl))
  try simp only [Act.put, putL]
  refine tk 22 ?_ rfl ?_ ?_
  rotate_left
  · intro w' hSw; (go_simp <;> (with_reducible rfl))
  try simp only [Act.put, putL]
  refine tk 23 ?_ rfl ?_ ?_
  rotate_left
  · intro w' hSw; (go_simp <;> (with_reducible rfl))
  try simp only [Act.put, putL]
  refine tk 24 ?_ rfl ?_ ?_
  rotate_left
  · intro w' hSw; (go_simp <;> (with_reducible rfl))
  try simp only [Act.put, putL]
  refine tk 25 ?_ rfl ?_ ?_
  rotate_left
  · intro w' hSw; (go_simp <;> (with_reducible rfl))
  try simp only [Act.put, putL]
  refine tk 26 ?_ rfl ?_ ?_
  rotate_left
  · intro w' hSw; (go_simp <;> (with_reducible rfl))
  try simp only [Act.put, putL]
  refine tk 27 ?_ rfl ?_ ?_
  rotate_left
  · intro w' hSw; (go_simp <;> (with_reducible rfl))
  try simp only [Act.put, putL]
  refine wpAnyH_done (by kernel_rfl) ?_ _
  clear hHeld
  clear r0 r1 r2 r3 c0 c1 c2 c3 o1 o2 s1 s2 s3 s4 s5 s6 wj
  by_cases hxy : x = y
  · subst hxy
    clear Hlk
    go_wp2_with fail
    go_ret
    exact ⟨rfl, HBd.out⟩
  · have h := Hlk.out
    unfold likeB at h
    simp [hxy] at h
    rcases h with ⟨rfl, rfl⟩ | ⟨rfl, rfl⟩
    · clear Hlk hxy
      go_wp2_with fail
      go_ret
      exact ⟨rfl, HBd.out⟩
    · clear Hlk hxy
      go_wp2_with fail
      go_ret
      exact ⟨rfl, HBd.out⟩
end Go.Proofs.YtheknmihnkennaaGreat

/-
  By way of another tuple: plain facts (stage 15, written ahead).
-/
namespace Go.Proofs.YtheknmihnkennaaGreat
set_option maxRecDepth 10000
open Go.RowKit
set_option linter.unusedSimpArgs false
set_option linter.unusedVariables false

/-- A tuple of the bytes' own protocol. -/
def ownT (b : List Int) (t : Tu) : Tu := ⟨b.getD 9 0, t.sr, t.ds, t.sp, if b.getD 9 0 = 1 then 0 else t.dp⟩
theorem ownT_num {b : List Int} {t : Tu} (hb : Bytes b) (ht : TuNum t) : TuNum (ownT b t) := by
  refine ⟨getD_mem b hb 9, ht.sr, ht.ds, ht.sp, ?_⟩
  unfold ownT
  simp only
  split
  · decide
  · exact ht.dp
theorem tup_pr {p : Pk} (h : isT p = true) : (tupT p).pr = p.h.pr := by
  unfold isT at h
  unfold tupT
  by_cases h6 : p.h.pr = 6
  · rw [if_pos h6]
  by_cases h17 : p.h.pr = 17
  · rw [if_neg h6, if_pos h17]
  simp [h6, h17] at h
  rw [if_neg h6, if_neg h17, if_pos h]
theorem rw_ok {b : List Int} {t : Tu} (he : errAll b = 0) (hT : isT (pkOfB b) = true) : errRw b (ownT b t) false = 0 ∧ rwT b (ownT b t) false = rwB b (rwK b (ownT b t) false) := by
  have e : errRw b (ownT b t) false = 0 := by
    unfold errRw
    rw [if_neg (by omega), if_neg (by rw [hT]; decide), if_neg, if_neg (fun h => absurd h.1 (by decide))]
    rintro (h | ⟨h1, h2⟩)
    · exact h rfl
    · have h3 : b.getD 9 0 = 1 := h1
      exact h2 (by unfold ownT; simp only; rw [if_pos h3])
  exact ⟨e, by unfold rwT; rw [if_pos e]⟩
theorem own_may {b : List Int} {t : Tu} (hb : Bytes b) (ht : TuNum t) : ∀ p ∈ rwK b (ownT b t) false, MayW b p := rw_may hb (ownT_num hb ht) (fun h => by cases h)
/-- What is rewritten has a tuple still. -/
theorem rw_isT {b : List Int} {t : Tu} (hb : Bytes b) (he : errAll b = 0) (hT : isT (pkOfB b) = true) (ht : TuNum t) : isT (pkOfB (rwB b (rwK b (ownT b t) false))) = true := by
  obtain ⟨k1, k2, k3, k4, k5, k6⟩ := rw_kept hb he (own_may hb ht)
  have hl := pk_lay hb he
  have hkeys := may_keys hb he (own_may (t := t) hb ht)
  have hat : ∀ {i : Nat}, i / 2 ≠ 5 → i / 2 ≠ fldW b → (rwB b (rwK b (ownT b t) false)).getD i 0 = _ := rwW_byte (pr := b.getD 9 0) _ hl hkeys
  unfold isT at hT ⊢
  rw [pkOfB_h, hd_pr] at hT ⊢
  rw [k5]
  by_cases h6 : b.getD 9 0 = 6
  · simp only [h6, decide_true, Bool.true_or]
  by_cases h17 : b.getD 9 0 = 17
  · simp only [h17, decide_true, Bool.true_or, Bool.or_true]
  have h1 : b.getD 9 0 = 1 := by
    have := errAll_pr he
    rw [hd_pr] at this
    omega
  have hm : ∀ c : List Int, c.getD 9 0 = 1 → (pkOfB c).m = msgOf (restOf c) := fun c hc => by
    unfold pkOfB
    rw [hd_pr, if_neg (by omega), if_neg (by omega)]
  rw [hm b h1] at hT
  rw [hm _ (k5.trans h1)]
  have hH := (pk_w hb he).hH
  have hH' := (pk_w k2 k1).hH
  have e4 : hdW (rwB b (rwK b (ownT b t) false)) = hdW b := k4
  rw [e4] at hH'
  have hF : fldW b = hdW b + 1 := by unfold fldW; rw [if_neg h6, if_neg h17]
  have h10 := hl.h10
  have hno : lastW (rwK b (ownT b t) false) (hdW b) = none := lastW_none.2 (fun p hp e => by
    have hp2 : p ∈ ([(6, t.sr / 65536), (7, t.sr % 65536), (8, t.ds / 65536), (9, t.ds % 65536)] : List (Nat × Int)) ++ [(hdW b + 2, t.sp)] := by
      have h := hp
      unfold rwK portK at h
      rw [if_pos h1] at h
      simpa [ownT] using h
    simp at hp2
    rcases hp2 with rfl | rfl | rfl | rfl | rfl <;> simp only at e <;> omega)
  have ety : (msgOf (restOf (rwB b (rwK b (ownT b t) false)))).ty = (msgOf (restOf b)).ty := by
    unfold msgOf
    simp only
    rw [rest_at _ _ 0 hH', rest_at _ _ 0 hH, Nat.add_zero, hat (by omega) (by omega), show 2 * hdW b / 2 = hdW b by omega, hno]
  have ecd : (msgOf (restOf (rwB b (rwK b (ownT b t) false)))).cd = (msgOf (restOf b)).cd := by
    unfold msgOf
    simp only
    rw [rest_at _ _ 1 hH', rest_at _ _ 1 hH, hat (by omega) (by omega), show (2 * hdW b + 1) / 2 = hdW b by omega, hno]
  rw [ety, ecd]
  exact hT
/-- By way of another tuple. -/
structure ChainIs (b : List Int) (t o : Tu) (x y z : List Int) (F : Nat) : Prop where
  e1 : errRw b (ownT b t) false = 0
  e2 : errRw b (ownT b o) false = 0
  e3 : errRw y (ownT b t) false = 0
  ex : rwT b (ownT b t) false = x
  ey : rwT b (ownT b o) false = y
  ez : rwT y (ownT b t) false = z
  lx : x.length = b.length
  ly : y.length = b.length
  lz : z.length = b.length
  bx : Bytes x
  by_ : Bytes y
  bz : Bytes z
  ag : ∀ i, i / 2 ≠ 5 → i / 2 ≠ F → x.getD i 0 = z.getD i 0
  h : likeB (wordL x 5) (wordL z 5) = true
  p : likeB (wordL x F) (wordL z F) = true
  f10 : 10 ≤ F
  len : 2 * F + 1 < b.length
  pl : 20 + ((pkOfB b).h.o.length : Int) + plc (pkOfB b).h.pr = ((2 * F : Nat) : Int)
theorem chain_is {b : List Int} {t o : Tu} (hb : Bytes b) (he : errAll b = 0) (hT : isT (pkOfB b) = true) (ht : TuNum t) (ho : TuNum o) :
    ∃ x y z, ChainIs b t o x y z (fldW b) := by
  have hl := pk_lay hb he
  obtain ⟨kx1, kx2, kx3, kx4, kx5, kx6⟩ := rw_kept hb he (own_may (t := t) hb ht)
  obtain ⟨ky1, ky2, ky3, ky4, ky5, ky6⟩ := rw_kept hb he (own_may (t := o) hb ho)
  have hyT := rw_isT hb he hT ho
  obtain ⟨y, ey⟩ : ∃ y, rwB b (rwK b (ownT b o) false) = y := ⟨_, rfl⟩
  rw [ey] at ky1 ky2 ky3 ky4 ky5 ky6 hyT
  have e9 : hdW y = hdW b := ky4
  have eo : ownT y t = ownT b t := by unfold ownT; rw [ky5]
  have ef : fldW y = fldW b := by unfold fldW; rw [ky5, e9]
  have ek : rwK y (ownT b t) false = rwK b (ownT b t) false := by unfold rwK portK; rw [ky5, e9]; rfl
  obtain ⟨kz1, kz2, kz3, kz4, kz5, kz6⟩ := rw_kept ky2 ky1 (own_may (b := y) (t := t) ky2 ht)
  obtain ⟨x1, x2⟩ := rw_ok (t := t) he hT
  obtain ⟨y1, y2⟩ := rw_ok (t := o) he hT
  obtain ⟨z1, z2⟩ := rw_ok (t := t) ky1 hyT
  rw [eo, ek] at kz1 kz2 kz3 kz4 kz5 kz6
  rw [eo] at z1 z2
  rw [ek] at z2
  rw [ky5, e9, ef] at kz6
  have hk1 := may_keys hb he (own_may (t := t) hb ht)
  have hk2 := may_keys hb he (own_may (t := o) hb ho)
  have hz : rwB y (rwK b (ownT b t) false) = rwW (b.getD 9 0) (hdW b) (fldW b) (rwW (b.getD 9 0) (hdW b) (fldW b) b (rwK b (ownT b o) false)) (rwK b (ownT b t) false) := by
    unfold rwB at ey ⊢
    rw [ey, ky5, e9, ef]
  have hag : AgreeW (fldW b) (rwB b (rwK b (ownT b t) false)) (rwB y (rwK b (ownT b t) false)) := by
    rw [hz]
    refine chain_agree hl hk1 hk2 (fun k hk => ?_)
    obtain ⟨p, hp, e⟩ := hk
    unfold rwK portK at hp ⊢
    by_cases h1 : b.getD 9 0 = 1
    · rw [if_pos h1] at hp ⊢
      simp [ownT] at hp ⊢
      rcases hp with rfl | rfl | rfl | rfl | rfl <;> simp at e <;> omega
    · rw [if_neg h1] at hp ⊢
      simp [ownT] at hp ⊢
      rcases hp with rfl | rfl | rfl | rfl | rfl | rfl <;> simp at e <;> omega
  have hsz := ky6.trans kz6
  refine ⟨_, y, _, ⟨x1, y1, z1, x2, y2.trans ey, z2, kx3, ky3, kz3.trans ky3, kx2, ky2, kz2, hag.2, head_like kx6 hsz hag, load_like kx6 hsz hag, Nat.le_trans hl.h10 hl.hF, hl.len, ?_⟩⟩
  have hw := (errIp_parts b).1 (errAll_ip he)
  have hH := (pk_w hb he).hH
  have hpr := errAll_pr he
  rw [pkOfB_h]
  have ho_ : (hdOf b).o.length = (hdrL b).toNat - 20 := by
    unfold hdOf
    simp only [List.length_take, List.length_drop]
    omega
  have h10 := hl.h10
  rw [hd_pr] at hpr ⊢
  rw [ho_, hH]
  unfold fldW plc
  rcases hpr with h | h | h
  · rw [if_pos h, if_pos h]; omega
  · rw [if_neg (by omega), if_pos h, if_neg (by omega), if_pos h]; omega
  · rw [if_neg (by omega), if_neg (by omega), if_pos h, if_neg (by omega), if_neg (by omega)]; omega
end Go.Proofs.YtheknmihnkennaaGreat
