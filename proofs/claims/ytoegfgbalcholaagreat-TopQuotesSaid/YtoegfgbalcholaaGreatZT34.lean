/-
  Texts laid together: NatH, TupVal, TupRef, NatFace.
-/
import Derived.Test.YtoegfgbalcholaaGreatZT33
import Derived.Test.YtoegfgbalcholaaGreatZT03
import Derived.Test.YtoegfgbalcholaaGreatZT06
import Derived.Test.YtoegfgbalcholaaGreatZT07
import Derived.Test.YtoegfgbalcholaaGreatZT20
import Derived.Laws.StructEq
import Derived.Test.YtoegfgbalcholaaGreatZT21
import Derived.Deep.CutRange
import Derived.RegionTactic

/-
  One hop: a packet's bytes with a Ttl less one (stage 15, written ahead). Plain lists.
-/
namespace Go.Proofs.YtoegfgbalcholaaGreat
set_option maxRecDepth 10000
open Go.RowKit
set_option linter.unusedSimpArgs false
set_option linter.unusedVariables false

/-- The word of Ttl and Proto, with one less. -/
def hopK (b : List Int) : Nat × Int := (4, (b.getD 8 0 - 1) * 256 + b.getD 9 0)
theorem hop_may {b : List Int} (hb : Bytes b) (ht : 1 < b.getD 8 0) : ∀ p ∈ [hopK b], MayW b p := by
  intro p hp
  rcases List.mem_singleton.1 hp
  have h8 := getD_mem b hb 8
  have h9 := getD_mem b hb 9
  refine ⟨⟨?_, ?_⟩, .inl ⟨rfl, ?_, ?_⟩⟩ <;> simp only [hopK] <;> omega
end Go.Proofs.YtoegfgbalcholaaGreat

/-
  Tuples (api.Tuple) as values: their cells, how the run holds one against another; two results of which the first is a tuple.
-/
namespace Go.Proofs.YtoegfgbalcholaaGreat
set_option maxRecDepth 10000
open Go.RowKit
set_option linter.unusedSimpArgs false
set_option linter.unusedVariables false

def tuSame (t u : Tu) : Bool := t.pr == u.pr && (t.sr == u.sr && (t.ds == u.ds && (t.sp == u.sp && t.dp == u.dp)))
theorem tuSame_iff (t u : Tu) : tuSame t u = true ↔ t = u := by
  obtain ⟨a, b, c, d, e⟩ := t
  obtain ⟨a', b', c', d', e'⟩ := u
  simp [tuSame]
theorem tuSame_self (t : Tu) : tuSame t t = true := (tuSame_iff t t).2 rfl
theorem tu_eql (t u : Tu) (w : World) : (binOp .eql 37 (.agg #[.int .u8 t.pr, .int .u32 t.sr, .int .u32 t.ds, .int .u16 t.sp, .int .u16 t.dp]) (.agg #[.int .u8 u.pr, .int .u32 u.sr, .int .u32 u.ds, .int .u16 u.sp, .int .u16 u.dp])).run Tryz.prog w = .ok (.bool (tuSame t u)) w := by
  rw [run_eql_struct, run_equalIn_struct w 9999 37 _ _ (by kernel_rfl) (by kernel_rfl)]
  unfold tuSame
  obtain ⟨a, b, c, d, e⟩ := t
  obtain ⟨a', b', c', d', e'⟩ := u
  go_simp
  repeat' split
  all_goals simp_all
theorem cells5 {w : World} {g : Nat} {u0 u1 u2 u3 u4 : Value} {t : TypeId} (h : w.heap[g]? = some (.cells #[u0, u1, u2, u3, u4] t (0, 0))) : w.cell? ⟨g, 0, none⟩ = some u0 ∧ w.cell? ⟨g, 1, none⟩ = some u1 ∧ w.cell? ⟨g, 2, none⟩ = some u2 ∧ w.cell? ⟨g, 3, none⟩ = some u3 ∧ w.cell? ⟨g, 4, none⟩ = some u4 := ⟨by rw [blk_cell h]; rfl, by rw [blk_cell h]; rfl, by rw [blk_cell h]; rfl, by rw [blk_cell h]; rfl, by rw [blk_cell h]; rfl⟩
theorem set5_blk {w : World} {q : Nat} {u0 u1 u2 u3 u4 : Value} {t : TypeId} (h : w.heap[q]? = some (.cells #[u0, u1, u2, u3, u4] t (0, 0))) (v0 v1 v2 v3 v4 : Value) :
    (((((w.setCell ⟨q, 0, none⟩ v0).setCell ⟨q, 1, none⟩ v1).setCell ⟨q, 2, none⟩ v2).setCell ⟨q, 3, none⟩ v3).setCell ⟨q, 4, none⟩ v4).heap[q]? = some (.cells #[v0, v1, v2, v3, v4] t (0, 0)) := by
  simp [World.setCell, Array.getElem?_modify, h]
theorem set5_below {B : Nat} {w0 w : World} {q : Nat} (h : Below B w0 w) (hq : B ≤ q) (v0 v1 v2 v3 v4 : Value) :
    Below B w0 (((((w.setCell ⟨q, 0, none⟩ v0).setCell ⟨q, 1, none⟩ v1).setCell ⟨q, 2, none⟩ v2).setCell ⟨q, 3, none⟩ v3).setCell ⟨q, 4, none⟩ v4) :=
  ((((h.setCell (p := ⟨q, 0, none⟩) hq v0).setCell (p := ⟨q, 1, none⟩) hq v1).setCell (p := ⟨q, 2, none⟩) hq v2).setCell (p := ⟨q, 3, none⟩) hq v3).setCell (p := ⟨q, 4, none⟩) hq v4
theorem set_blk {w : World} {q i : Nat} {C : Array Value} {t : TypeId} {fr : Nat × Nat} (h : w.heap[q]? = some (.cells C t fr)) (v : Value) : (w.setCell ⟨q, i, none⟩ v).heap[q]? = some (.cells (C.set! i v) t fr) := by
  simp [World.setCell, Array.getElem?_modify, h]
end Go.Proofs.YtoegfgbalcholaaGreat

/-
  The document's own answers for tuples (culvertref10): Reverse, Of, Bytes, Compare.
-/
namespace Go.Proofs.YtoegfgbalcholaaGreat
set_option maxRecDepth 10000
open Go.RowKit
set_option linter.unusedSimpArgs false
set_option linter.unusedVariables false

/-- A packet's tuple, if it has one. -/
def isT (p : Pk) : Bool := decide (p.h.pr = 6) || (decide (p.h.pr = 17) || (decide (p.h.pr = 1) && echoM p.m.ty p.m.cd))
def zeroTu : Tu := ⟨0, 0, 0, 0, 0⟩
def tupT (p : Pk) : Tu := if p.h.pr = 6 then ⟨p.h.pr, p.h.sr, p.h.ds, p.s.sp, p.s.dp⟩ else if p.h.pr = 17 then ⟨p.h.pr, p.h.sr, p.h.ds, p.u.sp, p.u.dp⟩ else if p.h.pr = 1 ∧ echoM p.m.ty p.m.cd = true then ⟨p.h.pr, p.h.sr, p.h.ds, p.m.rs / 65536, 0⟩ else zeroTu
def OfIs (t : Tu) (x : Bool) (w : World) (e : Ending) (w' : World) : Prop := e = .returned (.tuple #[.agg #[.int .u8 t.pr, .int .u32 t.sr, .int .u32 t.ds, .int .u16 t.sp, .int .u16 t.dp], .bool x]) ∧ Below w.heap.size w w'
end Go.Proofs.YtoegfgbalcholaaGreat

/-
  What Hop and Rewrite must do, as the laws ask it (stage 15, written ahead).
-/
namespace Go.Proofs.YtoegfgbalcholaaGreat
set_option maxRecDepth 10000
open Go.RowKit
set_option linter.unusedSimpArgs false
set_option linter.unusedVariables false

/-- Bytes of the call's own and an error. -/
def OwnGot (L : List Int) (m : Nat) (x : Int) (w : World) (e : Ending) (w' : World) : Prop := ∃ A c, e = .returned (.tuple #[.slice A m c, .int .i64 x]) ∧ OwnB w' w.heap.size A m c L ∧ Below w.heap.size w w'
/-- The words that become the tuple's. -/
def portK (b : List Int) (t : Tu) : List (Nat × Int) := if b.getD 9 0 = 1 then [(hdW b + 2, t.sp)] else [(hdW b, t.sp), (hdW b + 1, t.dp)]
def rwK (b : List Int) (t : Tu) (hop : Bool) : List (Nat × Int) := [(6, t.sr / 65536), (7, t.sr % 65536), (8, t.ds / 65536), (9, t.ds % 65536)] ++ (portK b t ++ (if hop = true then [hopK b] else []))
/-- What Rewrite tells of any bytes. -/
def errRw (b : List Int) (t : Tu) (hop : Bool) : Int :=
  if errAll b ≠ 0 then errAll b
  else if isT (pkOfB b) = false then 22
  else if t.pr ≠ b.getD 9 0 ∨ (t.pr = 1 ∧ t.dp ≠ 0) then 1
  else if hop = true ∧ b.getD 8 0 = 1 then 23
  else 0
def rwT (b : List Int) (t : Tu) (hop : Bool) : List Int := if errRw b t hop = 0 then rwB b (rwK b t hop) else []
/-- The words of a rewriting may be changed. -/
theorem rw_may {b : List Int} {t : Tu} {hop : Bool} (hb : Bytes b) (ht : TuNum t) (h8 : hop = true → 1 < b.getD 8 0) : ∀ p ∈ rwK b t hop, MayW b p := by
  have h1 := ht.sr; have h2 := ht.ds; have h3 := ht.sp; have h4 := ht.dp
  intro p hp
  unfold rwK at hp
  rcases List.mem_append.1 hp with hp | hp
  · simp only [List.mem_cons, List.not_mem_nil, or_false] at hp
    rcases hp with rfl | rfl | rfl | rfl
    · exact ⟨⟨by simp only; omega, by simp only; omega⟩, .inr (.inl ⟨by simp only; omega, by simp only; omega⟩)⟩
    · exact ⟨⟨by simp only; omega, by simp only; omega⟩, .inr (.inl ⟨by simp only; omega, by simp only; omega⟩)⟩
    · exact ⟨⟨by simp only; omega, by simp only; omega⟩, .inr (.inl ⟨by simp only; omega, by simp only; omega⟩)⟩
    · exact ⟨⟨by simp only; omega, by simp only; omega⟩, .inr (.inl ⟨by simp only; omega, by simp only; omega⟩)⟩
  rcases List.mem_append.1 hp with hp | hp
  · unfold portK at hp
    by_cases hc : b.getD 9 0 = 1
    · rw [if_pos hc] at hp
      rcases List.mem_singleton.1 hp
      exact ⟨⟨by simp only; omega, by simp only; omega⟩, .inr (.inr (.inr ⟨hc, rfl⟩))⟩
    · rw [if_neg hc] at hp
      simp only [List.mem_cons, List.not_mem_nil, or_false] at hp
      rcases hp with rfl | rfl
      · exact ⟨⟨by simp only; omega, by simp only; omega⟩, .inr (.inr (.inl ⟨hc, by simp only; omega, by simp only; omega⟩))⟩
      · exact ⟨⟨by simp only; omega, by simp only; omega⟩, .inr (.inr (.inl ⟨hc, by simp only; omega, by simp only; omega⟩))⟩
  · by_cases hh : hop = true
    · rw [if_pos hh] at hp
      exact hop_may hb (h8 hh) p hp
    · rw [if_neg hh] at hp; cases hp
end Go.Proofs.YtoegfgbalcholaaGreat
