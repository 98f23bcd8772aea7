/-
  A pool that lies in no block of Z: its calls leave those blocks as they are. Two pools that lie apart.
-/
import Derived.Test.YtlifldionfoddaaPoolWakes
import Derived.LaidEqlPtr
namespace Go.Proofs.Ytlifldionfoddaa
set_option maxRecDepth 10000
open Go.RowKit
set_option linter.unusedSimpArgs false
set_option linter.unusedVariables false

def PZ (Z : Nat → Prop) (w : World) (g : Nat) (s : AP) : Prop := ∃ S, PoolAt w S g s ∧ ∀ k, S k → ¬ Z k
def ZDoes (Z : Nat → Prop) (g : Nat) (s : AP) (v : Value) (w : World) (e : Ending) (w' : World) : Prop := e = .returned v ∧ PZ Z w' g s ∧ But (fun k => ¬ Z k) w w'
theorem PZ.below {Z : Nat → Prop} {w w' : World} {g : Nat} {s : AP} (h : PZ Z w g s) (hb : Below w.heap.size w w') : PZ Z w' g s := by
  obtain ⟨S, hp, hS⟩ := h
  exact ⟨S, hp.below hb, hS⟩
/-- What turns Z's blocks alone, and new ones. -/
theorem PZ.but {Z T : Nat → Prop} {w w' : World} {g : Nat} {s : AP} (h : PZ Z w g s) (hb : But T w w') (hT : ∀ k, T k → Z k) : PZ Z w' g s := by
  obtain ⟨S, hp, hS⟩ := h
  exact ⟨S, hp.but hb (fun k hk ht => hS k hk (hT k ht)), hS⟩
/-- A block that was not there yet may be Z's from now on. -/
theorem PZ.more {Z Z' : Nat → Prop} {w : World} {g : Nat} {s : AP} (h : PZ Z w g s) (hZ : ∀ k, k < w.heap.size → Z' k → Z k) : PZ Z' w g s := by
  obtain ⟨S, hp, hS⟩ := h
  exact ⟨S, hp, fun k hk hz => hS k hk (hZ k (hp.lt k hk) hz)⟩
theorem ZDoes.of {Z S : Nat → Prop} {g : Nat} {s : AP} {v : Value} {w : World} {e : Ending} {w' : World} (hZ : ∀ k, Z k → k < w.heap.size) (hS : ∀ k, S k → ¬ Z k) (h : PoolDoes S g s v w e w') : ZDoes Z g s v w e w' := by
  obtain ⟨rfl, S', hp, hb, hs⟩ := h
  exact ⟨rfl, ⟨S', hp, fun k hk hz => by
    rcases hs k hk with h1 | h1
    · exact hS k h1 hz
    · have := hZ k hz
      omega⟩, hb.mono (fun k _ hk => hS k hk)⟩
theorem take_z (Z : Nat → Prop) (g : Nat) (s s' : AP) (t p x : Int) (w : World) (h : PZ Z w g s) (hZ : ∀ k, Z k → k < w.heap.size) (ht : 0 ≤ t ∧ t < 18446744073709551616) (hp : takeP s t = p) (hx : takeE s t = x) (hs : takeA s t = s') :
    Calls Try.prog 13 #[.pointer (some ⟨g, 0, none⟩), .int .u64 t] w (ZDoes Z g s' (.tuple #[.int .u16 p, .int .i64 x]) w) := by
  obtain ⟨S, h1, hS⟩ := h
  subst hp; subst hx; subst hs
  exact (take_any s S g t w h1 ht).mono (fun e w' => ZDoes.of hZ hS)
theorem give_z (Z : Nat → Prop) (g : Nat) (s s' : AP) (p t x : Int) (w : World) (h : PZ Z w g s) (hZ : ∀ k, Z k → k < w.heap.size) (hp : 0 ≤ p ∧ p < 65536) (ht : 0 ≤ t ∧ t < 18446744073709551616) (hx : giveE s p t = x) (hs : giveA s p t = s') :
    Calls Try.prog 10 #[.pointer (some ⟨g, 0, none⟩), .int .u16 p, .int .u64 t] w (ZDoes Z g s' (.int .i64 x) w) := by
  obtain ⟨S, h1, hS⟩ := h
  subst hx; subst hs
  exact (give_any s S g p t w h1 hp ht).mono (fun e w' => ZDoes.of hZ hS)
theorem taken_z (Z : Nat → Prop) (g : Nat) (s : AP) (p : Int) (x : Bool) (w : World) (h : PZ Z w g s) (hZ : ∀ k, Z k → k < w.heap.size) (hp : 0 ≤ p ∧ p < 65536) (hx : takenA s p = x) :
    Calls Try.prog 14 #[.pointer (some ⟨g, 0, none⟩), .int .u16 p] w (ZDoes Z g s (.bool x) w) := by
  obtain ⟨S, h1, hS⟩ := h
  subst hx
  exact (taken_any s S g p w h1 hp).mono (fun e w' => ZDoes.of hZ hS)
theorem count_z (Z : Nat → Prop) (g : Nat) (s : AP) (n : Nat) (w : World) (h : PZ Z w g s) (hZ : ∀ k, Z k → k < w.heap.size) (hx : countA s = n) :
    Calls Try.prog 12 #[.pointer (some ⟨g, 0, none⟩)] w (ZDoes Z g s (.int .i64 (n : Int)) w) := by
  obtain ⟨S, h1, hS⟩ := h
  subst hx
  exact (count_any s S g w h1).mono (fun e w' => ZDoes.of hZ hS)
theorem free_z (Z : Nat → Prop) (g : Nat) (s s' : AP) (t : Int) (n : Nat) (w : World) (h : PZ Z w g s) (hZ : ∀ k, Z k → k < w.heap.size) (ht : 0 ≤ t ∧ t < 18446744073709551616) (hx : freeN s t = n) (hs : freeA s t = s') :
    Calls Try.prog 11 #[.pointer (some ⟨g, 0, none⟩), .int .u64 t] w (ZDoes Z g s' (.int .i64 (n : Int)) w) := by
  obtain ⟨S, h1, hS⟩ := h
  subst hx; subst hs
  exact (free_any s S g t w h1 ht).mono (fun e w' => ZDoes.of hZ hS)
/-- Quietly: Count, Taken only read. -/
theorem count_q (Z : Nat → Prop) (g : Nat) (s : AP) (w : World) (h : PZ Z w g s) : Calls Try.prog 12 #[.pointer (some ⟨g, 0, none⟩)] w (QuietIs (.int .i64 (countA s : Nat)) w) := by
  obtain ⟨S, ⟨gp, cp, gm, vE, R, q, hm, hq, ha⟩, hS⟩ := h
  rw [ha.count]
  obtain ⟨k0, k1, k2, k3, k4, k5, k6, k7, k8, k9⟩ := cells10 hm.box
  exact count_quiet g _ w k0 k6
theorem taken_q (Z : Nat → Prop) (g : Nat) (s : AP) (p : Int) (w : World) (h : PZ Z w g s) (hp : 0 ≤ p ∧ p < 65536) : Calls Try.prog 14 #[.pointer (some ⟨g, 0, none⟩), .int .u16 p] w (QuietIs (.bool (takenA s p)) w) := by
  obtain ⟨S, ⟨gp, cp, gm, vE, R, q, hm, hq, ha⟩, hS⟩ := h
  rw [taken_abs ha]
  have := hq.lo; have := hq.hi; have := hq.n
  exact taken_quiet g gp cp q.lo p q.st _ w (hm.looks (by omega) (by omega)) hp rfl
/-- Two pools that lie apart. -/
def TwoZ (Z : Nat → Prop) (w : World) (g g2 : Nat) (s s2 : AP) : Prop := ∃ S S2, PoolAt w S g s ∧ PoolAt w S2 g2 s2 ∧ (∀ k, S k → ¬ Z k) ∧ (∀ k, S2 k → ¬ Z k) ∧ ∀ k, S k → ¬ S2 k
theorem TwoZ.symm {Z : Nat → Prop} {w : World} {g g2 : Nat} {s s2 : AP} (h : TwoZ Z w g g2 s s2) : TwoZ Z w g2 g s2 s := by
  obtain ⟨S, S2, h1, h2, h3, h4, h5⟩ := h
  exact ⟨S2, S, h2, h1, h4, h3, fun k hk hk2 => h5 k hk2 hk⟩
theorem TwoZ.one {Z : Nat → Prop} {w : World} {g g2 : Nat} {s s2 : AP} (h : TwoZ Z w g g2 s s2) : PZ Z w g s := by
  obtain ⟨S, S2, h1, h2, h3, h4, h5⟩ := h
  exact ⟨S, h1, h3⟩
theorem TwoZ.below {Z : Nat → Prop} {w w' : World} {g g2 : Nat} {s s2 : AP} (h : TwoZ Z w g g2 s s2) (hb : Below w.heap.size w w') : TwoZ Z w' g g2 s s2 := by
  obtain ⟨S, S2, h1, h2, h3, h4, h5⟩ := h
  exact ⟨S, S2, h1.below hb, h2.below hb, h3, h4, h5⟩
theorem TwoZ.more {Z Z' : Nat → Prop} {w : World} {g g2 : Nat} {s s2 : AP} (h : TwoZ Z w g g2 s s2) (hZ : ∀ k, k < w.heap.size → Z' k → Z k) : TwoZ Z' w g g2 s s2 := by
  obtain ⟨S, S2, h1, h2, h3, h4, h5⟩ := h
  exact ⟨S, S2, h1, h2, fun k hk hz => h3 k hk (hZ k (h1.lt k hk) hz), fun k hk hz => h4 k hk (hZ k (h2.lt k hk) hz), h5⟩
theorem TwoZ.ne {Z : Nat → Prop} {w : World} {g g2 : Nat} {s s2 : AP} (h : TwoZ Z w g g2 s s2) : g ≠ g2 := by
  obtain ⟨S, S2, h1, h2, h3, h4, h5⟩ := h
  rintro rfl
  exact h5 g h1.self h2.self
def TwoDo (Z : Nat → Prop) (g g2 : Nat) (s s2 : AP) (v : Value) (w : World) (e : Ending) (w' : World) : Prop := e = .returned v ∧ TwoZ Z w' g g2 s s2 ∧ But (fun k => ¬ Z k) w w'
theorem TwoDo.of {Z S S2 : Nat → Prop} {g g2 : Nat} {s s2 : AP} {v : Value} {w : World} {e : Ending} {w' : World} (hZ : ∀ k, Z k → k < w.heap.size) (hS : ∀ k, S k → ¬ Z k) (h2 : PoolAt w S2 g2 s2) (hS2 : ∀ k, S2 k → ¬ Z k) (hd : ∀ k, S k → ¬ S2 k) (h : PoolDoes S g s v w e w') : TwoDo Z g g2 s s2 v w e w' := by
  obtain ⟨rfl, S', hp, hb, hs⟩ := h
  refine ⟨rfl, ⟨S', S2, hp, h2.but hb (fun k hk hk2 => hd k hk2 hk), fun k hk hz => ?_, hS2, fun k hk hk2 => ?_⟩, hb.mono (fun k _ hk => hS k hk)⟩
  · rcases hs k hk with h1 | h1
    · exact hS k h1 hz
    · have := hZ k hz
      omega
  · rcases hs k hk with h1 | h1
    · exact hd k h1 hk2
    · have := h2.lt k hk2
      omega
theorem take_two (Z : Nat → Prop) (g g2 : Nat) (s s2 s' : AP) (t p x : Int) (w : World) (h : TwoZ Z w g g2 s s2) (hZ : ∀ k, Z k → k < w.heap.size) (ht : 0 ≤ t ∧ t < 18446744073709551616) (hp : takeP s t = p) (hx : takeE s t = x) (hs : takeA s t = s') :
    Calls Try.prog 13 #[.pointer (some ⟨g, 0, none⟩), .int .u64 t] w (TwoDo Z g g2 s' s2 (.tuple #[.int .u16 p, .int .i64 x]) w) := by
  obtain ⟨S, S2, h1, h2, h3, h4, h5⟩ := h
  subst hp; subst hx; subst hs
  exact (take_any s S g t w h1 ht).mono (fun e w' => TwoDo.of hZ h3 h2 h4 h5)
theorem give_two (Z : Nat → Prop) (g g2 : Nat) (s s2 s' : AP) (p t x : Int) (w : World) (h : TwoZ Z w g g2 s s2) (hZ : ∀ k, Z k → k < w.heap.size) (hp : 0 ≤ p ∧ p < 65536) (ht : 0 ≤ t ∧ t < 18446744073709551616) (hx : giveE s p t = x) (hs : giveA s p t = s') :
    Calls Try.prog 10 #[.pointer (some ⟨g, 0, none⟩), .int .u16 p, .int .u64 t] w (TwoDo Z g g2 s' s2 (.int .i64 x) w) := by
  obtain ⟨S, S2, h1, h2, h3, h4, h5⟩ := h
  subst hx; subst hs
  exact (give_any s S g p t w h1 hp ht).mono (fun e w' => TwoDo.of hZ h3 h2 h4 h5)
/-- A copy, beside what was there. -/
def CopyZ (Z : Nat → Prop) (g : Nat) (s : AP) (w : World) (e : Ending) (w' : World) : Prop := ∃ g2, e = .returned (.pointer (some ⟨g2, 0, none⟩)) ∧ TwoZ Z w' g g2 s s ∧ PZ (fun k => k < w.heap.size) w' g2 s ∧ Below w.heap.size w w'
theorem copy_z (Z : Nat → Prop) (g : Nat) (s : AP) (w : World) (h : PZ Z w g s) (hZ : ∀ k, Z k → k < w.heap.size) :
    Calls Try.prog 15 #[.pointer (some ⟨g, 0, none⟩)] w (CopyZ Z g s w) := by
  obtain ⟨S, h1, hS⟩ := h
  refine (copy_any s S g w h1).mono ?_
  rintro e w' ⟨g2, S2, rfl, h2, hS2, hb⟩
  refine ⟨g2, rfl, ⟨S, S2, h1.below hb, h2, hS, fun k hk hz => ?_, fun k hk hk2 => ?_⟩, ⟨S2, h2, fun k hk hz => ?_⟩, hb⟩
  · have := hZ k hz; have := hS2 k hk; omega
  · have := h1.lt k hk; have := hS2 k hk2; omega
  · have := hS2 k hk; omega
theorem eql_other (a b : Nat) (w : World) {C C' : Array Value} {T T' : TypeId} (ha : w.heap[a]? = some (.cells C T (0, 0))) (hb : w.heap[b]? = some (.cells C' T' (0, 0))) (hne : a ≠ b) :
    (binOp .eql 28 (.pointer (some ⟨a, 0, none⟩)) (.pointer (some ⟨b, 0, none⟩))).run Try.prog w = .ok (.bool false) w ∧ (binOp .neq 28 (.pointer (some ⟨a, 0, none⟩)) (.pointer (some ⟨b, 0, none⟩))).run Try.prog w = .ok (.bool true) w := by
  have hi : (Try.prog.info? 52).map (·.size) = some 10 := by kernel_rfl
  obtain ⟨j, hj, hsz⟩ := Option.map_eq_some_iff.1 hi
  have hsz0 : j.size ≠ 0 := by omega
  have hne' : (⟨a, 0, none⟩ : Addr) ≠ ⟨b, 0, none⟩ := fun e => hne (by injection e)
  refine ⟨run_eql_ptr_other w Try.underlying28 hj hsz0 hne' ha hb, ?_⟩
  have h : ∀ d : Nat, (Op.equalIn (d + 1) 28 (.pointer (some ⟨a, 0, none⟩)) (.pointer (some ⟨b, 0, none⟩))).run Try.prog w = .ok false w := fun d => by
    simp [Op.equalIn, run_underlying Try.underlying28, sizeOf, typeInfo, hj, hsz0, run_sameAddr_other w hne' ha hb]
  simp only [binOp]
  simp [Op.equal, Op.maxDepth, h 9999]
theorem TwoZ.eql {Z : Nat → Prop} {w : World} {g g2 : Nat} {s s2 : AP} (h : TwoZ Z w g g2 s s2) :
    (binOp .eql 28 (.pointer (some ⟨g2, 0, none⟩)) (.pointer (some ⟨g, 0, none⟩))).run Try.prog w = .ok (.bool false) w ∧ (binOp .neq 28 (.pointer (some ⟨g2, 0, none⟩)) (.pointer (some ⟨g, 0, none⟩))).run Try.prog w = .ok (.bool true) w := by
  have hne := h.ne
  obtain ⟨S, S2, h1, h2, h3, h4, h5⟩ := h
  obtain ⟨C, T, hC⟩ := h1.blk
  obtain ⟨C', T', hC'⟩ := h2.blk
  exact eql_other g2 g w hC' hC (fun e => hne e.symm)
end Go.Proofs.Ytlifldionfoddaa
