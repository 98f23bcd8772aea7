/-
  A table in no block of Z: its calls turn no block of Z.
-/
import Derived.Test.YtnhlbohdlnjaaaaTbTold
namespace Go.Proofs.Ytnhlbohdlnjaaaa
set_option maxRecDepth 10000
open Go.RowKit
set_option linter.unusedSimpArgs false
set_option linter.unusedVariables false

def TZ (Z : Nat → Prop) (w : World) (g : Nat) (M last : Int) (L : TL) : Prop := ∃ S, TAt w S g M last L ∧ (∀ k, S k → ¬ Z k) ∧ ∀ k, Z k → k < w.heap.size
def TZDo (Z : Nat → Prop) (g : Nat) (M last : Int) (L : TL) (v : Value) (w : World) (e : Ending) (w' : World) : Prop := e = .returned v ∧ TZ Z w' g M last L ∧ But (fun k => ¬ Z k) w w'
section
variable {Z : Nat → Prop} {w w' : World} {g : Nat} {M last : Int} {L : TL}
theorem TZ.ok (h : TZ Z w g M last L) : okF M last L := by
  obtain ⟨S, h1, _⟩ := h
  exact h1.ok
theorem TZ.sub {Z' : Nat → Prop} (h : TZ Z w g M last L) (hz : ∀ k, Z' k → Z k) : TZ Z' w g M last L := by
  obtain ⟨S, h1, h2, h3⟩ := h
  exact ⟨S, h1, fun k hk e => h2 k hk (hz k e), fun k hk => h3 k (hz k hk)⟩
/-- Something beyond turns. -/
theorem TZ.but {T : Nat → Prop} (h : TZ Z w g M last L) (hb : But T w w') (hT : ∀ k, T k → Z k ∨ w.heap.size ≤ k) : TZ Z w' g M last L := by
  obtain ⟨S, h1, h2, h3⟩ := h
  refine ⟨S, h1.but hb (fun k hk ht => ?_), h2, fun k hk => hb.lt (h3 k hk)⟩
  rcases hT k ht with e | e
  · exact h2 k hk e
  · have := h1.lt k hk; omega
theorem TZ.below (h : TZ Z w g M last L) (hb : Below w.heap.size w w') : TZ Z w' g M last L := h.but (But.of (S := fun _ => False) hb) (fun _ h => h.elim)
theorem TZ.drewN (h : TZ Z w g M last L) (n : Nat) : TZ Z (w.drewN n) g M last L := h.but (T := fun _ => False) ((But.refl _ _).drewN n) (fun _ h => h.elim)
/-- Blocks that are laid: Z's from now on. -/
theorem TZ.more {P : Nat → Prop} (h : TZ Z w g M last L) (hb : Below w.heap.size w w') (hP : ∀ k, P k → w.heap.size ≤ k ∧ k < w'.heap.size) : TZ (fun k => Z k ∨ P k) w' g M last L := by
  obtain ⟨S, h1, h2, h3⟩ := h
  refine ⟨S, h1.below hb, fun k hk e => ?_, fun k hk => ?_⟩
  · rcases e with e | e
    · exact h2 k hk e
    · have := h1.lt k hk; have := hP k e; omega
  · rcases hk with e | e
    · exact (But.of (S := fun _ => False) hb).lt (h3 k e)
    · exact (hP k e).2
theorem TOwn.z {B : Nat} (h : TOwn B w g M last L) (hB : B ≤ w.heap.size) : TZ (fun k => k < B) w g M last L := by
  obtain ⟨S, h1, h2⟩ := h
  exact ⟨S, h1, fun k hk e => by have := h2 k hk; omega, fun k hk => by omega⟩
theorem TZDo.of {S : Nat → Prop} {v : Value} {e : Ending} (h2 : ∀ k, S k → ¬ Z k) (h3 : ∀ k, Z k → k < w.heap.size) (h : TDoes S g M last L v w e w') : TZDo Z g M last L v w e w' := by
  obtain ⟨rfl, S', hp, hb, hs⟩ := h
  refine ⟨rfl, ⟨S', hp, fun k hk e => ?_, fun k hk => hb.lt (h3 k hk)⟩, hb.mono (fun k _ e => h2 k e)⟩
  rcases hs k hk with e2 | e2
  · exact h2 k e2 e
  · have := h3 k e; omega
theorem TZDo.tells {v : Value} {e : Ending} (h : TZ Z w g M last L) (ht : TellsT v w e w') : TZDo Z g M last L v w e w' :=
  ⟨ht.1, h.below ht.2, But.of ht.2⟩
theorem belT {B : Nat} (hb : But (fun k => ¬ Z k) w w') (hZ : ∀ k, k < B → Z k) (hB : B ≤ w.heap.size) : Below B w w' :=
  hb.below (fun k hk => by rcases Nat.lt_or_ge k B with h | h; exact absurd (hZ k h) hk; exact h) hB
end
section
variable (Z : Nat → Prop) (g : Nat) (M last : Int) (L : TL) (w : World) (h : TZ Z w g M last L)
include h
theorem add_z (a b : Tu) (n wt er last' : Int) (L' : TL) (hl : last < 1000000) (hx : addF M last a b L = ((n, wt, er), L', last')) :
    Calls Try.prog 13 #[.pointer (some ⟨g, 0, none⟩), .agg #[.int .u8 a.pr, .int .u32 a.sr, .int .u32 a.ds, .int .u16 a.sp, .int .u16 a.dp], .agg #[.int .u8 b.pr, .int .u32 b.sr, .int .u32 b.ds, .int .u16 b.sp, .int .u16 b.dp]] w (TZDo Z g M last' L' (.tuple #[.int .u64 n, .int .u64 wt, .int .i64 er]) w) := by
  obtain ⟨S, h1, h2, h3⟩ := h
  exact (add_t S g M last L w h1 a b n wt er last' L' hl hx).mono (fun e w' => TZDo.of h2 h3)
theorem touch_z (id er : Int) (L' : TL) (hx : touchR id L = (er, L')) : Calls Try.prog 11 #[.pointer (some ⟨g, 0, none⟩), .int .u64 id] w (TZDo Z g M last L' (.int .i64 er) w) := by
  obtain ⟨S, h1, h2, h3⟩ := h
  exact (touch_t S g M last L w h1 id er L' hx).mono (fun e w' => TZDo.of h2 h3)
theorem ready_z (id er : Int) (L' : TL) (hx : readyR id L = (er, L')) : Calls Try.prog 18 #[.pointer (some ⟨g, 0, none⟩), .int .u64 id] w (TZDo Z g M last L' (.int .i64 er) w) := by
  obtain ⟨S, h1, h2, h3⟩ := h
  exact (ready_t S g M last L w h1 id er L' hx).mono (fun e w' => TZDo.of h2 h3)
theorem drop_z (id er : Int) (L' : TL) (hx : dropR id L = (er, L')) : Calls Try.prog 20 #[.pointer (some ⟨g, 0, none⟩), .int .u64 id] w (TZDo Z g M last L' (.int .i64 er) w) := by
  obtain ⟨S, h1, h2, h3⟩ := h
  exact (drop_t S g M last L w h1 id er L' hx).mono (fun e w' => TZDo.of h2 h3)
theorem lead_z (id er : Int) (x : Tu) (L' : TL) (hx : leadR id x L = (er, L')) : Calls Try.prog 15 #[.pointer (some ⟨g, 0, none⟩), .int .u64 id, .agg #[.int .u8 x.pr, .int .u32 x.sr, .int .u32 x.ds, .int .u16 x.sp, .int .u16 x.dp]] w (TZDo Z g M last L' (.int .i64 er) w) := by
  obtain ⟨S, h1, h2, h3⟩ := h
  exact (lead_t S g M last L w h1 id er x L' hx).mono (fun e w' => TZDo.of h2 h3)
theorem inner_z (t : Tu) (id : Int) (is_ : Bool) (h1 : idOf (innF t L) = id) (h2 : isOf (innF t L) = is_) : Calls Try.prog 23 #[.pointer (some ⟨g, 0, none⟩), .agg #[.int .u8 t.pr, .int .u32 t.sr, .int .u32 t.ds, .int .u16 t.sp, .int .u16 t.dp]] w (TellsT (.tuple #[.int .u64 id, .bool is_]) w) := by
  obtain ⟨S, hp, _⟩ := h
  exact inner_t S g M last L w hp t id is_ h1 h2
theorem outer_z (t : Tu) (id : Int) (is_ : Bool) (h1 : idOf (outF t L) = id) (h2 : isOf (outF t L) = is_) : Calls Try.prog 25 #[.pointer (some ⟨g, 0, none⟩), .agg #[.int .u8 t.pr, .int .u32 t.sr, .int .u32 t.ds, .int .u16 t.sp, .int .u16 t.dp]] w (TellsT (.tuple #[.int .u64 id, .bool is_]) w) := by
  obtain ⟨S, hp, _⟩ := h
  exact outer_t S g M last L w hp t id is_ h1 h2
theorem flow_z (id : Int) (f : Fl) (is_ : Bool) (hx : flowR id L = (f, is_)) : Calls Try.prog 27 #[.pointer (some ⟨g, 0, none⟩), .int .u64 id] w (TellsT (.tuple #[.agg (flV f).toArray, .bool is_]) w) := by
  obtain ⟨S, hp, _⟩ := h
  exact flow_t S g M last L w hp id f is_ hx
theorem len_z (n : Nat) (hn : L.length = n) : Calls Try.prog 12 #[.pointer (some ⟨g, 0, none⟩)] w (JustIs (.int .i64 (n : Int)) w) := by
  obtain ⟨S, hp, _⟩ := h
  exact len_t S g M last L w hp n hn
theorem all_z : Calls Try.prog 30 #[.pointer (some ⟨g, 0, none⟩)] w (CloneIsF L w) := by
  obtain ⟨S, hp, _⟩ := h
  exact all_t S g M last L w hp
end
end Go.Proofs.Ytnhlbohdlnjaaaa
