/-
  A table and the document's own, side by side, in no block of Z: a call of one leaves the other, and Z, as they are.
-/
import Derived.Test.YtnhlbohdlnjaaaaTbSame
namespace Go.Proofs.Ytnhlbohdlnjaaaa
set_option maxRecDepth 10000
open Go.RowKit
set_option linter.unusedSimpArgs false
set_option linter.unusedVariables false
/-- Own table g (l, L), the document's gr (lr, R). -/
def PairT (Z : Nat → Prop) (w : World) (g : Nat) (M l : Int) (L : TL) (gr : Nat) (lr : Int) (R : TL) : Prop :=
  ∃ S SR : Nat → Prop, TAt w S g M l L ∧ RefT w SR gr M lr R ∧ (∀ k, S k → ¬ SR k ∧ ¬ Z k) ∧ (∀ k, SR k → ¬ Z k) ∧ ∀ k, Z k → k < w.heap.size
def PTDo (Z : Nat → Prop) (g : Nat) (M l : Int) (L : TL) (gr : Nat) (lr : Int) (R : TL) (v : Value) (w : World) (e : Ending) (w' : World) : Prop :=
  e = .returned v ∧ PairT Z w' g M l L gr lr R ∧ But (fun k => ¬ Z k) w w'
section
variable {Z : Nat → Prop} {w w' : World} {g gr : Nat} {M l lr : Int} {L R : TL}
theorem PairT.ok (h : PairT Z w g M l L gr lr R) : okF M l L := by
  obtain ⟨S, SR, h1, _⟩ := h
  exact h1.ok
theorem RefT.lt {S : Nat → Prop} {g : Nat} {M last : Int} {L : TL} (h : RefT w S g M last L) : ∀ k, S k → k < w.heap.size := by
  obtain ⟨_, _, _, _, _, h5⟩ := h
  exact h5
theorem PairT.sub {Z' : Nat → Prop} (h : PairT Z w g M l L gr lr R) (hz : ∀ k, Z' k → Z k) : PairT Z' w g M l L gr lr R := by
  obtain ⟨S, SR, h1, h2, h3, h4, h5⟩ := h
  exact ⟨S, SR, h1, h2, fun k hk => ⟨(h3 k hk).1, fun e => (h3 k hk).2 (hz k e)⟩, fun k hk e => h4 k hk (hz k e), fun k hk => h5 k (hz k hk)⟩
theorem PairT.but {T : Nat → Prop} (h : PairT Z w g M l L gr lr R) (hb : But T w w') (hT : ∀ k, T k → Z k ∨ w.heap.size ≤ k) : PairT Z w' g M l L gr lr R := by
  obtain ⟨S, SR, h1, h2, h3, h4, h5⟩ := h
  refine ⟨S, SR, h1.but hb (fun k hk ht => ?_), h2.but hb (fun k hk ht => ?_), h3, h4, fun k hk => hb.lt (h5 k hk)⟩
  · rcases hT k ht with e | e
    · exact (h3 k hk).2 e
    · have := h1.lt k hk; omega
  · rcases hT k ht with e | e
    · exact h4 k hk e
    · have := h2.lt k hk; omega
theorem PairT.below (h : PairT Z w g M l L gr lr R) (hb : Below w.heap.size w w') : PairT Z w' g M l L gr lr R := h.but (But.of (S := fun _ => False) hb) (fun _ h => h.elim)
theorem PairT.drewN (h : PairT Z w g M l L gr lr R) (n : Nat) : PairT Z (w.drewN n) g M l L gr lr R := h.but (T := fun _ => False) ((But.refl _ _).drewN n) (fun _ h => h.elim)
/-- Blocks that are laid: Z's from now on. -/
theorem PairT.more {P : Nat → Prop} (h : PairT Z w g M l L gr lr R) (hb : Below w.heap.size w w') (hP : ∀ k, P k → w.heap.size ≤ k ∧ k < w'.heap.size) : PairT (fun k => Z k ∨ P k) w' g M l L gr lr R := by
  obtain ⟨S, SR, h1, h2, h3, h4, h5⟩ := h
  refine ⟨S, SR, h1.below hb, h2.below hb, fun k hk => ⟨(h3 k hk).1, fun e => ?_⟩, fun k hk e => ?_, fun k hk => ?_⟩
  · rcases e with e | e
    · exact (h3 k hk).2 e
    · have := h1.lt k hk; have := hP k e; omega
  · rcases e with e | e
    · exact h4 k hk e
    · have := h2.lt k hk; have := hP k e; omega
  · rcases hk with e | e
    · exact (But.of (S := fun _ => False) hb).lt (h5 k e)
    · exact (hP k e).2
theorem ptdo_own {S SR : Nat → Prop} {l' : Int} {L' : TL} {v : Value} {e : Ending} (h2 : RefT w SR gr M lr R) (h3 : ∀ k, S k → ¬ SR k ∧ ¬ Z k) (h4 : ∀ k, SR k → ¬ Z k) (h5 : ∀ k, Z k → k < w.heap.size) (h : TDoes S g M l' L' v w e w') : PTDo Z g M l' L' gr lr R v w e w' := by
  obtain ⟨rfl, S', hp, hb, hs⟩ := h
  refine ⟨rfl, ⟨S', SR, hp, h2.but hb (fun k hk e => (h3 k e).1 hk), fun k hk => ?_, h4, fun k hk => hb.lt (h5 k hk)⟩, hb.mono (fun k _ e => (h3 k e).2)⟩
  rcases hs k hk with e | e
  · exact h3 k e
  · exact ⟨fun e2 => by have := h2.lt k e2; omega, fun e2 => by have := h5 k e2; omega⟩
theorem ptdo_ref {S SR : Nat → Prop} {lr' : Int} {R' : TL} {v : Value} {e : Ending} (h1 : TAt w S g M l L) (h3 : ∀ k, S k → ¬ SR k ∧ ¬ Z k) (h4 : ∀ k, SR k → ¬ Z k) (h5 : ∀ k, Z k → k < w.heap.size) (h : RDoes SR gr M lr' R' v w e w') : PTDo Z g M l L gr lr' R' v w e w' := by
  obtain ⟨rfl, S', hp, hb, hs⟩ := h
  refine ⟨rfl, ⟨S, S', h1.but hb (fun k hk e => (h3 k hk).1 e), hp, fun k hk => ⟨fun e2 => ?_, (h3 k hk).2⟩, fun k hk e2 => ?_, fun k hk => hb.lt (h5 k hk)⟩, hb.mono (fun k _ e => h4 k e)⟩
  · rcases hs k e2 with e | e
    · exact (h3 k hk).1 e
    · have := h1.lt k hk; omega
  · rcases hs k hk with e | e
    · exact h4 k e e2
    · have := h5 k e2; omega
/-- The document's rows, read. -/
theorem PairT.row (h : PairT Z w g M l L gr lr R) : ∃ A c, w.cell? ⟨gr, 0, none⟩ = some (.slice A R.length c) ∧ SlV w 54 12 (.slice A R.length c) R.length (flatF R) ∧ gr < w.heap.size ∧ ¬ Z gr ∧ ∀ b, (Value.slice A R.length c).ownBlock = some b → ¬ Z b ∧ b < w.heap.size := by
  obtain ⟨S, SR, h1, h2, h3, h4, h5⟩ := h
  obtain ⟨A, c, hg, hs, hSg, hSu, hlt, _⟩ := h2.row
  exact ⟨A, c, blk_cell hg 0, hs, hlt _ hSg, h4 _ hSg, fun b hb => ⟨h4 _ (hSu b hb), hlt _ (hSu b hb)⟩⟩
end
section
variable (Z : Nat → Prop) (g gr : Nat) (M l lr : Int) (L R : TL) (w : World) (h : PairT Z w g M l L gr lr R)
include h
theorem qadd (t x : Tu) (n wt er l' : Int) (L' : TL) (hl : l < 1000000) (hx : addF M l t x L = ((n, wt, er), L', l')) :
    Calls Try.prog 13 #[.pointer (some ⟨g, 0, none⟩), .agg #[.int .u8 t.pr, .int .u32 t.sr, .int .u32 t.ds, .int .u16 t.sp, .int .u16 t.dp], .agg #[.int .u8 x.pr, .int .u32 x.sr, .int .u32 x.ds, .int .u16 x.sp, .int .u16 x.dp]] w (PTDo Z g M l' L' gr lr R (.tuple #[.int .u64 n, .int .u64 wt, .int .i64 er]) w) := by
  obtain ⟨S, SR, h1, h2, h3, h4, h5⟩ := h
  exact (add_t S g M l L w h1 t x n wt er l' L' hl hx).mono (fun e w' => ptdo_own h2 h3 h4 h5)
theorem qradd (t x : Tu) (n wt er l' : Int) (R' : TL) (hn : R.length ≤ 1000000) (hl : 0 ≤ lr ∧ lr ≤ 1000000) (hx : addF M lr t x R = ((n, wt, er), R', l')) :
    Calls Try.prog 14 #[.pointer (some ⟨gr, 0, none⟩), .agg #[.int .u8 t.pr, .int .u32 t.sr, .int .u32 t.ds, .int .u16 t.sp, .int .u16 t.dp], .agg #[.int .u8 x.pr, .int .u32 x.sr, .int .u32 x.ds, .int .u16 x.sp, .int .u16 x.dp]] w (PTDo Z g M l L gr l' R' (.tuple #[.int .u64 n, .int .u64 wt, .int .i64 er]) w) := by
  obtain ⟨S, SR, h1, h2, h3, h4, h5⟩ := h
  exact (radd_t SR gr M lr R w h2 hn t x n wt er l' R' hl hx).mono (fun e w' => ptdo_ref h1 h3 h4 h5)
theorem qtouch (id er : Int) (L' : TL) (hx : touchR id L = (er, L')) : Calls Try.prog 11 #[.pointer (some ⟨g, 0, none⟩), .int .u64 id] w (PTDo Z g M l L' gr lr R (.int .i64 er) w) := by
  obtain ⟨S, SR, h1, h2, h3, h4, h5⟩ := h
  exact (touch_t S g M l L w h1 id er L' hx).mono (fun e w' => ptdo_own h2 h3 h4 h5)
theorem qrtouch (id er : Int) (R' : TL) (hn : R.length ≤ 1000000) (hx : touchR id R = (er, R')) : Calls Try.prog 17 #[.pointer (some ⟨gr, 0, none⟩), .int .u64 id] w (PTDo Z g M l L gr lr R' (.int .i64 er) w) := by
  obtain ⟨S, SR, h1, h2, h3, h4, h5⟩ := h
  exact (rtouch_t SR gr M lr R w h2 hn id er R' hx).mono (fun e w' => ptdo_ref h1 h3 h4 h5)
theorem qready (id er : Int) (L' : TL) (hx : readyR id L = (er, L')) : Calls Try.prog 18 #[.pointer (some ⟨g, 0, none⟩), .int .u64 id] w (PTDo Z g M l L' gr lr R (.int .i64 er) w) := by
  obtain ⟨S, SR, h1, h2, h3, h4, h5⟩ := h
  exact (ready_t S g M l L w h1 id er L' hx).mono (fun e w' => ptdo_own h2 h3 h4 h5)
theorem qrready (id er : Int) (R' : TL) (hn : R.length ≤ 1000000) (hx : readyR id R = (er, R')) : Calls Try.prog 19 #[.pointer (some ⟨gr, 0, none⟩), .int .u64 id] w (PTDo Z g M l L gr lr R' (.int .i64 er) w) := by
  obtain ⟨S, SR, h1, h2, h3, h4, h5⟩ := h
  exact (rready_t SR gr M lr R w h2 hn id er R' hx).mono (fun e w' => ptdo_ref h1 h3 h4 h5)
theorem qdrop (id er : Int) (L' : TL) (hx : dropR id L = (er, L')) : Calls Try.prog 20 #[.pointer (some ⟨g, 0, none⟩), .int .u64 id] w (PTDo Z g M l L' gr lr R (.int .i64 er) w) := by
  obtain ⟨S, SR, h1, h2, h3, h4, h5⟩ := h
  exact (drop_t S g M l L w h1 id er L' hx).mono (fun e w' => ptdo_own h2 h3 h4 h5)
theorem qrdrop (id er : Int) (R' : TL) (hn : R.length ≤ 1000000) (hx : dropR id R = (er, R')) : Calls Try.prog 21 #[.pointer (some ⟨gr, 0, none⟩), .int .u64 id] w (PTDo Z g M l L gr lr R' (.int .i64 er) w) := by
  obtain ⟨S, SR, h1, h2, h3, h4, h5⟩ := h
  exact (rdrop_t SR gr M lr R w h2 hn id er R' hx).mono (fun e w' => ptdo_ref h1 h3 h4 h5)
theorem qlead (id er : Int) (x : Tu) (L' : TL) (hx : leadR id x L = (er, L')) : Calls Try.prog 15 #[.pointer (some ⟨g, 0, none⟩), .int .u64 id, .agg #[.int .u8 x.pr, .int .u32 x.sr, .int .u32 x.ds, .int .u16 x.sp, .int .u16 x.dp]] w (PTDo Z g M l L' gr lr R (.int .i64 er) w) := by
  obtain ⟨S, SR, h1, h2, h3, h4, h5⟩ := h
  exact (lead_t S g M l L w h1 id er x L' hx).mono (fun e w' => ptdo_own h2 h3 h4 h5)
theorem qrlead (id er : Int) (x : Tu) (R' : TL) (hn : R.length ≤ 1000000) (hx : leadR id x R = (er, R')) : Calls Try.prog 16 #[.pointer (some ⟨gr, 0, none⟩), .int .u64 id, .agg #[.int .u8 x.pr, .int .u32 x.sr, .int .u32 x.ds, .int .u16 x.sp, .int .u16 x.dp]] w (PTDo Z g M l L gr lr R' (.int .i64 er) w) := by
  obtain ⟨S, SR, h1, h2, h3, h4, h5⟩ := h
  exact (rlead_t SR gr M lr R w h2 hn id er x R' hx).mono (fun e w' => ptdo_ref h1 h3 h4 h5)
theorem qinner (t : Tu) (id : Int) (is_ : Bool) (h1 : idOf (innF t L) = id) (h2 : isOf (innF t L) = is_) : Calls Try.prog 23 #[.pointer (some ⟨g, 0, none⟩), .agg #[.int .u8 t.pr, .int .u32 t.sr, .int .u32 t.ds, .int .u16 t.sp, .int .u16 t.dp]] w (TellsT (.tuple #[.int .u64 id, .bool is_]) w) := by
  obtain ⟨S, SR, hp, _⟩ := h
  exact inner_t S g M l L w hp t id is_ h1 h2
theorem qrinner (t : Tu) (id : Int) (is_ : Bool) (hn : R.length ≤ 1000000) (h1 : idOf (innF t R) = id) (h2 : isOf (innF t R) = is_) : Calls Try.prog 24 #[.pointer (some ⟨gr, 0, none⟩), .agg #[.int .u8 t.pr, .int .u32 t.sr, .int .u32 t.ds, .int .u16 t.sp, .int .u16 t.dp]] w (TellsT (.tuple #[.int .u64 id, .bool is_]) w) := by
  obtain ⟨S, SR, _, hp, _⟩ := h
  exact rinner_any SR gr M lr R t id is_ w hp hn h1 h2
theorem qouter (t : Tu) (id : Int) (is_ : Bool) (h1 : idOf (outF t L) = id) (h2 : isOf (outF t L) = is_) : Calls Try.prog 25 #[.pointer (some ⟨g, 0, none⟩), .agg #[.int .u8 t.pr, .int .u32 t.sr, .int .u32 t.ds, .int .u16 t.sp, .int .u16 t.dp]] w (TellsT (.tuple #[.int .u64 id, .bool is_]) w) := by
  obtain ⟨S, SR, hp, _⟩ := h
  exact outer_t S g M l L w hp t id is_ h1 h2
theorem qrouter (t : Tu) (id : Int) (is_ : Bool) (hn : R.length ≤ 1000000) (h1 : idOf (outF t R) = id) (h2 : isOf (outF t R) = is_) : Calls Try.prog 26 #[.pointer (some ⟨gr, 0, none⟩), .agg #[.int .u8 t.pr, .int .u32 t.sr, .int .u32 t.ds, .int .u16 t.sp, .int .u16 t.dp]] w (TellsT (.tuple #[.int .u64 id, .bool is_]) w) := by
  obtain ⟨S, SR, _, hp, _⟩ := h
  exact router_any SR gr M lr R t id is_ w hp hn h1 h2
theorem qflow (id : Int) (f : Fl) (is_ : Bool) (hx : flowR id L = (f, is_)) : Calls Try.prog 27 #[.pointer (some ⟨g, 0, none⟩), .int .u64 id] w (TellsT (.tuple #[.agg (flV f).toArray, .bool is_]) w) := by
  obtain ⟨S, SR, hp, _⟩ := h
  exact flow_t S g M l L w hp id f is_ hx
theorem qrflow (id : Int) (f : Fl) (is_ : Bool) (hn : R.length ≤ 1000000) (hx : flowR id R = (f, is_)) : Calls Try.prog 28 #[.pointer (some ⟨gr, 0, none⟩), .int .u64 id] w (TellsT (.tuple #[.agg (flV f).toArray, .bool is_]) w) := by
  obtain ⟨S, SR, _, hp, _⟩ := h
  exact rflow_any SR gr M lr R w hp hn id f is_ hx
theorem qlen (n : Nat) (hn : L.length = n) : Calls Try.prog 12 #[.pointer (some ⟨g, 0, none⟩)] w (JustIs (.int .i64 (n : Int)) w) := by
  obtain ⟨S, SR, hp, _⟩ := h
  exact len_t S g M l L w hp n hn
theorem qall : Calls Try.prog 30 #[.pointer (some ⟨g, 0, none⟩)] w (CloneIsF L w) := by
  obtain ⟨S, SR, hp, _⟩ := h
  exact all_t S g M l L w hp
/-- A copy, which goes on beside the document's; the old one, apart from both. -/
theorem qcopy : Calls Try.prog 22 #[.pointer (some ⟨g, 0, none⟩)] w fun e w' => ∃ g2 S2, e = .returned (.pointer (some ⟨g2, 0, none⟩)) ∧ Below w.heap.size w w' ∧
    TAt w' S2 g2 M l L ∧ (∀ k, S2 k → ¬ Z k) ∧ PairT (fun k => Z k ∨ S2 k) w' g M l L gr lr R := by
  obtain ⟨S, SR, h1, h2, h3, h4, h5⟩ := h
  refine (copy_t S g M l L w h1).mono ?_
  rintro e w' ⟨g2, S2, rfl, w1, w2, hb, hs2⟩
  refine ⟨g2, S2, rfl, hb, w2, fun k hk e2 => by have := hs2 k hk; have := h5 k e2; omega, S, SR, w1, h2.below hb, fun k hk => ⟨(h3 k hk).1, ?_⟩, fun k hk => ?_, fun k hk => ?_⟩
  · rintro (e | e)
    · exact (h3 k hk).2 e
    · have := h1.lt k hk; have := hs2 k e; omega
  · rintro (e | e)
    · exact h4 k hk e
    · have := h2.lt k hk; have := hs2 k e; omega
  · rcases hk with e | e
    · exact (But.of (S := fun _ => False) hb).lt (h5 k e)
    · exact w2.lt k e
end
/-- Back from the old one's side. -/
theorem PairT.back {Z T : Nat → Prop} {w w' : World} {g g2 gr : Nat} {M l l1 lr : Int} {L L1 R : TL} (hT : TAt w T g2 M l L) (hTZ : ∀ k, T k → ¬ Z k) (hb : But (fun k => ¬ (Z k ∨ T k)) w w') (h : PairT (fun k => Z k ∨ T k) w' g M l1 L1 gr lr R) : PairT Z w' g2 M l L gr lr R := by
  obtain ⟨S, SR, h1, h2, h3, h4, h5⟩ := h
  exact ⟨T, SR, hT.but hb (fun k hk e => e (.inr hk)), h2, fun k hk => ⟨fun e => h4 k e (.inr hk), hTZ k hk⟩, fun k hk e => h4 k hk (.inl e), fun k hk => h5 k (.inl hk)⟩
/-- Both new. -/
theorem PairT.new {w w1 w2 : World} {g gr : Nat} {M : Int} {S SR : Nat → Prop} (h1 : TAt w1 S g M 0 []) (hS : ∀ k, S k → w.heap.size ≤ k) (hb1 : Below w.heap.size w w1) (h2 : RefT w2 SR gr M 0 []) (hSR : ∀ k, SR k → w1.heap.size ≤ k) (hb2 : Below w1.heap.size w1 w2) : PairT (fun k => k < w.heap.size) w2 g M 0 [] gr 0 [] := by
  have e1 := hb1.size
  have e2 := hb2.size
  refine ⟨S, SR, h1.below hb2, h2, fun k hk => ⟨fun e => ?_, fun e => ?_⟩, fun k hk e => ?_, fun k hk => by omega⟩
  · have := h1.lt k hk; have := hSR k e; omega
  · have := hS k hk; omega
  · have := hSR k hk; omega
end Go.Proofs.Ytnhlbohdlnjaaaa
