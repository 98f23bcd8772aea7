/-
  Several buffers apart from each other, in no block of Z: a call of one leaves the others, and Z, as they are.
-/
import Derived.Test.YtncbkgcblmohoaaRxFace
namespace Go.Proofs.Ytncbkgcblmohoaa
set_option maxRecDepth 10000
open Go.RowKit
set_option linter.unusedSimpArgs false
set_option linter.unusedVariables false
variable {XAt : XA}
abbrev MX := List (Nat × XS)
/-- The buffers ws: block, what it has; each block is one's alone. -/
def ManyX (XAt : XA) (Z : Nat → Prop) (w : World) (ws : MX) : Prop :=
  (∀ k, Z k → k < w.heap.size) ∧ ∃ own : Nat → Nat, ∀ (i : Nat) (g : Nat) (s : XS), ws[i]? = some (g, s) → ∃ S, XAt w S g s ∧ ∀ k, S k → ¬ Z k ∧ own k = i
section
variable {Z : Nat → Prop} {w w' : World} {ws : MX}
theorem ManyX.none_ (w : World) : ManyX XAt (fun k => k < w.heap.size) w [] := ⟨fun k hk => hk, fun _ => 0, fun i g s h => by simp at h⟩
theorem ManyX.sub {Z' : Nat → Prop} (h : ManyX XAt Z w ws) (hz : ∀ k, Z' k → Z k) : ManyX XAt Z' w ws := by
  obtain ⟨h1, own, h2⟩ := h
  refine ⟨fun k hk => h1 k (hz k hk), own, fun i g s hi => ?_⟩
  obtain ⟨S, hS, hd⟩ := h2 i g s hi
  exact ⟨S, hS, fun k hk => ⟨fun e => (hd k hk).1 (hz k e), (hd k hk).2⟩⟩
theorem ManyX.but (F : XFace XAt) {T : Nat → Prop} (h : ManyX XAt Z w ws) (hb : But T w w') (hT : ∀ k, T k → Z k ∨ w.heap.size ≤ k) : ManyX XAt Z w' ws := by
  obtain ⟨h1, own, h2⟩ := h
  refine ⟨fun k hk => hb.lt (h1 k hk), own, fun i g s hi => ?_⟩
  obtain ⟨S, hS, hd⟩ := h2 i g s hi
  refine ⟨S, F.but hS hb (fun k hk ht => ?_), hd⟩
  rcases hT k ht with e | e
  · exact (hd k hk).1 e
  · have := F.lt hS k hk; omega
/-- What has been laid since is nobody's: Z's from now on. -/
theorem ManyX.more (F : XFace XAt) {T : Nat → Prop} (h : ManyX XAt Z w ws) (hb : But T w w') (hT : ∀ k, T k → Z k ∨ w.heap.size ≤ k) {Z' : Nat → Prop} (hZ : ∀ k, Z' k → (Z k ∨ w.heap.size ≤ k) ∧ k < w'.heap.size) : ManyX XAt Z' w' ws := by
  obtain ⟨h1, own, h2⟩ := h
  refine ⟨fun k hk => (hZ k hk).2, own, fun i g s hi => ?_⟩
  obtain ⟨S, hS, hd⟩ := h2 i g s hi
  have hl := F.lt hS
  refine ⟨S, F.but hS hb (fun k hk ht => ?_), fun k hk => ⟨fun e => ?_, (hd k hk).2⟩⟩
  · rcases hT k ht with e | e
    · exact (hd k hk).1 e
    · have := hl k hk; omega
  · rcases (hZ k e).1 with e | e
    · exact (hd k hk).1 e
    · have := hl k hk; omega
theorem ManyX.alloc (F : XFace XAt) (h : ManyX XAt Z w ws) (o : Obj) : ManyX XAt (fun k => Z k ∨ k = w.heap.size) (w.alloc o) ws := by
  have h1 := h.1
  have hs : (w.alloc o).heap.size = w.heap.size + 1 := by simp
  refine h.more F (T := fun _ => False) ((But.refl _ _).alloc o) (fun _ x => x.elim) (fun k hk => ?_)
  rcases hk with e | e
  · have := h1 k e
    exact ⟨.inl e, by omega⟩
  · exact ⟨.inr (by omega), by omega⟩
theorem ManyX.ok (F : XFace XAt) (h : ManyX XAt Z w ws) {i g : Nat} {s : XS} (hi : ws[i]? = some (g, s)) : OkX s := by
  obtain ⟨_, own, h2⟩ := h
  obtain ⟨S, hS, _⟩ := h2 i g s hi
  exact F.ok hS
theorem manyx_doesV (F : XFace XAt) (h : ManyX XAt Z w ws) {i g : Nat} {s : XS} (hi : ws[i]? = some (g, s)) : ∃ S, XAt w S g s ∧ (∀ k, S k → ¬ Z k) ∧ ∀ (s' : XS) (w' : World) (S' V : Nat → Prop), XAt w' S' g s' → But S w w' → (∀ k, S' k → S k ∨ w.heap.size ≤ k) → (∀ k, V k → w.heap.size ≤ k ∧ k < w'.heap.size ∧ ¬ S' k) →
    ManyX XAt (fun k => Z k ∨ V k) w' (ws.set i (g, s')) ∧ But (fun k => ¬ Z k) w w' := by
  obtain ⟨h1, own, h2⟩ := h
  obtain ⟨S, hS, hd⟩ := h2 i g s hi
  refine ⟨S, hS, fun k hk => (hd k hk).1, fun s' w' S' V hS' hB hs hV => ⟨⟨fun k hk => ?_, fun k => if k < w.heap.size then own k else i, fun j g2 s2 hj => ?_⟩, hB.mono (fun k _ hk => (hd k hk).1)⟩⟩
  · rcases hk with hk | hk
    · exact hB.lt (h1 k hk)
    · exact (hV k hk).2.1
  by_cases e : j = i
  · subst e
    have hl := (List.getElem?_eq_some_iff.1 hi).1
    rw [List.getElem?_set_self hl] at hj
    injection hj with hj
    injection hj with e1 e2
    subst e1; subst e2
    refine ⟨S', hS', fun k hk => ?_⟩
    rcases hs k hk with h3 | h3
    · have h4 := F.lt hS k h3
      refine ⟨fun e => ?_, (if_pos h4).trans (hd k h3).2⟩
      rcases e with e | e
      · exact (hd k h3).1 e
      · exact (hV k e).2.2 hk
    · refine ⟨fun e => ?_, if_neg (by omega)⟩
      rcases e with e | e
      · have := h1 k e; omega
      · exact (hV k e).2.2 hk
  · rw [List.getElem?_set_ne (fun e2 => e e2.symm)] at hj
    obtain ⟨S2, hS2, hd2⟩ := h2 j g2 s2 hj
    have hl2 := F.lt hS2
    refine ⟨S2, F.but hS2 hB (fun k hk hk2 => e (by rw [← (hd2 k hk).2, (hd k hk2).2])), fun k hk => ⟨fun e2 => ?_, ?_⟩⟩
    · rcases e2 with e2 | e2
      · exact (hd2 k hk).1 e2
      · have := hl2 k hk; have := (hV k e2).1; omega
    · exact (if_pos (hl2 k hk)).trans (hd2 k hk).2
theorem manyx_doesZ (F : XFace XAt) (h : ManyX XAt Z w ws) {i g : Nat} {s : XS} (hi : ws[i]? = some (g, s)) : ∃ S, XAt w S g s ∧ (∀ k, S k → ¬ Z k) ∧ ∀ (s' : XS) (w' : World) (S' : Nat → Prop), XAt w' S' g s' → But S w w' → (∀ k, S' k → S k ∨ w.heap.size ≤ k) → ManyX XAt Z w' (ws.set i (g, s')) ∧ But (fun k => ¬ Z k) w w' := by
  obtain ⟨S, hS, hz, hk⟩ := manyx_doesV F h hi
  refine ⟨S, hS, hz, fun s' w' S' h1 h2 h3 => ?_⟩
  obtain ⟨m1, m2⟩ := hk s' w' S' (fun _ => False) h1 h2 h3 (fun _ x => x.elim)
  exact ⟨m1.sub (fun k hk => .inl hk), m2⟩
theorem manyx_does (F : XFace XAt) (h : ManyX XAt Z w ws) {i g : Nat} {s : XS} (hi : ws[i]? = some (g, s)) : ∃ S, XAt w S g s ∧ ∀ (s' : XS) (w' : World) (S' : Nat → Prop), XAt w' S' g s' → But S w w' → (∀ k, S' k → S k ∨ w.heap.size ≤ k) → ManyX XAt Z w' (ws.set i (g, s')) ∧ But (fun k => ¬ Z k) w w' := by
  obtain ⟨S, hS, hz, hk⟩ := manyx_doesV F h hi
  refine ⟨S, hS, fun s' w' S' h1 h2 h3 => ?_⟩
  obtain ⟨m1, m2⟩ := hk s' w' S' (fun _ => False) h1 h2 h3 (fun _ x => x.elim)
  exact ⟨m1.sub (fun k hk => .inl hk), m2⟩
theorem set_sameX {i : Nat} {x : Nat × XS} (hi : ws[i]? = some x) : ws.set i x = ws := by
  obtain ⟨h, e⟩ := List.getElem?_eq_some_iff.1 hi
  rw [← e]
  exact List.set_getElem_self h
theorem manyx_add (F : XFace XAt) (h : ManyX XAt Z w ws) {T S2 : Nat → Prop} (hB : But T w w') (hT : ∀ k, T k → w.heap.size ≤ k) {g : Nat} {s : XS} (hw : XAt w' S2 g s) (hS2 : ∀ k, S2 k → w.heap.size ≤ k) : ManyX XAt Z w' (ws ++ [(g, s)]) := by
  obtain ⟨h1, own, h2⟩ := h
  refine ⟨fun k hk => hB.lt (h1 k hk), fun k => if k < w.heap.size then own k else ws.length, fun j g2 s2 hj => ?_⟩
  by_cases e : j < ws.length
  · rw [List.getElem?_append_left e] at hj
    obtain ⟨S3, hS3, hd3⟩ := h2 j g2 s2 hj
    have hl := F.lt hS3
    refine ⟨S3, F.but hS3 hB (fun k hk ht => by have := hl k hk; have := hT k ht; omega), fun k hk => ⟨(hd3 k hk).1, (if_pos (hl k hk)).trans (hd3 k hk).2⟩⟩
  · have hjl : j < (ws ++ [(g, s)]).length := (List.getElem?_eq_some_iff.1 hj).1
    simp only [List.length_append, List.length_cons, List.length_nil] at hjl
    obtain rfl : j = ws.length := by omega
    rw [List.getElem?_append_right (Nat.le_refl _), Nat.sub_self] at hj
    injection hj with hj
    injection hj with e1 e2
    subst e1; subst e2
    refine ⟨S2, hw, fun k hk => ⟨fun e2 => by have := h1 k e2; have := hS2 k hk; omega, if_neg (by have := hS2 k hk; omega)⟩⟩
end
/-! Steps of a law's walk: a base world w0 whose blocks are all in Z. -/
structure AtX (XAt : XA) (Z : Nat → Prop) (w0 : World) (ws : MX) (w : World) : Prop where
  many : ManyX XAt Z w ws
  base : Below w0.heap.size w0 w
  old : ∀ k, k < w0.heap.size → Z k
theorem belX {Z : Nat → Prop} {w0 w w' : World} (hb : But (fun k => ¬ Z k) w w') (h0 : Below w0.heap.size w0 w) (hZ : ∀ k, k < w0.heap.size → Z k) : Below w0.heap.size w0 w' :=
  h0.trans (hb.below (fun k hk => Nat.le_of_not_lt (fun h => hk (hZ k h))) h0.size)
def YDo (XAt : XA) (Z : Nat → Prop) (w0 : World) (ws : MX) (v : Value) (w : World) (e : Ending) (w' : World) : Prop := e = .returned v ∧ AtX XAt Z w0 ws w' ∧ But (fun k => ¬ Z k) w w'
def YTick (XAt : XA) (Z : Nat → Prop) (w0 : World) (ws : MX) (x : Int) (is : Bool) (er : Int) (l : List Int) (w : World) (e : Ending) (w' : World) : Prop :=
  ∃ A n c, e = .returned (.tuple #[.agg #[.int .u32 x, .slice A n c], .bool is, .int .i64 er]) ∧ l.length = n ∧ OwnB w' w.heap.size A n c l ∧ AtX XAt (fun k => Z k ∨ (Value.slice A n c).ownBlock = some k) w0 ws w' ∧ But (fun k => ¬ Z k) w w'
def YSend (XAt : XA) (Z : Nat → Prop) (w0 : World) (ws : MX) (ps : List (Int × List Int)) (er : Int) (w : World) (e : Ending) (w' : World) : Prop :=
  ∃ v qs, e = .returned (.tuple #[v, .int .i64 er]) ∧ PcsX w' 54 w.heap.size v qs ∧ qs.map toldQ = ps ∧ AtX XAt (fun k => Z k ∨ v.ownBlock = some k ∨ ∃ q ∈ qs, (rowQ q).ownBlock = some k) w0 ws w' ∧ But (fun k => ¬ Z k) w w'
def YMore (XAt : XA) (Z : Nat → Prop) (w0 : World) (ws : MX) (f : Nat → Value) (s : XS) (w : World) (e : Ending) (w' : World) : Prop := ∃ g, e = .returned (f g) ∧ AtX XAt Z w0 (ws ++ [(g, s)]) w' ∧ But (fun k => ¬ Z k) w w'
def ptrX (g : Nat) : Value := .pointer (some ⟨g, 0, none⟩)
def madeX (g : Nat) : Value := .tuple #[.pointer (some ⟨g, 0, none⟩), .int .i64 0]
theorem own_ltX {w : World} {B n c b : Nat} {A : Option Addr} {l : List Int} (h : OwnB w B A n c l) (hb : (Value.slice A n c).ownBlock = some b) : B ≤ b ∧ b < w.heap.size := by
  rcases h.2 with ⟨e, _⟩ | ⟨g2, cap, cur, e, hB, hg, _⟩
  · rw [e] at hb; cases hb
  · rw [e] at hb
    injection hb with hb
    subst hb
    exact ⟨hB, lt_of_block hg⟩
section
variable {Z : Nat → Prop} {w0 w w' : World} {ws : MX}
theorem AtX.start (w : World) : AtX XAt (fun k => k < w.heap.size) w [] w := ⟨ManyX.none_ w, Below.refl _ _, fun k hk => hk⟩
theorem AtX.sub {Z' : Nat → Prop} (h : AtX XAt Z w0 ws w) (hz : ∀ k, Z' k → Z k) (ho : ∀ k, k < w0.heap.size → Z' k) : AtX XAt Z' w0 ws w := ⟨h.many.sub hz, h.base, ho⟩
theorem AtX.below (F : XFace XAt) (h : AtX XAt Z w0 ws w) (hb : Below w.heap.size w w') : AtX XAt Z w0 ws w' :=
  ⟨h.many.but F (T := fun _ => False) (But.of hb) (fun _ x => x.elim), below_trans h.base (hb.mono (Nat.le_refl _)), h.old⟩
/-- Blocks of Z's turn, but none of the base's. -/
theorem AtX.but (F : XFace XAt) {T : Nat → Prop} (h : AtX XAt Z w0 ws w) (hb : But T w w') (hT : ∀ k, T k → Z k ∨ w.heap.size ≤ k) (hT0 : ∀ k, T k → w0.heap.size ≤ k) : AtX XAt Z w0 ws w' :=
  ⟨h.many.but F hb hT, h.base.trans (hb.below hT0 h.base.size), h.old⟩
/-- What has been laid since is Z's from now on. -/
theorem AtX.more (F : XFace XAt) {T Z' : Nat → Prop} (h : AtX XAt Z w0 ws w) (hb : But T w w') (hT : ∀ k, T k → Z k ∨ w.heap.size ≤ k) (hT0 : ∀ k, T k → w0.heap.size ≤ k) (hZ : ∀ k, Z' k → (Z k ∨ w.heap.size ≤ k) ∧ k < w'.heap.size) (ho : ∀ k, k < w0.heap.size → Z' k) : AtX XAt Z' w0 ws w' :=
  ⟨h.many.more F hb hT hZ, h.base.trans (hb.below hT0 h.base.size), ho⟩
end
section
variable (F : XFace XAt) (Z : Nat → Prop) (i g : Nat) (s : XS) (ws ws' : MX) (w0 w : World) (h : AtX XAt Z w0 ws w) (hi : ws[i]? = some (g, s))
include F h hi
/-- A call that tells v and leaves s'. -/
theorem ydo {f : Nat} {args : Array Value} {s' : XS} {v : Value} (hws : ws.set i (g, s') = ws') (hc : ∀ S, XAt w S g s → (∀ k, S k → ¬ Z k) → Calls Try.prog f args w (XDoes XAt S g s' v w)) : Calls Try.prog f args w (YDo XAt Z w0 ws' v w) := by
  subst hws
  obtain ⟨S, hS, hz, hk⟩ := manyx_doesZ F h.many hi
  refine (hc S hS hz).mono ?_
  rintro e w' ⟨rfl, S', h1, h2, h3⟩
  obtain ⟨m1, m2⟩ := hk _ _ _ h1 h2 h3
  exact ⟨rfl, ⟨m1, belX m2 h.base h.old, h.old⟩, m2⟩
theorem ywrite (now : Int) (A : Option Addr) (n c : Nat) (l : List Int) (s' : XS) (x : Int) (hn : nowX now) (hr : Rd w A n l) (hl : n ≤ 100000) (hnc : n ≤ c) (hcm : c ≤ maxLen) (hA : ∀ b o, A = some ⟨b, o, none⟩ → 0 < n → Z b) (hs : writeS l now s = s') (hx : writeE l s = x) (hws : ws.set i (g, s') = ws') :
    Calls Try.prog 12 #[.pointer (some ⟨g, 0, none⟩), .slice A n c, .int .u64 now] w (YDo XAt Z w0 ws' (.int .i64 x) w) := by
  subst hs; subst hx
  exact ydo F Z i g s ws ws' w0 w h hi hws (fun S hS hz => F.write_ S g s now A n c l w hS hn hr hl hnc hcm (fun b o e h0 hb => hz b hb (hA b o e h0)))
theorem yack (ack win now : Int) (s' : XS) (n x : Int) (ha : u32X ack) (hw : u32X win) (hn : nowX now) (hs : ackS ack win now s = s') (hm : ackN ack win s = n) (hx : ackE ack win s = x) (hws : ws.set i (g, s') = ws') :
    Calls Try.prog 20 #[.pointer (some ⟨g, 0, none⟩), .int .u32 ack, .int .u32 win, .int .u64 now] w (YDo XAt Z w0 ws' (.tuple #[.int .i64 n, .int .i64 x]) w) := by
  subst hs; subst hm; subst hx
  exact ydo F Z i g s ws ws' w0 w h hi hws (fun S hS hz => F.ack_ S g s ack win now w hS ha hw hn)
theorem yuna : Calls Try.prog 26 #[.pointer (some ⟨g, 0, none⟩)] w (YDo XAt Z w0 ws (.int .u32 s.una) w) := ydo F Z i g s ws ws w0 w h hi (set_sameX hi) (fun S hS hz => F.una_ S g s w hS)
theorem ynxt (x : Int) (hx : nxtX s = x) : Calls Try.prog 27 #[.pointer (some ⟨g, 0, none⟩)] w (YDo XAt Z w0 ws (.int .u32 x) w) := by
  subst hx
  exact ydo F Z i g s ws ws w0 w h hi (set_sameX hi) (fun S hS hz => F.nxt_ S g s w hS)
theorem yend (x : Int) (hx : endX s = x) : Calls Try.prog 13 #[.pointer (some ⟨g, 0, none⟩)] w (YDo XAt Z w0 ws (.int .u32 x) w) := by
  subst hx
  exact ydo F Z i g s ws ws w0 w h hi (set_sameX hi) (fun S hS hz => F.end_ S g s w hS)
theorem ywindow : Calls Try.prog 30 #[.pointer (some ⟨g, 0, none⟩)] w (YDo XAt Z w0 ws (.int .u32 s.win) w) := ydo F Z i g s ws ws w0 w h hi (set_sameX hi) (fun S hS hz => F.window_ S g s w hS)
theorem yalarm (x : Int) (b : Bool) (hx : alarmX s = x) (hb : setX s = b) : Calls Try.prog 25 #[.pointer (some ⟨g, 0, none⟩)] w (YDo XAt Z w0 ws (.tuple #[.int .u64 x, .bool b]) w) := by
  subst hx; subst hb
  exact ydo F Z i g s ws ws w0 w h hi (set_sameX hi) (fun S hS hz => F.alarm_ S g s w hS)
theorem ytick (mss now : Int) (s' : XS) (x : Int) (is : Bool) (er : Int) (l : List Int) (hm : i64X mss) (hn : nowX now) (hs : tickS mss now s = s') (hx : tickA mss now s = x) (hb : tickB mss now s = is) (he : tickE mss now s = er) (hl : tickD mss now s = l) (hws : ws.set i (g, s') = ws') :
    Calls Try.prog 22 #[.pointer (some ⟨g, 0, none⟩), .int .i64 mss, .int .u64 now] w (YTick XAt Z w0 ws' x is er l w) := by
  subst hs; subst hx; subst hb; subst he; subst hl; subst hws
  obtain ⟨S, hS, hz, hk⟩ := manyx_doesV F h.many hi
  refine (F.tick_ S g s mss now w hS hm hn).mono ?_
  rintro e w' ⟨A, n, c, rfl, hln, ho, S', h1, h2, h3, h4⟩
  obtain ⟨m1, m2⟩ := hk _ w' S' (fun k => (Value.slice A n c).ownBlock = some k) h1 h2 h3 (fun k hk2 => ⟨(own_ltX ho hk2).1, (own_ltX ho hk2).2, h4 k hk2⟩)
  exact ⟨A, n, c, rfl, hln, ho, ⟨m1, belX m2 h.base h.old, fun k hk2 => .inl (h.old k hk2)⟩, m2⟩
theorem ysend (mss : Int) (s' : XS) (ps : List (Int × List Int)) (er : Int) (hm : i64X mss) (hs : sendS mss s = s') (hp : sendL mss s = ps) (he : sendE mss = er) (hws : ws.set i (g, s') = ws') :
    Calls Try.prog 15 #[.pointer (some ⟨g, 0, none⟩), .int .i64 mss] w (YSend XAt Z w0 ws' ps er w) := by
  subst hs; subst hp; subst he; subst hws
  obtain ⟨S, hS, hz, hk⟩ := manyx_doesV F h.many hi
  refine (F.send_ S g s mss w hS hm).mono ?_
  rintro e w' ⟨v, qs, rfl, hpc, hq, S', h1, h2, h3, h4, h5⟩
  obtain ⟨m1, m2⟩ := hk _ w' S' (fun k => v.ownBlock = some k ∨ ∃ q ∈ qs, (rowQ q).ownBlock = some k) h1 h2 h3 (fun k hk2 => by
    rcases hk2 with hk2 | ⟨q, hq1, hq2⟩
    · exact ⟨hpc.own k hk2, hpc.sl.lt hk2, h4 k hk2⟩
    · exact ⟨(own_ltX (hpc.rows q hq1) hq2).1, (own_ltX (hpc.rows q hq1) hq2).2, h5 q hq1 k hq2⟩)
  exact ⟨v, qs, rfl, hpc, hq, ⟨m1, belX m2 h.base h.old, fun k hk2 => .inl (h.old k hk2)⟩, m2⟩
end
theorem ynew (F : XFace XAt) (Z : Nat → Prop) (ws : MX) (w0 w : World) (h : AtX XAt Z w0 ws w) (at_ win rto tries : Int) (ha : u32X at_) (hw : u32X win) (hb : ¬ badX win rto tries) :
    Calls Try.prog 9 #[.int .u32 at_, .int .u32 win, .int .u64 rto, .int .i64 tries] w (YMore XAt Z w0 ws madeX (newX at_ win rto tries) w) := by
  refine (F.new_ok at_ win rto tries w ha hw hb).mono ?_
  rintro e w' ⟨g, S, rfl, h1, h2, h3⟩
  have m1 := manyx_add F h.many (T := fun _ => False) (But.of h2) (fun _ x => x.elim) h1 h3
  exact ⟨g, rfl, ⟨m1, belX (But.of h2) h.base h.old, h.old⟩, But.of h2⟩
end Go.Proofs.Ytncbkgcblmohoaa
