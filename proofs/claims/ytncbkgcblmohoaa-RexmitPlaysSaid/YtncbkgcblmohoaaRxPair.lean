/-
  Buffers of the program's beside the document's one ('PX'): each call leaves the others, the base world and the blocks D of the law's own as they are.
-/
import Derived.Test.YtncbkgcblmohoaaRxCopy
import Derived.Test.YtncbkgcblmohoaaRxRefSend
import Derived.Test.YtncbkgcblmohoaaRxRefA
namespace Go.Proofs.Ytncbkgcblmohoaa
set_option maxRecDepth 10000
open Go.RowKit
set_option linter.unusedSimpArgs false
set_option linter.unusedVariables false
variable {XAt : XA}

def ZX (w0 : World) (T D : Nat → Prop) : Nat → Prop := fun k => k < w0.heap.size ∨ T k ∨ D k
/-- The document's buffer, with at most N bytes in all. -/
def RefO (w : World) (T : Nat → Prop) (g : Nat) (first : Int) (N : Nat) (s : XS) : Prop := ∃ A c W a, RefX w T g A c first W a s ∧ W.length ≤ N
structure PX (XAt : XA) (w0 : World) (T D : Nat → Prop) (ws : MX) (gw : Nat) (first : Int) (N : Nat) (s : XS) (w : World) : Prop where
  ref : RefO w T gw first N s
  tb : ∀ k, T k → w0.heap.size ≤ k ∧ ¬ D k
  many : ManyX XAt (ZX w0 T D) w ws
  old : Below w0.heap.size w0 w
section
variable {w0 w w' : World} {T D : Nat → Prop} {ws ws' : MX} {gw : Nat} {first : Int} {N : Nat} {s : XS}
theorem RefO.but {V : Nat → Prop} (h : RefO w T gw first N s) (hb : But V w w') (hV : ∀ k, T k → ¬ V k) : RefO w' T gw first N s := by
  obtain ⟨A, c, W, a, h, hN⟩ := h
  exact ⟨A, c, W, a, h.but hb hV, hN⟩
theorem RefO.mono {M : Nat} (h : RefO w T gw first N s) (hN : N ≤ M) : RefO w T gw first M s := by
  obtain ⟨A, c, W, a, h, h2⟩ := h
  exact ⟨A, c, W, a, h, Nat.le_trans h2 hN⟩
theorem notZX {k : Nat} (h : ¬ ZX w0 T D k) : w0.heap.size ≤ k := Nat.le_of_not_lt (fun e => h (.inl e))
theorem PX.dlt (h : PX XAt w0 T D ws gw first N s w) {k : Nat} (hk : D k) : k < w.heap.size := h.many.1 k (.inr (.inr hk))
theorem PX.tlt (h : PX XAt w0 T D ws gw first N s w) {k : Nat} (hk : T k) : k < w.heap.size := h.many.1 k (.inr (.inl hk))
theorem PX.at_ (h : PX XAt w0 T D ws gw first N s w) : AtX XAt (ZX w0 T D) w0 ws w := ⟨h.many, h.old, fun k hk => .inl hk⟩
theorem PX.mono {M : Nat} (h : PX XAt w0 T D ws gw first N s w) (hN : N ≤ M) : PX XAt w0 T D ws gw first M s w := ⟨h.ref.mono hN, h.tb, h.many, h.old⟩
/-- A call of one of the program's buffers. -/
theorem PX.own (h : PX XAt w0 T D ws gw first N s w) (h1 : AtX XAt (ZX w0 T D) w0 ws' w') (h2 : But (fun k => ¬ ZX w0 T D k) w w') : PX XAt w0 T D ws' gw first N s w' :=
  ⟨h.ref.but h2 (fun k hk hn => hn (.inr (.inl hk))), h.tb, h1.many, h.old.trans (h2.below (fun k hk => notZX hk) h.old.size)⟩
theorem PX.ownD {V : Nat → Prop} (h : PX XAt w0 T D ws gw first N s w) (h1 : AtX XAt (fun k => ZX w0 T D k ∨ V k) w0 ws' w') (h2 : But (fun k => ¬ ZX w0 T D k) w w') (hV : ∀ k, V k → w.heap.size ≤ k) : PX XAt w0 T (fun k => D k ∨ V k) ws' gw first N s w' := by
  refine ⟨h.ref.but h2 (fun k hk hn => hn (.inr (.inl hk))), fun k hk => ⟨(h.tb k hk).1, fun e => ?_⟩, h1.many.sub (fun k hk => ?_), h.old.trans (h2.below (fun k hk => notZX hk) h.old.size)⟩
  · rcases e with e | e
    · exact (h.tb k hk).2 e
    · have := hV k e; have := h.tlt hk; omega
  · rcases hk with e | e | e | e
    · exact .inl (.inl e)
    · exact .inl (.inr (.inl e))
    · exact .inl (.inr (.inr e))
    · exact .inr e
theorem PX.below (F : XFace XAt) (h : PX XAt w0 T D ws gw first N s w) (hb : Below w.heap.size w w') : PX XAt w0 T D ws gw first N s w' :=
  ⟨h.ref.but (But.of (S := fun _ => False) hb) (fun _ _ x => x), h.tb, h.many.but F (T := fun _ => False) (But.of hb) (fun _ x => x.elim), below_trans h.old hb⟩
/-- Blocks of the law's own turn. -/
theorem PX.turn (F : XFace XAt) {V : Nat → Prop} (h : PX XAt w0 T D ws gw first N s w) (hb : But V w w') (hV : ∀ k, V k → D k ∧ w0.heap.size ≤ k) : PX XAt w0 T D ws gw first N s w' :=
  ⟨h.ref.but hb (fun k hk hv => (h.tb k hk).2 (hV k hv).1), h.tb, h.many.but F hb (fun k hk => .inl (.inr (.inr (hV k hk).1))), h.old.trans (hb.below (fun k hk => (hV k hk).2) h.old.size)⟩
theorem PX.sub {D' : Nat → Prop} (h : PX XAt w0 T D ws gw first N s w) (hd : ∀ k, D' k → D k) : PX XAt w0 T D' ws gw first N s w :=
  ⟨h.ref, fun k hk => ⟨(h.tb k hk).1, fun e => (h.tb k hk).2 (hd k e)⟩, h.many.sub (fun k hk => by
    rcases hk with e | e | e
    · exact .inl e
    · exact .inr (.inl e)
    · exact .inr (.inr (hd k e))), h.old⟩
/-- What has been laid since is the law's own. -/
theorem PX.more (F : XFace XAt) {D' : Nat → Prop} (h : PX XAt w0 T D ws gw first N s w) (hb : Below w.heap.size w w') (hd : ∀ k, D' k → (D k ∨ w.heap.size ≤ k) ∧ k < w'.heap.size) : PX XAt w0 T D' ws gw first N s w' := by
  have h' := h.below F hb
  refine ⟨h'.ref, fun k hk => ⟨(h.tb k hk).1, fun e => ?_⟩, h.many.more F (T := fun _ => False) (But.of hb) (fun _ x => x.elim) (fun k hk => ?_), h'.old⟩
  · rcases (hd k e).1 with e1 | e1
    · exact (h.tb k hk).2 e1
    · have := h.tlt hk; omega
  · rcases hk with e | e | e
    · exact ⟨.inl (.inl e), by have := h'.old.size; omega⟩
    · exact ⟨.inl (.inr (.inl e)), Nat.lt_of_lt_of_le (h.tlt e) hb.size⟩
    · refine ⟨?_, (hd k e).2⟩
      rcases (hd k e).1 with e1 | e1
      · exact .inl (.inr (.inr e1))
      · exact .inr e1
/-- One of the buffers alone. -/
theorem PX.pick (h : PX XAt w0 T D ws gw first N s w) {i : Nat} {x : Nat × XS} (hi : ws[i]? = some x) : PX XAt w0 T D [x] gw first N s w := by
  refine ⟨h.ref, h.tb, ⟨h.many.1, fun _ => 0, fun j g M hj => ?_⟩, h.old⟩
  cases j with
  | succ j => simp at hj
  | zero =>
    obtain ⟨-, own, h2⟩ := h.many
    have hj : x = (g, M) := by simpa using hj
    rw [hj] at hi
    obtain ⟨S, hS, hd⟩ := h2 i g M hi
    exact ⟨S, hS, fun k hk => ⟨(hd k hk).1, rfl⟩⟩
theorem PX.ok (F : XFace XAt) (h : PX XAt w0 T D ws gw first N s w) {i g : Nat} {M : XS} (hi : ws[i]? = some (g, M)) : OkX M := h.many.ok F hi
/-- A call of the document's buffer. -/
theorem PX.refd (F : XFace XAt) {T' : Nat → Prop} {M : Nat} {s' : XS} (h : PX XAt w0 T D ws gw first N s w) (h1 : RefO w' T' gw first M s') (h2 : But T w w') (h3 : ∀ k, T' k → T k ∨ w.heap.size ≤ k) : PX XAt w0 T' D ws gw first M s' w' := by
  have h7 : ∀ k, T' k → k < w'.heap.size := by obtain ⟨_, _, _, _, h7, _⟩ := h1; exact h7.lt
  refine ⟨h1, fun k hk => ?_, h.many.more F h2 (fun k hk => .inl (.inr (.inl hk))) (fun k hk => ?_), h.old.trans (h2.below (fun k hk => (h.tb k hk).1) h.old.size)⟩
  · rcases h3 k hk with e | e
    · exact h.tb k e
    · refine ⟨by have := h.old.size; omega, fun e2 => ?_⟩
      have := h.dlt e2
      omega
  · rcases hk with e | e | e
    · exact ⟨.inl (.inl e), by have := h.old.size; have := h2.size; omega⟩
    · refine ⟨?_, h7 k e⟩
      rcases h3 k e with e1 | e1
      · exact .inl (.inr (.inl e1))
      · exact .inr e1
    · exact ⟨.inl (.inr (.inr e)), Nat.lt_of_lt_of_le (h.dlt e) h2.size⟩
end
def PXDo (XAt : XA) (w0 : World) (T D : Nat → Prop) (ws : MX) (gw : Nat) (first : Int) (N : Nat) (s : XS) (v : Value) (w : World) (e : Ending) (w' : World) : Prop := e = .returned v ∧ PX XAt w0 T D ws gw first N s w' ∧ But (fun k => ¬ ZX w0 T D k) w w'
def PXR (XAt : XA) (w0 : World) (T D : Nat → Prop) (ws : MX) (gw : Nat) (first : Int) (N : Nat) (s : XS) (v : Value) (w : World) (e : Ending) (w' : World) : Prop := e = .returned v ∧ ∃ T', PX XAt w0 T' D ws gw first N s w' ∧ But T w w'
section
variable (F : XFace XAt) {w0 w : World} {T D : Nat → Prop} {ws ws' : MX} {gw : Nat} {first : Int} {N : Nat} {s : XS} (h : PX XAt w0 T D ws gw first N s w)
include h
/-- Of a call in 'AtX' words. -/
theorem px_do {f : Nat} {args : Array Value} {v : Value} (hc : Calls Try.prog f args w (YDo XAt (ZX w0 T D) w0 ws' v w)) : Calls Try.prog f args w (PXDo XAt w0 T D ws' gw first N s v w) := by
  refine hc.mono ?_
  rintro e w' ⟨rfl, h1, h2⟩
  exact ⟨rfl, h.own h1 h2, h2⟩
theorem px_tick {f : Nat} {args : Array Value} {x : Int} {is : Bool} {er : Int} {l : List Int} (hc : Calls Try.prog f args w (YTick XAt (ZX w0 T D) w0 ws' x is er l w)) :
    Calls Try.prog f args w (fun e w' => ∃ A n c, e = .returned (.tuple #[.agg #[.int .u32 x, .slice A n c], .bool is, .int .i64 er]) ∧ l.length = n ∧ OwnB w' w.heap.size A n c l ∧ PX XAt w0 T (fun k => D k ∨ (Value.slice A n c).ownBlock = some k) ws' gw first N s w' ∧ But (fun k => ¬ ZX w0 T D k) w w') := by
  refine hc.mono ?_
  rintro e w' ⟨A, n, c, rfl, h0, h1, h2, h3⟩
  exact ⟨A, n, c, rfl, h0, h1, h.ownD h2 h3 (fun k hk => (own_ltX h1 hk).1), h3⟩
theorem px_send {f : Nat} {args : Array Value} {ps : List (Int × List Int)} {er : Int} (hc : Calls Try.prog f args w (YSend XAt (ZX w0 T D) w0 ws' ps er w)) :
    Calls Try.prog f args w (fun e w' => ∃ v qs, e = .returned (.tuple #[v, .int .i64 er]) ∧ PcsX w' 54 w.heap.size v qs ∧ qs.map toldQ = ps ∧ PX XAt w0 T (fun k => D k ∨ blkQ v qs k) ws' gw first N s w' ∧ But (fun k => ¬ ZX w0 T D k) w w') := by
  refine hc.mono ?_
  rintro e w' ⟨v, qs, rfl, h1, h2, h3, h4⟩
  refine ⟨v, qs, rfl, h1, h2, h.ownD (V := blkQ v qs) h3 h4 (fun k hk => ?_), h4⟩
  rcases hk with hk | ⟨q, hq, hk⟩
  · exact h1.own k hk
  · exact (own_ltX (h1.rows q hq) hk).1
theorem px_more {f : Nat} {args : Array Value} {fv : Nat → Value} {s2 : XS} (hc : Calls Try.prog f args w (YMore XAt (ZX w0 T D) w0 ws fv s2 w)) : Calls Try.prog f args w (fun e w' => ∃ g, e = .returned (fv g) ∧ PX XAt w0 T D (ws ++ [(g, s2)]) gw first N s w' ∧ But (fun k => ¬ ZX w0 T D k) w w') := by
  refine hc.mono ?_
  rintro e w' ⟨g, rfl, h1, h2⟩
  exact ⟨g, rfl, h.own h1 h2, h2⟩
include F
theorem px_rwrite (AD : Option Addr) (nD cD : Nat) (ld : List Int) (hd : Rd w AD nD ld) (now : Int) (hn : 0 ≤ now ∧ now ≤ 4398046511104) (hN : N + nD ≤ 1000000000) (s' : XS) (x : Int) (hs : writeS ld now s = s') (hx : writeE ld s = x) :
    Calls Try.prog 14 #[.pointer (some ⟨gw, 0, none⟩), .slice AD nD cD, .int .u64 now] w (PXR XAt w0 T D ws gw first (N + nD) s' (.int .i64 x) w) := by
  subst hs; subst hx
  obtain ⟨A, c, W, a, hr, hW⟩ := h.ref
  refine (rwrite19_any hr AD nD cD ld hd now hn (by omega)).mono ?_
  rintro e w' ⟨rfl, T', A', c', W', a', h1, h2, h3, h4⟩
  exact ⟨rfl, T', h.refd F ⟨A', c', W', a', h1, by omega⟩ h2 h3, h2⟩
theorem px_rack (ack win now : Int) (ha : 0 ≤ ack ∧ ack < 4294967296) (hw : 0 ≤ win ∧ win < 4294967296) (hn : 0 ≤ now ∧ now ≤ 4398046511104) (s' : XS) (n x : Int) (hs : ackS ack win now s = s') (hm : ackN ack win s = n) (hx : ackE ack win s = x) :
    Calls Try.prog 21 #[.pointer (some ⟨gw, 0, none⟩), .int .u32 ack, .int .u32 win, .int .u64 now] w (PXR XAt w0 T D ws gw first N s' (.tuple #[.int .i64 n, .int .i64 x]) w) := by
  subst hs; subst hm; subst hx
  obtain ⟨A, c, W, a, hr, hW⟩ := h.ref
  refine (rack19_any hr ack win now ha hw hn).mono ?_
  rintro e w' ⟨rfl, T', A', c', W', a', h1, h2, h3, h4⟩
  exact ⟨rfl, T', h.refd F ⟨A', c', W', a', h1, by omega⟩ h2 h3, h2⟩
theorem px_rsend (mss : Int) (s' : XS) (ps : List (Int × List Int)) (er : Int) (hs : sendS mss s = s') (hp : sendL mss s = ps) (he : sendE mss = er) :
    Calls Try.prog 16 #[.pointer (some ⟨gw, 0, none⟩), .int .i64 mss] w (fun e w' => ∃ v qs, e = .returned (.tuple #[v, .int .i64 er]) ∧ PcsX w' 57 w.heap.size v qs ∧ qs.map toldQ = ps ∧ PX XAt w0 T D ws gw first N s' w' ∧ But T w w') := by
  subst hs; subst hp; subst he
  obtain ⟨A, c, W, a, hr, hW⟩ := h.ref
  refine (rsend19_any hr mss).mono ?_
  rintro e w' ⟨v, qs, rfl, h0, hq, A', c', W', a', h1, h2, h4⟩
  exact ⟨v, qs, rfl, h0, hq, h.refd F ⟨A', c', W', a', h1, by omega⟩ h2 (fun k hk => .inl hk), h2⟩
theorem px_rtick (mss now : Int) (hn : 0 ≤ now ∧ now ≤ 4398046511104) (s' : XS) (x : Int) (is : Bool) (er : Int) (l : List Int) (hs : tickS mss now s = s') (hx : tickA mss now s = x) (hb : tickB mss now s = is) (he : tickE mss now s = er) (hl : tickD mss now s = l) :
    Calls Try.prog 23 #[.pointer (some ⟨gw, 0, none⟩), .int .i64 mss, .int .u64 now] w (fun e w' => ∃ A n c, e = .returned (.tuple #[.agg #[.int .u32 x, .slice A n c], .bool is, .int .i64 er]) ∧ l.length = n ∧ OwnB w' w.heap.size A n c l ∧ PX XAt w0 T D ws gw first N s' w' ∧ But T w w') := by
  subst hs; subst hx; subst hb; subst he; subst hl
  obtain ⟨A, c, W, a, hr, hW⟩ := h.ref
  refine (rtick19_any hr mss now hn).mono ?_
  rintro e w' ⟨A2, n2, c2, rfl, h0, hq, A', c', W', a', h1, h2, h4⟩
  exact ⟨A2, n2, c2, rfl, h0, hq, h.refd F ⟨A', c', W', a', h1, by omega⟩ h2 (fun k hk => .inl hk), h2⟩
omit F in
theorem px_runa : Calls Try.prog 19 #[.pointer (some ⟨gw, 0, none⟩)] w (JustX (.int .u32 s.una) w) := by
  obtain ⟨A, c, W, a, hr, hW⟩ := h.ref
  exact runa19_any hr
omit F in
theorem px_rnxt : Calls Try.prog 28 #[.pointer (some ⟨gw, 0, none⟩)] w (JustX (.int .u32 (nxtX s)) w) := by
  obtain ⟨A, c, W, a, hr, hW⟩ := h.ref
  exact rnxt19_any hr
omit F in
theorem px_rend : Calls Try.prog 29 #[.pointer (some ⟨gw, 0, none⟩)] w (JustX (.int .u32 (endX s)) w) := by
  obtain ⟨A, c, W, a, hr, hW⟩ := h.ref
  exact rend19_any hr
omit F in
theorem px_rleft : Calls Try.prog 31 #[.pointer (some ⟨gw, 0, none⟩)] w (DrawX (.int .i64 (s.bs.length : Int)) w) := by
  obtain ⟨A, c, W, a, hr, hW⟩ := h.ref
  exact rleft19_any hr
omit F in
theorem px_cells : w.cell? ⟨gw, 4, none⟩ = some (.int .u32 s.win) ∧ w.cell? ⟨gw, 8, none⟩ = some (.int .u64 s.alarm) ∧ T gw := by
  obtain ⟨A, c, W, a, hr, hW⟩ := h.ref
  exact ⟨hr.c4, hr.c8, hr.sg⟩
end
theorem PX.start (F : XFace XAt) {w0 w1 w2 : World} {g gw : Nat} {at_ win rto tries : Int} {S T : Nat → Prop} (h1 : XAt w1 S g (newX at_ win rto tries)) (hS : ∀ k, S k → w0.heap.size ≤ k) (hb1 : Below w0.heap.size w0 w1) (h2 : RefO w2 T gw at_ 0 (newX at_ win rto tries)) (hb2 : Below w1.heap.size w1 w2) (hT : ∀ k, T k → w1.heap.size ≤ k) :
    PX XAt w0 T (fun _ => False) [(g, newX at_ win rto tries)] gw at_ 0 (newX at_ win rto tries) w2 := by
  have h7 : ∀ k, T k → k < w2.heap.size := by obtain ⟨_, _, _, _, h7, _⟩ := h2; exact h7.lt
  have hs := hb1.size
  have hs2 := hb2.size
  refine ⟨h2, fun k hk => ⟨by have := hT k hk; omega, fun e => e⟩, ⟨fun k hk => ?_, fun _ => 0, fun j g2 M hj => ?_⟩, below_trans hb1 hb2⟩
  · rcases hk with e | e | e
    · omega
    · exact h7 k e
    · exact e.elim
  · cases j with
    | succ j => simp at hj
    | zero =>
      have hj : (g, newX at_ win rto tries) = (g2, M) := by simpa using hj
      injection hj with e1 e2
      subst e1; subst e2
      refine ⟨S, F.but h1 (But.of (S := fun _ => False) hb2) (fun _ _ x => x), fun k hk => ⟨fun e => ?_, rfl⟩⟩
      have h3 := hS k hk
      have h4 := F.lt h1 k hk
      rcases e with e | e | e
      · omega
      · have := hT k e; omega
      · exact e.elim
end Go.Proofs.Ytncbkgcblmohoaa
