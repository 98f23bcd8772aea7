/-
  What a buffer's calls must do, whatever it is made of ('XFace', to be shown of the program's own): the laws are walked over that.
-/
import Derived.Test.YtncbkgcblmohoaaRxP
import Derived.Test.YtncbkgcblmohoaaSlV
namespace Go.Proofs.Ytncbkgcblmohoaa
set_option maxRecDepth 10000
open Go.RowKit
set_option linter.unusedSimpArgs false
set_option linter.unusedVariables false

abbrev XA := World → (Nat → Prop) → Nat → XS → Prop
/-- A piece as it lies: its number, the row of its bytes, what room that has, the bytes. -/
structure PQ where
  seq : Int
  A : Option Addr
  c : Nat
  data : List Int
def toldQ (q : PQ) : Int × List Int := (q.seq, q.data)
def flatQ (qs : List PQ) : List Value := qs.flatMap (fun q => [.int .u32 q.seq, .slice q.A q.data.length q.c])
theorem flatQ_len (l : List PQ) : (flatQ l).length = l.length * 2 := by
  induction l with
  | nil => rfl
  | cons p l ih => simp only [flatQ, List.flatMap_cons, List.length_append, List.length_cons, List.length_nil] at ih ⊢; omega
theorem flatQ_app (a b : List PQ) : flatQ (a ++ b) = flatQ a ++ flatQ b := by unfold flatQ; rw [List.flatMap_append]
/-- A slice of pieces of the call's own, from block B on. -/
structure PcsX (w : World) (PT : TypeId) (B : Nat) (v : Value) (qs : List PQ) : Prop where
  sl : SlV w PT 2 v qs.length (flatQ qs)
  rows : ∀ q ∈ qs, OwnB w B q.A q.data.length q.c q.data
  own : ∀ b, v.ownBlock = some b → B ≤ b
def rowQ (q : PQ) : Value := .slice q.A q.data.length q.c
def XDoes (XAt : XA) (S : Nat → Prop) (g : Nat) (s : XS) (v : Value) (w : World) (e : Ending) (w' : World) : Prop := e = .returned v ∧ ∃ S', XAt w' S' g s ∧ But S w w' ∧ ∀ k, S' k → S k ∨ w.heap.size ≤ k
def XSends (XAt : XA) (S : Nat → Prop) (g : Nat) (s : XS) (ps : List (Int × List Int)) (er : Int) (w : World) (e : Ending) (w' : World) : Prop :=
  ∃ v qs, e = .returned (.tuple #[v, .int .i64 er]) ∧ PcsX w' 54 w.heap.size v qs ∧ qs.map toldQ = ps ∧ ∃ S', XAt w' S' g s ∧ But S w w' ∧ (∀ k, S' k → S k ∨ w.heap.size ≤ k) ∧ (∀ b, v.ownBlock = some b → ¬ S' b) ∧ ∀ q ∈ qs, ∀ b, (rowQ q).ownBlock = some b → ¬ S' b
def XTicks (XAt : XA) (S : Nat → Prop) (g : Nat) (s : XS) (x : Int) (is : Bool) (er : Int) (l : List Int) (w : World) (e : Ending) (w' : World) : Prop :=
  ∃ A n c, e = .returned (.tuple #[.agg #[.int .u32 x, .slice A n c], .bool is, .int .i64 er]) ∧ l.length = n ∧ OwnB w' w.heap.size A n c l ∧ ∃ S', XAt w' S' g s ∧ But S w w' ∧ (∀ k, S' k → S k ∨ w.heap.size ≤ k) ∧ ∀ b, (Value.slice A n c).ownBlock = some b → ¬ S' b
def XNews (XAt : XA) (s : XS) (w : World) (e : Ending) (w' : World) : Prop := ∃ g S, e = .returned (.tuple #[.pointer (some ⟨g, 0, none⟩), .int .i64 0]) ∧ XAt w' S g s ∧ Below w.heap.size w w' ∧ ∀ k, S k → w.heap.size ≤ k
def XCopies (XAt : XA) (S : Nat → Prop) (g : Nat) (s : XS) (w : World) (e : Ending) (w' : World) : Prop :=
  ∃ g2 S1 S2, e = .returned (.pointer (some ⟨g2, 0, none⟩)) ∧ XAt w' S1 g s ∧ XAt w' S2 g2 s ∧ But S w w' ∧ (∀ k, S1 k → S k ∨ w.heap.size ≤ k) ∧ (∀ k, S2 k → w.heap.size ≤ k) ∧ ∀ k, S1 k → ¬ S2 k
abbrev u32X (x : Int) : Prop := 0 ≤ x ∧ x < 4294967296
abbrev i64X (x : Int) : Prop := -9223372036854775808 ≤ x ∧ x ≤ 9223372036854775807
/-- Instants: so far that no sum of them goes round. -/
abbrev nowX (x : Int) : Prop := 0 ≤ x ∧ x ≤ 4398046511104
structure XFace (XAt : XA) : Prop where
  but : ∀ {w w' : World} {S T : Nat → Prop} {g : Nat} {s : XS}, XAt w S g s → But T w w' → (∀ k, S k → ¬ T k) → XAt w' S g s
  lt : ∀ {w : World} {S : Nat → Prop} {g : Nat} {s : XS}, XAt w S g s → ∀ k, S k → k < w.heap.size
  ok : ∀ {w : World} {S : Nat → Prop} {g : Nat} {s : XS}, XAt w S g s → OkX s
  new_bad : ∀ (at_ win rto tries : Int) (w : World), u32X at_ → u32X win → (0 ≤ rto ∧ rto < 18446744073709551616) → i64X tries → badX win rto tries →
    Calls Try.prog 9 #[.int .u32 at_, .int .u32 win, .int .u64 rto, .int .i64 tries] w fun e w' => e = .returned (.tuple #[.pointer none, .int .i64 1]) ∧ Below w.heap.size w w'
  new_ok : ∀ (at_ win rto tries : Int) (w : World), u32X at_ → u32X win → ¬ badX win rto tries → Calls Try.prog 9 #[.int .u32 at_, .int .u32 win, .int .u64 rto, .int .i64 tries] w (XNews XAt (newX at_ win rto tries) w)
  write_ : ∀ (S : Nat → Prop) (g : Nat) (s : XS) (now : Int) (A : Option Addr) (n c : Nat) (l : List Int) (w : World), XAt w S g s → nowX now → Rd w A n l → n ≤ 100000 → n ≤ c → c ≤ maxLen → (∀ b o, A = some ⟨b, o, none⟩ → 0 < n → ¬ S b) →
    Calls Try.prog 12 #[.pointer (some ⟨g, 0, none⟩), .slice A n c, .int .u64 now] w (XDoes XAt S g (writeS l now s) (.int .i64 (writeE l s)) w)
  send_ : ∀ (S : Nat → Prop) (g : Nat) (s : XS) (mss : Int) (w : World), XAt w S g s → i64X mss → Calls Try.prog 15 #[.pointer (some ⟨g, 0, none⟩), .int .i64 mss] w (XSends XAt S g (sendS mss s) (sendL mss s) (sendE mss) w)
  ack_ : ∀ (S : Nat → Prop) (g : Nat) (s : XS) (ack win now : Int) (w : World), XAt w S g s → u32X ack → u32X win → nowX now →
    Calls Try.prog 20 #[.pointer (some ⟨g, 0, none⟩), .int .u32 ack, .int .u32 win, .int .u64 now] w (XDoes XAt S g (ackS ack win now s) (.tuple #[.int .i64 (ackN ack win s), .int .i64 (ackE ack win s)]) w)
  tick_ : ∀ (S : Nat → Prop) (g : Nat) (s : XS) (mss now : Int) (w : World), XAt w S g s → i64X mss → nowX now →
    Calls Try.prog 22 #[.pointer (some ⟨g, 0, none⟩), .int .i64 mss, .int .u64 now] w (XTicks XAt S g (tickS mss now s) (tickA mss now s) (tickB mss now s) (tickE mss now s) (tickD mss now s) w)
  una_ : ∀ (S : Nat → Prop) (g : Nat) (s : XS) (w : World), XAt w S g s → Calls Try.prog 26 #[.pointer (some ⟨g, 0, none⟩)] w (XDoes XAt S g s (.int .u32 s.una) w)
  nxt_ : ∀ (S : Nat → Prop) (g : Nat) (s : XS) (w : World), XAt w S g s → Calls Try.prog 27 #[.pointer (some ⟨g, 0, none⟩)] w (XDoes XAt S g s (.int .u32 (nxtX s)) w)
  end_ : ∀ (S : Nat → Prop) (g : Nat) (s : XS) (w : World), XAt w S g s → Calls Try.prog 13 #[.pointer (some ⟨g, 0, none⟩)] w (XDoes XAt S g s (.int .u32 (endX s)) w)
  window_ : ∀ (S : Nat → Prop) (g : Nat) (s : XS) (w : World), XAt w S g s → Calls Try.prog 30 #[.pointer (some ⟨g, 0, none⟩)] w (XDoes XAt S g s (.int .u32 s.win) w)
  alarm_ : ∀ (S : Nat → Prop) (g : Nat) (s : XS) (w : World), XAt w S g s → Calls Try.prog 25 #[.pointer (some ⟨g, 0, none⟩)] w (XDoes XAt S g s (.tuple #[.int .u64 (alarmX s), .bool (setX s)]) w)
  copy_ : ∀ (S : Nat → Prop) (g : Nat) (s : XS) (w : World), XAt w S g s → Calls Try.prog 24 #[.pointer (some ⟨g, 0, none⟩)] w (XCopies XAt S g s w)
end Go.Proofs.Ytncbkgcblmohoaa
