/-
  Texts laid together: Tk, SumPlain, SumLay, IpPlain.
-/
import Derived.Test.YtoegfgbalcholaaGreatRows
import Derived.OrdersHeld
import Derived.Deep.RegionHeld
import Derived.KernelRfl

/-
  The moves of a walk through a region that draws its order, in a short form: the operation is picked out of the region by its number. No function of the program.
-/
namespace Go.Proofs.YtoegfgbalcholaaGreat
set_option maxRecDepth 10000
/-- Number i of a list, told as the list's own member (no index is left standing). -/
def pickOp : List Oper → Nat → Option Oper
  | [], _ => none
  | o :: _, 0 => some o
  | _ :: os, i + 1 => pickOp os i
theorem pickOp_get : ∀ (os : List Oper) (i : Nat), pickOp os i = os[i]?
  | [], _ => by simp [pickOp]
  | o :: os, 0 => rfl
  | o :: os, i + 1 => by simp only [pickOp, List.getElem?_cons_succ]; exact pickOp_get os i
theorem pickOp_at {ops : Array Oper} {i : Nat} {o : Oper} (h : pickOp ops.toList i = some o) : ops[i]? = some o := by
  rw [pickOp_get, Array.getElem?_toList] at h
  exact h
theorem putL {α : Type} : (∀ (l : List α) (a : α) (i : Nat), l.toArray.setIfInBounds i a = (l.set i a).toArray) ∧ (∀ (l : List α) (x a : α), (x :: l).set 0 a = a :: l) ∧ ∀ (l : List α) (x a : α) (n : Nat), (x :: l).set (n + 1) a = x :: l.set n a :=
  ⟨fun _ _ _ => by simp, fun _ _ _ => rfl, fun _ _ _ _ => rfl⟩
section
variable {P : Program} {ops : Array Oper} {Q : Exit → Act → World → Prop} {md : Region.Mode} {S : World → Prop} {oi : Oper} {fuel : Nat} {listed : Array Bool} {a : Act} {w : World}
/-- A pure operation. -/
theorem tk (i : Nat) (v : Value) (hi : pickOp ops.toList i = some oi) (hy : ∀ w', S w' → (execOp a.eval oi).run P w' = .ok (.value v) w')
    (h : wpAnyH P md ops Q S fuel (listed.setIfInBounds i true) (a.put oi.dst v) w) (hg : Region.wanted oi (yielded ops a.tmps) = true := by kernel_rfl) (hs : Region.noSelect ops = true := by kernel_rfl) (hf : Region.free md ops listed i = true := by kernel_rfl) (hr : (Region.ready md ops listed).contains i = true := by kernel_rfl)
    (hQ : ∀ c a w, Q (.panic c) (a.put oi.dst v) w → Q (.panic c) a w := by exact fun _ _ _ h => h) (hS : S w := by assumption) : wpAnyH P md ops Q S (fuel + 1) listed a w :=
  wpAnyH_take (pickOp_at hi) hs hf hr hQ (.inl ⟨hg, hy⟩) hS h
/-- One whose guard is down. -/
theorem tkN (i : Nat) (hi : pickOp ops.toList i = some oi)
    (h : wpAnyH P md ops Q S fuel (listed.setIfInBounds i true) (a.put oi.dst undef) w) (hg : Region.wanted oi (yielded ops a.tmps) = false := by kernel_rfl) (hs : Region.noSelect ops = true := by kernel_rfl) (hf : Region.free md ops listed i = true := by kernel_rfl) (hr : (Region.ready md ops listed).contains i = true := by kernel_rfl)
    (hQ : ∀ c a w, Q (.panic c) (a.put oi.dst undef) w → Q (.panic c) a w := by exact fun _ _ _ h => h) (hS : S w := by assumption) : wpAnyH P md ops Q S (fuel + 1) listed a w :=
  wpAnyH_take (pickOp_at hi) hs hf hr hQ (.inr ⟨hg, rfl⟩) hS h
/-- The one that may come up alone. -/
theorem tkC (i : Nat) (hi : pickOp ops.toList i = some oi)
    (h : ∀ K' : Act → World → Prop, Shut (∀ a w, S w → (S w → wpAnyH P md ops Q S fuel (listed.setIfInBounds i true) a w) → K' a w) → if Region.wanted oi (yielded ops a.tmps) = true then Oper.wp P oi a w K' Q else K' (a.put oi.dst undef) w)
    (hr : Region.ready md ops listed = [i] := by kernel_rfl) : wpAnyH P md ops Q S (fuel + 1) listed a w :=
  wpAnyH_ready hr (by simp) (AllReadyH.cons (pickOp_at hi) h AllReadyH.nil)
end
end Go.Proofs.YtoegfgbalcholaaGreat

/-
  Plain lemmas on sums of words of 16 bits: what goes over the greatest word comes in again below; a total, folded; bytes' words. Nothing of the program.
-/
namespace Go.Proofs.YtoegfgbalcholaaGreat
set_option maxRecDepth 10000

def U16 (x : Int) : Prop := 0 ≤ x ∧ x ≤ 65535
/-- A total, folded to 16 bits: 0 only of 0. -/
def fold16 (n : Int) : Int := if n ≤ 0 then 0 else (n - 1) % 65535 + 1
def add16 (a b : Int) : Int := if 65535 < a + b then a + b - 65535 else a + b
theorem fold_bd (n : Int) : 0 ≤ fold16 n ∧ fold16 n ≤ 65535 := by unfold fold16; split <;> omega
theorem fold_mod (n : Int) (h : 0 ≤ n) : fold16 n % 65535 = n % 65535 := by unfold fold16; split <;> omega
theorem fold_pos (n : Int) (h : 0 < n) : 0 < fold16 n := by unfold fold16; split <;> omega
theorem fold_zero : fold16 0 = 0 := rfl
theorem add_fold (n b : Int) (hn : 0 ≤ n) (hb : U16 b) : add16 (fold16 n) b = fold16 (n + b) := by
  unfold U16 at hb
  unfold add16 fold16; (repeat' split) <;> omega
theorem add_bd (a b : Int) (ha : U16 a) (hb : U16 b) : U16 (add16 a b) := by
  unfold U16 add16 at *; split <;> omega
/-- Two fields that are the same but that 0 and ffff are one. -/
def likeB (a b : Int) : Bool := decide (a = b) || (decide (a = 0) && decide (b = 65535)) || (decide (a = 65535) && decide (b = 0))
theorem like_of (a b : Int) (ha : U16 a) (hb : U16 b) (h : a % 65535 = b % 65535) : likeB a b = true := by
  unfold U16 at ha hb
  unfold likeB
  simp
  omega
theorem like_mod (a b : Int) (h : likeB a b = true) : a % 65535 = b % 65535 := by
  unfold likeB at h
  simp at h
  omega

/-- What becomes of a field. -/
def wordF (field was is_ : Int) : Int := 65535 - add16 (add16 (65535 - field) (65535 - was)) is_
theorem wordF_bd (f a b : Int) (hf : U16 f) (ha : U16 a) (hb : U16 b) : U16 (wordF f a b) := by
  have := add_bd _ _ (add_bd (65535 - f) (65535 - a) (by unfold U16 at *; omega) (by unfold U16 at *; omega)) hb
  unfold U16 at *
  unfold wordF
  omega
theorem wordF_mod (f a b : Int) : (wordF f a b) % 65535 = (f + a - b) % 65535 := by
  unfold wordF add16; (repeat' split) <;> omega
/-- All words of bytes, added up (not folded); 'true': the first byte is a word's second one. -/
def ws : Bool → List Int → Int
  | _, [] => 0
  | false, x :: l => 256 * x + ws true l
  | true, x :: l => x + ws false l
def Bytes (l : List Int) : Prop := ∀ x ∈ l, 0 ≤ x ∧ x < 256
def sumL (l : List Int) : Int := fold16 (ws false l)
theorem ws_append (p : Bool) (a b : List Int) : ws p (a ++ b) = ws p a + ws (xor p (decide (a.length % 2 = 1))) b := by
  induction a generalizing p with
  | nil => simp [ws]
  | cons x a ih =>
    have h : decide ((a.length + 1) % 2 = 1) = !decide (a.length % 2 = 1) := by
      by_cases h : a.length % 2 = 1
      · simp [h]; omega
      · simp [h]; omega
    cases p
    · simp only [List.cons_append, ws, ih, List.length_cons, h]
      cases decide (a.length % 2 = 1) <;> simp <;> omega
    · simp only [List.cons_append, ws, ih, List.length_cons, h]
      cases decide (a.length % 2 = 1) <;> simp <;> omega
theorem ws_even (a b : List Int) (h : a.length % 2 = 0) : ws false (a ++ b) = ws false a + ws false b := by
  rw [ws_append]; simp [show ¬ a.length % 2 = 1 by omega]
theorem ws_nn (l : List Int) (h : Bytes l) (p : Bool) : 0 ≤ ws p l := by
  induction l generalizing p with
  | nil => simp [ws]
  | cons x l ih =>
    have hx := h x (by simp)
    have hl : Bytes l := fun y hy => h y (by simp [hy])
    have h1 := ih hl true
    have h2 := ih hl false
    cases p <;> simp only [ws] <;> omega
theorem sumL_bd (l : List Int) : 0 ≤ sumL l ∧ sumL l ≤ 65535 := fold_bd _
theorem Bytes.app {a b : List Int} (h : Bytes a) (k : Bytes b) : Bytes (a ++ b) := fun x hx => by
  rcases List.mem_append.1 hx with h' | h'
  · exact h x h'
  · exact k x h'

/-- How far the words of the bytes d have been added: the sum, the byte that waits, whether one does. -/
structure St (d : List Int) (acc first : Int) (waits : Bool) : Prop where
  w : waits = decide (d.length % 2 = 1)
  a : acc = fold16 (ws false d - (if waits then 256 * first else 0))
  f : 0 ≤ first ∧ first < 256
  n : 0 ≤ ws false d - (if waits then 256 * first else 0)
theorem St.nil : St [] 0 0 false := ⟨by decide, by decide, by decide, by decide⟩
theorem St.bd {d : List Int} {acc first : Int} {waits : Bool} (h : St d acc first waits) : 0 ≤ acc ∧ acc ≤ 65535 := by rw [h.a]; exact fold_bd _
theorem St.one {d : List Int} {acc first : Int} (h : St d acc first true) {b : Int} (hb : 0 ≤ b ∧ b < 256) : St (d ++ [b]) (add16 acc (first * 256 + b)) b false := by
  obtain ⟨h1, h2, h3, h4⟩ := h
  have ho : d.length % 2 = 1 := by simpa using h1.symm
  have e : ws false (d ++ [b]) = ws false d + b := by rw [ws_append]; simp [ho, ws]
  simp only [if_true] at h2 h4
  refine ⟨?_, ?_, hb, ?_⟩
  · simp; omega
  · rw [h2, add_fold _ _ h4 (by unfold U16; omega), e]
    simp only [Bool.false_eq_true, if_false]
    congr 1; omega
  · rw [e]; simp only [Bool.false_eq_true, if_false]; omega
theorem St.two {d : List Int} {acc first : Int} (h : St d acc first false) {b : Int} (hb : 0 ≤ b ∧ b < 256) : St (d ++ [b]) acc b true := by
  obtain ⟨h1, h2, h3, h4⟩ := h
  have ho : ¬ d.length % 2 = 1 := by simpa using h1.symm
  have e : ws false (d ++ [b]) = ws false d + 256 * b := by rw [ws_append]; simp [ho, ws]
  simp only [Bool.false_eq_true, if_false] at h2 h4
  refine ⟨?_, ?_, hb, ?_⟩
  · simp; omega
  · rw [h2, e]
    simp only [if_true]
    congr 1; omega
  · rw [e]; simp only [if_true]; omega
theorem St.end1 {d : List Int} {acc first : Int} (h : St d acc first true) : add16 acc (first * 256) = sumL d := by
  obtain ⟨h1, h2, h3, h4⟩ := h
  simp only [if_true] at h2 h4
  rw [h2, add_fold _ _ h4 (by unfold U16; omega)]
  unfold sumL
  congr 1; omega
theorem St.end0 {d : List Int} {acc first : Int} (h : St d acc first false) : acc = sumL d := by
  obtain ⟨h1, h2, h3, h4⟩ := h
  simp only [Bool.false_eq_true, if_false] at h2
  rw [h2]
  unfold sumL
  congr 1; omega

end Go.Proofs.YtoegfgbalcholaaGreat

/-
  Bytes, an even number of them: words laid into them, and what that does to their sum. Plain lists: nothing of the program.
-/
namespace Go.Proofs.YtoegfgbalcholaaGreat
set_option maxRecDepth 10000

def wordL (l : List Int) (k : Nat) : Int := l.getD (2 * k) 0 * 256 + l.getD (2 * k + 1) 0
def layL (l : List Int) (k : Nat) (x : Int) : List Int := (l.set (2 * k) (x / 256)).set (2 * k + 1) (x % 256)
theorem ws_set0 (l : List Int) (p : Bool) (i : Nat) (x : Int) (h : i < l.length) : ws p (l.set i x) = ws p l + (if xor p (decide (i % 2 = 1)) then x - l.getD i 0 else 256 * (x - l.getD i 0)) := by
  induction l generalizing p i with
  | nil => simp at h
  | cons y l ih =>
    cases i with
    | zero => cases p <;> simp [ws] <;> omega
    | succ i =>
      have h' : i < l.length := by simpa using h
      have e : decide ((i + 1) % 2 = 1) = !decide (i % 2 = 1) := by
        by_cases hi : i % 2 = 1
        · simp [hi]; omega
        · simp [hi]; omega
      cases p
      · simp only [List.set_cons_succ, ws, ih true i h', List.getD_cons_succ, e]
        cases decide (i % 2 = 1) <;> simp <;> omega
      · simp only [List.set_cons_succ, ws, ih false i h', List.getD_cons_succ, e]
        cases decide (i % 2 = 1) <;> simp <;> omega

theorem layL_len (l : List Int) (k : Nat) (x : Int) : (layL l k x).length = l.length := by simp [layL]
theorem layL_byte {l : List Int} (h : Bytes l) (k : Nat) {x : Int} (hx : U16 x) : Bytes (layL l k x) := by
  unfold U16 at hx
  intro y hy
  rcases List.mem_or_eq_of_mem_set hy with hy | rfl
  · rcases List.mem_or_eq_of_mem_set hy with hy | rfl
    · exact h y hy
    · omega
  · omega
theorem ws_lay (l : List Int) (k : Nat) (x : Int) (h : 2 * k + 1 < l.length) : ws false (layL l k x) = ws false l - wordL l k + x := by
  unfold layL wordL
  rw [ws_set0 _ _ _ _ (by simpa using h), ws_set0 _ _ _ _ (by omega)]
  have e1 : (2 * k + 1) % 2 = 1 := by omega
  have e3 : (l.set (2 * k) (x / 256)).getD (2 * k + 1) 0 = l.getD (2 * k + 1) 0 := by simp [List.getD]
  rw [e3]
  simp [e1]
  omega
theorem wordL_lay_same (l : List Int) (k : Nat) (x : Int) (h : 2 * k + 1 < l.length) : wordL (layL l k x) k = x := by
  unfold layL wordL
  have e1 : ((l.set (2 * k) (x / 256)).set (2 * k + 1) (x % 256)).getD (2 * k) 0 = x / 256 := by
    simp [List.getD, show 2 * k < l.length by omega]
  have e2 : ((l.set (2 * k) (x / 256)).set (2 * k + 1) (x % 256)).getD (2 * k + 1) 0 = x % 256 := by
    simp [List.getD, h]
  rw [e1, e2]
  omega
theorem wordL_lay_other (l : List Int) (k j : Nat) (x : Int) (h : k ≠ j) : wordL (layL l k x) j = wordL l j := by
  unfold layL wordL
  simp [List.getD, show ¬ 2 * k = 2 * j by omega, show ¬ 2 * k + 1 = 2 * j by omega, show ¬ 2 * k = 2 * j + 1 by omega]
theorem wordL_bd {l : List Int} (h : Bytes l) (k : Nat) : U16 (wordL l k) := by
  have hb : ∀ i, 0 ≤ l.getD i 0 ∧ l.getD i 0 < 256 := by
    intro i
    by_cases hj : i < l.length
    · simp only [List.getD, List.getElem?_eq_getElem hj, Option.getD_some]
      exact h _ (List.getElem_mem hj)
    · simp [List.getD, List.getElem?_eq_none (by omega : l.length ≤ i)]
  have h1 := hb (2 * k)
  have h2 := hb (2 * k + 1)
  unfold wordL U16
  omega
theorem ws_zero {l : List Int} (h : Bytes l) (p : Bool) : ws p l = 0 ↔ ∀ i, i < l.length → l.getD i 0 = 0 := by
  induction l generalizing p with
  | nil => simp [ws]
  | cons x l ih =>
    have hx := h x (by simp)
    have hl : Bytes l := fun y hy => h y (by simp [hy])
    have n1 := ws_nn l hl true
    have n2 := ws_nn l hl false
    have key : (∀ i, i < (x :: l).length → (x :: l).getD i 0 = 0) ↔ x = 0 ∧ ∀ i, i < l.length → l.getD i 0 = 0 := by
      constructor
      · intro hh
        exact ⟨by simpa using hh 0 (by simp), fun i hi => by simpa using hh (i + 1) (by simpa using hi)⟩
      · rintro ⟨h0, hh⟩ i hi
        cases i with
        | zero => simpa using h0
        | succ i => simpa using hh i (by simpa using hi)
    rw [key]
    cases p
    · rw [← ih hl true]; simp only [ws]; omega
    · rw [← ih hl false]; simp only [ws]; omega
end Go.Proofs.YtoegfgbalcholaaGreat

/-
  Heads of packets as lists of bytes: what stands ahead of the field, what behind it, the whole. Nothing of the program.
-/
namespace Go.Proofs.YtoegfgbalcholaaGreat
set_option maxRecDepth 10000
/-- A number's bytes, the highest first. -/
def b16 (x : Int) : List Int := [x / 256, x % 256]
def b32 (x : Int) : List Int := [x / 16777216, x / 65536 % 256, x / 256 % 256, x % 256]
theorem b16_bytes {x : Int} (h : 0 ≤ x ∧ x < 65536) : Bytes (b16 x) := by unfold b16; intro y hy; simp at hy; omega
theorem b32_bytes {x : Int} (h : 0 ≤ x ∧ x < 4294967296) : Bytes (b32 x) := by unfold b32; intro y hy; simp at hy; omega
def flagsOf (df : Bool) : Int := if df then 16384 else 0
/-- What stands ahead of a header's field (k bytes of options, 'long' in all). -/
def aheadL (tos id_ : Int) (df : Bool) (ttl proto : Int) (k : Nat) (long : Int) : List Int :=
  [64 + (20 + (k : Int)) / 4, tos] ++ b16 long ++ b16 id_ ++ b16 (flagsOf df) ++ [ttl, proto]
def behindL (src dst : Int) (opts : List Int) : List Int := b32 src ++ b32 dst ++ opts
def fieldL (tos id_ : Int) (df : Bool) (ttl proto src dst : Int) (opts : List Int) (long : Int) : Int :=
  65535 - sumL (aheadL tos id_ df ttl proto opts.length long ++ behindL src dst opts)
def packetL (tos id_ : Int) (df : Bool) (ttl proto src dst : Int) (opts payload : List Int) : List Int :=
  aheadL tos id_ df ttl proto opts.length (20 + opts.length + payload.length) ++ b16 (fieldL tos id_ df ttl proto src dst opts (20 + opts.length + payload.length)) ++ behindL src dst opts ++ payload
/-- Whether a head may be. -/
def mayB (ttl : Int) (n : Nat) : Bool := decide (0 < ttl) && decide (n ≤ 40) && decide (n % 4 = 0)

theorem aheadL_len (tos id_ : Int) (df : Bool) (ttl proto : Int) (k : Nat) (long : Int) : (aheadL tos id_ df ttl proto k long).length = 10 := rfl
theorem behindL_len (src dst : Int) (opts : List Int) : (behindL src dst opts).length = 8 + opts.length := by simp [behindL, b32]; omega
theorem fieldL_bd (tos id_ : Int) (df : Bool) (ttl proto src dst : Int) (opts : List Int) (long : Int) : 0 ≤ fieldL tos id_ df ttl proto src dst opts long ∧ fieldL tos id_ df ttl proto src dst opts long < 65536 := by
  unfold fieldL
  have := sumL_bd (aheadL tos id_ df ttl proto opts.length long ++ behindL src dst opts)
  omega
theorem packetL_len (tos id_ : Int) (df : Bool) (ttl proto src dst : Int) (opts payload : List Int) : (packetL tos id_ df ttl proto src dst opts payload).length = 20 + opts.length + payload.length := by
  simp [packetL, behindL_len, aheadL_len, b16]; omega

theorem aheadL_bytes {tos id_ : Int} {df : Bool} {ttl proto : Int} {k : Nat} {long : Int} (h0 : 0 ≤ tos ∧ tos < 256) (h1 : 0 ≤ id_ ∧ id_ < 65536) (h2 : 0 ≤ ttl ∧ ttl < 256) (h3 : 0 ≤ proto ∧ proto < 256) (hk : k ≤ 40) (hl : 0 ≤ long ∧ long < 65536) :
    Bytes (aheadL tos id_ df ttl proto k long) := by
  unfold aheadL
  refine ((((Bytes.app ?_ (b16_bytes hl)).app (b16_bytes h1)).app (b16_bytes ?_)).app ?_)
  · intro y hy; simp at hy; omega
  · unfold flagsOf; split <;> omega
  · intro y hy; simp at hy; omega
theorem behindL_bytes {src dst : Int} {opts : List Int} (h0 : 0 ≤ src ∧ src < 4294967296) (h1 : 0 ≤ dst ∧ dst < 4294967296) (h : Bytes opts) : Bytes (behindL src dst opts) :=
  ((b32_bytes h0).app (b32_bytes h1)).app h

/-- What is asked: the error of the first that is so, or 0. -/
def askE : List (Bool × Int) → Int
  | [] => 0
  | (b, e) :: l => if b then e else askE l
/-- How many bytes a header says it has, how many the packet; its flags. -/
def hdrL (b : List Int) : Int := b.getD 0 0 % 16 * 4
def longL (b : List Int) : Int := b.getD 2 0 * 256 + b.getD 3 0
def flagsL (b : List Int) : Int := b.getD 6 0 * 256 + b.getD 7 0
def faultsIp (b : List Int) : List (Bool × Int) :=
  [(decide (b.getD 0 0 / 16 ≠ 4) || decide (hdrL b < 20), 5), (decide ((b.length : Int) < hdrL b) || decide ((b.length : Int) < longL b), 4), (decide (longL b < b.length), 5),
    (!(sumL (b.take (hdrL b).toNat) == 65535), 20), (decide (32768 ≤ flagsL b), 5), (decide (flagsL b % 16384 ≠ 0), 21), (decide (b.getD 8 0 = 0), 23)]
/-- What is wrong with a packet's bytes, or 0. -/
def errIp (b : List Int) : Int := if 1500 < b.length then 3 else if b.length < 20 then 4 else askE (faultsIp b)
theorem ask7 (x1 x2 x3 x4 x5 x6 x7 : Bool) : askE [(x1, 5), (x2, 4), (x3, 5), (x4, 20), (x5, 5), (x6, 21), (x7, 23)] = 0 ↔ x1 = false ∧ x2 = false ∧ x3 = false ∧ x4 = false ∧ x5 = false ∧ x6 = false ∧ x7 = false := by
  cases x1 <;> cases x2 <;> cases x3 <;> cases x4 <;> cases x5 <;> cases x6 <;> cases x7 <;> decide

/-- A packet's bytes, one by one. -/
theorem packetL_cons (tos id_ : Int) (df : Bool) (ttl proto src dst : Int) (opts payload : List Int) : ∃ z u v : Int, z = 20 + opts.length + payload.length ∧
    packetL tos id_ df ttl proto src dst opts payload = (64 + (20 + (opts.length : Int)) / 4) :: tos :: (z / 256) :: (z % 256) :: (id_ / 256) :: (id_ % 256) :: (flagsOf df / 256) :: (flagsOf df % 256) :: ttl :: proto :: u :: v ::
      (src / 16777216) :: (src / 65536 % 256) :: (src / 256 % 256) :: (src % 256) :: (dst / 16777216) :: (dst / 65536 % 256) :: (dst / 256 % 256) :: (dst % 256) :: (opts ++ payload) :=
  ⟨_, fieldL tos id_ df ttl proto src dst opts (20 + opts.length + payload.length) / 256, fieldL tos id_ df ttl proto src dst opts (20 + opts.length + payload.length) % 256, rfl, by simp [packetL, aheadL, behindL, b16, b32]⟩

/-- Two packets of as many options and one payload, part by part. -/
structure Parts (L L' : List Int) (tos tos' id_ id' : Int) (df df' : Bool) (ttl ttl' proto proto' src src' dst dst' : Int) (m : Nat) : Prop where
  s0 : decide ((L.take 1).drop 0 = (L'.take 1).drop 0) = true
  s1 : decide ((L.take 2).drop 1 = (L'.take 2).drop 1) = (tos == tos')
  s2 : decide ((L.take 4).drop 2 = (L'.take 4).drop 2) = true
  s4 : decide ((L.take 6).drop 4 = (L'.take 6).drop 4) = (id_ == id')
  s6 : decide ((L.take 8).drop 6 = (L'.take 8).drop 6) = (df == df')
  s8 : decide ((L.take 9).drop 8 = (L'.take 9).drop 8) = (ttl == ttl')
  s9 : decide ((L.take 10).drop 9 = (L'.take 10).drop 9) = (proto == proto')
  s12 : decide ((L.take 16).drop 12 = (L'.take 16).drop 12) = (src == src')
  s16 : decide ((L.take 20).drop 16 = (L'.take 20).drop 16) = (dst == dst')
  s20 : decide ((L.take m).drop 20 = (L'.take m).drop 20) = true

end Go.Proofs.YtoegfgbalcholaaGreat
