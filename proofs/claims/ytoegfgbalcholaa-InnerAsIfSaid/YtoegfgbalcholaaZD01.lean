/-
  Texts laid together: Tk, Rd, SumPlain, SumLay.
-/
import Derived.Test.YtoegfgbalcholaaRows
import Derived.OrdersHeld
import Derived.Deep.RegionHeld
import Derived.KernelRfl
import Derived.WalkKit
import Derived.WalkSpells
import Derived.WalkLawsBesides
import Derived.ProofKit
import Derived.OpenShut
import Derived.ChangeOld
import Derived.Below
import Derived.Lib.SmallJoins
import Derived.Lib.Hide
import Derived.Laws.BytesArg
import Derived.Laws.IdiomStrings
import Derived.Lib.SlBytesConst

/-
  The moves of a walk through a region that draws its order, in a short form: the operation is picked out of the region by its number. No function of the program.
-/
namespace Go.Proofs.Ytoegfgbalcholaa
set_option maxRecDepth 10000
/-- Number i of a list, told as the list's own member (no index is left standing). -/
def pickOp : List Oper → Nat → Option Oper
  | [], _ => none
  | o :: _, 0 => some o
  | _ :: os, i + 1 => pickOp os i
theorem pickOp_get : ∀ (os : List Oper) (i : Nat), pickOp os i = os[i]?
  | [], _ => by simp [pickOp]
  | o :: os, 0 => rfl
  | o :: os, i + 1 => by simp only [pickOp, List.getElem?_cons_succ]; exact pickOp_get os i
theorem pickOp_at {ops : Array Oper} {i : Nat} {o : Oper} (h : pickOp ops.toList i = some o) : ops[i]? = some o := by
  rw [pickOp_get, Array.getElem?_toList] at h
  exact h
theorem putL {α : Type} : (∀ (l : List α) (a : α) (i : Nat), l.toArray.setIfInBounds i a = (l.set i a).toArray) ∧ (∀ (l : List α) (x a : α), (x :: l).set 0 a = a :: l) ∧ ∀ (l : List α) (x a : α) (n : Nat), (x :: l).set (n + 1) a = x :: l.set n a :=
  ⟨fun _ _ _ => by simp, fun _ _ _ => rfl, fun _ _ _ _ => rfl⟩
section
variable {P : Program} {ops : Array Oper} {Q : Exit → Act → World → Prop} {md : Region.Mode} {S : World → Prop} {oi : Oper} {fuel : Nat} {listed : Array Bool} {a : Act} {w : World}
/-- A pure operation. -/
theorem tk (i : Nat) (v : Value) (hi : pickOp ops.toList i = some oi) (hy : ∀ w', S w' → (execOp a.eval oi).run P w' = .ok (.value v) w')
    (h : wpAnyH P md ops Q S fuel (listed.setIfInBounds i true) (a.put oi.dst v) w) (hg : Region.wanted oi (yielded ops a.tmps) = true := by kernel_rfl) (hs : Region.noSelect ops = true := by kernel_rfl) (hf : Region.free md ops listed i = true := by kernel_rfl) (hr : (Region.ready md ops listed).contains i = true := by kernel_rfl)
    (hQ : ∀ c a w, Q (.panic c) (a.put oi.dst v) w → Q (.panic c) a w := by exact fun _ _ _ h => h) (hS : S w := by assumption) : wpAnyH P md ops Q S (fuel + 1) listed a w :=
  wpAnyH_take (pickOp_at hi) hs hf hr hQ (.inl ⟨hg, hy⟩) hS h
/-- The one that may come up alone. -/
theorem tkC (i : Nat) (hi : pickOp ops.toList i = some oi)
    (h : ∀ K' : Act → World → Prop, Shut (∀ a w, S w → (S w → wpAnyH P md ops Q S fuel (listed.setIfInBounds i true) a w) → K' a w) → if Region.wanted oi (yielded ops a.tmps) = true then Oper.wp P oi a w K' Q else K' (a.put oi.dst undef) w)
    (hr : Region.ready md ops listed = [i] := by kernel_rfl) : wpAnyH P md ops Q S (fuel + 1) listed a w :=
  wpAnyH_ready hr (by simp) (AllReadyH.cons (pickOp_at hi) h AllReadyH.nil)
end
end Go.Proofs.Ytoegfgbalcholaa

/-
  A slice of bytes that reads as a list of numbers ('Rd'), opened where it comes in; small words of every stage. No function of the program.
-/
namespace Go.Proofs.Ytoegfgbalcholaa
set_option maxRecDepth 10000
open Go.ChangeShapes Go.WideShapes Go.ChangeAt Go.RowKit

/-- The slice value '.slice A n _' holds the bytes l, in memory that is there. -/
structure Rd (w : World) (A : Option Addr) (n : Nat) (l : List Int) : Prop where
  len : l.length = n
  byte : ∀ x ∈ l, 0 ≤ x ∧ x < 256
  at_ : 0 < n → ∃ b o, A = some ⟨b, o, none⟩ ∧ b < w.heap.size ∧ ∀ i, i < n → w.cell? ⟨b, o + i, none⟩ = some (.int .u8 (l.getD i 0))

theorem Rd.nil (w : World) (A : Option Addr) : Rd w A 0 [] := ⟨rfl, by simp, fun h => absurd h (by omega)⟩
theorem Rd.below {w w' : World} {A : Option Addr} {n : Nat} {l : List Int} (h : Rd w A n l) (hb : Below w.heap.size w w') : Rd w' A n l :=
  ⟨h.len, h.byte, fun hn => by
    obtain ⟨b, o, e, hlt, hc⟩ := h.at_ hn
    exact ⟨b, o, e, Nat.lt_of_lt_of_le hlt hb.size, fun i hi => by rw [hb.cell (p := ⟨b, o + i, none⟩) hlt]; exact hc i hi⟩⟩
theorem Rd.drew {w : World} {A : Option Addr} {n : Nat} {l : List Int} (h : Rd w A n l) (k : Nat) : Rd { w with drawn := k } A n l := ⟨h.len, h.byte, h.at_⟩
theorem Rd.take {w : World} {A : Option Addr} {n k : Nat} {l : List Int} (h : Rd w A n l) (hk : k ≤ n) : Rd w A k (l.take k) := by
  refine ⟨by rw [List.length_take, h.len]; omega, fun x hx => h.byte x (List.mem_of_mem_take hx), fun hn => ?_⟩
  obtain ⟨b, o, e, hlt, hc⟩ := h.at_ (by omega)
  refine ⟨b, o, e, hlt, fun i hi => ?_⟩
  rw [hc i (by omega)]
  simp [List.getD, List.getElem?_take_of_lt hi]
/-- A row that the call made. -/
theorem Rd.row {w : World} {g : Nat} {l : List Int} {t : TypeId} (hg : w.heap[g]? = some (.cells (l.map (Value.int .u8)).toArray t (0, 0))) (hl : ∀ x ∈ l, 0 ≤ x ∧ x < 256) : Rd w (some ⟨g, 0, none⟩) l.length l := by
  refine ⟨rfl, hl, fun _ => ⟨g, 0, rfl, ?_, fun i hi => ?_⟩⟩
  · rcases Nat.lt_or_ge g w.heap.size with h | h
    · exact h
    · rw [Array.getElem?_eq_none h] at hg; cases hg
  · simp [World.cell?, hg, List.getD, List.getElem?_eq_getElem hi]

theorem nums_inj : ∀ (a b : List Int), (∀ x ∈ a, 0 ≤ x ∧ x < 256) → (∀ x ∈ b, 0 ≤ x ∧ x < 256) → a.map (fun n => UInt8.ofNat n.toNat) = b.map (fun n => UInt8.ofNat n.toNat) → a = b
  | [], [], _, _, _ => rfl
  | [], _ :: _, _, _, h => by simp at h
  | _ :: _, [], _, _, h => by simp at h
  | x :: xs, y :: ys, ha, hb, h => by
    simp only [List.map_cons, List.cons.injEq] at h
    have h1 := ha x (by simp)
    have h2 := hb y (by simp)
    have h3 : (UInt8.ofNat x.toNat).toNat = (UInt8.ofNat y.toNat).toNat := by rw [h.1]
    have e1 : (UInt8.ofNat x.toNat).toNat = x.toNat := by simp; omega
    have e2 : (UInt8.ofNat y.toNat).toNat = y.toNat := by simp; omega
    have : x = y := by omega
    rw [this, nums_inj xs ys (fun z hz => ha z (by simp [hz])) (fun z hz => hb z (by simp [hz])) h.2]

theorem conv_rd {w : World} {A : Option Addr} {n : Nat} {l : List Int} (h : Rd w A n l) (c : Nat) :
    (convert 22 9 (.slice A n c)).run Try.prog w = .ok (.string (strOfNums l)) w := by
  rcases Nat.eq_zero_or_pos n with h0 | h0
  · subst h0
    have hl : l = [] := List.eq_nil_of_length_eq_zero h.len
    subst hl
    cases A with
    | none => exact run_convert_bytes_nil (P := Try.prog) w 22 5 Try.underlying22 Try.underlying5 0 c 9 Try.underlying9
    | some a =>
      rw [run_convert_bytes_string (P := Try.prog) w 22 9 5 _ 0 c Try.underlying22 Try.underlying5 Try.underlying9]
      have hl : (loadCells a 0).run Try.prog w = .ok #[] w := by simpa using run_loadCells_list (P := Try.prog) w a [] (by simp)
      have := run_bytesToString (P := Try.prog) w a 0 c [] hl
      rw [this]
      rfl
  · obtain ⟨b, o, rfl, _, hc⟩ := h.at_ h0
    exact run_convert_bytes_arg (P := Try.prog) w 22 5 Try.underlying22 Try.underlying5 b o n c l h.len hc 9 Try.underlying9

theorem ret_int {k : IntKind} {a b : Int} (h : a = b) : Ending.returned (.int k a) = .returned (.int k b) := by rw [h]
theorem ret_bool {a b : Bool} (h : a = b) : Ending.returned (.bool a) = .returned (.bool b) := by rw [h]
theorem below_trans {a b c : World} (h : Below a.heap.size a b) (k : Below b.heap.size b c) : Below a.heap.size a c := h.trans (k.mono h.size)

def Woke (w : World) (e : Ending) (w' : World) : Prop := e = .returned (.bool true) ∧ Below w.heap.size w w'

/-- A constant's bytes, as the walk lays them. -/
theorem Rd.const (w : World) (l : List Int) (t : TypeId) (fr : Nat × Nat) (hl : ∀ x ∈ l, 0 ≤ x ∧ x < 256) : Rd (w.alloc (.cells (l.map (Value.int .u8)).toArray t fr)) (some ⟨w.heap.size, 0, none⟩) l.length l := by
  refine ⟨rfl, hl, fun _ => ⟨w.heap.size, 0, rfl, by simp, fun i hi => ?_⟩⟩
  rw [World.cell?_alloc_mark]
  simp [List.getD, List.getElem?_eq_getElem hi]

/-- A slice of bytes that came in. -/
theorem rd_open {H : Type} {enc : TypeId × Value → H} {W : World} {n0 : Nat} {v : Value} {y : DataW H × List MemPlace}
    (h : DataW.trod enc Try.prog W 0 (fun _ => true) true n0 22 [v] = some y) : ∃ A n c l, v = .slice A n c ∧ n ≤ c ∧ c ≤ maxLen ∧ Rd W A n l := by
  rcases open_ints Try.underlying22 Try.underlying5 (by kernel_rfl) h with ⟨hcs, _⟩ | ⟨x, len, cap, zs, hcs, _, hl, hm, hz, _, hcell, hwz⟩
  · simp at hcs
    exact ⟨none, 0, 0, [], hcs, Nat.le_refl _, by simp [maxLen], Rd.nil _ _⟩
  · simp at hcs
    refine ⟨some x, len, cap, zs.take len, hcs, hl, hm, ?_, ?_, ?_⟩
    · rw [List.length_take]; simp at hz; omega
    · intro z hz'
      have := bounds_u8 (hwz z (List.mem_of_mem_take hz'))
      omega
    · intro h0
      simp at hz
      obtain ⟨b, o, rfl, hc⟩ := ints_at hcell (by omega)
      refine ⟨b, o, rfl, ?_, fun i hi => ?_⟩
      · exact World.block_lt_of_cell? W _ (hc 0 (by omega))
      · rw [hc i (by omega)]
        simp [List.getD, List.getElem?_take_of_lt hi]

/-- One element's address and what lies there. -/
theorem Rd.index {w : World} {A : Option Addr} {n c : Nat} {l : List Int} (h : Rd w A n l) {j : Nat} (hj : j < n) :
    ∃ p, (∀ W : World, (Instr.indexAt 22 (.slice A n c) (.int .i64 (j : Int))).run Try.prog W = .ok (.pointer (some p)) W) ∧ w.cell? p = some (.int .u8 (l.getD j 0)) ∧ p.block < w.heap.size := by
  obtain ⟨b, o, rfl, hb, hc⟩ := h.at_ (by omega)
  have h0 : (0 : Int) ≤ (j : Int) := by omega
  have h1 : (j : Int) < (n : Int) := by omega
  exact ⟨⟨b, o + j, none⟩, fun W => by go_simp, hc j hj, hb⟩

end Go.Proofs.Ytoegfgbalcholaa

/-
  Plain lemmas on sums of words of 16 bits: what goes over the greatest word comes in again below; a total, folded; bytes' words. Nothing of the program.
-/
namespace Go.Proofs.Ytoegfgbalcholaa
set_option maxRecDepth 10000

def U16 (x : Int) : Prop := 0 ≤ x ∧ x ≤ 65535
/-- A total, folded to 16 bits: 0 only of 0. -/
def fold16 (n : Int) : Int := if n ≤ 0 then 0 else (n - 1) % 65535 + 1
def add16 (a b : Int) : Int := if 65535 < a + b then a + b - 65535 else a + b
theorem fold_bd (n : Int) : 0 ≤ fold16 n ∧ fold16 n ≤ 65535 := by unfold fold16; split <;> omega
theorem fold_mod (n : Int) (h : 0 ≤ n) : fold16 n % 65535 = n % 65535 := by unfold fold16; split <;> omega
theorem fold_pos (n : Int) (h : 0 < n) : 0 < fold16 n := by unfold fold16; split <;> omega
theorem fold_zero : fold16 0 = 0 := rfl
theorem add_fold (n b : Int) (hn : 0 ≤ n) (hb : U16 b) : add16 (fold16 n) b = fold16 (n + b) := by
  unfold U16 at hb
  unfold add16 fold16; (repeat' split) <;> omega
theorem add_bd (a b : Int) (ha : U16 a) (hb : U16 b) : U16 (add16 a b) := by
  unfold U16 add16 at *; split <;> omega
/-- Two fields that are the same but that 0 and ffff are one. -/
def likeB (a b : Int) : Bool := decide (a = b) || (decide (a = 0) && decide (b = 65535)) || (decide (a = 65535) && decide (b = 0))
theorem like_of (a b : Int) (ha : U16 a) (hb : U16 b) (h : a % 65535 = b % 65535) : likeB a b = true := by
  unfold U16 at ha hb
  unfold likeB
  simp
  omega
theorem like_mod (a b : Int) (h : likeB a b = true) : a % 65535 = b % 65535 := by
  unfold likeB at h
  simp at h
  omega

/-- What becomes of a field. -/
def wordF (field was is_ : Int) : Int := 65535 - add16 (add16 (65535 - field) (65535 - was)) is_
theorem wordF_bd (f a b : Int) (hf : U16 f) (ha : U16 a) (hb : U16 b) : U16 (wordF f a b) := by
  have := add_bd _ _ (add_bd (65535 - f) (65535 - a) (by unfold U16 at *; omega) (by unfold U16 at *; omega)) hb
  unfold U16 at *
  unfold wordF
  omega
theorem wordF_mod (f a b : Int) : (wordF f a b) % 65535 = (f + a - b) % 65535 := by
  unfold wordF add16; (repeat' split) <;> omega
/-- All words of bytes, added up (not folded); 'true': the first byte is a word's second one. -/
def ws : Bool → List Int → Int
  | _, [] => 0
  | false, x :: l => 256 * x + ws true l
  | true, x :: l => x + ws false l
def Bytes (l : List Int) : Prop := ∀ x ∈ l, 0 ≤ x ∧ x < 256
def sumL (l : List Int) : Int := fold16 (ws false l)
theorem ws_append (p : Bool) (a b : List Int) : ws p (a ++ b) = ws p a + ws (xor p (decide (a.length % 2 = 1))) b := by
  induction a generalizing p with
  | nil => simp [ws]
  | cons x a ih =>
    have h : decide ((a.length + 1) % 2 = 1) = !decide (a.length % 2 = 1) := by
      by_cases h : a.length % 2 = 1
      · simp [h]; omega
      · simp [h]; omega
    cases p
    · simp only [List.cons_append, ws, ih, List.length_cons, h]
      cases decide (a.length % 2 = 1) <;> simp <;> omega
    · simp only [List.cons_append, ws, ih, List.length_cons, h]
      cases decide (a.length % 2 = 1) <;> simp <;> omega
theorem ws_even (a b : List Int) (h : a.length % 2 = 0) : ws false (a ++ b) = ws false a + ws false b := by
  rw [ws_append]; simp [show ¬ a.length % 2 = 1 by omega]
theorem ws_nn (l : List Int) (h : Bytes l) (p : Bool) : 0 ≤ ws p l := by
  induction l generalizing p with
  | nil => simp [ws]
  | cons x l ih =>
    have hx := h x (by simp)
    have hl : Bytes l := fun y hy => h y (by simp [hy])
    have h1 := ih hl true
    have h2 := ih hl false
    cases p <;> simp only [ws] <;> omega
theorem sumL_bd (l : List Int) : 0 ≤ sumL l ∧ sumL l ≤ 65535 := fold_bd _
theorem Bytes.app {a b : List Int} (h : Bytes a) (k : Bytes b) : Bytes (a ++ b) := fun x hx => by
  rcases List.mem_append.1 hx with h' | h'
  · exact h x h'
  · exact k x h'

/-- How far the words of the bytes d have been added: the sum, the byte that waits, whether one does. -/
structure St (d : List Int) (acc first : Int) (waits : Bool) : Prop where
  w : waits = decide (d.length % 2 = 1)
  a : acc = fold16 (ws false d - (if waits then 256 * first else 0))
  f : 0 ≤ first ∧ first < 256
  n : 0 ≤ ws false d - (if waits then 256 * first else 0)
theorem St.nil : St [] 0 0 false := ⟨by decide, by decide, by decide, by decide⟩
theorem St.bd {d : List Int} {acc first : Int} {waits : Bool} (h : St d acc first waits) : 0 ≤ acc ∧ acc ≤ 65535 := by rw [h.a]; exact fold_bd _
theorem St.one {d : List Int} {acc first : Int} (h : St d acc first true) {b : Int} (hb : 0 ≤ b ∧ b < 256) : St (d ++ [b]) (add16 acc (first * 256 + b)) b false := by
  obtain ⟨h1, h2, h3, h4⟩ := h
  have ho : d.length % 2 = 1 := by simpa using h1.symm
  have e : ws false (d ++ [b]) = ws false d + b := by rw [ws_append]; simp [ho, ws]
  simp only [if_true] at h2 h4
  refine ⟨?_, ?_, hb, ?_⟩
  · simp; omega
  · rw [h2, add_fold _ _ h4 (by unfold U16; omega), e]
    simp only [Bool.false_eq_true, if_false]
    congr 1; omega
  · rw [e]; simp only [Bool.false_eq_true, if_false]; omega
theorem St.two {d : List Int} {acc first : Int} (h : St d acc first false) {b : Int} (hb : 0 ≤ b ∧ b < 256) : St (d ++ [b]) acc b true := by
  obtain ⟨h1, h2, h3, h4⟩ := h
  have ho : ¬ d.length % 2 = 1 := by simpa using h1.symm
  have e : ws false (d ++ [b]) = ws false d + 256 * b := by rw [ws_append]; simp [ho, ws]
  simp only [Bool.false_eq_true, if_false] at h2 h4
  refine ⟨?_, ?_, hb, ?_⟩
  · simp; omega
  · rw [h2, e]
    simp only [if_true]
    congr 1; omega
  · rw [e]; simp only [if_true]; omega
theorem St.end1 {d : List Int} {acc first : Int} (h : St d acc first true) : add16 acc (first * 256) = sumL d := by
  obtain ⟨h1, h2, h3, h4⟩ := h
  simp only [if_true] at h2 h4
  rw [h2, add_fold _ _ h4 (by unfold U16; omega)]
  unfold sumL
  congr 1; omega
theorem St.end0 {d : List Int} {acc first : Int} (h : St d acc first false) : acc = sumL d := by
  obtain ⟨h1, h2, h3, h4⟩ := h
  simp only [Bool.false_eq_true, if_false] at h2
  rw [h2]
  unfold sumL
  congr 1; omega

end Go.Proofs.Ytoegfgbalcholaa

/-
  Bytes, an even number of them: words laid into them, and what that does to their sum. Plain lists: nothing of the program.
-/
namespace Go.Proofs.Ytoegfgbalcholaa
set_option maxRecDepth 10000

def wordL (l : List Int) (k : Nat) : Int := l.getD (2 * k) 0 * 256 + l.getD (2 * k + 1) 0
def layL (l : List Int) (k : Nat) (x : Int) : List Int := (l.set (2 * k) (x / 256)).set (2 * k + 1) (x % 256)
theorem ws_set0 (l : List Int) (p : Bool) (i : Nat) (x : Int) (h : i < l.length) : ws p (l.set i x) = ws p l + (if xor p (decide (i % 2 = 1)) then x - l.getD i 0 else 256 * (x - l.getD i 0)) := by
  induction l generalizing p i with
  | nil => simp at h
  | cons y l ih =>
    cases i with
    | zero => cases p <;> simp [ws] <;> omega
    | succ i =>
      have h' : i < l.length := by simpa using h
      have e : decide ((i + 1) % 2 = 1) = !decide (i % 2 = 1) := by
        by_cases hi : i % 2 = 1
        · simp [hi]; omega
        · simp [hi]; omega
      cases p
      · simp only [List.set_cons_succ, ws, ih true i h', List.getD_cons_succ, e]
        cases decide (i % 2 = 1) <;> simp <;> omega
      · simp only [List.set_cons_succ, ws, ih false i h', List.getD_cons_succ, e]
        cases decide (i % 2 = 1) <;> simp <;> omega

theorem layL_len (l : List Int) (k : Nat) (x : Int) : (layL l k x).length = l.length := by simp [layL]
theorem layL_byte {l : List Int} (h : Bytes l) (k : Nat) {x : Int} (hx : U16 x) : Bytes (layL l k x) := by
  unfold U16 at hx
  intro y hy
  rcases List.mem_or_eq_of_mem_set hy with hy | rfl
  · rcases List.mem_or_eq_of_mem_set hy with hy | rfl
    · exact h y hy
    · omega
  · omega
theorem ws_lay (l : List Int) (k : Nat) (x : Int) (h : 2 * k + 1 < l.length) : ws false (layL l k x) = ws false l - wordL l k + x := by
  unfold layL wordL
  rw [ws_set0 _ _ _ _ (by simpa using h), ws_set0 _ _ _ _ (by omega)]
  have e1 : (2 * k + 1) % 2 = 1 := by omega
  have e3 : (l.set (2 * k) (x / 256)).getD (2 * k + 1) 0 = l.getD (2 * k + 1) 0 := by simp [List.getD]
  rw [e3]
  simp [e1]
  omega
theorem wordL_lay_same (l : List Int) (k : Nat) (x : Int) (h : 2 * k + 1 < l.length) : wordL (layL l k x) k = x := by
  unfold layL wordL
  have e1 : ((l.set (2 * k) (x / 256)).set (2 * k + 1) (x % 256)).getD (2 * k) 0 = x / 256 := by
    simp [List.getD, show 2 * k < l.length by omega]
  have e2 : ((l.set (2 * k) (x / 256)).set (2 * k + 1) (x % 256)).getD (2 * k + 1) 0 = x % 256 := by
    simp [List.getD, h]
  rw [e1, e2]
  omega
theorem wordL_lay_other (l : List Int) (k j : Nat) (x : Int) (h : k ≠ j) : wordL (layL l k x) j = wordL l j := by
  unfold layL wordL
  simp [List.getD, show ¬ 2 * k = 2 * j by omega, show ¬ 2 * k + 1 = 2 * j by omega, show ¬ 2 * k = 2 * j + 1 by omega]
theorem wordL_bd {l : List Int} (h : Bytes l) (k : Nat) : U16 (wordL l k) := by
  have hb : ∀ i, 0 ≤ l.getD i 0 ∧ l.getD i 0 < 256 := by
    intro i
    by_cases hj : i < l.length
    · simp only [List.getD, List.getElem?_eq_getElem hj, Option.getD_some]
      exact h _ (List.getElem_mem hj)
    · simp [List.getD, List.getElem?_eq_none (by omega : l.length ≤ i)]
  have h1 := hb (2 * k)
  have h2 := hb (2 * k + 1)
  unfold wordL U16
  omega
end Go.Proofs.Ytoegfgbalcholaa
