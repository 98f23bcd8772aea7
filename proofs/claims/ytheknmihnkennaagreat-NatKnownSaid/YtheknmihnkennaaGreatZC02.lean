/-
  Texts laid together: NatQ, Rd, Bits16, SumNum.
-/
import Derived.Test.YtheknmihnkennaaGreatZC01
import Derived.Test.YtheknmihnkennaaGreatRows
import Derived.WalkKit
import Derived.WalkSpells
import Derived.WalkLawsBesides
import Derived.ProofKit
import Derived.OpenShut
import Derived.ChangeOld
import Derived.Below
import Derived.Lib.SmallJoins
import Derived.Lib.Hide
import Derived.Laws.BytesArg
import Derived.Laws.IdiomStrings
import Derived.Lib.SlBytesConst
import Derived.Laws.BitsLemmas

/-
  Packets that go on with other words, in a row of changes (stage 15, written ahead): plain lists. Two ways to the same words end alike.
-/
namespace Go.Proofs.YtheknmihnkennaaGreat
set_option maxRecDepth 10000
set_option linter.unusedSimpArgs false
set_option linter.unusedVariables false

def rwW (pr : Int) (H F : Nat) (b : List Int) (ks : List (Nat × Int)) : List Int := ks.foldl (fun b p => chW pr H F b p.1 p.2) b
/-- Words that may be changed. -/
def KeysW (F m : Nat) (ks : List (Nat × Int)) : Prop := ∀ p ∈ ks, p.1 ≠ 5 ∧ p.1 ≠ F ∧ 2 * p.1 + 1 < m ∧ U16 p.2
end Go.Proofs.YtheknmihnkennaaGreat

/-
  A slice of bytes that reads as a list of numbers ('Rd'), opened where it comes in; small words of every stage. No function of the program.
-/
namespace Go.Proofs.YtheknmihnkennaaGreat
set_option maxRecDepth 10000
open Go.ChangeShapes Go.WideShapes Go.ChangeAt Go.RowKit

/-- The slice value '.slice A n _' holds the bytes l, in memory that is there. -/
structure Rd (w : World) (A : Option Addr) (n : Nat) (l : List Int) : Prop where
  len : l.length = n
  byte : ∀ x ∈ l, 0 ≤ x ∧ x < 256
  at_ : 0 < n → ∃ b o, A = some ⟨b, o, none⟩ ∧ b < w.heap.size ∧ ∀ i, i < n → w.cell? ⟨b, o + i, none⟩ = some (.int .u8 (l.getD i 0))

theorem Rd.nil (w : World) (A : Option Addr) : Rd w A 0 [] := ⟨rfl, by simp, fun h => absurd h (by omega)⟩
theorem Rd.below {w w' : World} {A : Option Addr} {n : Nat} {l : List Int} (h : Rd w A n l) (hb : Below w.heap.size w w') : Rd w' A n l :=
  ⟨h.len, h.byte, fun hn => by
    obtain ⟨b, o, e, hlt, hc⟩ := h.at_ hn
    exact ⟨b, o, e, Nat.lt_of_lt_of_le hlt hb.size, fun i hi => by rw [hb.cell (p := ⟨b, o + i, none⟩) hlt]; exact hc i hi⟩⟩
theorem Rd.drew {w : World} {A : Option Addr} {n : Nat} {l : List Int} (h : Rd w A n l) (k : Nat) : Rd { w with drawn := k } A n l := ⟨h.len, h.byte, h.at_⟩
theorem Rd.take {w : World} {A : Option Addr} {n k : Nat} {l : List Int} (h : Rd w A n l) (hk : k ≤ n) : Rd w A k (l.take k) := by
  refine ⟨by rw [List.length_take, h.len]; omega, fun x hx => h.byte x (List.mem_of_mem_take hx), fun hn => ?_⟩
  obtain ⟨b, o, e, hlt, hc⟩ := h.at_ (by omega)
  refine ⟨b, o, e, hlt, fun i hi => ?_⟩
  rw [hc i (by omega)]
  simp [List.getD, List.getElem?_take_of_lt hi]
/-- A row that the call made. -/
theorem Rd.row {w : World} {g : Nat} {l : List Int} {t : TypeId} (hg : w.heap[g]? = some (.cells (l.map (Value.int .u8)).toArray t (0, 0))) (hl : ∀ x ∈ l, 0 ≤ x ∧ x < 256) : Rd w (some ⟨g, 0, none⟩) l.length l := by
  refine ⟨rfl, hl, fun _ => ⟨g, 0, rfl, ?_, fun i hi => ?_⟩⟩
  · rcases Nat.lt_or_ge g w.heap.size with h | h
    · exact h
    · rw [Array.getElem?_eq_none h] at hg; cases hg
  · simp [World.cell?, hg, List.getD, List.getElem?_eq_getElem hi]

theorem nums_inj : ∀ (a b : List Int), (∀ x ∈ a, 0 ≤ x ∧ x < 256) → (∀ x ∈ b, 0 ≤ x ∧ x < 256) → a.map (fun n => UInt8.ofNat n.toNat) = b.map (fun n => UInt8.ofNat n.toNat) → a = b
  | [], [], _, _, _ => rfl
  | [], _ :: _, _, _, h => by simp at h
  | _ :: _, [], _, _, h => by simp at h
  | x :: xs, y :: ys, ha, hb, h => by
    simp only [List.map_cons, List.cons.injEq] at h
    have h1 := ha x (by simp)
    have h2 := hb y (by simp)
    have h3 : (UInt8.ofNat x.toNat).toNat = (UInt8.ofNat y.toNat).toNat := by rw [h.1]
    have e1 : (UInt8.ofNat x.toNat).toNat = x.toNat := by simp; omega
    have e2 : (UInt8.ofNat y.toNat).toNat = y.toNat := by simp; omega
    have : x = y := by omega
    rw [this, nums_inj xs ys (fun z hz => ha z (by simp [hz])) (fun z hz => hb z (by simp [hz])) h.2]

theorem conv_rd {w : World} {A : Option Addr} {n : Nat} {l : List Int} (h : Rd w A n l) (c : Nat) :
    (convert 22 9 (.slice A n c)).run Tryz.prog w = .ok (.string (strOfNums l)) w := by
  rcases Nat.eq_zero_or_pos n with h0 | h0
  · subst h0
    have hl : l = [] := List.eq_nil_of_length_eq_zero h.len
    subst hl
    cases A with
    | none => exact run_convert_bytes_nil (P := Tryz.prog) w 22 5 Tryz.underlying22 Tryz.underlying5 0 c 9 Tryz.underlying9
    | some a =>
      rw [run_convert_bytes_string (P := Tryz.prog) w 22 9 5 _ 0 c Tryz.underlying22 Tryz.underlying5 Tryz.underlying9]
      have hl : (loadCells a 0).run Tryz.prog w = .ok #[] w := by simpa using run_loadCells_list (P := Tryz.prog) w a [] (by simp)
      have := run_bytesToString (P := Tryz.prog) w a 0 c [] hl
      rw [this]
      rfl
  · obtain ⟨b, o, rfl, _, hc⟩ := h.at_ h0
    exact run_convert_bytes_arg (P := Tryz.prog) w 22 5 Tryz.underlying22 Tryz.underlying5 b o n c l h.len hc 9 Tryz.underlying9

theorem ret_int {k : IntKind} {a b : Int} (h : a = b) : Ending.returned (.int k a) = .returned (.int k b) := by rw [h]
theorem ret_bool {a b : Bool} (h : a = b) : Ending.returned (.bool a) = .returned (.bool b) := by rw [h]
theorem below_trans {a b c : World} (h : Below a.heap.size a b) (k : Below b.heap.size b c) : Below a.heap.size a c := h.trans (k.mono h.size)

def Woke (w : World) (e : Ending) (w' : World) : Prop := e = .returned (.bool true) ∧ Below w.heap.size w w'

/-- A constant's bytes, as the walk lays them. -/
theorem Rd.const (w : World) (l : List Int) (t : TypeId) (fr : Nat × Nat) (hl : ∀ x ∈ l, 0 ≤ x ∧ x < 256) : Rd (w.alloc (.cells (l.map (Value.int .u8)).toArray t fr)) (some ⟨w.heap.size, 0, none⟩) l.length l := by
  refine ⟨rfl, hl, fun _ => ⟨w.heap.size, 0, rfl, by simp, fun i hi => ?_⟩⟩
  rw [World.cell?_alloc_mark]
  simp [List.getD, List.getElem?_eq_getElem hi]

/-- The same, the block's number told. -/
theorem Rd.const_ (w : World) (g : Nat) (hg : w.heap.size = g) (l : List Int) (t : TypeId) (fr : Nat × Nat) (hl : ∀ x ∈ l, 0 ≤ x ∧ x < 256) : Rd (w.alloc (.cells (l.map (Value.int .u8)).toArray t fr)) (some ⟨g, 0, none⟩) l.length l := by
  subst hg; exact Rd.const w l t fr hl

/-- One element's address and what lies there. -/
theorem Rd.index {w : World} {A : Option Addr} {n c : Nat} {l : List Int} (h : Rd w A n l) {j : Nat} (hj : j < n) :
    ∃ p, (∀ W : World, (Instr.indexAt 22 (.slice A n c) (.int .i64 (j : Int))).run Tryz.prog W = .ok (.pointer (some p)) W) ∧ w.cell? p = some (.int .u8 (l.getD j 0)) ∧ p.block < w.heap.size := by
  obtain ⟨b, o, rfl, hb, hc⟩ := h.at_ (by omega)
  have h0 : (0 : Int) ≤ (j : Int) := by omega
  have h1 : (j : Int) < (n : Int) := by omega
  exact ⟨⟨b, o + j, none⟩, fun W => by go_simp, hc j hj, hb⟩

end Go.Proofs.YtheknmihnkennaaGreat

/-
  Small equations on numbers of 16 bits, as a walk leaves them. Nothing of the program.
-/
namespace Go.Proofs.YtheknmihnkennaaGreat
set_option maxRecDepth 10000
theorem wrap_u16 (n : Int) : IntKind.u16.wrap n = n % 65536 := by simp [IntKind.wrap, IntKind.bits, IntKind.signed]
theorem wraps_u16 (n : Int) (h₀ : 0 ≤ n) (h₁ : n < 2 ^ 16) : IntKind.u16.wrap n = n := by rw [wrap_u16]; omega
theorem or16 (x y : Int) (hx : 0 ≤ x ∧ x < 256) (hy : 0 ≤ y ∧ y < 256) : bits .or .u16 (x * 256) y = x * 256 + y :=
  bits_join .u16 16 (by decide) wraps_u16 8 (x * 256) y (by omega) (by omega) (by omega) (by omega) (by omega) (by omega)
theorem wraps_u32 (n : Int) (h₀ : 0 ≤ n) (h₁ : n < 2 ^ 32) : IntKind.u32.wrap n = n := by simp [IntKind.wrap, IntKind.bits, IntKind.signed]; omega
theorem or32 (x y : Int) (hx : 0 ≤ x ∧ x < 16777216) (hy : 0 ≤ y ∧ y < 256) : bits .or .u32 (x * 256) y = x * 256 + y :=
  bits_join .u32 32 (by decide) wraps_u32 8 (x * 256) y (by omega) (by omega) (by omega) (by omega) (by omega) (by omega)
theorem not16 (x : Int) (h : 0 ≤ x ∧ x ≤ 65535) : bits .xor .u16 IntKind.u16.max x = 65535 - x := by
  obtain ⟨a, rfl⟩ := Int.eq_ofNat_of_zero_le h.1
  have h2 : (BitVec.ofInt 16 (a : Int)).toNat = a := by
    rw [BitVec.ofInt_natCast, BitVec.toNat_ofNat]; exact Nat.mod_eq_of_lt (by omega)
  have e : IntKind.u16.max = 65535 := by decide
  have h1 : BitVec.ofInt 16 65535 = BitVec.allOnes 16 := by decide
  show IntKind.u16.wrap ((BitVec.ofInt 16 IntKind.u16.max ^^^ BitVec.ofInt 16 (a : Int)).toNat : Int) = _
  rw [e, h1, BitVec.allOnes_xor, BitVec.toNat_not, h2, wrap_u16]
  omega
theorem and16_mask (i : Nat) (hi : i ≤ 16) (x : Int) (h : 0 ≤ x ∧ x < 65536) : bits .and .u16 x (2 ^ i - 1) = x % 2 ^ i := bits_mask .u16 16 (by decide) wraps_u16 i hi x h.1 h.2
theorem nat_and_pow (a i : Nat) : a &&& 2 ^ i = a / 2 ^ i % 2 * 2 ^ i := by
  have h0 : (a &&& 2 ^ i) % 2 ^ i = 0 := by rw [Nat.and_mod_two_pow]; simp
  have h1 : (a &&& 2 ^ i) / 2 ^ i = a / 2 ^ i % 2 := by
    rw [Nat.and_div_two_pow, Nat.div_self (Nat.two_pow_pos i), Nat.and_one_is_mod]
  have := Nat.div_add_mod (a &&& 2 ^ i) (2 ^ i)
  rw [h0, h1] at this
  rw [Nat.mul_comm]; omega
theorem and16_bit (i : Nat) (hi : i < 16) (x : Int) (h : 0 ≤ x ∧ x < 65536) : bits .and .u16 x (2 ^ i) = x / 2 ^ i % 2 * 2 ^ i := by
  obtain ⟨a, rfl⟩ := Int.eq_ofNat_of_zero_le h.1
  have hp : 2 ^ i < 2 ^ 16 := Nat.pow_lt_pow_right (by omega) hi
  have := (bits_nat .u16 16 (by decide) wraps_u16 a (2 ^ i) (by omega) hp).1
  rw [show ((2 : Int) ^ i) = ((2 ^ i : Nat) : Int) by simp, this, nat_and_pow]
  simp
end Go.Proofs.YtheknmihnkennaaGreat

/-
  The contracts of package sum's calls on numbers (add, Word, Long), and of the document's own answers (culvertref02) for them: each leaves the world as it was.
-/
namespace Go.Proofs.YtheknmihnkennaaGreat
set_option maxRecDepth 10000
open Go.RowKit

theorem add_any (a b : Int) (w : World) (ha : U16 a) (hb : U16 b) :
    Calls Tryz.prog 106 #[.int .u16 a, .int .u16 b] w fun e w' => e = .returned (.int .u16 (add16 a b)) ∧ w = w' := by
  obtain ⟨ha0, ha1⟩ := ha
  obtain ⟨hb0, hb1⟩ := hb
  by_cases h : 65535 < a + b
  · go_enter Tryz.func106, Tryz.ntmps106
    go_wp2
    go_ret
    exact ⟨ret_int (by unfold add16; rw [if_pos h]; (try rw [wrap_u16]); (try rw [wrap_u16]); omega), rfl⟩
  · go_enter Tryz.func106, Tryz.ntmps106
    go_wp2
    go_ret
    exact ⟨ret_int (by unfold add16; rw [if_neg (by omega)]), rfl⟩

theorem word_any (f a b : Int) (w : World) (hf : U16 f) (ha : U16 a) (hb : U16 b) :
    Calls Tryz.prog 83 #[.int .u16 f, .int .u16 a, .int .u16 b] w fun e w' => e = .returned (.int .u16 (wordF f a b)) ∧ w = w' := by
  have h1 : U16 (65535 - f) := by unfold U16 at *; omega
  have h2 : U16 (65535 - a) := by unfold U16 at *; omega
  have h3 := add_bd _ _ h1 h2
  have h4 := add_bd _ _ h3 hb
  have n1 := not16 f hf
  have n2 := not16 a ha
  have n3 := not16 _ h4
  have N3 := Lib.hid n3
  clear n3
  go_enter Tryz.func83, Tryz.ntmps83
  go_wp2_with fail
  refine (add_any _ _ _ h1 h2).mono ?_
  rintro e w' ⟨rfl, rfl⟩
  go_wp2_with fail
  refine (add_any _ _ _ h3 hb).mono ?_
  rintro e w' ⟨rfl, rfl⟩
  clear n1 n2
  go_wp2_with fail
  go_ret
  exact ⟨ret_int N3.out, rfl⟩

theorem word_told (f a b x : Int) (w : World) (hf : U16 f) (ha : U16 a) (hb : U16 b) (hx : wordF f a b = x) :
    Calls Tryz.prog 83 #[.int .u16 f, .int .u16 a, .int .u16 b] w fun e w' => e = .returned (.int .u16 x) ∧ w = w' := by subst hx; exact word_any f a b w hf ha hb


end Go.Proofs.YtheknmihnkennaaGreat
