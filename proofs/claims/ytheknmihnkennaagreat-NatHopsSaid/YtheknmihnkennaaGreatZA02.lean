/-
  Texts laid together: NatQ, Rd, Bits16, SumNum.
-/
import Derived.Test.YtheknmihnkennaaGreatZA01
import Derived.Test.YtheknmihnkennaaGreatRows
import Derived.WalkKit
import Derived.WalkSpells
import Derived.WalkLawsBesides
import Derived.ProofKit
import Derived.OpenShut
import Derived.ChangeOld
import Derived.Below
import Derived.Lib.SmallJoins
import Derived.Lib.Hide
import Derived.Laws.BytesArg
import Derived.Laws.IdiomStrings
import Derived.Lib.SlBytesConst
import Derived.Laws.BitsLemmas

/-
  Packets that go on with other words, in a row of changes (stage 15, written ahead): plain lists. Two ways to the same words end alike.
-/
namespace Go.Proofs.YtheknmihnkennaaGreat
set_option maxRecDepth 10000
set_option linter.unusedSimpArgs false
set_option linter.unusedVariables false

def rwW (pr : Int) (H F : Nat) (b : List Int) (ks : List (Nat × Int)) : List Int := ks.foldl (fun b p => chW pr H F b p.1 p.2) b
theorem rwW_cons (pr : Int) (H F : Nat) (b : List Int) (p : Nat × Int) (ks : List (Nat × Int)) : rwW pr H F b (p :: ks) = rwW pr H F (chW pr H F b p.1 p.2) ks := rfl
/-- Words that may be changed. -/
def KeysW (F m : Nat) (ks : List (Nat × Int)) : Prop := ∀ p ∈ ks, p.1 ≠ 5 ∧ p.1 ≠ F ∧ 2 * p.1 + 1 < m ∧ U16 p.2
theorem rwW_same {pr : Int} {H F : Nat} (ks : List (Nat × Int)) : ∀ {b : List Int}, LayW H F b → KeysW F b.length ks → SameW pr H F b (rwW pr H F b ks) := by
  induction ks with
  | nil => intro b h _; exact SameW.refl h
  | cons p ks ih =>
    intro b h hk
    obtain ⟨h1, h2, h3, h4⟩ := hk p (List.mem_cons_self ..)
    have hs := chW_same (pr := pr) h h4 h1 h2 h3
    rw [rwW_cons]
    refine hs.trans (ih hs.lay (fun q hq => ?_))
    rw [hs.len]
    exact hk q (List.mem_cons_of_mem _ hq)
/-- What stands last for a word. -/
def lastW (ks : List (Nat × Int)) (k : Nat) : Option Int := ks.foldl (fun r p => if p.1 = k then some p.2 else r) none
theorem lastW_from (ks : List (Nat × Int)) (k : Nat) : ∀ r : Option Int, ks.foldl (fun r p => if p.1 = k then some p.2 else r) r = (match lastW ks k with | none => r | some n => some n) := by
  unfold lastW
  induction ks with
  | nil => intro r; rfl
  | cons p ks ih =>
    intro r
    simp only [List.foldl_cons]
    rw [ih, ih (if p.1 = k then some p.2 else none)]
    cases hh : ks.foldl (fun r p => if p.1 = k then some p.2 else r) none with
    | some n => rfl
    | none => by_cases e : p.1 = k <;> simp [e]
theorem lastW_cons (p : Nat × Int) (ks : List (Nat × Int)) (k : Nat) : lastW (p :: ks) k = (match lastW ks k with | some n => some n | none => if p.1 = k then some p.2 else none) := by
  show (p :: ks).foldl _ none = _
  rw [List.foldl_cons, lastW_from]
  cases lastW ks k <;> rfl
theorem lastW_none {ks : List (Nat × Int)} {k : Nat} : lastW ks k = none ↔ ∀ p ∈ ks, p.1 ≠ k := by
  induction ks with
  | nil => simp [lastW]
  | cons p ks ih =>
    rw [lastW_cons]
    constructor
    · intro h q hq
      cases hh : lastW ks k with
      | some n => rw [hh] at h; cases h
      | none =>
        rw [hh] at h
        simp only at h
        rcases List.mem_cons.1 hq with rfl | hq
        · intro e; rw [if_pos e] at h; cases h
        · exact ih.1 hh q hq
    · intro h
      rw [ih.2 (fun q hq => h q (List.mem_cons_of_mem _ hq))]
      simp only
      rw [if_neg (h p (List.mem_cons_self ..))]
theorem lastW_mem {ks : List (Nat × Int)} {k : Nat} {n : Int} (h : lastW ks k = some n) : ∃ p ∈ ks, p.1 = k ∧ p.2 = n := by
  induction ks with
  | nil => cases h
  | cons p ks ih =>
    rw [lastW_cons] at h
    cases hh : lastW ks k with
    | some m =>
      rw [hh] at h
      simp only [Option.some.injEq] at h
      obtain ⟨q, hq, h1, h2⟩ := ih (by rw [hh, h])
      exact ⟨q, List.mem_cons_of_mem _ hq, h1, h2⟩
    | none =>
      rw [hh] at h
      simp only at h
      by_cases e : p.1 = k
      · rw [if_pos e] at h
        exact ⟨p, List.mem_cons_self .., e, by injection h⟩
      · rw [if_neg e] at h; cases h
theorem rwW_byte {pr : Int} {H F : Nat} (ks : List (Nat × Int)) : ∀ {b : List Int}, LayW H F b → KeysW F b.length ks → ∀ {i : Nat}, i / 2 ≠ 5 → i / 2 ≠ F → (rwW pr H F b ks).getD i 0 = (match lastW ks (i / 2) with | some n => (if i % 2 = 0 then n / 256 else n % 256) | none => b.getD i 0) := by
  induction ks with
  | nil => intro b h _ i h5 hF; rfl
  | cons p ks ih =>
    intro b h hk i h5 hF
    obtain ⟨h1, h2, h3, h4⟩ := hk p (List.mem_cons_self ..)
    have hs := chW_same (pr := pr) h h4 h1 h2 h3
    rw [rwW_cons, ih hs.lay (fun q hq => by rw [hs.len]; exact hk q (List.mem_cons_of_mem _ hq)) h5 hF, lastW_cons]
    cases hh : lastW ks (i / 2) with
    | some n => rfl
    | none =>
      simp only
      by_cases e : p.1 = i / 2
      · rw [if_pos e]
        exact chW_at h1 h2 e.symm h3
      · rw [if_neg e]
        exact chW_byte h5 hF (fun q => e q.symm)
theorem getD_takeW (l : List Int) (m i : Nat) (h : i < m) : (l.take m).getD i 0 = l.getD i 0 := by
  simp only [List.getD]
  rw [List.getElem?_take_of_lt h]
theorem getD_dropW (l : List Int) (m i : Nat) : (l.drop m).getD i 0 = l.getD (m + i) 0 := by
  simp only [List.getD, List.getElem?_drop]
end Go.Proofs.YtheknmihnkennaaGreat

/-
  A slice of bytes that reads as a list of numbers ('Rd'), opened where it comes in; small words of every stage. No function of the program.
-/
namespace Go.Proofs.YtheknmihnkennaaGreat
set_option maxRecDepth 10000
open Go.ChangeShapes Go.WideShapes Go.ChangeAt Go.RowKit

/-- The slice value '.slice A n _' holds the bytes l, in memory that is there. -/
structure Rd (w : World) (A : Option Addr) (n : Nat) (l : List Int) : Prop where
  len : l.length = n
  byte : ∀ x ∈ l, 0 ≤ x ∧ x < 256
  at_ : 0 < n → ∃ b o, A = some ⟨b, o, none⟩ ∧ b < w.heap.size ∧ ∀ i, i < n → w.cell? ⟨b, o + i, none⟩ = some (.int .u8 (l.getD i 0))

theorem Rd.nil (w : World) (A : Option Addr) : Rd w A 0 [] := ⟨rfl, by simp, fun h => absurd h (by omega)⟩
theorem Rd.below {w w' : World} {A : Option Addr} {n : Nat} {l : List Int} (h : Rd w A n l) (hb : Below w.heap.size w w') : Rd w' A n l :=
  ⟨h.len, h.byte, fun hn => by
    obtain ⟨b, o, e, hlt, hc⟩ := h.at_ hn
    exact ⟨b, o, e, Nat.lt_of_lt_of_le hlt hb.size, fun i hi => by rw [hb.cell (p := ⟨b, o + i, none⟩) hlt]; exact hc i hi⟩⟩
theorem Rd.drew {w : World} {A : Option Addr} {n : Nat} {l : List Int} (h : Rd w A n l) (k : Nat) : Rd { w with drawn := k } A n l := ⟨h.len, h.byte, h.at_⟩
theorem Rd.take {w : World} {A : Option Addr} {n k : Nat} {l : List Int} (h : Rd w A n l) (hk : k ≤ n) : Rd w A k (l.take k) := by
  refine ⟨by rw [List.length_take, h.len]; omega, fun x hx => h.byte x (List.mem_of_mem_take hx), fun hn => ?_⟩
  obtain ⟨b, o, e, hlt, hc⟩ := h.at_ (by omega)
  refine ⟨b, o, e, hlt, fun i hi => ?_⟩
  rw [hc i (by omega)]
  simp [List.getD, List.getElem?_take_of_lt hi]
/-- A row that the call made. -/
theorem Rd.row {w : World} {g : Nat} {l : List Int} {t : TypeId} (hg : w.heap[g]? = some (.cells (l.map (Value.int .u8)).toArray t (0, 0))) (hl : ∀ x ∈ l, 0 ≤ x ∧ x < 256) : Rd w (some ⟨g, 0, none⟩) l.length l := by
  refine ⟨rfl, hl, fun _ => ⟨g, 0, rfl, ?_, fun i hi => ?_⟩⟩
  · rcases Nat.lt_or_ge g w.heap.size with h | h
    · exact h
    · rw [Array.getElem?_eq_none h] at hg; cases hg
  · simp [World.cell?, hg, List.getD, List.getElem?_eq_getElem hi]

theorem nums_inj : ∀ (a b : List Int), (∀ x ∈ a, 0 ≤ x ∧ x < 256) → (∀ x ∈ b, 0 ≤ x ∧ x < 256) → a.map (fun n => UInt8.ofNat n.toNat) = b.map (fun n => UInt8.ofNat n.toNat) → a = b
  | [], [], _, _, _ => rfl
  | [], _ :: _, _, _, h => by simp at h
  | _ :: _, [], _, _, h => by simp at h
  | x :: xs, y :: ys, ha, hb, h => by
    simp only [List.map_cons, List.cons.injEq] at h
    have h1 := ha x (by simp)
    have h2 := hb y (by simp)
    have h3 : (UInt8.ofNat x.toNat).toNat = (UInt8.ofNat y.toNat).toNat := by rw [h.1]
    have e1 : (UInt8.ofNat x.toNat).toNat = x.toNat := by simp; omega
    have e2 : (UInt8.ofNat y.toNat).toNat = y.toNat := by simp; omega
    have : x = y := by omega
    rw [this, nums_inj xs ys (fun z hz => ha z (by simp [hz])) (fun z hz => hb z (by simp [hz])) h.2]

theorem conv_rd {w : World} {A : Option Addr} {n : Nat} {l : List Int} (h : Rd w A n l) (c : Nat) :
    (convert 22 9 (.slice A n c)).run Tryz.prog w = .ok (.string (strOfNums l)) w := by
  rcases Nat.eq_zero_or_pos n with h0 | h0
  · subst h0
    have hl : l = [] := List.eq_nil_of_length_eq_zero h.len
    subst hl
    cases A with
    | none => exact run_convert_bytes_nil (P := Tryz.prog) w 22 5 Tryz.underlying22 Tryz.underlying5 0 c 9 Tryz.underlying9
    | some a =>
      rw [run_convert_bytes_string (P := Tryz.prog) w 22 9 5 _ 0 c Tryz.underlying22 Tryz.underlying5 Tryz.underlying9]
      have hl : (loadCells a 0).run Tryz.prog w = .ok #[] w := by simpa using run_loadCells_list (P := Tryz.prog) w a [] (by simp)
      have := run_bytesToString (P := Tryz.prog) w a 0 c [] hl
      rw [this]
      rfl
  · obtain ⟨b, o, rfl, _, hc⟩ := h.at_ h0
    exact run_convert_bytes_arg (P := Tryz.prog) w 22 5 Tryz.underlying22 Tryz.underlying5 b o n c l h.len hc 9 Tryz.underlying9

theorem ret_int {k : IntKind} {a b : Int} (h : a = b) : Ending.returned (.int k a) = .returned (.int k b) := by rw [h]
theorem ret_bool {a b : Bool} (h : a = b) : Ending.returned (.bool a) = .returned (.bool b) := by rw [h]
theorem below_trans {a b c : World} (h : Below a.heap.size a b) (k : Below b.heap.size b c) : Below a.heap.size a c := h.trans (k.mono h.size)

def Woke (w : World) (e : Ending) (w' : World) : Prop := e = .returned (.bool true) ∧ Below w.heap.size w w'

/-- A constant's bytes, as the walk lays them. -/
theorem Rd.const (w : World) (l : List Int) (t : TypeId) (fr : Nat × Nat) (hl : ∀ x ∈ l, 0 ≤ x ∧ x < 256) : Rd (w.alloc (.cells (l.map (Value.int .u8)).toArray t fr)) (some ⟨w.heap.size, 0, none⟩) l.length l := by
  refine ⟨rfl, hl, fun _ => ⟨w.heap.size, 0, rfl, by simp, fun i hi => ?_⟩⟩
  rw [World.cell?_alloc_mark]
  simp [List.getD, List.getElem?_eq_getElem hi]

/-- A slice of bytes that came in. -/
theorem rd_open {H : Type} {enc : TypeId × Value → H} {W : World} {n0 : Nat} {v : Value} {y : DataW H × List MemPlace}
    (h : DataW.trod enc Tryz.prog W 0 (fun _ => true) true n0 22 [v] = some y) : ∃ A n c l, v = .slice A n c ∧ n ≤ c ∧ c ≤ maxLen ∧ Rd W A n l := by
  rcases open_ints Tryz.underlying22 Tryz.underlying5 (by kernel_rfl) h with ⟨hcs, _⟩ | ⟨x, len, cap, zs, hcs, _, hl, hm, hz, _, hcell, hwz⟩
  · simp at hcs
    exact ⟨none, 0, 0, [], hcs, Nat.le_refl _, by simp [maxLen], Rd.nil _ _⟩
  · simp at hcs
    refine ⟨some x, len, cap, zs.take len, hcs, hl, hm, ?_, ?_, ?_⟩
    · rw [List.length_take]; simp at hz; omega
    · intro z hz'
      have := bounds_u8 (hwz z (List.mem_of_mem_take hz'))
      omega
    · intro h0
      simp at hz
      obtain ⟨b, o, rfl, hc⟩ := ints_at hcell (by omega)
      refine ⟨b, o, rfl, ?_, fun i hi => ?_⟩
      · exact World.block_lt_of_cell? W _ (hc 0 (by omega))
      · rw [hc i (by omega)]
        simp [List.getD, List.getElem?_take_of_lt hi]

theorem min_nat (m : Int) (n : Nat) (hm : 0 ≤ m) : ∃ k : Nat, (if m < (n : Int) then m else (n : Int)) = (k : Int) ∧ k ≤ n ∧ (k : Int) ≤ m := by
  by_cases h : m < (n : Int)
  · exact ⟨m.toNat, by rw [if_pos h]; omega, by omega, by omega⟩
  · exact ⟨n, by rw [if_neg h], Nat.le_refl _, by omega⟩

/-- One element's address and what lies there. -/
theorem Rd.index {w : World} {A : Option Addr} {n c : Nat} {l : List Int} (h : Rd w A n l) {j : Nat} (hj : j < n) :
    ∃ p, (∀ W : World, (Instr.indexAt 22 (.slice A n c) (.int .i64 (j : Int))).run Tryz.prog W = .ok (.pointer (some p)) W) ∧ w.cell? p = some (.int .u8 (l.getD j 0)) ∧ p.block < w.heap.size := by
  obtain ⟨b, o, rfl, hb, hc⟩ := h.at_ (by omega)
  have h0 : (0 : Int) ≤ (j : Int) := by omega
  have h1 : (j : Int) < (n : Int) := by omega
  exact ⟨⟨b, o + j, none⟩, fun W => by go_simp, hc j hj, hb⟩

end Go.Proofs.YtheknmihnkennaaGreat

/-
  Small equations on numbers of 16 bits, as a walk leaves them. Nothing of the program.
-/
namespace Go.Proofs.YtheknmihnkennaaGreat
set_option maxRecDepth 10000
theorem wrap_u16 (n : Int) : IntKind.u16.wrap n = n % 65536 := by simp [IntKind.wrap, IntKind.bits, IntKind.signed]
theorem wraps_u16 (n : Int) (h₀ : 0 ≤ n) (h₁ : n < 2 ^ 16) : IntKind.u16.wrap n = n := by rw [wrap_u16]; omega
theorem or16 (x y : Int) (hx : 0 ≤ x ∧ x < 256) (hy : 0 ≤ y ∧ y < 256) : bits .or .u16 (x * 256) y = x * 256 + y :=
  bits_join .u16 16 (by decide) wraps_u16 8 (x * 256) y (by omega) (by omega) (by omega) (by omega) (by omega) (by omega)
theorem wraps_u32 (n : Int) (h₀ : 0 ≤ n) (h₁ : n < 2 ^ 32) : IntKind.u32.wrap n = n := by simp [IntKind.wrap, IntKind.bits, IntKind.signed]; omega
theorem or32 (x y : Int) (hx : 0 ≤ x ∧ x < 16777216) (hy : 0 ≤ y ∧ y < 256) : bits .or .u32 (x * 256) y = x * 256 + y :=
  bits_join .u32 32 (by decide) wraps_u32 8 (x * 256) y (by omega) (by omega) (by omega) (by omega) (by omega) (by omega)
theorem not16 (x : Int) (h : 0 ≤ x ∧ x ≤ 65535) : bits .xor .u16 IntKind.u16.max x = 65535 - x := by
  obtain ⟨a, rfl⟩ := Int.eq_ofNat_of_zero_le h.1
  have h2 : (BitVec.ofInt 16 (a : Int)).toNat = a := by
    rw [BitVec.ofInt_natCast, BitVec.toNat_ofNat]; exact Nat.mod_eq_of_lt (by omega)
  have e : IntKind.u16.max = 65535 := by decide
  have h1 : BitVec.ofInt 16 65535 = BitVec.allOnes 16 := by decide
  show IntKind.u16.wrap ((BitVec.ofInt 16 IntKind.u16.max ^^^ BitVec.ofInt 16 (a : Int)).toNat : Int) = _
  rw [e, h1, BitVec.allOnes_xor, BitVec.toNat_not, h2, wrap_u16]
  omega
theorem and16_mask (i : Nat) (hi : i ≤ 16) (x : Int) (h : 0 ≤ x ∧ x < 65536) : bits .and .u16 x (2 ^ i - 1) = x % 2 ^ i := bits_mask .u16 16 (by decide) wraps_u16 i hi x h.1 h.2
theorem nat_and_pow (a i : Nat) : a &&& 2 ^ i = a / 2 ^ i % 2 * 2 ^ i := by
  have h0 : (a &&& 2 ^ i) % 2 ^ i = 0 := by rw [Nat.and_mod_two_pow]; simp
  have h1 : (a &&& 2 ^ i) / 2 ^ i = a / 2 ^ i % 2 := by
    rw [Nat.and_div_two_pow, Nat.div_self (Nat.two_pow_pos i), Nat.and_one_is_mod]
  have := Nat.div_add_mod (a &&& 2 ^ i) (2 ^ i)
  rw [h0, h1] at this
  rw [Nat.mul_comm]; omega
theorem and16_bit (i : Nat) (hi : i < 16) (x : Int) (h : 0 ≤ x ∧ x < 65536) : bits .and .u16 x (2 ^ i) = x / 2 ^ i % 2 * 2 ^ i := by
  obtain ⟨a, rfl⟩ := Int.eq_ofNat_of_zero_le h.1
  have hp : 2 ^ i < 2 ^ 16 := Nat.pow_lt_pow_right (by omega) hi
  have := (bits_nat .u16 16 (by decide) wraps_u16 a (2 ^ i) (by omega) hp).1
  rw [show ((2 : Int) ^ i) = ((2 ^ i : Nat) : Int) by simp, this, nat_and_pow]
  simp
end Go.Proofs.YtheknmihnkennaaGreat

/-
  The contracts of package sum's calls on numbers (add, Word, Long), and of the document's own answers (culvertref02) for them: each leaves the world as it was.
-/
namespace Go.Proofs.YtheknmihnkennaaGreat
set_option maxRecDepth 10000
open Go.RowKit

theorem add_any (a b : Int) (w : World) (ha : U16 a) (hb : U16 b) :
    Calls Tryz.prog 106 #[.int .u16 a, .int .u16 b] w fun e w' => e = .returned (.int .u16 (add16 a b)) ∧ w = w' := by
  obtain ⟨ha0, ha1⟩ := ha
  obtain ⟨hb0, hb1⟩ := hb
  by_cases h : 65535 < a + b
  · go_enter Tryz.func106, Tryz.ntmps106
    go_wp2
    go_ret
    exact ⟨ret_int (by unfold add16; rw [if_pos h]; (try rw [wrap_u16]); (try rw [wrap_u16]); omega), rfl⟩
  · go_enter Tryz.func106, Tryz.ntmps106
    go_wp2
    go_ret
    exact ⟨ret_int (by unfold add16; rw [if_neg (by omega)]), rfl⟩

theorem word_any (f a b : Int) (w : World) (hf : U16 f) (ha : U16 a) (hb : U16 b) :
    Calls Tryz.prog 83 #[.int .u16 f, .int .u16 a, .int .u16 b] w fun e w' => e = .returned (.int .u16 (wordF f a b)) ∧ w = w' := by
  have h1 : U16 (65535 - f) := by unfold U16 at *; omega
  have h2 : U16 (65535 - a) := by unfold U16 at *; omega
  have h3 := add_bd _ _ h1 h2
  have h4 := add_bd _ _ h3 hb
  have n1 := not16 f hf
  have n2 := not16 a ha
  have n3 := not16 _ h4
  have N3 := Lib.hid n3
  clear n3
  go_enter Tryz.func83, Tryz.ntmps83
  go_wp2_with fail
  refine (add_any _ _ _ h1 h2).mono ?_
  rintro e w' ⟨rfl, rfl⟩
  go_wp2_with fail
  refine (add_any _ _ _ h3 hb).mono ?_
  rintro e w' ⟨rfl, rfl⟩
  clear n1 n2
  go_wp2_with fail
  go_ret
  exact ⟨ret_int N3.out, rfl⟩

theorem word_told (f a b x : Int) (w : World) (hf : U16 f) (ha : U16 a) (hb : U16 b) (hx : wordF f a b = x) :
    Calls Tryz.prog 83 #[.int .u16 f, .int .u16 a, .int .u16 b] w fun e w' => e = .returned (.int .u16 x) ∧ w = w' := by subst hx; exact word_any f a b w hf ha hb


end Go.Proofs.YtheknmihnkennaaGreat
