/-
  Texts laid together: InRefRw, BytesEq, InRefOf, InFace.
-/
import Derived.Test.YtoegfgbalcholaaZA07
import Derived.Deep.DeepCutAuto
import Derived.Test.YtoegfgbalcholaaZA01
import Derived.Lib.Hide
import Derived.Outline
import Derived.Test.YtoegfgbalcholaaZA02
import Derived.Test.YtoegfgbalcholaaZA05

/-
  culvertref16's Rewrite (stage 16, written ahead).
-/
namespace Go.Proofs.Ytoegfgbalcholaa
set_option maxRecDepth 10000
open Go.RowKit
set_option linter.unusedSimpArgs false
set_option linter.unusedVariables false

/-- Bytes of the call's own, and an error. -/
def OwnQ (L : List Int) (m : Nat) (x : Int) (w : World) (e : Ending) (w' : World) : Prop := ∃ A c, e = .returned (.tuple #[.slice A m c, .int .i64 x]) ∧ OwnB w' w.heap.size A m c L ∧ Below w.heap.size w w'
def errR (b : List Int) (t : Tu) : Int := if errQ b ≠ 0 then errQ b else if t.pr ≠ b.getD 9 0 then 1 else 0
def rwR (b : List Int) (t : Tu) (sh : Int) : List Int := if errR b t = 0 then rwQ b t sh else []
theorem rwR_none {l L : List Int} {t : Tu} {sh : Int} {m : Nat} {x k : Int} (hL : rwR l t sh = L) (hm : L.length = m) (hx : errR l t = x) (he : errR l t = k) (h0 : k ≠ 0) : L = [] ∧ m = 0 ∧ x = k := by
  have e : rwR l t sh = [] := by unfold rwR; rw [if_neg (by omega)]
  rw [e] at hL
  subst hL
  exact ⟨rfl, by simpa using hm.symm, by omega⟩
theorem tu_at {w : World} {g : Nat} {T : TypeId} {t : Tu} (h : w.heap[g]? = some (.cells #[.int .u8 t.pr, .int .u32 t.sr, .int .u32 t.ds, .int .u16 t.sp, .int .u16 t.dp] T (0, 0))) : w.cell? ⟨g, 0, none⟩ = some (.int .u8 t.pr) ∧ w.cell? ⟨g, 1, none⟩ = some (.int .u32 t.sr) ∧ w.cell? ⟨g, 2, none⟩ = some (.int .u32 t.ds) ∧ w.cell? ⟨g, 3, none⟩ = some (.int .u16 t.sp) ∧ w.cell? ⟨g, 4, none⟩ = some (.int .u16 t.dp) := by
  refine ⟨?_, ?_, ?_, ?_, ?_⟩ <;> (rw [blk_cell h]; rfl)
/-- The lists of a rewriting, step by step. -/
structure StepQ (b M : List Int) : Prop where
  byte : Bytes M
  len : M.length = b.length
theorem StepQ.rd {b M : List Int} (h : StepQ b M) {w : World} {B : Nat} {A : Option Addr} {n c : Nat} (ho : OwnB w B A n c M) : Rd w A n M := ho.rd h.byte
theorem StepQ.head {b M M2 : List Int} (h : StepQ b M) (he : errQ b = 0) {k : Nat} (hk : 6 ≤ k ∧ k ≤ 9) {x : Int} (hx : U16 x) (e : chQ (bothQ b) M k x = M2) : StepQ b M2 := by
  subst e
  exact ⟨(may_head he h.byte h.len hk hx).bytes, (chQ_len _ _ _ _).trans h.len⟩
end Go.Proofs.Ytoegfgbalcholaa

/-
  The contract of bytes.Equal (for the stages that do not need the options'): over bytes that read as lists.
-/
namespace Go.Proofs.Ytoegfgbalcholaa
set_option maxRecDepth 10000
open Go.RowKit

end Go.Proofs.Ytoegfgbalcholaa

/-
  culvertref16's Of and Like (stage 16, written ahead).
-/
namespace Go.Proofs.Ytoegfgbalcholaa
set_option maxRecDepth 10000
open Go.RowKit
set_option linter.unusedSimpArgs false
set_option linter.unusedVariables false

/-- The first bytes of a packet: how many, which. -/
def ofN (b : List Int) (many : Int) : Nat := if b.length < 20 then 0 else if many < 0 then b.length else min b.length (2 * qH b + many.toNat)
def ofL (b : List Int) (many : Int) : List Int := b.take (ofN b many)
theorem ofL_len (b : List Int) (many : Int) : (ofL b many).length = ofN b many := by
  unfold ofL ofN
  rw [List.length_take]
  split
  · omega
  · split <;> omega
end Go.Proofs.Ytoegfgbalcholaa

/-
  What Read, Rewrite and Of of package inner must do, as the laws ask it (stage 16, written ahead).
-/
namespace Go.Proofs.Ytoegfgbalcholaa
set_option maxRecDepth 10000
open Go.RowKit
set_option linter.unusedSimpArgs false
set_option linter.unusedVariables false

def ReadF16 : Prop := ∀ (A : Option Addr) (n c : Nat) (b : List Int) (t : Tu) (s x : Int) (w : World), n ≤ c ∧ c ≤ maxLen → n ≤ 140737488351232 → Rd w A n b → qT b = t → qS b = s → errQ b = x →
  Calls Try.prog 7 #[.slice A n c] w (QuoteIs t s x w)
def RwF16 : Prop := ∀ (A : Option Addr) (n c : Nat) (b : List Int) (t : Tu) (sh : Int) (w : World) (L : List Int) (m : Nat) (x : Int), n ≤ c ∧ c ≤ maxLen → n ≤ 140737488351232 → Rd w A n b → TuNum t → 0 ≤ sh ∧ sh < 4294967296 → rwR b t sh = L → L.length = m → errR b t = x →
  Calls Try.prog 9 #[.slice A n c, .agg #[.int .u8 t.pr, .int .u32 t.sr, .int .u32 t.ds, .int .u16 t.sp, .int .u16 t.dp], .int .u32 sh] w (OwnQ L m x w)
def OfF16 : Prop := ∀ (A : Option Addr) (n c : Nat) (b : List Int) (many : Int) (L : List Int) (K : Nat) (w : World), n ≤ c ∧ c ≤ maxLen → n ≤ 140737488351232 → Rd w A n b → -9223372036854775808 ≤ many ∧ many ≤ 9223372036854775807 → ofL b many = L → L.length = K →
  Calls Try.prog 11 #[.slice A n c, .int .i64 many] w (RowIs K L w)
def AwF16 : Prop := ∀ w : World, Calls Try.prog 13 #[] w (Woke w)
end Go.Proofs.Ytoegfgbalcholaa
