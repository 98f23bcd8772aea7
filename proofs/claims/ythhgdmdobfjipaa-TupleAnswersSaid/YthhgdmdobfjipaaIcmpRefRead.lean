/-
  The document's own answers for messages (culvertref08): Parse, Exceeded.
-/
import Derived.Test.YthhgdmdobfjipaaIcmpRefPut
import Derived.Test.YthhgdmdobfjipaaHeldLast
namespace Go.Proofs.Ythhgdmdobfjipaa
set_option maxRecDepth 10000
open Go.RowKit
set_option linter.unusedVariables false
set_option linter.unusedSimpArgs false

theorem Rd.restM {w : World} {A : Option Addr} {n c : Nat} {l : List Int} (h : Rd w A n l) (lo : Nat) (loi : Int) (h0 : 0 < n) (hlo : lo ≤ n) (hc : n ≤ c) (hcm : c ≤ maxLen) (el : loi = (lo : Int)) :
    ∃ A', (∀ W : World, (Instr.sliceAt 24 (.slice A n c) (some (.int .i64 loi)) none none).run Try.prog W = .ok (.slice A' (n - lo) (c - lo)) W) ∧ Rd w A' (n - lo) (l.drop lo) := by
  subst el
  obtain ⟨b, o, rfl, _, _⟩ := h.at_ h0
  unfold maxLen at hcm
  have i0 : (0 : Int) ≤ (lo : Int) := by omega
  have i1 : (lo : Int) ≤ (n : Int) := by omega
  have i2 : (n : Int) ≤ (c : Int) := by omega
  have i3 : lo ≤ c := by omega
  by_cases hl : lo = c
  · subst hl
    obtain rfl : n = lo := by omega
    refine ⟨some ⟨b, o, none⟩, fun W => by go_simp, ?_⟩
    rw [Nat.sub_self, List.drop_eq_nil_of_le (by rw [h.len]; omega)]
    exact Rd.nil _ _
  · have i4 : ¬ c = lo := fun e => hl e.symm
    refine ⟨some ⟨b, o + lo, none⟩, fun W => by go_simp, ?_⟩
    exact h.drop_ rfl (by omega)
/-- Parse, of bytes that are no message, and of those that are. -/
def MsgBad (x : Int) (w : World) (e : Ending) (w' : World) : Prop := e = .returned (.tuple #[.agg #[.int .u8 0, .int .u8 0, .int .u32 0, .slice none 0 0], .int .i64 x]) ∧ Below w.heap.size w w'
def MsgGood (s : Msg) (m : Nat) (w : World) (e : Ending) (w' : World) : Prop :=
  ∃ AD cD, e = .returned (.tuple #[.agg #[.int .u8 s.ty, .int .u8 s.cd, .int .u32 s.rs, .slice AD m cD], .int .i64 0]) ∧ m ≤ cD ∧ cD ≤ maxLen ∧ OwnB w' w.heap.size AD m cD s.d ∧ Below w.heap.size w w'

def accM (b : List Int) : Nat → Int
  | 0 => 0
  | k + 1 => 256 * accM b k + b.getD (4 + k) 0
theorem accM_four (b : List Int) : accM b 4 = m32 b 4 := by simp [accM, m32]; omega
theorem accM_bd {b : List Int} (hb : ∀ x ∈ b, 0 ≤ x ∧ x < 256) (h8 : 8 ≤ b.length) : ∀ k, k ≤ 3 → 0 ≤ accM b k ∧ accM b k < 16777216 ∧ (0 ≤ b.getD (4 + k) 0 ∧ b.getD (4 + k) 0 < 256) := by
  have g : ∀ j, j < 8 → 0 ≤ b.getD j 0 ∧ b.getD j 0 < 256 := fun j hj => hb _ (by simp only [List.getD, List.getElem?_eq_getElem (show j < b.length by omega), Option.getD_some]; exact List.getElem_mem _)
  intro k hk
  have h4 := g 4 (by omega)
  have h5 := g 5 (by omega)
  have h6 := g 6 (by omega)
  have h7 := g 7 (by omega)
  match k, hk with
  | 0, _ => simp [accM]; simpa using h4
  | 1, _ => simp [accM] at *; omega
  | 2, _ => simp [accM] at *; omega
  | 3, _ => simp [accM] at *; omega
structure Pars (w : World) (z : Nat) (b0 b1 v : Int) (wr : World) : Prop where
  old : Below w.heap.size w wr
  res : wr.heap[z]? = some (.cells #[.int .u8 0, .int .u8 0, .int .u32 0, .slice none 0 0] 33 (0, 0))
  mine : wr.heap[z + 1]? = some (.cells #[.int .u8 b0, .int .u8 b1, .int .u32 v, .slice none 0 0] 33 (0, 0))
  size : wr.heap.size = z + 2
theorem Pars.step {w : World} {z : Nat} {b0 b1 v : Int} {wr : World} (h : Pars w z b0 b1 v wr) (hz : w.heap.size = z) (y : Int) : Pars w z b0 b1 y (wr.setCell ⟨z + 1, 2, none⟩ (.int .u32 y)) :=
  ⟨h.old.setCell (by simp <;> omega) _, other_blk h.res (by omega) _, set_cell4 h.mine _, by simpa using h.size⟩
theorem Pars.drew {w : World} {z : Nat} {b0 b1 v : Int} {wr : World} (h : Pars w z b0 b1 v wr) : Pars w z b0 b1 v wr.drew := ⟨h.old.drew, h.res, h.mine, h.size⟩
theorem own_store {w : World} {B p i : Nat} {A : Option Addr} {n c : Nat} {l : List Int} (h : OwnB w B A n c l) (hp : p < B) (v : Value) : OwnB (w.setCell ⟨p, i, none⟩ v) B A n c l :=
  h.but ((But.refl (fun k => k = p) _).setCell (p := ⟨p, i, none⟩) rfl v) (fun k hk e => by omega)
theorem set_cell4d {w : World} {q : Nat} {u0 u1 u2 u3 : Value} {t : TypeId} (h : w.heap[q]? = some (.cells #[u0, u1, u2, u3] t (0, 0))) (v : Value) : (w.setCell ⟨q, 3, none⟩ v).heap[q]? = some (.cells #[u0, u1, u2, v] t (0, 0)) := by
  simp [World.setCell, Array.getElem?_modify, h]
/-- Something may go no further: the message of the first 68 bytes. -/
def OverIs (l : List Int) (k : Nat) (w : World) (e : Ending) (w' : World) : Prop :=
  ∃ AD cD, e = .returned (.agg #[.int .u8 11, .int .u8 0, .int .u32 0, .slice AD k cD]) ∧ k ≤ cD ∧ cD ≤ maxLen ∧ OwnB w' w.heap.size AD k cD (l.take k) ∧ Below w.heap.size w w'
structure Overs (w : World) (z : Nat) (l : List Int) (j : Nat) (Aj : Option Addr) (cj : Nat) (wr : World) : Prop where
  old : Below w.heap.size w wr
  res : wr.heap[z]? = some (.cells #[.int .u8 0, .int .u8 0, .int .u32 0, .slice none 0 0] 33 (0, 0))
  mine : wr.heap[z + 1]? = some (.cells #[.int .u8 11, .int .u8 0, .int .u32 0, .slice Aj j cj] 33 (0, 0))
  row : OwnB wr (z + 2) Aj j cj (l.take j)
  size : z + 2 ≤ wr.heap.size
theorem Overs.drew {w : World} {z : Nat} {l : List Int} {j : Nat} {Aj : Option Addr} {cj : Nat} {wr : World} (h : Overs w z l j Aj cj wr) : Overs w z l j Aj cj wr.drew := ⟨h.old.drew, h.res, h.mine, h.row.on (Below.drew (Below.refl _ _)), h.size⟩
theorem Overs.step {w : World} {z : Nat} {l : List Int} {j : Nat} {Aj : Option Addr} {cj : Nat} {wr : World} (h : Overs w z l j Aj cj wr) (hz : w.heap.size = z) {w1 : World} {A1 : Option Addr} {c1 : Nat} (ho : OwnB w1 (z + 2) A1 (j + 1) c1 (l.take (j + 1))) (hb : Below (z + 2) wr w1) :
    Overs w z l (j + 1) A1 c1 (w1.setCell ⟨z + 1, 3, none⟩ (.slice A1 (j + 1) c1)) := by
  have hm : w1.heap[z + 1]? = some (.cells #[.int .u8 11, .int .u8 0, .int .u32 0, .slice Aj j cj] 33 (0, 0)) := (hb.block _ (by omega)).trans h.mine
  have hr : w1.heap[z]? = some (.cells #[.int .u8 0, .int .u8 0, .int .u32 0, .slice none 0 0] 33 (0, 0)) := (hb.block _ (by omega)).trans h.res
  refine ⟨(h.old.trans (hb.mono (by omega))).setCell (p := ⟨z + 1, 3, none⟩) (by simp <;> omega) _, other_blk hr (by omega) _, set_cell4d hm _, own_store ho (by omega) _, ?_⟩
  have := hb.size
  have := h.size
  simp <;> omega

theorem take_snocM (l : List Int) (j : Nat) (h : j < l.length) : l.take j ++ [l.getD j 0] = l.take (j + 1) := by
  rw [List.take_add_one]
  congr 1
  simp [List.getD, List.getElem?_eq_getElem h]
end Go.Proofs.Ythhgdmdobfjipaa
