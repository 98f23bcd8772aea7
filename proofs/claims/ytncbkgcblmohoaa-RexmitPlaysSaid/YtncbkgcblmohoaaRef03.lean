/-
  The document's own numbers in bytes (culvertref03): Own, Lay, and a reader's take and Num, of two bytes that are there.
-/
import Derived.Test.YtncbkgcblmohoaaOwnRow
import Derived.Test.YtncbkgcblmohoaaBut
import Derived.Test.YtncbkgcblmohoaaRdL
import Derived.Lib.Hide
import Derived.IntWalk
import Derived.Deep.LoopGhost
import Derived.LoopTactic
import Derived.Outline
namespace Go.Proofs.Ytncbkgcblmohoaa
set_option maxRecDepth 10000
open Go.RowKit
set_option linter.unusedSimpArgs false

theorem Rd.rest3 {w : World} {A : Option Addr} {n c : Nat} {l : List Int} (h : Rd w A n l) (lo : Nat) (loi : Int) (h0 : 0 < n) (hlo : lo ≤ n) (hc : n ≤ c) (hcm : c ≤ maxLen) (el : loi = (lo : Int)) :
    ∃ A', (∀ W : World, (Instr.sliceAt 37 (.slice A n c) (some (.int .i64 loi)) none none).run Try.prog W = .ok (.slice A' (n - lo) (c - lo)) W) ∧ Rd w A' (n - lo) (l.drop lo) ∧ (∀ g o', A' = some ⟨g, o', none⟩ → ∃ o0, A = some ⟨g, o0, none⟩) := by
  subst el
  obtain ⟨b, o, rfl, _, _⟩ := h.at_ h0
  unfold maxLen at hcm
  have i0 : (0 : Int) ≤ (lo : Int) := by omega
  have i1 : (lo : Int) ≤ (n : Int) := by omega
  have i2 : (n : Int) ≤ (c : Int) := by omega
  have i3 : lo ≤ c := by omega
  by_cases hl : lo = c
  · subst hl
    obtain rfl : n = lo := by omega
    refine ⟨some ⟨b, o, none⟩, fun W => by go_simp, ?_, fun g o' e => ⟨o', e⟩⟩
    rw [Nat.sub_self, List.drop_eq_nil_of_le (by rw [h.len]; omega)]
    exact Rd.nil _ _
  · have i4 : ¬ c = lo := fun e => hl e.symm
    refine ⟨some ⟨b, o + lo, none⟩, fun W => by go_simp, ?_, fun g o' e => ⟨o, by injection e with e; injection e with e; rw [e]⟩⟩
    exact h.drop_ rfl (by omega)

theorem own3_any (A : Option Addr) (n c : Nat) (l : List Int) (w : World) (hn : n ≤ 140737488355328) (h : Rd w A n l) :
    Calls Try.prog 43 #[.slice A n c] w (RowIs n l w) := by
  have Hr := Lib.hid h
  clear h
  go_enter Try.func43, Try.ntmps43
  go_wp2_with (refine wpList_app rfl (.tmp 4) (.tmp 5) rfl w.heap.size none A 0 0 n c [] l rfl rfl (OwnB.nil _ _) Hr.out (by omega) (Nat.le_refl _) ?_; intro A3 c3 w3 hown3 hg3 hb3 hat3)
  have Ho := Lib.hid (show OwnB w3 w.heap.size A3 n c3 l by simpa using hown3)
  have Hb := Lib.hid hb3
  clear hown3 hg3 hb3 hat3
  try simp only [Nat.zero_add]
  go_wp2_with fail
  go_ret
  exact ⟨A3, c3, by simp, Ho.out.cap, Ho.out.capMax, Ho.out, Hb.out⟩

/-- A number's lowest bytes, the highest first. -/
def beU2 (x : Int) : List Int := [x / 256 % 256, x % 256]
def beU4 (x : Int) : List Int := [x / 16777216 % 256, x / 65536 % 256, x / 256 % 256, x % 256]
def rdr3 (A : Option Addr) (n c : Nat) (N : Int) : Array Value := #[.slice A n c, .int .i64 N, .int .i64 0]
theorem cells3' {w : World} {g : Nat} {u0 u1 u2 : Value} {t : TypeId} (h : w.heap[g]? = some (.cells #[u0, u1, u2] t (0, 0))) : w.cell? ⟨g, 0, none⟩ = some u0 ∧ w.cell? ⟨g, 1, none⟩ = some u1 ∧ w.cell? ⟨g, 2, none⟩ = some u2 := ⟨by rw [blk_cell h]; rfl, by rw [blk_cell h]; rfl, by rw [blk_cell h]; rfl⟩
theorem setCell_block3 {w : World} {b i : Nat} {cells : Array Value} {ty : TypeId} {ro : Nat × Nat} (hb : w.heap[b]? = some (.cells cells ty ro)) (u : Value) :
    (w.setCell ⟨b, i, none⟩ u).heap[b]? = some (.cells (cells.set! i u) ty ro) := by
  rw [Joins.block_setCell hb u]; simp
theorem set3_two {w : World} {q : Nat} {u0 u1 u2 : Value} {t : TypeId} (h : w.heap[q]? = some (.cells #[u0, u1, u2] t (0, 0))) (v0 v1 : Value) :
    ((w.setCell ⟨q, 0, none⟩ v0).setCell ⟨q, 1, none⟩ v1).heap[q]? = some (.cells #[v0, v1, u2] t (0, 0)) := by
  have h1 := setCell_block3 (i := 0) h v0
  have h2 := setCell_block3 (i := 1) h1 v1
  simpa using h2

end Go.Proofs.Ytncbkgcblmohoaa
