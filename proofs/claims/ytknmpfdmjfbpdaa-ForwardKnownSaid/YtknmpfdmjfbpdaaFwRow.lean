/-
  Rows of forwards (api.Forward): their cells, read at a place. Written ahead of stage 14.
-/
import Derived.Test.YtknmpfdmjfbpdaaFw
import Derived.Test.YtknmpfdmjfbpdaaSlRun
import Derived.Test.YtknmpfdmjfbpdaaTupVal
namespace Go.Proofs.Ytknmpfdmjfbpdaa
set_option maxRecDepth 10000
open Go.RowKit
set_option linter.unusedSimpArgs false
set_option linter.unusedVariables false

def fwV (f : Fw) : List Value := [.int .u8 f.pr, .int .u16 f.po, .int .u32 f.ad, .int .u16 f.tp]
def flatW4 (L : FWL) : List Value := L.flatMap fwV
theorem flatW4_cons (f : Fw) (L : FWL) : flatW4 (f :: L) = fwV f ++ flatW4 L := rfl
theorem flatW4_append (L M : FWL) : flatW4 (L ++ M) = flatW4 L ++ flatW4 M := by simp [flatW4]
theorem flatW4_length (L : FWL) : (flatW4 L).length = L.length * 4 := by
  induction L with
  | nil => rfl
  | cons f L ih => rw [flatW4_cons, List.length_append, ih, List.length_cons]; simp [fwV]; omega
theorem flatW4_get (L : FWL) {i k : Nat} (hi : i < L.length) (hk : k < 4) : (flatW4 L)[i * 4 + k]? = (fwV (L.getD i fw0))[k]? := by
  induction L generalizing i with
  | nil => simp at hi
  | cons f L ih =>
    rw [flatW4_cons]
    have h4 : (fwV f).length = 4 := rfl
    cases i with
    | zero =>
      rw [List.getElem?_append_left (by rw [h4]; omega)]
      simp
    | succ i =>
      simp only [List.length_cons] at hi
      rw [List.getElem?_append_right (by rw [h4]; omega), h4, show (i + 1) * 4 + k - 4 = i * 4 + k by omega, ih (by omega)]
      simp
theorem flatW4_one (L : FWL) : ∀ u ∈ flatW4 L, u.oneCell' = true := by
  intro u hu
  obtain ⟨f, _, h⟩ := List.mem_flatMap.1 hu
  simp only [fwV, List.mem_cons, List.not_mem_nil, or_false] at h
  rcases h with rfl | rfl | rfl | rfl <;> rfl
/-- A forward's cells from p on in block g. -/
structure FwAt (w : World) (g p : Nat) (f : Fw) : Prop where
  c0 : w.cell? ⟨g, p, none⟩ = some (.int .u8 f.pr)
  c1 : w.cell? ⟨g, p + 1, none⟩ = some (.int .u16 f.po)
  c2 : w.cell? ⟨g, p + 2, none⟩ = some (.int .u32 f.ad)
  c3 : w.cell? ⟨g, p + 3, none⟩ = some (.int .u16 f.tp)
theorem FwAt.of {w w' : World} {g p : Nat} {f : Fw} (h : FwAt w g p f) (hc : ∀ i, w'.cell? ⟨g, i, none⟩ = w.cell? ⟨g, i, none⟩) : FwAt w' g p f :=
  ⟨(hc _).trans h.c0, (hc _).trans h.c1, (hc _).trans h.c2, (hc _).trans h.c3⟩
/-- A slice of forwards, read. -/
structure RdW (w : World) (A : Option Addr) (L : FWL) : Prop where
  at_ : 0 < L.length → ∃ b o, A = some ⟨b, o, none⟩ ∧ b < w.heap.size ∧ ∀ i, i < L.length → FwAt w b (o + i * 4) (L.getD i fw0)
theorem RdW.but {S : Nat → Prop} {w w' : World} {A : Option Addr} {L : FWL} (h : RdW w A L) (hb : But S w w') (hS : ∀ b o, A = some ⟨b, o, none⟩ → ¬ S b) : RdW w' A L :=
  ⟨fun hn => by
    obtain ⟨b, o, e, hlt, hc⟩ := h.at_ hn
    exact ⟨b, o, e, hb.lt hlt, fun i hi => (hc i hi).of (fun i => hb.cell (p := ⟨b, i, none⟩) hlt (hS b o e))⟩⟩
theorem RdW.below {w w' : World} {A : Option Addr} {L : FWL} (h : RdW w A L) (hb : Below w.heap.size w w') : RdW w' A L :=
  h.but (S := fun _ => False) (But.of hb) (fun _ _ _ h => h)
theorem RdW.nil (w : World) (A : Option Addr) : RdW w A [] := ⟨fun h => absurd h (by simp)⟩
theorem RdW.of {w : World} {T : TypeId} {A : Option Addr} {n c : Nat} {L : FWL} (h : SlV w T 4 (.slice A n c) n (flatW4 L)) (hn : L.length = n) : RdW w A L := ⟨fun h0 => by
  rcases h with ⟨e, en, _⟩ | ⟨g, o, c', e, hr⟩
  · omega
  · injection e with e1 e2 e3
    subst e1; subst e3
    have hlt := hr.lt
    obtain ⟨C, hg, hC, hl, hnc, hm, hc⟩ := hr
    refine ⟨g, o, rfl, hlt, fun j hj => ?_⟩
    have hlen := flatW4_length L
    have key : ∀ k, k < 4 → w.cell? ⟨g, o + j * 4 + k, none⟩ = (fwV (L.getD j fw0))[k]? := fun k hk => by
      rw [blk_cell hg, Nat.add_assoc, hc _ (by omega), flatW4_get L (by omega) hk]
    exact ⟨key 0 (by omega), key 1 (by omega), key 2 (by omega), key 3 (by omega)⟩⟩
theorem RdW.index {w : World} {A : Option Addr} {L : FWL} (h : RdW w A L) {n c : Nat} (hn : L.length = n) {j : Nat} (hj : j < n) :
    ∃ b p, (∀ W : World, (Instr.indexAt 27 (.slice A n c) (.int .i64 (j : Int))).run Try.prog W = .ok (.pointer (some ⟨b, p, none⟩)) W) ∧ b < w.heap.size ∧ FwAt w b p (L.getD j fw0) := by
  obtain ⟨b, o, rfl, hb, hc⟩ := h.at_ (by omega)
  have k0 : (0 : Int) ≤ (j : Int) := by omega
  have k1 : (j : Int) < (n : Int) := by omega
  exact ⟨b, o + j * 4, fun W => by go_simp, hb, hc j (by omega)⟩
theorem fw_neq (f g : Fw) (w : World) : (binOp .neq 40 (.agg #[.int .u8 f.pr, .int .u16 f.po, .int .u32 f.ad, .int .u16 f.tp]) (.agg #[.int .u8 g.pr, .int .u16 g.po, .int .u32 g.ad, .int .u16 g.tp])).run Try.prog w = .ok (.bool (!decide (f = g))) w := by
  rw [run_neq_struct, run_equalIn_struct w 9999 40 _ _ (by kernel_rfl) (by kernel_rfl)]
  obtain ⟨a, b, c, d⟩ := f
  obtain ⟨a', b', c', d'⟩ := g
  go_simp
  repeat' split
  all_goals simp_all
end Go.Proofs.Ytknmpfdmjfbpdaa
