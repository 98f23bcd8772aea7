/-
  The contract of package ipv4's ask: it gives up with the error of the first fault that is there, or does nothing.
-/
import Derived.Test.YtoblllgefmajiaaWireRead
import Derived.Test.YtoblllgefmajiaaIpPlain
namespace Go.Proofs.Ytoblllgefmajiaa
set_option maxRecDepth 10000
open Go.RowKit

/-- The slice of faults holds l. -/
structure RdF (w : World) (A : Option Addr) (n : Nat) (l : List (Bool × Int)) : Prop where
  len : l.length = n
  at_ : 0 < n → ∃ b, A = some ⟨b, 0, none⟩ ∧ b < w.heap.size ∧ ∀ i, i < n → w.cell? ⟨b, i * 2, none⟩ = some (.bool (l.getD i (false, 0)).1) ∧ w.cell? ⟨b, i * 2 + 1, none⟩ = some (.int .i64 (l.getD i (false, 0)).2)
/-- Faults that the walk has just laid. -/
theorem RdF.one (w : World) (g : Nat) (hg : w.heap.size = g) (t : TypeId) (fr : Nat × Nat) (x : Bool) (e : Int) : RdF (w.alloc (.cells #[.bool x, .int .i64 e] t fr)) (some ⟨g, 0, none⟩) 1 [(x, e)] := by
  subst hg
  refine ⟨rfl, fun _ => ⟨w.heap.size, rfl, by simp, fun i hi => ?_⟩⟩
  obtain rfl : i = 0 := by omega
  simp only [World.cell?_alloc_mark]
  simp
theorem RdF.seven (w : World) (g : Nat) (hg : w.heap.size = g) (t : TypeId) (fr : Nat × Nat) (x1 x2 x3 x4 x5 x6 x7 : Bool) (e1 e2 e3 e4 e5 e6 e7 : Int) :
    RdF (w.alloc (.cells #[.bool x1, .int .i64 e1, .bool x2, .int .i64 e2, .bool x3, .int .i64 e3, .bool x4, .int .i64 e4, .bool x5, .int .i64 e5, .bool x6, .int .i64 e6, .bool x7, .int .i64 e7] t fr)) (some ⟨g, 0, none⟩) 7
      [(x1, e1), (x2, e2), (x3, e3), (x4, e4), (x5, e5), (x6, e6), (x7, e7)] := by
  subst hg
  refine ⟨rfl, fun _ => ⟨w.heap.size, rfl, by simp, fun i hi => ?_⟩⟩
  simp only [World.cell?_alloc_mark]
  match i, hi with
  | 0, _ => simp
  | 1, _ => simp
  | 2, _ => simp
  | 3, _ => simp
  | 4, _ => simp
  | 5, _ => simp
  | 6, _ => simp
theorem RdF.below {w w' : World} {A : Option Addr} {n : Nat} {l : List (Bool × Int)} (h : RdF w A n l) (hb : Below w.heap.size w w') : RdF w' A n l :=
  ⟨h.len, fun hn => by
    obtain ⟨b, e, hlt, hc⟩ := h.at_ hn
    exact ⟨b, e, Nat.lt_of_lt_of_le hlt hb.size, fun i hi => ⟨by rw [hb.cell (p := ⟨b, i * 2, none⟩) hlt]; exact (hc i hi).1, by rw [hb.cell (p := ⟨b, i * 2 + 1, none⟩) hlt]; exact (hc i hi).2⟩⟩⟩
def AskIs (g : Nat) (x : Int) (w : World) (e : Ending) (w' : World) : Prop := (x = 0 ∧ e = .returned (.tuple #[]) ∧ Below w.heap.size w w') ∨ (x ≠ 0 ∧ GivesUp g x w e w')

/-- Where the first is. -/
theorem askE_first : ∀ (l : List (Bool × Int)), (∀ p ∈ l, p.2 ≠ 0) → ∃ k, k ≤ l.length ∧ (∀ i, i < k → (l.getD i (false, 0)).1 = false) ∧ ((k = l.length ∧ askE l = 0) ∨ (k < l.length ∧ askE l ≠ 0 ∧ (l.getD k (false, 0)).1 = true ∧ (l.getD k (false, 0)).2 = askE l))
  | [], _ => ⟨0, Nat.le_refl _, fun _ h => by omega, .inl ⟨rfl, rfl⟩⟩
  | (true, e) :: l, h => ⟨0, by simp, fun _ h => by omega, .inr ⟨by simp, by simpa [askE] using h (true, e) (by simp), by simp, by simp [askE]⟩⟩
  | (false, e) :: l, h => by
    obtain ⟨k, h1, h2, h3⟩ := askE_first l (fun p hp => h p (by simp [hp]))
    refine ⟨k + 1, by simp; omega, fun i hi => ?_, ?_⟩
    · cases i with
      | zero => simp
      | succ i => simpa using h2 i (by omega)
    · rcases h3 with ⟨h3, h4⟩ | ⟨h3, h4, h5, h6⟩
      · exact .inl ⟨by simp [h3], by simpa [askE] using h4⟩
      · exact .inr ⟨by simp; omega, by simpa [askE] using h4, by simpa using h5, by simpa [askE] using h6⟩

theorem below_gives {w w1 w' : World} {g : Nat} {x : Int} {e : Ending} (hb : Below w.heap.size w w1) (h : GivesUp g x w1 e w') : GivesUp g x w e w' :=
  ⟨h.1, h.2.1, But.trans (But.of hb) h.2.2⟩

end Go.Proofs.Ytoblllgefmajiaa
