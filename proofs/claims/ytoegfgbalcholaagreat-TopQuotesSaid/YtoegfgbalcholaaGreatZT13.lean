/-
  Texts laid together: Blk, BlkRef, RefLay, RefNum.
-/
import Derived.Test.YtoegfgbalcholaaGreatZT06
import Derived.Deep.Slices
import Derived.ChangeSame
import Derived.Test.YtoegfgbalcholaaGreatZT09
import Derived.Test.YtoegfgbalcholaaGreatZT10
import Derived.Test.YtoegfgbalcholaaGreatZT12

/-
  Slices of blocks (two numbers of 32 bits each): what they hold ('RdK'), one of the call's own ('OwnK'), append, one that comes in. No function of the program.
-/
namespace Go.Proofs.YtoegfgbalcholaaGreat
set_option maxRecDepth 10000
open Go.ChangeShapes Go.WideShapes Go.ChangeAt Go.RowKit Go.Deep

def U32P (p : Int × Int) : Prop := (0 ≤ p.1 ∧ p.1 < 4294967296) ∧ (0 ≤ p.2 ∧ p.2 < 4294967296)
def blkCells (l : List (Int × Int)) : List Value := l.flatMap fun p => [.int .u32 p.1, .int .u32 p.2]
theorem blkCells_len (l : List (Int × Int)) : (blkCells l).length = l.length * 2 := by
  induction l with
  | nil => rfl
  | cons o os ih => simp [blkCells] at ih ⊢; omega
theorem blkCells_at (l : List (Int × Int)) (i : Nat) (h : i < l.length) : (blkCells l)[i * 2]? = some (.int .u32 (l.getD i (0, 0)).1) ∧ (blkCells l)[i * 2 + 1]? = some (.int .u32 (l.getD i (0, 0)).2) := by
  induction l generalizing i with
  | nil => simp at h
  | cons o os ih =>
    cases i with
    | zero => simp [blkCells]
    | succ i =>
      have := ih i (by simpa using h)
      have e : (i + 1) * 2 = i * 2 + 1 + 1 := by omega
      rw [e]
      simpa [blkCells] using this
structure RdK (w : World) (A : Option Addr) (n : Nat) (l : List (Int × Int)) : Prop where
  len : l.length = n
  u32 : ∀ p ∈ l, U32P p
  at_ : 0 < n → ∃ b o, A = some ⟨b, o, none⟩ ∧ b < w.heap.size ∧ ∀ i, i < n → w.cell? ⟨b, o + i * 2, none⟩ = some (.int .u32 (l.getD i (0, 0)).1) ∧ w.cell? ⟨b, o + (i * 2 + 1), none⟩ = some (.int .u32 (l.getD i (0, 0)).2)
theorem RdK.nil (w : World) (A : Option Addr) : RdK w A 0 [] := ⟨rfl, by simp, fun h => absurd h (by omega)⟩
theorem RdK.below {w w' : World} {A : Option Addr} {n : Nat} {l : List (Int × Int)} (h : RdK w A n l) (hb : Below w.heap.size w w') : RdK w' A n l :=
  ⟨h.len, h.u32, fun hn => by
    obtain ⟨b, o, e, hlt, hc⟩ := h.at_ hn
    exact ⟨b, o, e, Nat.lt_of_lt_of_le hlt hb.size, fun i hi => ⟨by rw [hb.cell (p := ⟨b, o + i * 2, none⟩) hlt]; exact (hc i hi).1, by rw [hb.cell (p := ⟨b, o + (i * 2 + 1), none⟩) hlt]; exact (hc i hi).2⟩⟩⟩
theorem RdK.drewN {w : World} {A : Option Addr} {n : Nat} {l : List (Int × Int)} (h : RdK w A n l) (k : Nat) : RdK (w.drewN k) A n l := ⟨h.len, h.u32, h.at_⟩
theorem RdK.take {w : World} {A : Option Addr} {n k : Nat} {l : List (Int × Int)} (h : RdK w A n l) (hk : k ≤ n) : RdK w A k (l.take k) := by
  refine ⟨by rw [List.length_take, h.len]; omega, fun p hp => h.u32 p (List.mem_of_mem_take hp), fun hn => ?_⟩
  obtain ⟨b, o, e, hlt, hc⟩ := h.at_ (by omega)
  refine ⟨b, o, e, hlt, fun i hi => ?_⟩
  have e2 : (l.take k).getD i (0, 0) = l.getD i (0, 0) := by simp [List.getD, List.getElem?_take_of_lt hi]
  rw [e2]; exact hc i (by omega)
theorem RdK.one (w : World) (g : Nat) (hg : w.heap.size = g) (t : TypeId) (fr : Nat × Nat) (x y : Int) (h : U32P (x, y)) : RdK (w.alloc (.cells #[.int .u32 x, .int .u32 y] t fr)) (some ⟨g, 0, none⟩) 1 [(x, y)] := by
  subst hg
  refine ⟨rfl, by simpa using h, fun _ => ⟨w.heap.size, 0, rfl, by simp, fun i hi => ?_⟩⟩
  obtain rfl : i = 0 := by omega
  simp only [World.cell?_alloc_mark]
  simp

/-- '.slice A n c' is a slice of blocks (of type t) that the call made, from block B on. -/
def OwnK (t : TypeId) (w : World) (B : Nat) (A : Option Addr) (n c : Nat) (l : List (Int × Int)) : Prop := w.ownsRow B t 2 (.slice A n c) n (blkCells l)
theorem OwnK.len {t : TypeId} {w : World} {B : Nat} {A : Option Addr} {n c : Nat} {l : List (Int × Int)} (h : OwnK t w B A n c l) : l.length = n := by
  have := h.1
  rw [blkCells_len] at this
  omega
theorem OwnK.cap {t : TypeId} {w : World} {B : Nat} {A : Option Addr} {n c : Nat} {l : List (Int × Int)} (h : OwnK t w B A n c l) : n ≤ c ∧ c ≤ maxLen := by
  rcases h.2 with ⟨e, rfl⟩ | ⟨g, cap, cur, e, _, _, hnc, hcm, _⟩
  · injection e with _ _ e3; subst e3; simp
  · injection e with _ _ e3; subst e3; exact ⟨hnc, hcm⟩
theorem OwnK.nil (t : TypeId) (w : World) (B : Nat) : OwnK t w B none 0 0 [] := World.ownsRow_nil w B t 2
theorem OwnK.rd {t : TypeId} {w : World} {B : Nat} {A : Option Addr} {n c : Nat} {l : List (Int × Int)} (h : OwnK t w B A n c l) (hl : ∀ p ∈ l, U32P p) : RdK w A n l := by
  refine ⟨h.len, hl, fun hn => ?_⟩
  rcases id h.2 with ⟨e, h0⟩ | ⟨g, cap, cur, e, _, hg, _⟩
  · omega
  · injection e with e1 e2 e3
    subst e1
    refine ⟨g, 0, rfl, lt_of_block hg, fun i hi => ?_⟩
    have hlen := h.len
    have hat := blkCells_at l i (by omega)
    rw [Nat.zero_add, Nat.zero_add]
    have h' : w.ownsRow B t 2 (.slice (some ⟨g, 0, none⟩) n c) n (blkCells l) := h
    exact ⟨by rw [World.ownsRow.cellAt h' _ (by omega)]; exact hat.1, by rw [World.ownsRow.cellAt h' _ (by omega)]; exact hat.2⟩
theorem OwnK.mono {t : TypeId} {w : World} {B B' : Nat} {A : Option Addr} {n c : Nat} {l : List (Int × Int)} (h : OwnK t w B A n c l) (hB : B' ≤ B) : OwnK t w B' A n c l := by
  refine ⟨h.1, ?_⟩
  rcases h.2 with h0 | ⟨g, cap, cur, e, hg, r⟩
  · exact .inl h0
  · exact .inr ⟨g, cap, cur, e, Nat.le_trans hB hg, r⟩
theorem OwnK.on {t : TypeId} {w w' : World} {B : Nat} {A : Option Addr} {n c : Nat} {l : List (Int × Int)} (h : OwnK t w B A n c l) (hb : Below w.heap.size w w') : OwnK t w' B A n c l := by
  refine ⟨h.1, ?_⟩
  rcases h.2 with h0 | ⟨g, cap, cur, e, hB, hc, hrest⟩
  · exact .inl h0
  · exact .inr ⟨g, cap, cur, e, hB, (hb.block g (lt_of_block hc)).trans hc, hrest⟩
theorem OwnK.form {t : TypeId} {w : World} {B : Nat} {v : Value} {n : Nat} {l : List (Int × Int)} (h : w.ownsRow B t 2 v n (blkCells l)) : ∃ A c, v = .slice A n c ∧ OwnK t w B A n c l := by
  rcases id h.2 with ⟨rfl, rfl⟩ | ⟨g, cap, cur, rfl, _⟩
  · exact ⟨none, 0, rfl, h⟩
  · exact ⟨_, _, rfl, h⟩
end Go.Proofs.YtoegfgbalcholaaGreat

/-
  The contracts of culvertlaw05's sameBlocks and of culvertref05's WithScale.
-/
namespace Go.Proofs.YtoegfgbalcholaaGreat
set_option maxRecDepth 10000
open Go.RowKit

end Go.Proofs.YtoegfgbalcholaaGreat

/-
  The contracts of culvertref03's Lay (four bytes) and of culvertref05's WithSacks.
-/
namespace Go.Proofs.YtoegfgbalcholaaGreat
set_option maxRecDepth 10000
open Go.RowKit

theorem bytes_app_ {a b : List Int} (h : ∀ x ∈ a, 0 ≤ x ∧ x < 256) (k : ∀ x ∈ b, 0 ≤ x ∧ x < 256) : ∀ x ∈ a ++ b, 0 ≤ x ∧ x < 256 := fun x hx => by
  rcases List.mem_append.1 hx with h' | h'
  · exact h x h'
  · exact k x h'
theorem own_ne {w : World} {B n c g : Nat} {A : Option Addr} {l : List Int} {cs : Array Value} (h : OwnB w B A n c l) (hg : w.heap[g]? = some (.cells cs 176 (0, 0))) : ∀ k, A = some ⟨k, 0, none⟩ → k ≠ g := by
  intro k e he
  subst he
  rcases h.2 with ⟨e1, _⟩ | ⟨g', cap, cur, e1, _, hb, _⟩
  · injection e1 with e1 _ _; rw [e] at e1; cases e1
  · injection e1 with e1 _ _
    rw [e] at e1
    injection e1 with e1
    injection e1 with e1 _
    subst e1
    rw [hg] at hb
    injection hb with hb
    injection hb with _ hb _
    exact absurd hb (by decide)
theorem OwnB.butA {S : Nat → Prop} {w w' : World} {B : Nat} {A : Option Addr} {n c : Nat} {l : List Int} (h : OwnB w B A n c l) (hb : But S w w') (hS : ∀ k, A = some ⟨k, 0, none⟩ → ¬ S k) : OwnB w' B A n c l := by
  refine ⟨h.1, ?_⟩
  rcases h.2 with h0 | ⟨g, cap, cur, e, hB, hc, hrest⟩
  · exact .inl h0
  · exact .inr ⟨g, cap, cur, e, hB, hb.blk hc (hS g (by injection e)), hrest⟩

end Go.Proofs.YtoegfgbalcholaaGreat

/-
  The contracts of culvertref03's reader (take, Num of four bytes) and of culvertref05's Sacks.
-/
namespace Go.Proofs.YtoegfgbalcholaaGreat
set_option maxRecDepth 10000
open Go.RowKit

theorem OwnK.butA {S : Nat → Prop} {t : TypeId} {w w' : World} {B : Nat} {A : Option Addr} {n c : Nat} {l : List (Int × Int)} (h : OwnK t w B A n c l) (hb : But S w w') (hS : ∀ k, A = some ⟨k, 0, none⟩ → ¬ S k) : OwnK t w' B A n c l := by
  refine ⟨h.1, ?_⟩
  rcases h.2 with h0 | ⟨g, cap, cur, e, hB, hc, hrest⟩
  · exact .inl h0
  · exact .inr ⟨g, cap, cur, e, hB, hb.blk hc (hS g (by injection e)), hrest⟩
theorem OwnK.blk {t : TypeId} {w : World} {B n c : Nat} {A : Option Addr} {l : List (Int × Int)} (h : OwnK t w B A n c l) : ∀ k, Blk A k → B ≤ k ∧ A = some ⟨k, 0, none⟩ := by
  rintro k ⟨a, e, rfl⟩
  subst e
  rcases h.2 with ⟨e1, _⟩ | ⟨g', cap, cur, e1, hB, _⟩
  · injection e1 with e1 _ _; cases e1
  · injection e1 with e1 _ _
    injection e1 with e1
    subst e1
    exact ⟨hB, rfl⟩
end Go.Proofs.YtoegfgbalcholaaGreat
