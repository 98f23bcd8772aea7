/-
  The contracts of culvertref03's reader (take, Num of four bytes) and of culvertref05's Sacks.
-/
import Derived.Test.YtpinjbnbpcmfbaaRefLay
namespace Go.Proofs.Ytpinjbnbpcmfbaa
set_option maxRecDepth 10000
open Go.RowKit

def beN (l : List Int) : Int := l.foldl (fun a x => a * 256 + x) 0
theorem beN_snoc (l : List Int) (x : Int) : beN (l ++ [x]) = beN l * 256 + x := by simp [beN]
theorem beN_bd : ∀ (l : List Int), (∀ x ∈ l, 0 ≤ x ∧ x < 256) → l.length ≤ 3 → 0 ≤ beN l ∧ beN l < 16777216
  | [], _, _ => by simp [beN]
  | [a], h, _ => by have h0 := h a (by simp); have := h0.1; have := h0.2; simp [beN]; omega
  | [a, b], h, _ => by have h0 := h a (by simp); have h1 := h b (by simp); simp [beN]; omega
  | [a, b, c], h, _ => by have h0 := h a (by simp); have h1 := h b (by simp); have h2 := h c (by simp); simp [beN]; omega
  | _ :: _ :: _ :: _ :: _, _, h => by simp at h
def pairsOf : Nat → List Int → List (Int × Int)
  | 0, _ => []
  | t + 1, d => pairsOf t d ++ [(beN ((d.drop (8 * t)).take 4), beN ((d.drop (8 * t + 4)).take 4))]
theorem pairsOf_len (t : Nat) (d : List Int) : (pairsOf t d).length = t := by induction t with
  | zero => rfl
  | succ t ih => simp [pairsOf, ih]
def sacksP (l : Int × List Int) : Bool := decide (l.1 = 5 ∧ l.2.length ≠ 0 ∧ l.2.length % 8 = 0 ∧ l.2.length ≤ 32)
def sacksL (ls : List (Int × List Int)) : List (Int × Int) := match ls.find? sacksP with | some l => pairsOf (l.2.length / 8) l.2 | none => []
theorem beN4_u32 (l : List Int) (h : ∀ x ∈ l, 0 ≤ x ∧ x < 256) (hl : l.length = 4) : 0 ≤ beN l ∧ beN l < 4294967296 := by
  match l, hl with
  | [a, b, c, d], _ =>
    have h0 := h a (by simp)
    have h1 := h b (by simp)
    have h2 := h c (by simp)
    have h3 := h d (by simp)
    simp [beN]
    omega
theorem ownK_ne {t : TypeId} {w : World} {B n c g : Nat} {A : Option Addr} {l : List (Int × Int)} {cs : Array Value} {t2 : TypeId} (h : OwnK t w B A n c l) (hg : w.heap[g]? = some (.cells cs t2 (0, 0))) (ht : t ≠ t2) : ∀ k, A = some ⟨k, 0, none⟩ → k ≠ g := by
  intro k e he
  subst he
  rcases h.2 with ⟨e1, _⟩ | ⟨g', cap, cur, e1, _, hb, _⟩
  · injection e1 with e1 _ _; rw [e] at e1; cases e1
  · injection e1 with e1 _ _
    rw [e] at e1
    injection e1 with e1
    injection e1 with e1 _
    subst e1
    rw [hg] at hb
    injection hb with hb
    injection hb with _ hb _
    exact ht hb.symm
theorem OwnK.butA {S : Nat → Prop} {t : TypeId} {w w' : World} {B : Nat} {A : Option Addr} {n c : Nat} {l : List (Int × Int)} (h : OwnK t w B A n c l) (hb : But S w w') (hS : ∀ k, A = some ⟨k, 0, none⟩ → ¬ S k) : OwnK t w' B A n c l := by
  refine ⟨h.1, ?_⟩
  rcases h.2 with h0 | ⟨g, cap, cur, e, hB, hc, hrest⟩
  · exact .inl h0
  · exact .inr ⟨g, cap, cur, e, hB, hb.blk hc (hS g (by injection e)), hrest⟩
theorem OwnK.blk {t : TypeId} {w : World} {B n c : Nat} {A : Option Addr} {l : List (Int × Int)} (h : OwnK t w B A n c l) : ∀ k, Blk A k → B ≤ k ∧ A = some ⟨k, 0, none⟩ := by
  rintro k ⟨a, e, rfl⟩
  subst e
  rcases h.2 with ⟨e1, _⟩ | ⟨g', cap, cur, e1, hB, _⟩
  · injection e1 with e1 _ _; cases e1
  · injection e1 with e1 _ _
    injection e1 with e1
    subst e1
    exact ⟨hB, rfl⟩
end Go.Proofs.Ytpinjbnbpcmfbaa
