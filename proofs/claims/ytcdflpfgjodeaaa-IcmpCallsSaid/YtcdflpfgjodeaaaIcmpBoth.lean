/-
  Package icmp's Parse and the document's own, by one word: the message, or noughts, its data in a row of the call's own.
-/
import Derived.Test.YtcdflpfgjodeaaaIcmpParse
import Derived.Test.YtcdflpfgjodeaaaIcmpRefRead
namespace Go.Proofs.Ytcdflpfgjodeaaa
set_option maxRecDepth 10000
open Go.RowKit

def parsedM (b : List Int) : Msg := if errM b = 0 then msgOf b else zeroM
def PM (t : Msg) (m : Nat) (x : Int) (w : World) (e : Ending) (w' : World) : Prop :=
  ∃ AD cD, e = .returned (.tuple #[.agg #[.int .u8 t.ty, .int .u8 t.cd, .int .u32 t.rs, .slice AD m cD], .int .i64 x]) ∧ (m ≤ cD ∧ cD ≤ maxLen) ∧ OwnB w' w.heap.size AD m cD t.d ∧ Below w.heap.size w w'
theorem PM.bad {x : Int} {w : World} {e : Ending} {w' : World} (h : MsgBad x w e w') : PM zeroM 0 x w e w' := ⟨none, 0, h.1, ⟨Nat.le_refl _, by simp [maxLen]⟩, OwnB.nil _ _, h.2⟩
theorem parse8_both (A : Option Addr) (n c m : Nat) (b : List Int) (t : Msg) (x : Int) (w : World) (hc : n ≤ c ∧ c ≤ maxLen) (hA : Rd w A n b) (hx : errM b = x) (ht : parsedM b = t) (hm : t.d.length = m) :
    Calls Try.prog 9 #[.slice A n c] w (PM t m x w) := by
  by_cases h0 : x = 0
  · subst h0
    unfold parsedM at ht
    rw [if_pos hx] at ht
    exact (parse8_told A n c m b t.ty t.cd t.rs t.d w hc hA hx ht hm).mono fun e w' ⟨AD, cD, he, h1, h2, h3, hb⟩ => ⟨AD, cD, he, ⟨h1, h2⟩, h3, hb⟩
  · unfold parsedM at ht
    rw [if_neg (by rw [hx]; exact h0)] at ht
    subst ht
    obtain rfl : m = 0 := by rw [← hm]; rfl
    exact (parse8_err A n c b x w hc hA hx h0).mono fun e w' h => PM.bad h
theorem rparse8_both (A : Option Addr) (n c m : Nat) (b : List Int) (t : Msg) (x : Int) (w : World) (hc : n ≤ c ∧ c ≤ maxLen) (hA : Rd w A n b) (hx : errM b = x) (ht : parsedM b = t) (hm : t.d.length = m) :
    Calls Try.prog 10 #[.slice A n c] w (PM t m x w) := by
  refine (rparse8_any A n c b x w hc hA hx).mono fun e w' h => ?_
  by_cases h0 : x = 0
  · rw [if_pos h0] at h
    unfold parsedM at ht
    rw [if_pos (by rw [hx]; exact h0)] at ht
    subst ht
    have hm8 : n - 8 = m := by rw [← hm, ← hA.len]; simp [msgOf]
    rw [hm8] at h
    subst h0
    obtain ⟨AD, cD, he, h1, h2, h3, hb⟩ := h
    exact ⟨AD, cD, he, ⟨h1, h2⟩, h3, hb⟩
  · rw [if_neg h0] at h
    unfold parsedM at ht
    rw [if_neg (by rw [hx]; exact h0)] at ht
    subst ht
    obtain rfl : m = 0 := by rw [← hm]; rfl
    exact PM.bad h
theorem parsedM_num {b : List Int} (hb : ∀ x ∈ b, 0 ≤ x ∧ x < 256) : ∀ x ∈ (parsedM b).d, 0 ≤ x ∧ x < 256 := by
  unfold parsedM
  split
  · intro x hx; exact hb x (List.mem_of_mem_drop hx)
  · intro x hx; simp [zeroM] at hx
theorem toldM_by {s : Msg} (h : MsgNum s) (hd : ∀ x ∈ s.d, 0 ≤ x ∧ x < 256) : ∀ x ∈ toldM s, 0 ≤ x ∧ x < 256 := by
  unfold toldM
  split
  · simp
  · exact msgB_by h hd
end Go.Proofs.Ytcdflpfgjodeaaa
