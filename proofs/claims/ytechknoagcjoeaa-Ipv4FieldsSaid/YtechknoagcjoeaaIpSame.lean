/-
  The contract of Ipv4Fields' 'same': whether two packets have the same bytes from a place to another.
-/
import Derived.Test.YtechknoagcjoeaaIpWakes
import Derived.Test.YtechknoagcjoeaaQuiet
namespace Go.Proofs.Ytechknoagcjoeaa
open Go.RowKit

def SameIs (x : Bool) (w : World) (e : Ending) (w' : World) : Prop := e = .returned (.bool x) ∧ ∃ k, w' = w.drewN k
theorem Rd.drewN {w : World} {A : Option Addr} {n : Nat} {l : List Int} (h : Rd w A n l) (k : Nat) : Rd (w.drewN k) A n l := ⟨h.len, h.byte, h.at_⟩

theorem strs_eq (a b : List Int) (ha : Bytes a) (hb : Bytes b) : ((strOfNums a).toList == (strOfNums b).toList) = decide (a = b) := by
  rw [ByteArray.toList_eq, ByteArray.toList_eq]
  by_cases e : a = b
  · subst e; simp
  · rw [beq_eq_false_iff_ne.2 (fun x => e (nums_inj _ _ ha hb (by simpa [strOfNums_data] using x)))]
    simp [e]

theorem same_told (p q g g' c c' m a t : Nat) (L L' : List Int) (x : Bool) (w : World) (hat : a < t) (htm : t ≤ m) (hc : m ≤ c) (hc' : m ≤ c')
    (hp : Box w p 24 (.slice (some ⟨g, 0, none⟩) m c)) (hq : Box w q 24 (.slice (some ⟨g', 0, none⟩) m c'))
    (h : Rd w (some ⟨g, 0, none⟩) m L) (h' : Rd w (some ⟨g', 0, none⟩) m L') (hx : decide ((L.take t).drop a = (L'.take t).drop a) = x) :
    Calls Try.prog 8 #[.int .i64 (a : Int), .int .i64 (t : Int), .pointer (some ⟨p, 0, none⟩), .pointer (some ⟨q, 0, none⟩)] w (SameIs x w) := by
  obtain ⟨d, rfl⟩ : ∃ d, t = a + d := ⟨t - a, by omega⟩
  have hpc := hp.cell
  have hqc := hq.cell
  have hr := (h.take htm).drop_ rfl (k := a) (m := d) rfl
  have hr' := (h'.take htm).drop_ rfl (k := a) (m := d) rfl
  have k1 := fun k => conv_rd (hr.drewN k) (c - a)
  have k2 := fun k => conv_rd (hr'.drewN k) (c' - a)
  have hse := strs_eq _ _ hr.byte hr'.byte
  obtain ⟨s1, e1⟩ : ∃ s1, strOfNums ((L.take (a + d)).drop a) = s1 := ⟨_, rfl⟩
  obtain ⟨s2, e2⟩ : ∃ s2, strOfNums ((L'.take (a + d)).drop a) = s2 := ⟨_, rfl⟩
  rw [e1] at k1 hse
  rw [e2] at k2 hse
  rw [hx] at hse
  simp only [Nat.zero_add] at k1 k2
  clear e1 e2 hx h h' hr hr' hp hq
  have i0 : (0 : Int) ≤ (a : Int) := by omega
  have i1 : (a : Int) ≤ ((a + d : Nat) : Int) := by omega
  have i2 : ((a + d : Nat) : Int) ≤ (c : Int) := by omega
  have i3 : ((a + d : Nat) : Int) ≤ (c' : Int) := by omega
  have i4 : ¬ a = c := by omega
  have i5 : ¬ a = c' := by omega
  go_enter Try.func8, Try.ntmps8
  go_wp2_with fail
  go_quiet (fail)
  go_wp2_with fail
  go_ret
  exact ⟨rfl, nq, rfl⟩

theorem same_empty (p q g g' c c' a : Nat) (w : World) (hc : a ≤ c) (hc' : a ≤ c') (hcm : c ≤ maxLen) (hcm' : c' ≤ maxLen)
    (hp : Box w p 24 (.slice (some ⟨g, 0, none⟩) a c)) (hq : Box w q 24 (.slice (some ⟨g', 0, none⟩) a c')) :
    Calls Try.prog 8 #[.int .i64 (a : Int), .int .i64 (a : Int), .pointer (some ⟨p, 0, none⟩), .pointer (some ⟨q, 0, none⟩)] w (SameIs true w) := by
  have hpc := hp.cell
  have hqc := hq.cell
  have k1 := fun A c k => conv_rd (Rd.nil (w.drewN k) A) c
  obtain ⟨s1, e1⟩ : ∃ s1, strOfNums [] = s1 := ⟨_, rfl⟩
  rw [e1] at k1
  clear e1 hp hq
  unfold maxLen at hcm hcm'
  have i0 : (0 : Int) ≤ (a : Int) := by omega
  have i2 : (a : Int) ≤ (c : Int) := by omega
  have i3 : (a : Int) ≤ (c' : Int) := by omega
  by_cases i4 : a = c
  · subst i4
    by_cases i5 : a = c'
    · subst i5
      go_enter Try.func8, Try.ntmps8
      go_wp2_with fail
      go_quiet (fail)
      go_wp2_with fail
      go_ret
      exact ⟨rfl, nq, rfl⟩
    · go_enter Try.func8, Try.ntmps8
      go_wp2_with fail
      go_quiet (fail)
      go_wp2_with fail
      go_ret
      exact ⟨rfl, nq, rfl⟩
  · by_cases i5 : a = c'
    · subst i5
      go_enter Try.func8, Try.ntmps8
      go_wp2_with fail
      go_quiet (fail)
      go_wp2_with fail
      go_ret
      exact ⟨rfl, nq, rfl⟩
    · go_enter Try.func8, Try.ntmps8
      go_wp2_with fail
      go_quiet (fail)
      go_wp2_with fail
      go_ret
      exact ⟨rfl, nq, rfl⟩
end Go.Proofs.Ytechknoagcjoeaa
