/-
  Parts of a slice of bytes, s[lo:], s[:hi], s[lo:hi], each as one run equation, wherever it begins, nil or empty too; a slice of bytes that comes in. No function of the program.
-/
import Derived.Test.YtncbkgcblmohoaaBut
namespace Go.Proofs.Ytncbkgcblmohoaa
set_option maxRecDepth 10000
open Go.ChangeShapes Go.WideShapes Go.ChangeAt Go.RowKit

/-- '.slice A n c' holds the bytes l; nil has no room. -/
structure RdC (w : World) (A : Option Addr) (n c : Nat) (l : List Int) : Prop where
  rd : Rd w A n l
  nc : n ≤ c
  cm : c ≤ maxLen
  no : A = none → c = 0
theorem RdC.below {w w' : World} {A : Option Addr} {n c : Nat} {l : List Int} (h : RdC w A n c l) (hb : Below w.heap.size w w') : RdC w' A n c l := ⟨h.rd.below hb, h.nc, h.cm, h.no⟩
def BytesC (w : World) (v : Value) : Prop := ∃ A n c l, v = .slice A n c ∧ RdC w A n c l
theorem bytes_c {H : Type} {enc : TypeId × Value → H} {W : World} {base : Nat} {v : Value} {d : DataW H} {p : List MemPlace}
    (hv : Value.okWide Try.prog W .any base 37 v) (h : DataW.Trod enc Try.prog W 0 (fun _ => true) true 37 v d p) : BytesC W v := by
  obtain ⟨a0, len0, cap0, rfl⟩ := okWide_slice Try.underlying37 hv
  obtain ⟨m, hm⟩ := h
  rcases open_ints Try.underlying37 Try.underlying5 (by kernel_rfl) hm with ⟨hcs, _⟩ | ⟨x, len, cap, zs, hcs, _, hl, hm', hzl, hx, hcell, hwz⟩
  · simp [Value.cells] at hcs
    obtain ⟨rfl, rfl, rfl⟩ := hcs
    exact ⟨none, 0, 0, [], rfl, Rd.nil _ _, Nat.le_refl _, by simp [maxLen], fun _ => rfl⟩
  · simp [Value.cells] at hcs
    obtain ⟨rfl, rfl, rfl⟩ := hcs
    simp only [if_true] at hzl
    refine ⟨some x, _, _, zs.take len0, rfl, ⟨by rw [List.length_take]; omega, fun z hz' => ?_, fun h0 => ?_⟩, hl, hm', fun e => by cases e⟩
    · have := bounds_u8 (hwz z (List.mem_of_mem_take hz'))
      omega
    · obtain ⟨b, o, rfl, hc⟩ := ints_at hcell (by omega)
      refine ⟨b, o, rfl, World.block_lt_of_cell? W _ (hc 0 (by omega)), fun i hi => ?_⟩
      rw [hc i (by omega)]
      simp [List.getD, List.getElem?_take_of_lt hi]
section
variable {w : World} {A : Option Addr} {n c : Nat} {l : List Int}
/-- s[lo:hi]. -/
theorem RdC.part (h : RdC w A n c l) (lo hi : Nat) (hlo : lo ≤ hi) (hhi : hi ≤ n) :
    ∃ A', (∀ W : World, (Instr.sliceAt 37 (.slice A n c) (some (.int .i64 (lo : Int))) (some (.int .i64 (hi : Int))) none).run Try.prog W = .ok (.slice A' (hi - lo) (c - lo)) W) ∧ RdC w A' (hi - lo) (c - lo) ((l.take hi).drop lo) := by
  obtain ⟨hr, hc, hcm, hno⟩ := h
  have hcm0 := hcm
  unfold maxLen at hcm
  have i0 : (0 : Int) ≤ (lo : Int) := by omega
  have i1 : (lo : Int) ≤ (hi : Int) := by omega
  have i2 : (hi : Int) ≤ (c : Int) := by omega
  have i3 : lo ≤ c := by omega
  cases A with
  | none =>
    have := hno rfl
    subst this
    obtain rfl : n = 0 := by omega
    obtain rfl : hi = 0 := by omega
    obtain rfl : lo = 0 := by omega
    refine ⟨none, fun W => by go_simp, Rd.nil _ _ |> (by simpa using ·), Nat.le_refl _, by simp [maxLen], fun _ => rfl⟩
  | some a =>
    by_cases hl : lo = c
    · subst hl
      obtain rfl : hi = lo := by omega
      refine ⟨some a, fun W => by go_simp, ?_, by omega, by rw [Nat.sub_self]; simp [maxLen], fun e => by cases e⟩
      rw [Nat.sub_self, List.drop_take]
      simp
      exact Rd.nil _ _
    · have i4 : ¬ c = lo := fun e => hl e.symm
      by_cases h0 : hi - lo = 0
      · refine ⟨some (a.add lo), fun W => by go_simp, ?_, by omega, Nat.le_trans (Nat.sub_le _ _) hcm0, fun e => by cases e⟩
        rw [h0, List.drop_eq_nil_of_le (by rw [List.length_take]; omega)]
        exact Rd.nil _ _
      · obtain ⟨b, o, e, _, _⟩ := hr.at_ (by omega)
        injection e with e
        subst e
        refine ⟨some ⟨b, o + lo, none⟩, fun W => by go_simp, ?_, by omega, Nat.le_trans (Nat.sub_le _ _) hcm0, fun e => by cases e⟩
        exact (hr.take hhi).drop_ rfl (by omega)
/-- s[lo:]. -/
theorem RdC.from_ (h : RdC w A n c l) (lo : Nat) (hlo : lo ≤ n) :
    ∃ A', (∀ W : World, (Instr.sliceAt 37 (.slice A n c) (some (.int .i64 (lo : Int))) none none).run Try.prog W = .ok (.slice A' (n - lo) (c - lo)) W) ∧ RdC w A' (n - lo) (c - lo) (l.drop lo) := by
  obtain ⟨hr, hc, hcm, hno⟩ := h
  have hcm0 := hcm
  unfold maxLen at hcm
  have i0 : (0 : Int) ≤ (lo : Int) := by omega
  have i1 : (lo : Int) ≤ (n : Int) := by omega
  have i2 : (n : Int) ≤ (c : Int) := by omega
  have i3 : lo ≤ c := by omega
  cases A with
  | none =>
    have := hno rfl
    subst this
    obtain rfl : n = 0 := by omega
    obtain rfl : lo = 0 := by omega
    refine ⟨none, fun W => by go_simp, ?_, Nat.le_refl _, by simp [maxLen], fun _ => rfl⟩
    rw [List.drop_zero]
    exact hr
  | some a =>
    by_cases hl : lo = c
    · subst hl
      obtain rfl : n = lo := by omega
      refine ⟨some a, fun W => by go_simp, ?_, by omega, by rw [Nat.sub_self]; simp [maxLen], fun e => by cases e⟩
      rw [Nat.sub_self, List.drop_eq_nil_of_le (by rw [hr.len]; omega)]
      exact Rd.nil _ _
    · have i4 : ¬ c = lo := fun e => hl e.symm
      by_cases h0 : n - lo = 0
      · refine ⟨some (a.add lo), fun W => by go_simp, ?_, by omega, Nat.le_trans (Nat.sub_le _ _) hcm0, fun e => by cases e⟩
        rw [h0, List.drop_eq_nil_of_le (by rw [hr.len]; omega)]
        exact Rd.nil _ _
      · obtain ⟨b, o, e, _, _⟩ := hr.at_ (by omega)
        injection e with e
        subst e
        refine ⟨some ⟨b, o + lo, none⟩, fun W => by go_simp, ?_, by omega, Nat.le_trans (Nat.sub_le _ _) hcm0, fun e => by cases e⟩
        exact hr.drop_ rfl (by omega)
/-- s[:hi]. -/
theorem RdC.upto (h : RdC w A n c l) (hi : Nat) (hhi : hi ≤ n) :
    (∀ W : World, (Instr.sliceAt 37 (.slice A n c) none (some (.int .i64 (hi : Int))) none).run Try.prog W = .ok (.slice A hi c) W) ∧ RdC w A hi c (l.take hi) := by
  obtain ⟨hr, hc, hcm, hno⟩ := h
  have hcm0 := hcm
  unfold maxLen at hcm
  have i0 : (0 : Int) ≤ (hi : Int) := by omega
  have i2 : (hi : Int) ≤ (c : Int) := by omega
  refine ⟨fun W => ?_, hr.take hhi, by omega, hcm0, hno⟩
  cases A with
  | none =>
    have := hno rfl
    subst this
    obtain rfl : n = 0 := by omega
    obtain rfl : hi = 0 := by omega
    go_simp
  | some a =>
    by_cases hl : c = 0
    · subst hl
      obtain rfl : hi = 0 := by omega
      go_simp
    · go_simp
end
end Go.Proofs.Ytncbkgcblmohoaa
