/-
  How long a slice that comes in is, as its reading has it; bytes that come in, opened. No function of the program.
-/
import Derived.Test.YthhgdmdobfjipaaRd
import Derived.Lib.SmallJoins
import Derived.SizedLaws
namespace Go.Proofs.Ythhgdmdobfjipaa
set_option maxRecDepth 10000
open Go.Joins Go.ChangeShapes Go.WideShapes Go.ChangeAt Go.RowKit Go.Deep

/-- How long a slice is, as its reading has it. -/
def LenOf {H : Type} (d : DataW H) (n : Nat) : Prop := n = 0 ∨ ∃ elems spare, d = .slice elems spare ∧ elems.length = n

theorem bytes_read {H : Type} {enc : TypeId × Value → H} {W : World} {n0 : Nat} {v : Value} {y : DataW H × List MemPlace}
    (h : DataW.trod enc Try.prog W 0 (fun _ => true) true n0 24 [v] = some y) : ∃ A n c l, v = .slice A n c ∧ n ≤ c ∧ c ≤ maxLen ∧ Rd W A n l ∧ LenOf y.1 n := by
  rcases open_ints Try.underlying24 Try.underlying5 (by kernel_rfl) h with ⟨hcs, _⟩ | ⟨x, len, cap, zs, hcs, _, hl, hm, hz, hx, hcell, hwz⟩
  · simp at hcs
    exact ⟨none, 0, 0, [], hcs, Nat.le_refl _, by simp [maxLen], Rd.nil _ _, .inl rfl⟩
  · simp at hcs
    refine ⟨some x, len, cap, zs.take len, hcs, hl, hm, ⟨?_, ?_, ?_⟩, .inr ⟨_, _, by rw [hx], ?_⟩⟩
    · rw [List.length_take]; simp at hz; omega
    · intro z hz'
      have := bounds_u8 (hwz z (List.mem_of_mem_take hz'))
      omega
    · intro h0
      simp at hz
      obtain ⟨b, o, rfl, hc⟩ := ints_at hcell (by omega)
      refine ⟨b, o, rfl, World.block_lt_of_cell? W _ (hc 0 (by omega)), fun i hi => ?_⟩
      rw [hc i (by omega)]
      simp [List.getD, List.getElem?_take_of_lt hi]
    · simp at hz
      simp [lits, List.length_take]
      omega

theorem bytes_u8 : Try.prog.bytesOf 5 = 1 := by kernel_rfl
theorem len_sized {H : Type} {t : TypeId} {ts : List TypeId} {ds : List (DataW H)} {j : Nat} {e : TypeId} {d : DataW H} {n : Nat} (h : ∀ k ∈ DataW.weightsEach Try.prog ts ds, k ≤ reachBytes) (ht : ts[j]? = some t) (hd : ds[j]? = some d) (hu : Try.prog.underlying t = some (.slice e)) (hb : 1 ≤ Try.prog.bytesOf e) (hn : LenOf d n) : n ≤ 140737488355328 := by
  rcases hn with rfl | ⟨elems, spare, rfl, rfl⟩
  · omega
  · have h1 := h _ (DataW.weights_mem_each ht hd ((elems.length + spare.length) * Try.prog.bytesOf e) (by simp [DataW.weights, hu]))
    have h2 : elems.length ≤ (elems.length + spare.length) * Try.prog.bytesOf e := Nat.le_trans (Nat.le_add_right _ _) (Nat.le_mul_of_pos_right _ hb)
    have h3 := reachBytes_lt
    omega

def BytesIn (w : World) (v : Value) : Prop := ∃ A n c l, v = .slice A n c ∧ (n ≤ c ∧ c ≤ maxLen) ∧ Rd w A n l
section
variable {H : Type} {enc : TypeId × Value → H} {W : World} {base : Nat} {v : Value} {d : DataW H} {p : List MemPlace}
theorem bytes_in (hv : Value.okWide Try.prog W .any base 24 v) (h : DataW.Trod enc Try.prog W 0 (fun _ => true) true 24 v d p) : BytesIn W v := by
  obtain ⟨a0, len0, cap0, rfl⟩ := okWide_slice Try.underlying24 hv
  obtain ⟨m, hm⟩ := h
  obtain ⟨A, n, c, l, e, h1, h2, h3⟩ := rd_open (y := (d, p)) (by simpa [Value.cells] using hm)
  exact ⟨A, n, c, l, e, ⟨h1, h2⟩, h3⟩
end
end Go.Proofs.Ythhgdmdobfjipaa
