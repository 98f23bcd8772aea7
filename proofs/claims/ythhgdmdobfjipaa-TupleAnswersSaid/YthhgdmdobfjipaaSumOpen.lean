/-
  Slices of bytes and of numbers of 16 bits that come in, opened, with the form's own reach.
-/
import Derived.Test.YthhgdmdobfjipaaRd
import Derived.SizedLaws
namespace Go.Proofs.Ythhgdmdobfjipaa
set_option maxRecDepth 10000
open Go.ChangeShapes Go.WideShapes Go.ChangeAt Go.RowKit

theorem bytesU8 : Try.prog.bytesOf 5 = 1 := by kernel_rfl
theorem bytesU16 : Try.prog.bytesOf 22 = 2 := by kernel_rfl

/-- The slice value '.slice A n _' of numbers of 16 bits holds l. -/
structure Rd16 (w : World) (A : Option Addr) (n : Nat) (l : List Int) : Prop where
  len : l.length = n
  u16 : ∀ x ∈ l, 0 ≤ x ∧ x ≤ 65535
  at_ : 0 < n → ∃ b o, A = some ⟨b, o, none⟩ ∧ b < w.heap.size ∧ ∀ i, i < n → w.cell? ⟨b, o + i, none⟩ = some (.int .u16 (l.getD i 0))
theorem Rd16.below {w w' : World} {A : Option Addr} {n : Nat} {l : List Int} (h : Rd16 w A n l) (hb : Below w.heap.size w w') : Rd16 w' A n l :=
  ⟨h.len, h.u16, fun hn => by
    obtain ⟨b, o, e, hlt, hc⟩ := h.at_ hn
    exact ⟨b, o, e, Nat.lt_of_lt_of_le hlt hb.size, fun i hi => by rw [hb.cell (p := ⟨b, o + i, none⟩) hlt]; exact hc i hi⟩⟩
theorem getD_u16 {l : List Int} (h : ∀ x ∈ l, 0 ≤ x ∧ x ≤ 65535) (j : Nat) : 0 ≤ l.getD j 0 ∧ l.getD j 0 ≤ 65535 := by
  by_cases hj : j < l.length
  · simp only [List.getD, List.getElem?_eq_getElem hj, Option.getD_some]
    exact h _ (List.getElem_mem hj)
  · simp [List.getD, List.getElem?_eq_none (by omega : l.length ≤ j)]

def BytesAt (w : World) (v : Value) : Prop := ∃ A n c l, v = .slice A n c ∧ n ≤ c ∧ c ≤ 140737488351232 ∧ Rd w A n l
def U16sAt (w : World) (v : Value) : Prop := ∃ A n c l, v = .slice A n c ∧ n ≤ c ∧ c ≤ 140737488351232 ∧ Rd16 w A n l

theorem bytes_open {H : Type} {enc : TypeId × Value → H} {W : World} {base : Nat} {v : Value} {d : DataW H} {p : List MemPlace}
    (hv : Value.okWide Try.prog W .any base 24 v) (h : DataW.Trod enc Try.prog W 0 (fun _ => true) true 24 v d p)
    (hz : ∀ elems spare, d = .slice elems spare → (elems.length + spare.length) * Try.prog.bytesOf 5 ≤ reachBytes) : BytesAt W v := by
  obtain ⟨a0, len0, cap0, rfl⟩ := okWide_slice Try.underlying24 hv
  obtain ⟨m, hm⟩ := h
  rcases open_ints Try.underlying24 Try.underlying5 (by kernel_rfl) hm with ⟨hcs, _⟩ | ⟨x, len, cap, zs, hcs, _, hl, hm', hzl, hx, hcell, hwz⟩
  · simp [Value.cells] at hcs
    obtain ⟨rfl, rfl, rfl⟩ := hcs
    exact ⟨none, 0, 0, [], rfl, Nat.le_refl _, by omega, Rd.nil _ _⟩
  · simp [Value.cells] at hcs
    obtain ⟨rfl, rfl, rfl⟩ := hcs
    simp only [if_true] at hzl
    have hd := (Prod.mk.inj hx).1
    have hr := hz _ _ hd
    rw [bytesU8] at hr
    simp only [lits, List.length_map, List.length_take, List.length_drop, reachBytes] at hr
    refine ⟨some x, _, _, zs.take len0, rfl, hl, by omega, by rw [List.length_take]; omega, fun z hz' => ?_, fun h0 => ?_⟩
    · have := bounds_u8 (hwz z (List.mem_of_mem_take hz'))
      omega
    · obtain ⟨b, o, rfl, hc⟩ := ints_at hcell (by omega)
      refine ⟨b, o, rfl, World.block_lt_of_cell? W _ (hc 0 (by omega)), fun i hi => ?_⟩
      rw [hc i (by omega)]
      simp [List.getD, List.getElem?_take_of_lt hi]

end Go.Proofs.Ythhgdmdobfjipaa
