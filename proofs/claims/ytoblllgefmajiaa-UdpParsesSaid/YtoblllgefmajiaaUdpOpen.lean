/-
  What comes into the laws of udp, opened: two addresses, a datagram, a word to turn, bytes.
-/
import Derived.Test.YtoblllgefmajiaaUdp
import Derived.Lib.SmallJoins
namespace Go.Proofs.Ytoblllgefmajiaa
set_option maxRecDepth 10000
open Go.Joins Go.ChangeShapes Go.WideShapes Go.ChangeAt Go.RowKit Go.Deep

def EndsAt (_w : World) (v : Value) : Prop := ∃ s d : Int, v = .agg #[.int .u32 s, .int .u32 d] ∧ (0 ≤ s ∧ s < 4294967296) ∧ (0 ≤ d ∧ d < 4294967296)
def DgAt (w : World) (v : Value) : Prop := ∃ (s : Dg) (A : Option Addr) (n c : Nat), v = .agg #[.int .u16 s.sp, .int .u16 s.dp, .slice A n c] ∧ DgNum s ∧ (n ≤ c ∧ c ≤ maxLen) ∧ Rd w A n s.d
def TurnAt (_w : World) (v : Value) : Prop := ∃ a b : Int, v = .agg #[.int .u16 a, .int .u16 b] ∧ (0 ≤ a ∧ a < 65536) ∧ (0 ≤ b ∧ b < 65536)
def RaggedAt (w : World) (v : Value) : Prop := ∃ (a : Int) (A : Option Addr) (n c : Nat) (l : List Int), v = .agg #[.int .u16 a, .slice A n c] ∧ (0 ≤ a ∧ a < 65536) ∧ (n ≤ c ∧ c ≤ maxLen) ∧ Rd w A n l
def BytesIn (w : World) (v : Value) : Prop := ∃ A n c l, v = .slice A n c ∧ (n ≤ c ∧ c ≤ maxLen) ∧ Rd w A n l

section
variable {H : Type} {enc : TypeId × Value → H} {W : World} {base : Nat} {v : Value} {d : DataW H} {p : List MemPlace}
theorem ends_open (hv : Value.okWide Try.prog W .any base 55 v) (h : DataW.Trod enc Try.prog W 0 (fun _ => true) true 55 v d p) : EndsAt W v := by
  obtain ⟨v0, v1, y0, y1, n, rfl, hd, _, h0, h1⟩ := open_agg2 Try.underlying55 (by kernel_rfl) (by kernel_rfl) hv h
  obtain ⟨a, e0, -, w0⟩ := DataW.trod_int Try.underlying22 h0
  obtain ⟨b, e1, -, w1⟩ := DataW.trod_int Try.underlying22 h1
  simp at e0 e1
  subst e0 e1
  have b0 := bounds_u32 w0
  have b1 := bounds_u32 w1
  exact ⟨a, b, rfl, by omega, by omega⟩
theorem turn_open (hv : Value.okWide Try.prog W .any base 69 v) (h : DataW.Trod enc Try.prog W 0 (fun _ => true) true 69 v d p) : TurnAt W v := by
  obtain ⟨v0, v1, y0, y1, n, rfl, hd, _, h0, h1⟩ := open_agg2 Try.underlying69 (by kernel_rfl) (by kernel_rfl) hv h
  obtain ⟨a, e0, -, w0⟩ := DataW.trod_int Try.underlying23 h0
  obtain ⟨b, e1, -, w1⟩ := DataW.trod_int Try.underlying23 h1
  simp at e0 e1
  subst e0 e1
  have b0 := bounds_u16 w0
  have b1 := bounds_u16 w1
  exact ⟨a, b, rfl, by omega, by omega⟩
theorem ragged_open (hv : Value.okWide Try.prog W .any base 73 v) (h : DataW.Trod enc Try.prog W 0 (fun _ => true) true 73 v d p) : RaggedAt W v := by
  obtain ⟨v0, v1, y0, y1, n, rfl, hd, _, h0, h1⟩ := open_agg2 Try.underlying73 (by kernel_rfl) (by kernel_rfl) hv h
  obtain ⟨a, e0, -, w0⟩ := DataW.trod_int Try.underlying23 h0
  obtain ⟨A, m, c, l, rfl, hmc, hcm, hr⟩ := rd_open h1
  simp at e0
  subst e0
  have b0 := bounds_u16 w0
  exact ⟨a, A, m, c, l, rfl, by omega, ⟨hmc, hcm⟩, hr⟩
theorem dg_open (hv : Value.okWide Try.prog W .any base 57 v) (h : DataW.Trod enc Try.prog W 0 (fun _ => true) true 57 v d p) : DgAt W v := by
  obtain ⟨v0, v1, v2, y0, y1, y2, n, rfl, hd, _, h0, h1, h2⟩ := open_agg3 Try.underlying57 (by kernel_rfl) (by kernel_rfl) hv h
  obtain ⟨a, e0, -, w0⟩ := DataW.trod_int Try.underlying23 h0
  obtain ⟨b, e1, -, w1⟩ := DataW.trod_int Try.underlying23 h1
  obtain ⟨A, m, c, l, rfl, hmc, hcm, hr⟩ := rd_open h2
  simp at e0 e1
  subst e0 e1
  have b0 := bounds_u16 w0
  have b1 := bounds_u16 w1
  exact ⟨⟨a, b, l⟩, A, m, c, rfl, ⟨by simp only; omega, by simp only; omega⟩, ⟨hmc, hcm⟩, hr⟩
theorem bytes_in (hv : Value.okWide Try.prog W .any base 25 v) (h : DataW.Trod enc Try.prog W 0 (fun _ => true) true 25 v d p) : BytesIn W v := by
  obtain ⟨a0, len0, cap0, rfl⟩ := okWide_slice Try.underlying25 hv
  obtain ⟨m, hm⟩ := h
  obtain ⟨A, n, c, l, e, h1, h2, h3⟩ := rd_open (y := (d, p)) (by simpa [Value.cells] using hm)
  exact ⟨A, n, c, l, e, ⟨h1, h2⟩, h3⟩
end
end Go.Proofs.Ytoblllgefmajiaa
