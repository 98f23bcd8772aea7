/-
  A message (api.Message) that comes in, opened.
-/
import Derived.Test.YtcdflpfgjodeaaaIcmp
import Derived.Test.YtcdflpfgjodeaaaLenOf
namespace Go.Proofs.Ytcdflpfgjodeaaa
set_option maxRecDepth 10000
open Go.Joins Go.ChangeShapes Go.WideShapes Go.ChangeAt Go.RowKit Go.Deep

def MsgAt (w : World) (v : Value) : Prop := ∃ (s : Msg) (A : Option Addr) (n c : Nat), v = .agg #[.int .u8 s.ty, .int .u8 s.cd, .int .u32 s.rs, .slice A n c] ∧ MsgNum s ∧ (n ≤ c ∧ c ≤ maxLen) ∧ Rd w A n s.d
/-- Of at most N bytes of data. -/
def MsgTo (N : Nat) (w : World) (v : Value) : Prop := ∃ (s : Msg) (A : Option Addr) (n c : Nat), v = .agg #[.int .u8 s.ty, .int .u8 s.cd, .int .u32 s.rs, .slice A n c] ∧ MsgNum s ∧ (n ≤ c ∧ c ≤ maxLen) ∧ Rd w A n s.d ∧ n ≤ N
section
variable {H : Type} {enc : TypeId × Value → H} {W : World} {base : Nat} {v : Value} {d : DataW H} {p : List MemPlace}
theorem msg_read (hv : Value.okWide Try.prog W .any base 25 v) (h : DataW.Trod enc Try.prog W 0 (fun _ => true) true 25 v d p) :
    ∃ (s : Msg) (A : Option Addr) (n c : Nat) (d0 d1 d2 d3 : DataW H), v = .agg #[.int .u8 s.ty, .int .u8 s.cd, .int .u32 s.rs, .slice A n c] ∧ MsgNum s ∧ (n ≤ c ∧ c ≤ maxLen) ∧ Rd W A n s.d ∧ d = .agg [d0, d1, d2, d3] ∧ LenOf d3 n := by
  obtain ⟨v0, v1, v2, v3, y0, y1, y2, y3, m, rfl, hd, _, h0, h1, h2, h3⟩ := open_agg4 Try.underlying25 (by kernel_rfl) (by kernel_rfl) hv h
  obtain ⟨ty, e0, -, w0⟩ := DataW.trod_int Try.underlying5 h0
  obtain ⟨cd, e1, -, w1⟩ := DataW.trod_int Try.underlying5 h1
  obtain ⟨rs, e2, -, w2⟩ := DataW.trod_int Try.underlying22 h2
  obtain ⟨A, n, c, l, rfl, hd1, hd2, hd3, hd4⟩ := bytes_read h3
  simp at e0 e1 e2
  subst e0 e1 e2
  have b0 := bounds_u8 w0
  have b1 := bounds_u8 w1
  have b2 := bounds_u32 w2
  exact ⟨⟨ty, cd, rs, l⟩, A, n, c, _, _, _, _, rfl, ⟨by simp only; omega, by simp only; omega, by simp only; omega⟩, ⟨hd1, hd2⟩, hd3, hd, hd4⟩
theorem msg_open (hv : Value.okWide Try.prog W .any base 25 v) (h : DataW.Trod enc Try.prog W 0 (fun _ => true) true 25 v d p) : MsgAt W v := by
  obtain ⟨s, A, n, c, _, _, _, _, hv', hn, hc, hr, _, _⟩ := msg_read hv h
  exact ⟨s, A, n, c, hv', hn, hc, hr⟩
theorem msg_sized (hv : Value.okWide Try.prog W .any base 25 v) (h : DataW.Trod enc Try.prog W 0 (fun _ => true) true 25 v d p)
    (hz : ∀ k ∈ d.weights Try.prog 25, k ≤ reachBytes) : MsgTo 140737488355328 W v := by
  obtain ⟨s, A, n, c, d0, d1, d2, d3, hv', hn, hc, hr, rfl, h3⟩ := msg_read hv h
  simp only [DataW.weights, Try.underlying25] at hz
  exact ⟨s, A, n, c, hv', hn, hc, hr, len_sized (j := 3) hz rfl rfl Try.underlying23 (by rw [bytes_u8]; omega) h3⟩
end
end Go.Proofs.Ytcdflpfgjodeaaa
