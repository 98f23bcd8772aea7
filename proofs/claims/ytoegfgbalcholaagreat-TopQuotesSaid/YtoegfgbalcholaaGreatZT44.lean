/-
  Texts laid together: SumOpen, Head, Fields, PkOpen.
-/
import Derived.Test.YtoegfgbalcholaaGreatZT02
import Derived.SizedLaws
import Derived.Lib.SmallJoins
import Derived.Test.YtoegfgbalcholaaGreatZT21
import Derived.Test.YtoegfgbalcholaaGreatZT22

/-
  Slices of bytes and of numbers of 16 bits that come in, opened, with the form's own reach.
-/
namespace Go.Proofs.YtoegfgbalcholaaGreat
set_option maxRecDepth 10000
open Go.ChangeShapes Go.WideShapes Go.ChangeAt Go.RowKit

/-- The slice value '.slice A n _' of numbers of 16 bits holds l. -/
structure Rd16 (w : World) (A : Option Addr) (n : Nat) (l : List Int) : Prop where
  len : l.length = n
  u16 : ∀ x ∈ l, 0 ≤ x ∧ x ≤ 65535
  at_ : 0 < n → ∃ b o, A = some ⟨b, o, none⟩ ∧ b < w.heap.size ∧ ∀ i, i < n → w.cell? ⟨b, o + i, none⟩ = some (.int .u16 (l.getD i 0))
theorem Rd16.below {w w' : World} {A : Option Addr} {n : Nat} {l : List Int} (h : Rd16 w A n l) (hb : Below w.heap.size w w') : Rd16 w' A n l :=
  ⟨h.len, h.u16, fun hn => by
    obtain ⟨b, o, e, hlt, hc⟩ := h.at_ hn
    exact ⟨b, o, e, Nat.lt_of_lt_of_le hlt hb.size, fun i hi => by rw [hb.cell (p := ⟨b, o + i, none⟩) hlt]; exact hc i hi⟩⟩
end Go.Proofs.YtoegfgbalcholaaGreat

/-
  A head (api.Head) that comes in, opened: numbers within their bounds, and a slice of bytes.
-/
namespace Go.Proofs.YtoegfgbalcholaaGreat
set_option maxRecDepth 10000
open Go.Joins Go.ChangeShapes Go.WideShapes Go.ChangeAt Go.RowKit Go.Deep

section
variable {H : Type} {enc : TypeId × Value → H} {P : Program} {w : World} {base : Nat} {spare : Nat → Bool} {held : Bool}
end

end Go.Proofs.YtoegfgbalcholaaGreat

/-
  The fields of a struct that came in. No function of the program.
-/
namespace Go.Proofs.YtoegfgbalcholaaGreat
set_option maxRecDepth 10000
open Go.Joins Go.ChangeShapes Go.WideShapes Go.ChangeAt Go.RowKit Go.Deep

section
variable {H : Type} {enc : TypeId × Value → H} {P : Program} {w : World} {base : Nat} {spare : Nat → Bool} {held : Bool}
/-- The fields of a struct of one cell each. -/
theorem one_parts {t : TypeId} {fs : Array Field} {fuel : Nat} {cs : List Value} {y : DataW H × List MemPlace} (hs : P.underlying t = some (.struct fs)) (hone : oneCellFields P fs = true) (h : DataW.trod enc P w base spare held fuel t cs = some y) :
    ∃ n, ∀ (i : Nat) (f : Field) (c : Value), fs[i]? = some f → cs[i]? = some c → ∃ yi, DataW.trod enc P w base spare held n f.type [c] = some yi := by
  obtain ⟨xs, n, _, _, _, hlen, hg⟩ := DataW.trod_struct hs h
  refine ⟨n, fun i f c hf hc => ?_⟩
  obtain ⟨ho, hk⟩ := hone_of hone i f hf
  have hi : i < xs.length := by rw [hlen]; exact (Array.getElem?_eq_some_iff.1 hf).1
  have hx := hg i f hf
  have hc1 : (cs.drop i).take 1 = [c] := by
    have hlt : i < cs.length := by
      rcases Nat.lt_or_ge i cs.length with h1 | h1
      · exact h1
      · rw [List.getElem?_eq_none h1] at hc; cases hc
    rw [List.drop_eq_getElem_cons hlt]
    rw [List.getElem?_eq_getElem hlt] at hc
    injection hc with hc
    simp [hc]
  rw [ho, hk, hc1, List.getElem?_eq_getElem hi] at hx
  exact ⟨_, hx⟩
end
end Go.Proofs.YtoegfgbalcholaaGreat

/-
  A packet (api.Packet) that comes in, opened: numbers within their bounds, slices of bytes and of options.
-/
namespace Go.Proofs.YtoegfgbalcholaaGreat
set_option maxRecDepth 10000
open Go.Joins Go.ChangeShapes Go.WideShapes Go.ChangeAt Go.RowKit Go.Deep

section
variable {H : Type} {enc : TypeId × Value → H} {W : World} {base : Nat} {v : Value} {d : DataW H} {p : List MemPlace}
theorem head_part {n : Nat} {c0 c1 c2 c3 c4 c5 c6 c7 : Value} {y : DataW H × List MemPlace} (h : DataW.trod enc Tryz.prog W 0 (fun _ => true) true n 26 [c0, c1, c2, c3, c4, c5, c6, c7] = some y) :
    ∃ (h : Hd) (A : Option Addr) (k c : Nat), [c0, c1, c2, c3, c4, c5, c6, c7] = [.int .u8 h.to, .int .u16 h.id, .bool h.df, .int .u8 h.tt, .int .u8 h.pr, .int .u32 h.sr, .int .u32 h.ds, .slice A k c] ∧ HdNum h ∧ (k ≤ c ∧ c ≤ maxLen) ∧ Rd W A k h.o := by
  obtain ⟨m, hh⟩ := one_parts Tryz.underlying26 (by kernel_rfl) h
  obtain ⟨_, h0⟩ : ∃ y, DataW.trod enc Tryz.prog W 0 (fun _ => true) true m 5 [c0] = some y := hh 0 _ _ rfl rfl
  obtain ⟨x0, e0, -, w0⟩ := DataW.trod_int Tryz.underlying5 h0
  simp at e0
  subst e0
  have b0 := bounds_u8 w0
  obtain ⟨_, h1⟩ : ∃ y, DataW.trod enc Tryz.prog W 0 (fun _ => true) true m 22 [c1] = some y := hh 1 _ _ rfl rfl
  obtain ⟨x1, e1, -, w1⟩ := DataW.trod_int Tryz.underlying22 h1
  simp at e1
  subst e1
  have b1 := bounds_u16 w1
  obtain ⟨_, h2⟩ : ∃ y, DataW.trod enc Tryz.prog W 0 (fun _ => true) true m 4 [c2] = some y := hh 2 _ _ rfl rfl
  obtain ⟨x2, e2, -⟩ := DataW.trod_bool Tryz.underlying4 h2
  simp at e2
  subst e2
  obtain ⟨_, h3⟩ : ∃ y, DataW.trod enc Tryz.prog W 0 (fun _ => true) true m 5 [c3] = some y := hh 3 _ _ rfl rfl
  obtain ⟨x3, e3, -, w3⟩ := DataW.trod_int Tryz.underlying5 h3
  simp at e3
  subst e3
  have b3 := bounds_u8 w3
  obtain ⟨_, h4⟩ : ∃ y, DataW.trod enc Tryz.prog W 0 (fun _ => true) true m 5 [c4] = some y := hh 4 _ _ rfl rfl
  obtain ⟨x4, e4, -, w4⟩ := DataW.trod_int Tryz.underlying5 h4
  simp at e4
  subst e4
  have b4 := bounds_u8 w4
  obtain ⟨_, h5⟩ : ∃ y, DataW.trod enc Tryz.prog W 0 (fun _ => true) true m 23 [c5] = some y := hh 5 _ _ rfl rfl
  obtain ⟨x5, e5, -, w5⟩ := DataW.trod_int Tryz.underlying23 h5
  simp at e5
  subst e5
  have b5 := bounds_u32 w5
  obtain ⟨_, h6⟩ : ∃ y, DataW.trod enc Tryz.prog W 0 (fun _ => true) true m 23 [c6] = some y := hh 6 _ _ rfl rfl
  obtain ⟨x6, e6, -, w6⟩ := DataW.trod_int Tryz.underlying23 h6
  simp at e6
  subst e6
  have b6 := bounds_u32 w6
  obtain ⟨_, hd⟩ : ∃ y, DataW.trod enc Tryz.prog W 0 (fun _ => true) true m 24 [c7] = some y := hh 7 _ _ rfl rfl
  obtain ⟨A, k, c, l, rfl, hd1, hd2, hd3, -⟩ := bytes_read hd
  exact ⟨⟨x0, x1, x2, x3, x4, x5, x6, l⟩, A, k, c, rfl, ⟨by simp only; omega, by simp only; omega, by simp only; omega, by simp only; omega, by simp only; omega, by simp only; omega⟩, ⟨hd1, hd2⟩, hd3⟩
theorem dg_part {n : Nat} {c0 c1 c2 : Value} {y : DataW H × List MemPlace} (h : DataW.trod enc Tryz.prog W 0 (fun _ => true) true n 31 [c0, c1, c2] = some y) :
    ∃ (u : Dg) (A : Option Addr) (k c : Nat), [c0, c1, c2] = [.int .u16 u.sp, .int .u16 u.dp, .slice A k c] ∧ DgNum u ∧ (k ≤ c ∧ c ≤ maxLen) ∧ Rd W A k u.d := by
  obtain ⟨m, hh⟩ := one_parts Tryz.underlying31 (by kernel_rfl) h
  obtain ⟨_, h0⟩ : ∃ y, DataW.trod enc Tryz.prog W 0 (fun _ => true) true m 22 [c0] = some y := hh 0 _ _ rfl rfl
  obtain ⟨x0, e0, -, w0⟩ := DataW.trod_int Tryz.underlying22 h0
  simp at e0
  subst e0
  have b0 := bounds_u16 w0
  obtain ⟨_, h1⟩ : ∃ y, DataW.trod enc Tryz.prog W 0 (fun _ => true) true m 22 [c1] = some y := hh 1 _ _ rfl rfl
  obtain ⟨x1, e1, -, w1⟩ := DataW.trod_int Tryz.underlying22 h1
  simp at e1
  subst e1
  have b1 := bounds_u16 w1
  obtain ⟨_, hd⟩ : ∃ y, DataW.trod enc Tryz.prog W 0 (fun _ => true) true m 24 [c2] = some y := hh 2 _ _ rfl rfl
  obtain ⟨A, k, c, l, rfl, hd1, hd2, hd3, -⟩ := bytes_read hd
  exact ⟨⟨x0, x1, l⟩, A, k, c, rfl, ⟨by simp only; omega, by simp only; omega⟩, ⟨hd1, hd2⟩, hd3⟩
end
end Go.Proofs.YtoegfgbalcholaaGreat
