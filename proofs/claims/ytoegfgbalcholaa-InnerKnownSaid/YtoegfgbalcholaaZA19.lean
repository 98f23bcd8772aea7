/-
  Texts laid together: TcpWakes, LenOf, TcpOpen, TcpLaw.
-/
import Derived.Test.YtoegfgbalcholaaZA18
import Derived.Test.YtoegfgbalcholaaZA01
import Derived.Lib.SmallJoins
import Derived.SizedLaws
import Derived.Test.YtoegfgbalcholaaZA11

/-
  culvertlaw06's wakes: what the document's examples say.
-/
namespace Go.Proofs.Ytoegfgbalcholaa
set_option maxRecDepth 10000
open Go.RowKit

theorem segB_bytes {src dst : Int} {s : Seg} (h : SegNum s) (h0 : errS s = 0) (ho : ∀ l ∈ s.os, (0 ≤ l.1 ∧ l.1 < 256) ∧ ∀ x ∈ l.2, 0 ≤ x ∧ x < 256) (hd : ∀ x ∈ s.d, 0 ≤ x ∧ x < 256) : ∀ x ∈ segB src dst s, 0 ≤ x ∧ x < 256 := by
  have hm := (errS_zero s).1 h0
  unfold mayT at hm
  simp at hm
  have hl := padTo4_len (bytesO s.os)
  have hyl : ∀ l ∈ s.os, l.2.length ≤ 38 := fun l hl => (badB_false (by have := hm.1.1; simpa using this l.1 l.2 hl)).2
  intro x hx
  unfold segB at hx
  rcases List.mem_append.1 hx with h1 | h1
  · rcases List.mem_append.1 h1 with h2 | h2
    · refine segHd_bytes s _ _ h.fl ?_ x h2
      unfold offS optB
      omega
    · exact padTo4_bytes_ (bytesO_bytes ho hyl) x h2
  · exact hd x h1

end Go.Proofs.Ytoegfgbalcholaa

/-
  How long a slice that comes in is, as its reading has it; bytes that come in, opened. No function of the program.
-/
namespace Go.Proofs.Ytoegfgbalcholaa
set_option maxRecDepth 10000
open Go.Joins Go.ChangeShapes Go.WideShapes Go.ChangeAt Go.RowKit Go.Deep

section
variable {H : Type} {enc : TypeId × Value → H} {W : World} {base : Nat} {v : Value} {d : DataW H} {p : List MemPlace}
end
end Go.Proofs.Ytoegfgbalcholaa

/-
  A segment (api.Segment) that comes in, opened: numbers within their bounds, a slice of options, a slice of bytes.
-/
namespace Go.Proofs.Ytoegfgbalcholaa
set_option maxRecDepth 10000
open Go.Joins Go.ChangeShapes Go.WideShapes Go.ChangeAt Go.RowKit Go.Deep

section
variable {H : Type} {enc : TypeId × Value → H} {P : Program} {w : World} {base : Nat} {spare : Nat → Bool} {held : Bool}
end

end Go.Proofs.Ytoegfgbalcholaa

/-
  What the laws of tcp have in common: Parse's answer by name, the same segment, addresses' sums.
-/
namespace Go.Proofs.Ytoegfgbalcholaa
set_option maxRecDepth 10000
open Go.RowKit

end Go.Proofs.Ytoegfgbalcholaa
