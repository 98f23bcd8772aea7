/-
  Texts laid together: PkVal, TcpRead, TcpWakes, LenOf.
-/
import Derived.Test.YtoegfgbalcholaaZD09
import Derived.Test.YtoegfgbalcholaaZD13
import Derived.Test.YtoegfgbalcholaaZD10
import Derived.Test.YtoegfgbalcholaaZD04
import Derived.Test.YtoegfgbalcholaaZD06
import Derived.Test.YtoegfgbalcholaaZD19
import Derived.Deep.CutRange
import Derived.Test.YtoegfgbalcholaaZD01
import Derived.Lib.SmallJoins
import Derived.SizedLaws

/-
  Packets (api.Packet) as values: a head, a segment, a datagram, a message, as numbers and lists; how they lie in memory. No function of the program.
-/
namespace Go.Proofs.Ytoegfgbalcholaa
set_option maxRecDepth 10000
open Go.RowKit

structure Pk where
  h : Hd
  s : Seg
  u : Dg
  m : Msg
/-- Where the parts' rows lie. -/
structure PkA where
  AH : Option Addr
  nH : Nat
  cH : Nat
  AO : Option Addr
  nO : Nat
  cO : Nat
  os : List OptV
  AD : Option Addr
  nD : Nat
  cD : Nat
  AU : Option Addr
  nU : Nat
  cU : Nat
  AM : Option Addr
  nM : Nat
  cM : Nat
def PkA.none_ : PkA := ⟨none, 0, 0, none, 0, 0, [], none, 0, 0, none, 0, 0, none, 0, 0⟩
structure PkRd (w : World) (p : Pk) (a : PkA) : Prop where
  hn : HdNum p.h
  hc : a.nH ≤ a.cH ∧ a.cH ≤ maxLen
  hr : Rd w a.AH a.nH p.h.o
  sr : SegRd w p.s a.AO a.nO a.cO a.os a.AD a.nD a.cD
  un : DgNum p.u
  uc : a.nU ≤ a.cU ∧ a.cU ≤ maxLen
  ur : Rd w a.AU a.nU p.u.d
  mn : MsgNum p.m
  mc : a.nM ≤ a.cM ∧ a.cM ≤ maxLen
  mr : Rd w a.AM a.nM p.m.d
theorem PkRd.below {w w' : World} {p : Pk} {a : PkA} (h : PkRd w p a) (hb : Below w.heap.size w w') : PkRd w' p a :=
  ⟨h.hn, h.hc, h.hr.below hb, h.sr.below hb, h.un, h.uc, h.ur.below hb, h.mn, h.mc, h.mr.below hb⟩
theorem cells24 {w : World} {g : Nat} {v0 v1 v2 v3 v4 v5 v6 v7 v8 v9 v10 v11 v12 v13 v14 v15 v16 v17 v18 v19 v20 v21 v22 v23 : Value} {t : TypeId} (h : w.heap[g]? = some (.cells #[v0, v1, v2, v3, v4, v5, v6, v7, v8, v9, v10, v11, v12, v13, v14, v15, v16, v17, v18, v19, v20, v21, v22, v23] t (0, 0))) : w.cell? ⟨g, 0, none⟩ = some v0 ∧ w.cell? ⟨g, 1, none⟩ = some v1 ∧ w.cell? ⟨g, 2, none⟩ = some v2 ∧ w.cell? ⟨g, 3, none⟩ = some v3 ∧ w.cell? ⟨g, 4, none⟩ = some v4 ∧ w.cell? ⟨g, 5, none⟩ = some v5 ∧ w.cell? ⟨g, 6, none⟩ = some v6 ∧ w.cell? ⟨g, 7, none⟩ = some v7 ∧ w.cell? ⟨g, 8, none⟩ = some v8 ∧ w.cell? ⟨g, 9, none⟩ = some v9 ∧ w.cell? ⟨g, 10, none⟩ = some v10 ∧ w.cell? ⟨g, 11, none⟩ = some v11 ∧ w.cell? ⟨g, 12, none⟩ = some v12 ∧ w.cell? ⟨g, 13, none⟩ = some v13 ∧ w.cell? ⟨g, 14, none⟩ = some v14 ∧ w.cell? ⟨g, 15, none⟩ = some v15 ∧ w.cell? ⟨g, 16, none⟩ = some v16 ∧ w.cell? ⟨g, 17, none⟩ = some v17 ∧ w.cell? ⟨g, 18, none⟩ = some v18 ∧ w.cell? ⟨g, 19, none⟩ = some v19 ∧ w.cell? ⟨g, 20, none⟩ = some v20 ∧ w.cell? ⟨g, 21, none⟩ = some v21 ∧ w.cell? ⟨g, 22, none⟩ = some v22 ∧ w.cell? ⟨g, 23, none⟩ = some v23 := by
  refine ⟨?_, ?_, ?_, ?_, ?_, ?_, ?_, ?_, ?_, ?_, ?_, ?_, ?_, ?_, ?_, ?_, ?_, ?_, ?_, ?_, ?_, ?_, ?_, ?_⟩ <;> (rw [blk_cell h]; rfl)
end Go.Proofs.Ytoegfgbalcholaa

/-
  The contract of package tcp's Parse: what is wrong is told in the document's own order; else the segment, its options and its data in rows of the call's own.
-/
namespace Go.Proofs.Ytoegfgbalcholaa
set_option maxRecDepth 10000
open Go.RowKit

end Go.Proofs.Ytoegfgbalcholaa

/-
  culvertlaw06's wakes: what the document's examples say.
-/
namespace Go.Proofs.Ytoegfgbalcholaa
set_option maxRecDepth 10000
open Go.RowKit

theorem segB_bytes {src dst : Int} {s : Seg} (h : SegNum s) (h0 : errS s = 0) (ho : ∀ l ∈ s.os, (0 ≤ l.1 ∧ l.1 < 256) ∧ ∀ x ∈ l.2, 0 ≤ x ∧ x < 256) (hd : ∀ x ∈ s.d, 0 ≤ x ∧ x < 256) : ∀ x ∈ segB src dst s, 0 ≤ x ∧ x < 256 := by
  have hm := (errS_zero s).1 h0
  unfold mayT at hm
  simp at hm
  have hl := padTo4_len (bytesO s.os)
  have hyl : ∀ l ∈ s.os, l.2.length ≤ 38 := fun l hl => (badB_false (by have := hm.1.1; simpa using this l.1 l.2 hl)).2
  intro x hx
  unfold segB at hx
  rcases List.mem_append.1 hx with h1 | h1
  · rcases List.mem_append.1 h1 with h2 | h2
    · refine segHd_bytes s _ _ h.fl ?_ x h2
      unfold offS optB
      omega
    · exact padTo4_bytes_ (bytesO_bytes ho hyl) x h2
  · exact hd x h1

end Go.Proofs.Ytoegfgbalcholaa

/-
  How long a slice that comes in is, as its reading has it; bytes that come in, opened. No function of the program.
-/
namespace Go.Proofs.Ytoegfgbalcholaa
set_option maxRecDepth 10000
open Go.Joins Go.ChangeShapes Go.WideShapes Go.ChangeAt Go.RowKit Go.Deep

/-- How long a slice is, as its reading has it. -/
def LenOf {H : Type} (d : DataW H) (n : Nat) : Prop := n = 0 ∨ ∃ elems spare, d = .slice elems spare ∧ elems.length = n

theorem bytes_read {H : Type} {enc : TypeId × Value → H} {W : World} {n0 : Nat} {v : Value} {y : DataW H × List MemPlace}
    (h : DataW.trod enc Try.prog W 0 (fun _ => true) true n0 22 [v] = some y) : ∃ A n c l, v = .slice A n c ∧ n ≤ c ∧ c ≤ maxLen ∧ Rd W A n l ∧ LenOf y.1 n := by
  rcases open_ints Try.underlying22 Try.underlying5 (by kernel_rfl) h with ⟨hcs, _⟩ | ⟨x, len, cap, zs, hcs, _, hl, hm, hz, hx, hcell, hwz⟩
  · simp at hcs
    exact ⟨none, 0, 0, [], hcs, Nat.le_refl _, by simp [maxLen], Rd.nil _ _, .inl rfl⟩
  · simp at hcs
    refine ⟨some x, len, cap, zs.take len, hcs, hl, hm, ⟨?_, ?_, ?_⟩, .inr ⟨_, _, by rw [hx], ?_⟩⟩
    · rw [List.length_take]; simp at hz; omega
    · intro z hz'
      have := bounds_u8 (hwz z (List.mem_of_mem_take hz'))
      omega
    · intro h0
      simp at hz
      obtain ⟨b, o, rfl, hc⟩ := ints_at hcell (by omega)
      refine ⟨b, o, rfl, World.block_lt_of_cell? W _ (hc 0 (by omega)), fun i hi => ?_⟩
      rw [hc i (by omega)]
      simp [List.getD, List.getElem?_take_of_lt hi]
    · simp at hz
      simp [lits, List.length_take]
      omega

theorem bytes_u8 : Try.prog.bytesOf 5 = 1 := by kernel_rfl
theorem len_sized {H : Type} {t : TypeId} {ts : List TypeId} {ds : List (DataW H)} {j : Nat} {e : TypeId} {d : DataW H} {n : Nat} (h : ∀ k ∈ DataW.weightsEach Try.prog ts ds, k ≤ reachBytes) (ht : ts[j]? = some t) (hd : ds[j]? = some d) (hu : Try.prog.underlying t = some (.slice e)) (hb : 1 ≤ Try.prog.bytesOf e) (hn : LenOf d n) : n ≤ 140737488355328 := by
  rcases hn with rfl | ⟨elems, spare, rfl, rfl⟩
  · omega
  · have h1 := h _ (DataW.weights_mem_each ht hd ((elems.length + spare.length) * Try.prog.bytesOf e) (by simp [DataW.weights, hu]))
    have h2 : elems.length ≤ (elems.length + spare.length) * Try.prog.bytesOf e := Nat.le_trans (Nat.le_add_right _ _) (Nat.le_mul_of_pos_right _ hb)
    have h3 := reachBytes_lt
    omega

section
variable {H : Type} {enc : TypeId × Value → H} {W : World} {base : Nat} {v : Value} {d : DataW H} {p : List MemPlace}
end
end Go.Proofs.Ytoegfgbalcholaa
