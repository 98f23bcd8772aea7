/-
  Packets (api.Packet) as values: a head, a segment, a datagram, a message, as numbers and lists; how they lie in memory. No function of the program.
-/
import Derived.Test.YtgcliijngaohdaaDoorHd
import Derived.Test.YtgcliijngaohdaaDoorSeg
import Derived.Test.YtgcliijngaohdaaDoorDg
import Derived.Test.YtgcliijngaohdaaDoorIcmp
import Derived.Test.YtgcliijngaohdaaDoorBut
namespace Go.Proofs.YtgcliijngaohdaaDoor
set_option maxRecDepth 10000
open Go.RowKit

structure Pk where
  h : Hd
  s : Seg
  u : Dg
  m : Msg
/-- Where the parts' rows lie. -/
structure PkA where
  AH : Option Addr
  nH : Nat
  cH : Nat
  AO : Option Addr
  nO : Nat
  cO : Nat
  os : List OptV
  AD : Option Addr
  nD : Nat
  cD : Nat
  AU : Option Addr
  nU : Nat
  cU : Nat
  AM : Option Addr
  nM : Nat
  cM : Nat
def PkA.none_ : PkA := ⟨none, 0, 0, none, 0, 0, [], none, 0, 0, none, 0, 0, none, 0, 0⟩
structure PkRd (w : World) (p : Pk) (a : PkA) : Prop where
  hn : HdNum p.h
  hc : a.nH ≤ a.cH ∧ a.cH ≤ maxLen
  hr : Rd w a.AH a.nH p.h.o
  sr : SegRd w p.s a.AO a.nO a.cO a.os a.AD a.nD a.cD
  un : DgNum p.u
  uc : a.nU ≤ a.cU ∧ a.cU ≤ maxLen
  ur : Rd w a.AU a.nU p.u.d
  mn : MsgNum p.m
  mc : a.nM ≤ a.cM ∧ a.cM ≤ maxLen
  mr : Rd w a.AM a.nM p.m.d
theorem PkRd.below {w w' : World} {p : Pk} {a : PkA} (h : PkRd w p a) (hb : Below w.heap.size w w') : PkRd w' p a :=
  ⟨h.hn, h.hc, h.hr.below hb, h.sr.below hb, h.un, h.uc, h.ur.below hb, h.mn, h.mc, h.mr.below hb⟩
theorem cells24 {w : World} {g : Nat} {v0 v1 v2 v3 v4 v5 v6 v7 v8 v9 v10 v11 v12 v13 v14 v15 v16 v17 v18 v19 v20 v21 v22 v23 : Value} {t : TypeId} (h : w.heap[g]? = some (.cells #[v0, v1, v2, v3, v4, v5, v6, v7, v8, v9, v10, v11, v12, v13, v14, v15, v16, v17, v18, v19, v20, v21, v22, v23] t (0, 0))) : w.cell? ⟨g, 0, none⟩ = some v0 ∧ w.cell? ⟨g, 1, none⟩ = some v1 ∧ w.cell? ⟨g, 2, none⟩ = some v2 ∧ w.cell? ⟨g, 3, none⟩ = some v3 ∧ w.cell? ⟨g, 4, none⟩ = some v4 ∧ w.cell? ⟨g, 5, none⟩ = some v5 ∧ w.cell? ⟨g, 6, none⟩ = some v6 ∧ w.cell? ⟨g, 7, none⟩ = some v7 ∧ w.cell? ⟨g, 8, none⟩ = some v8 ∧ w.cell? ⟨g, 9, none⟩ = some v9 ∧ w.cell? ⟨g, 10, none⟩ = some v10 ∧ w.cell? ⟨g, 11, none⟩ = some v11 ∧ w.cell? ⟨g, 12, none⟩ = some v12 ∧ w.cell? ⟨g, 13, none⟩ = some v13 ∧ w.cell? ⟨g, 14, none⟩ = some v14 ∧ w.cell? ⟨g, 15, none⟩ = some v15 ∧ w.cell? ⟨g, 16, none⟩ = some v16 ∧ w.cell? ⟨g, 17, none⟩ = some v17 ∧ w.cell? ⟨g, 18, none⟩ = some v18 ∧ w.cell? ⟨g, 19, none⟩ = some v19 ∧ w.cell? ⟨g, 20, none⟩ = some v20 ∧ w.cell? ⟨g, 21, none⟩ = some v21 ∧ w.cell? ⟨g, 22, none⟩ = some v22 ∧ w.cell? ⟨g, 23, none⟩ = some v23 := by
  refine ⟨?_, ?_, ?_, ?_, ?_, ?_, ?_, ?_, ?_, ?_, ?_, ?_, ?_, ?_, ?_, ?_, ?_, ?_, ?_, ?_, ?_, ?_, ?_, ?_⟩ <;> (rw [blk_cell h]; rfl)
end Go.Proofs.YtgcliijngaohdaaDoor
