/-
  Heads of packets (api.Head) as numbers. No function of the program.
-/
import Derived.Test.YtgcliijngaohdaaDoorIpPlain
import Derived.Test.YtgcliijngaohdaaDoorRd
namespace Go.Proofs.YtgcliijngaohdaaDoor
set_option maxRecDepth 10000
open Go.RowKit

structure Hd where
  «to» : Int
  id : Int
  df : Bool
  tt : Int
  pr : Int
  sr : Int
  ds : Int
  o : List Int
structure HdNum (h : Hd) : Prop where
  «to» : 0 ≤ h.to ∧ h.to < 256
  id : 0 ≤ h.id ∧ h.id < 65536
  tt : 0 ≤ h.tt ∧ h.tt < 256
  pr : 0 ≤ h.pr ∧ h.pr < 256
  sr : 0 ≤ h.sr ∧ h.sr < 4294967296
  ds : 0 ≤ h.ds ∧ h.ds < 4294967296
def zeroH : Hd := ⟨0, 0, false, 0, 0, 0, 0, []⟩
theorem zeroH_num : HdNum zeroH := ⟨by decide, by decide, by decide, by decide, by decide, by decide⟩
def hdSame (h h' : Hd) : Bool := decide (h.to = h'.to) && (decide (h.id = h'.id) && (decide (h.df = h'.df) && (decide (h.tt = h'.tt) && (decide (h.pr = h'.pr) && (decide (h.sr = h'.sr) && (decide (h.ds = h'.ds) && decide (h.o = h'.o)))))))
theorem hdSame_self (h : Hd) : hdSame h h = true := by simp [hdSame]
theorem hdSame_iff (h h' : Hd) : hdSame h h' = true ↔ h = h' := by
  obtain ⟨a, b, c, d, e, f, g, l⟩ := h
  obtain ⟨a', b', c', d', e', f', g', l'⟩ := h'
  simp [hdSame]
/-- A packet of this head. -/
def hdB (h : Hd) (payload : List Int) : List Int := packetL h.to h.id h.df h.tt h.pr h.sr h.ds h.o payload
end Go.Proofs.YtgcliijngaohdaaDoor
