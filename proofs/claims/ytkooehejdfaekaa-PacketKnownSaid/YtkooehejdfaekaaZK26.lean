/-
  The document's own answers for packets (culvertref09): Put, Own.
-/
import Derived.Test.YtkooehejdfaekaaZK22
namespace Go.Proofs.Ytkooehejdfaekaa
set_option maxRecDepth 10000
open Go.RowKit
set_option linter.unusedSimpArgs false
set_option linter.unusedVariables false

theorem hdB_bytes {h : Hd} {A A' : Option Addr} {n n' : Nat} {p : List Int} {w w' : World} (hn : HdNum h) (h40 : n ≤ 40) (hr : Rd w A n h.o) (hr' : Rd w' A' n' p) (hl : 20 + n + n' ≤ 1500) : ∀ x ∈ hdB h p, 0 ≤ x ∧ x < 256 := by
  have e1 := hr.len
  have e2 := hr'.len
  have hf := fieldL_bd h.to h.id h.df h.tt h.pr h.sr h.ds h.o (20 + h.o.length + p.length)
  unfold hdB packetL
  refine ((Bytes.app (Bytes.app (aheadL_bytes hn.to hn.id hn.tt hn.pr (by omega) (by omega)) (b16_bytes hf)) (behindL_bytes hn.sr hn.ds hr.byte)).app hr'.byte)
end Go.Proofs.Ytkooehejdfaekaa
