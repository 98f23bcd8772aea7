/-
  No cell of these rows narrows 'for every input' (looked for: loops, veiled, ifaces, maps, wideKeys, modest, calm, conditions, laid).
  DERIVED. THE GIVEN ROWS OF THIS SEAT. 4 by the template 'for every input the law returns true; each argument reads behind the call as it read before'; 0 by the template 'total and deterministic' (their statements: YtcdflpfgjodeaaaTotals.lean).
  GIVEN WITH THE SEED: the statements are not yours to turn. If you find one false, say at which input.
  Laid BY PROGRAM, IN A SANDBOX (cutbox-rows.mjs): the forced cells as the released guide's own fill.sh prints them over the translation cd0efa070abbdb76… (all of the seat's roots in one cut). By AI agents, Wed Nov 11 2026. No macro, syntax, notation, axiom, sorry.
-/
import Derived.Test.YtcdflpfgjodeaaaChecked
import GoSem.Claim
import GoSem.ClaimJoined
import GoSem.ClaimMapViews
import Derived.JoinedTies
import Derived.KernelRfl
namespace Go.Proofs.Ytcdflpfgjodeaaa
/- THE CELL 'sum', in the pinned program and in every row, IS THE sha256 OF THE DUMP (.gsa) THAT YtcdflpfgjodeaaaProg.lean LOADS. Nothing in Lean hashes anything: it is a label: what it is worth is what the hold of that sum in a sandbox is worth. -/
noncomputable def Try.pinned : Pinned := { name := "ytcdflpfgjodeaaa", sum := "cd0efa070abbdb76a08d4f0a8a40fa8889a4e7d55751466ccc91c854984a874a", checked := Try.checked }
namespace Rows
def none {H : Type} : Left H := { results := [], args := [] }

/-- 'culvertlaw08.IcmpCalls': WHATEVER THE INPUT: true; the input reads as it did. -/
def icmpCallsSpec : ChangeSpec := { name := "icmpCalls", fn := fun _ => fun
  | [d1, d2, d3, d4] => { results := [.lit (.bool true)], args := [d1, d2, d3, d4] }
  | _ => none }
def icmpCallsRow : OpenClaim := { program := "ytcdflpfgjodeaaa", sum := "cd0efa070abbdb76a08d4f0a8a40fa8889a4e7d55751466ccc91c854984a874a", func := "culvert/culvertlaw08.IcmpCalls", spec := "icmpCalls", unfollowed := true, recurses := true, apart := false }
def IcmpCallsSaid : Prop := icmpCallsRow.holds Try.pinned (OpenSpec.ofChange icmpCallsSpec)

/-- ITS FALSE NEIGHBOUR: 'it returns false'. Refute it at one input. -/
def icmpCallsWrong : ChangeSpec := { name := "icmpCalls", fn := fun _ => fun
  | [d1, d2, d3, d4] => { results := [.lit (.bool false)], args := [d1, d2, d3, d4] }
  | _ => none }
def IcmpCallsWrongFalsely : Prop := icmpCallsRow.holds Try.pinned (OpenSpec.ofChange icmpCallsWrong)

/-- 'culvertlaw08.IcmpBack': WHATEVER THE INPUT: true; the input reads as it did. -/
def icmpBackSpec : ChangeSpec := { name := "icmpBack", fn := fun _ => fun
  | [d1, d2, d3] => { results := [.lit (.bool true)], args := [d1, d2, d3] }
  | _ => none }
def icmpBackRow : OpenClaim := { program := "ytcdflpfgjodeaaa", sum := "cd0efa070abbdb76a08d4f0a8a40fa8889a4e7d55751466ccc91c854984a874a", func := "culvert/culvertlaw08.IcmpBack", spec := "icmpBack", unfollowed := true, recurses := true, apart := false }
def IcmpBackSaid : Prop := icmpBackRow.holds Try.pinned (OpenSpec.ofChange icmpBackSpec)

/-- ITS FALSE NEIGHBOUR: 'it returns false'. Refute it at one input. -/
def icmpBackWrong : ChangeSpec := { name := "icmpBack", fn := fun _ => fun
  | [d1, d2, d3] => { results := [.lit (.bool false)], args := [d1, d2, d3] }
  | _ => none }
def IcmpBackWrongFalsely : Prop := icmpBackRow.holds Try.pinned (OpenSpec.ofChange icmpBackWrong)

/-- 'culvertlaw08.IcmpIds': WHATEVER THE INPUT: true; the input reads as it did. -/
def icmpIdsSpec : ChangeSpec := { name := "icmpIds", fn := fun _ => fun
  | [d1, d2, d3] => { results := [.lit (.bool true)], args := [d1, d2, d3] }
  | _ => none }
def icmpIdsRow : OpenClaim := { program := "ytcdflpfgjodeaaa", sum := "cd0efa070abbdb76a08d4f0a8a40fa8889a4e7d55751466ccc91c854984a874a", func := "culvert/culvertlaw08.IcmpIds", spec := "icmpIds", unfollowed := true, recurses := true, apart := false }
def IcmpIdsSaid : Prop := icmpIdsRow.holds Try.pinned (OpenSpec.ofChange icmpIdsSpec)

/-- ITS FALSE NEIGHBOUR: 'it returns false'. Refute it at one input. -/
def icmpIdsWrong : ChangeSpec := { name := "icmpIds", fn := fun _ => fun
  | [d1, d2, d3] => { results := [.lit (.bool false)], args := [d1, d2, d3] }
  | _ => none }
def IcmpIdsWrongFalsely : Prop := icmpIdsRow.holds Try.pinned (OpenSpec.ofChange icmpIdsWrong)

/-- 'culvertlaw08.IcmpKnown': WHATEVER THE INPUT: true; the input reads as it did. -/
def icmpKnownSpec : ChangeSpec := { name := "icmpKnown", fn := fun _ => fun
  | [] => { results := [.lit (.bool true)], args := [] }
  | _ => none }
def icmpKnownRow : OpenClaim := { program := "ytcdflpfgjodeaaa", sum := "cd0efa070abbdb76a08d4f0a8a40fa8889a4e7d55751466ccc91c854984a874a", func := "culvert/culvertlaw08.IcmpKnown", spec := "icmpKnown", unfollowed := true, recurses := true, apart := false }
def IcmpKnownSaid : Prop := icmpKnownRow.holds Try.pinned (OpenSpec.ofChange icmpKnownSpec)

/-- ITS FALSE NEIGHBOUR: 'it returns false'. Refute it at one input. -/
def icmpKnownWrong : ChangeSpec := { name := "icmpKnown", fn := fun _ => fun
  | [] => { results := [.lit (.bool false)], args := [] }
  | _ => none }
def IcmpKnownWrongFalsely : Prop := icmpKnownRow.holds Try.pinned (OpenSpec.ofChange icmpKnownWrong)

/- THE SECOND FORM. 'bulk': how many values and letters a reading holds, each counted each time it is reached (what is shared counts as often as it is met; a slice's spare places count too). A statement '..UptoSaid' is the law's where the arguments, and the package variables that the reading takes, are together of bulk at most 1048576: NARROWER than '..Said'. Prove '..Said' where nothing that the law and all that it calls make is longer than what came in: it says more and counts as full. Else prove '..UptoSaid'. A law counts once. -/
mutual
def uptoBulk {H : Type} : DataW H → Nat
  | .lit (.string bytes) => bytes.length + 1
  | .lit _ => 1
  | .nil => 1
  | .ptr d => uptoBulk d + 1
  | .slice elems spare => uptoBulkAll elems + uptoBulkAll spare + 1
  | .agg parts => uptoBulkAll parts + 1
  | .iface _ d => uptoBulk d + 1
  | .map entries => uptoBulkEntries entries + 1
  | .held _ => 1
def uptoBulkAll {H : Type} : List (DataW H) → Nat
  | [] => 0
  | d :: r => uptoBulk d + uptoBulkAll r
def uptoBulkEntries {H : Type} : List (Lit × DataW H) → Nat
  | [] => 0
  | x :: r => uptoBulkEntry x + uptoBulkEntries r
def uptoBulkEntry {H : Type} : Lit × DataW H → Nat
  | (.string bytes, d) => bytes.length + uptoBulk d + 1
  | (_, d) => uptoBulk d + 1
 end
def uptoSmall : (H : Type) → List (DataW H) → Bool := fun _ ds => decide (uptoBulkAll ds ≤ 1048576)
def OpenSpec.upto (s : _root_.Go.ChangeSpec) : _root_.Go.OpenSpec := { _root_.Go.OpenSpec.ofChange s with cond := some uptoSmall }

/-- 'culvertlaw08.IcmpCalls', WHERE WHAT IT READS IS OF BULK AT MOST 1048576: true; the input reads as it did. -/
def icmpCallsUptoRow : OpenClaim := { program := "ytcdflpfgjodeaaa", sum := "cd0efa070abbdb76a08d4f0a8a40fa8889a4e7d55751466ccc91c854984a874a", func := "culvert/culvertlaw08.IcmpCalls", spec := "icmpCalls", unfollowed := true, recurses := true, apart := false, narrowed := true }
def IcmpCallsUptoSaid : Prop := icmpCallsUptoRow.holds Try.pinned (OpenSpec.upto icmpCallsSpec)

/-- 'culvertlaw08.IcmpBack', WHERE WHAT IT READS IS OF BULK AT MOST 1048576: true; the input reads as it did. -/
def icmpBackUptoRow : OpenClaim := { program := "ytcdflpfgjodeaaa", sum := "cd0efa070abbdb76a08d4f0a8a40fa8889a4e7d55751466ccc91c854984a874a", func := "culvert/culvertlaw08.IcmpBack", spec := "icmpBack", unfollowed := true, recurses := true, apart := false, narrowed := true }
def IcmpBackUptoSaid : Prop := icmpBackUptoRow.holds Try.pinned (OpenSpec.upto icmpBackSpec)

/-- 'culvertlaw08.IcmpIds', WHERE WHAT IT READS IS OF BULK AT MOST 1048576: true; the input reads as it did. -/
def icmpIdsUptoRow : OpenClaim := { program := "ytcdflpfgjodeaaa", sum := "cd0efa070abbdb76a08d4f0a8a40fa8889a4e7d55751466ccc91c854984a874a", func := "culvert/culvertlaw08.IcmpIds", spec := "icmpIds", unfollowed := true, recurses := true, apart := false, narrowed := true }
def IcmpIdsUptoSaid : Prop := icmpIdsUptoRow.holds Try.pinned (OpenSpec.upto icmpIdsSpec)

/-- 'culvertlaw08.IcmpKnown', WHERE WHAT IT READS IS OF BULK AT MOST 1048576: true; the input reads as it did. -/
def icmpKnownUptoRow : OpenClaim := { program := "ytcdflpfgjodeaaa", sum := "cd0efa070abbdb76a08d4f0a8a40fa8889a4e7d55751466ccc91c854984a874a", func := "culvert/culvertlaw08.IcmpKnown", spec := "icmpKnown", unfollowed := true, recurses := true, apart := false, narrowed := true }
def IcmpKnownUptoSaid : Prop := icmpKnownUptoRow.holds Try.pinned (OpenSpec.upto icmpKnownSpec)

end Rows
end Go.Proofs.Ytcdflpfgjodeaaa
