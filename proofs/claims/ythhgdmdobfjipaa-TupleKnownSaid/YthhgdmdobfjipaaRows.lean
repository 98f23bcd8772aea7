/-
  No cell of these rows narrows 'for every input' (looked for: loops, veiled, ifaces, maps, wideKeys, modest, calm, conditions, laid).
  DERIVED. THE GIVEN ROWS OF THIS SEAT. 4 by the template 'for every input the law returns true; each argument reads behind the call as it read before'; 0 by the template 'total and deterministic' (their statements: YthhgdmdobfjipaaTotals.lean).
  GIVEN WITH THE SEED: the statements are not yours to turn. If you find one false, say at which input.
  Laid BY PROGRAM, IN A SANDBOX (cutbox-rows.mjs): the forced cells as the released guide's own fill.sh prints them over the translation 2e30d2495cf9770d… (all of the seat's roots in one cut). By AI agents, Wed Nov 11 2026. No macro, syntax, notation, axiom, sorry.
-/
import Derived.Test.YthhgdmdobfjipaaChecked
import GoSem.Claim
import GoSem.ClaimJoined
import GoSem.ClaimMapViews
import Derived.JoinedTies
import Derived.KernelRfl
namespace Go.Proofs.Ythhgdmdobfjipaa
/- THE CELL 'sum', in the pinned program and in every row, IS THE sha256 OF THE DUMP (.gsa) THAT YthhgdmdobfjipaaProg.lean LOADS. Nothing in Lean hashes anything: it is a label: what it is worth is what the hold of that sum in a sandbox is worth. -/
noncomputable def Try.pinned : Pinned := { name := "ythhgdmdobfjipaa", sum := "2e30d2495cf9770d79ec795cd83dc7b6415c9239ca519cd31a25c6d04aa6a9c9", checked := Try.checked }
namespace Rows
def none {H : Type} : Left H := { results := [], args := [] }

/-- 'culvertlaw10.TupleCalls': WHATEVER THE INPUT: true; the input reads as it did. -/
def tupleCallsSpec : ChangeSpec := { name := "tupleCalls", fn := fun _ => fun
  | [d1, d2, d3] => { results := [.lit (.bool true)], args := [d1, d2, d3] }
  | _ => none }
def tupleCallsRow : OpenClaim := { program := "ythhgdmdobfjipaa", sum := "2e30d2495cf9770d79ec795cd83dc7b6415c9239ca519cd31a25c6d04aa6a9c9", func := "culvert/culvertlaw10.TupleCalls", spec := "tupleCalls", unfollowed := true, recurses := true, apart := false }
def TupleCallsSaid : Prop := tupleCallsRow.holds Try.pinned (OpenSpec.ofChange tupleCallsSpec)

/-- ITS FALSE NEIGHBOUR: 'it returns false'. Refute it at one input. -/
def tupleCallsWrong : ChangeSpec := { name := "tupleCalls", fn := fun _ => fun
  | [d1, d2, d3] => { results := [.lit (.bool false)], args := [d1, d2, d3] }
  | _ => none }
def TupleCallsWrongFalsely : Prop := tupleCallsRow.holds Try.pinned (OpenSpec.ofChange tupleCallsWrong)

/-- 'culvertlaw10.TupleAnswers': WHATEVER THE INPUT: true; the input reads as it did. -/
def tupleAnswersSpec : ChangeSpec := { name := "tupleAnswers", fn := fun _ => fun
  | [d] => { results := [.lit (.bool true)], args := [d] }
  | _ => none }
def tupleAnswersRow : OpenClaim := { program := "ythhgdmdobfjipaa", sum := "2e30d2495cf9770d79ec795cd83dc7b6415c9239ca519cd31a25c6d04aa6a9c9", func := "culvert/culvertlaw10.TupleAnswers", spec := "tupleAnswers", unfollowed := true, recurses := true, apart := false }
def TupleAnswersSaid : Prop := tupleAnswersRow.holds Try.pinned (OpenSpec.ofChange tupleAnswersSpec)

/-- ITS FALSE NEIGHBOUR: 'it returns false'. Refute it at one input. -/
def tupleAnswersWrong : ChangeSpec := { name := "tupleAnswers", fn := fun _ => fun
  | [d] => { results := [.lit (.bool false)], args := [d] }
  | _ => none }
def TupleAnswersWrongFalsely : Prop := tupleAnswersRow.holds Try.pinned (OpenSpec.ofChange tupleAnswersWrong)

/-- 'culvertlaw10.TupleOrder': WHATEVER THE INPUT: true; the input reads as it did. -/
def tupleOrderSpec : ChangeSpec := { name := "tupleOrder", fn := fun _ => fun
  | [d1, d2, d3] => { results := [.lit (.bool true)], args := [d1, d2, d3] }
  | _ => none }
def tupleOrderRow : OpenClaim := { program := "ythhgdmdobfjipaa", sum := "2e30d2495cf9770d79ec795cd83dc7b6415c9239ca519cd31a25c6d04aa6a9c9", func := "culvert/culvertlaw10.TupleOrder", spec := "tupleOrder", unfollowed := true, recurses := true, apart := false }
def TupleOrderSaid : Prop := tupleOrderRow.holds Try.pinned (OpenSpec.ofChange tupleOrderSpec)

/-- ITS FALSE NEIGHBOUR: 'it returns false'. Refute it at one input. -/
def tupleOrderWrong : ChangeSpec := { name := "tupleOrder", fn := fun _ => fun
  | [d1, d2, d3] => { results := [.lit (.bool false)], args := [d1, d2, d3] }
  | _ => none }
def TupleOrderWrongFalsely : Prop := tupleOrderRow.holds Try.pinned (OpenSpec.ofChange tupleOrderWrong)

/-- 'culvertlaw10.TupleKnown': WHATEVER THE INPUT: true; the input reads as it did. -/
def tupleKnownSpec : ChangeSpec := { name := "tupleKnown", fn := fun _ => fun
  | [] => { results := [.lit (.bool true)], args := [] }
  | _ => none }
def tupleKnownRow : OpenClaim := { program := "ythhgdmdobfjipaa", sum := "2e30d2495cf9770d79ec795cd83dc7b6415c9239ca519cd31a25c6d04aa6a9c9", func := "culvert/culvertlaw10.TupleKnown", spec := "tupleKnown", unfollowed := true, recurses := true, apart := false }
def TupleKnownSaid : Prop := tupleKnownRow.holds Try.pinned (OpenSpec.ofChange tupleKnownSpec)

/-- ITS FALSE NEIGHBOUR: 'it returns false'. Refute it at one input. -/
def tupleKnownWrong : ChangeSpec := { name := "tupleKnown", fn := fun _ => fun
  | [] => { results := [.lit (.bool false)], args := [] }
  | _ => none }
def TupleKnownWrongFalsely : Prop := tupleKnownRow.holds Try.pinned (OpenSpec.ofChange tupleKnownWrong)

/- THE SECOND FORM. 'bulk': how many values and letters a reading holds, each counted each time it is reached (what is shared counts as often as it is met; a slice's spare places count too). A statement '..UptoSaid' is the law's where the arguments, and the package variables that the reading takes, are together of bulk at most 1048576: NARROWER than '..Said'. Prove '..Said' where nothing that the law and all that it calls make is longer than what came in: it says more and counts as full. Else prove '..UptoSaid'. A law counts once. -/
mutual
def uptoBulk {H : Type} : DataW H → Nat
  | .lit (.string bytes) => bytes.length + 1
  | .lit _ => 1
  | .nil => 1
  | .ptr d => uptoBulk d + 1
  | .slice elems spare => uptoBulkAll elems + uptoBulkAll spare + 1
  | .agg parts => uptoBulkAll parts + 1
  | .iface _ d => uptoBulk d + 1
  | .map entries => uptoBulkEntries entries + 1
  | .held _ => 1
def uptoBulkAll {H : Type} : List (DataW H) → Nat
  | [] => 0
  | d :: r => uptoBulk d + uptoBulkAll r
def uptoBulkEntries {H : Type} : List (Lit × DataW H) → Nat
  | [] => 0
  | x :: r => uptoBulkEntry x + uptoBulkEntries r
def uptoBulkEntry {H : Type} : Lit × DataW H → Nat
  | (.string bytes, d) => bytes.length + uptoBulk d + 1
  | (_, d) => uptoBulk d + 1
 end
def uptoSmall : (H : Type) → List (DataW H) → Bool := fun _ ds => decide (uptoBulkAll ds ≤ 1048576)
def OpenSpec.upto (s : _root_.Go.ChangeSpec) : _root_.Go.OpenSpec := { _root_.Go.OpenSpec.ofChange s with cond := some uptoSmall }

/-- 'culvertlaw10.TupleCalls', WHERE WHAT IT READS IS OF BULK AT MOST 1048576: true; the input reads as it did. -/
def tupleCallsUptoRow : OpenClaim := { program := "ythhgdmdobfjipaa", sum := "2e30d2495cf9770d79ec795cd83dc7b6415c9239ca519cd31a25c6d04aa6a9c9", func := "culvert/culvertlaw10.TupleCalls", spec := "tupleCalls", unfollowed := true, recurses := true, apart := false, narrowed := true }
def TupleCallsUptoSaid : Prop := tupleCallsUptoRow.holds Try.pinned (OpenSpec.upto tupleCallsSpec)

/-- 'culvertlaw10.TupleAnswers', WHERE WHAT IT READS IS OF BULK AT MOST 1048576: true; the input reads as it did. -/
def tupleAnswersUptoRow : OpenClaim := { program := "ythhgdmdobfjipaa", sum := "2e30d2495cf9770d79ec795cd83dc7b6415c9239ca519cd31a25c6d04aa6a9c9", func := "culvert/culvertlaw10.TupleAnswers", spec := "tupleAnswers", unfollowed := true, recurses := true, apart := false, narrowed := true }
def TupleAnswersUptoSaid : Prop := tupleAnswersUptoRow.holds Try.pinned (OpenSpec.upto tupleAnswersSpec)

/-- 'culvertlaw10.TupleOrder', WHERE WHAT IT READS IS OF BULK AT MOST 1048576: true; the input reads as it did. -/
def tupleOrderUptoRow : OpenClaim := { program := "ythhgdmdobfjipaa", sum := "2e30d2495cf9770d79ec795cd83dc7b6415c9239ca519cd31a25c6d04aa6a9c9", func := "culvert/culvertlaw10.TupleOrder", spec := "tupleOrder", unfollowed := true, recurses := true, apart := false, narrowed := true }
def TupleOrderUptoSaid : Prop := tupleOrderUptoRow.holds Try.pinned (OpenSpec.upto tupleOrderSpec)

/-- 'culvertlaw10.TupleKnown', WHERE WHAT IT READS IS OF BULK AT MOST 1048576: true; the input reads as it did. -/
def tupleKnownUptoRow : OpenClaim := { program := "ythhgdmdobfjipaa", sum := "2e30d2495cf9770d79ec795cd83dc7b6415c9239ca519cd31a25c6d04aa6a9c9", func := "culvert/culvertlaw10.TupleKnown", spec := "tupleKnown", unfollowed := true, recurses := true, apart := false, narrowed := true }
def TupleKnownUptoSaid : Prop := tupleKnownUptoRow.holds Try.pinned (OpenSpec.upto tupleKnownSpec)

end Rows
end Go.Proofs.Ythhgdmdobfjipaa
