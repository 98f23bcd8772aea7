/-
  No cell of these rows narrows 'for every input' (looked for: loops, veiled, ifaces, maps, wideKeys, modest, calm, conditions, laid).
  DERIVED. THE GIVEN ROWS OF THIS SEAT. 4 by the template 'for every input the law returns true; each argument reads behind the call as it read before'; 0 by the template 'total and deterministic' (their statements: YtoegfgbalcholaaTotals.lean).
  GIVEN WITH THE SEED: the statements are not yours to turn. If you find one false, say at which input.
  Laid BY PROGRAM, IN A SANDBOX (cutbox-rows.mjs): the forced cells as the released guide's own fill.sh prints them over the translation 262d00d062f6c895… (all of the seat's roots in one cut). By AI agents, Wed Nov 11 2026. No macro, syntax, notation, axiom, sorry.
-/
import Derived.Test.YtoegfgbalcholaaChecked
import GoSem.Claim
import GoSem.ClaimJoined
import GoSem.ClaimMapViews
import Derived.JoinedTies
import Derived.KernelRfl
namespace Go.Proofs.Ytoegfgbalcholaa
/- THE CELL 'sum', in the pinned program and in every row, IS THE sha256 OF THE DUMP (.gsa) THAT YtoegfgbalcholaaProg.lean LOADS. Nothing in Lean hashes anything: it is a label: what it is worth is what the hold of that sum in a sandbox is worth. -/
noncomputable def Try.pinned : Pinned := { name := "ytoegfgbalcholaa", sum := "262d00d062f6c895337231a7abf301a241e21909a4ff800685c1d95efe6c144b", checked := Try.checked }
namespace Rows
def none {H : Type} : Left H := { results := [], args := [] }

/-- 'culvertlaw16.InnerCalls': WHATEVER THE INPUT: true; the input reads as it did. -/
def innerCallsSpec : ChangeSpec := { name := "innerCalls", fn := fun _ => fun
  | [d1, d2, d3, d4] => { results := [.lit (.bool true)], args := [d1, d2, d3, d4] }
  | _ => none }
def innerCallsRow : OpenClaim := { program := "ytoegfgbalcholaa", sum := "262d00d062f6c895337231a7abf301a241e21909a4ff800685c1d95efe6c144b", func := "culvert/culvertlaw16.InnerCalls", spec := "innerCalls", unfollowed := true, recurses := true, apart := false }
def InnerCallsSaid : Prop := innerCallsRow.holds Try.pinned (OpenSpec.ofChange innerCallsSpec)

/-- ITS FALSE NEIGHBOUR: 'it returns false'. Refute it at one input. -/
def innerCallsWrong : ChangeSpec := { name := "innerCalls", fn := fun _ => fun
  | [d1, d2, d3, d4] => { results := [.lit (.bool false)], args := [d1, d2, d3, d4] }
  | _ => none }
def InnerCallsWrongFalsely : Prop := innerCallsRow.holds Try.pinned (OpenSpec.ofChange innerCallsWrong)

/-- 'culvertlaw16.InnerAsIf': WHATEVER THE INPUT: true; the input reads as it did. -/
def innerAsIfSpec : ChangeSpec := { name := "innerAsIf", fn := fun _ => fun
  | [d1, d2, d3, d4] => { results := [.lit (.bool true)], args := [d1, d2, d3, d4] }
  | _ => none }
def innerAsIfRow : OpenClaim := { program := "ytoegfgbalcholaa", sum := "262d00d062f6c895337231a7abf301a241e21909a4ff800685c1d95efe6c144b", func := "culvert/culvertlaw16.InnerAsIf", spec := "innerAsIf", unfollowed := true, recurses := true, apart := false }
def InnerAsIfSaid : Prop := innerAsIfRow.holds Try.pinned (OpenSpec.ofChange innerAsIfSpec)

/-- ITS FALSE NEIGHBOUR: 'it returns false'. Refute it at one input. -/
def innerAsIfWrong : ChangeSpec := { name := "innerAsIf", fn := fun _ => fun
  | [d1, d2, d3, d4] => { results := [.lit (.bool false)], args := [d1, d2, d3, d4] }
  | _ => none }
def InnerAsIfWrongFalsely : Prop := innerAsIfRow.holds Try.pinned (OpenSpec.ofChange innerAsIfWrong)

/-- 'culvertlaw16.InnerBack': WHATEVER THE INPUT: true; the input reads as it did. -/
def innerBackSpec : ChangeSpec := { name := "innerBack", fn := fun _ => fun
  | [d1, d2, d3] => { results := [.lit (.bool true)], args := [d1, d2, d3] }
  | _ => none }
def innerBackRow : OpenClaim := { program := "ytoegfgbalcholaa", sum := "262d00d062f6c895337231a7abf301a241e21909a4ff800685c1d95efe6c144b", func := "culvert/culvertlaw16.InnerBack", spec := "innerBack", unfollowed := true, recurses := true, apart := false }
def InnerBackSaid : Prop := innerBackRow.holds Try.pinned (OpenSpec.ofChange innerBackSpec)

/-- ITS FALSE NEIGHBOUR: 'it returns false'. Refute it at one input. -/
def innerBackWrong : ChangeSpec := { name := "innerBack", fn := fun _ => fun
  | [d1, d2, d3] => { results := [.lit (.bool false)], args := [d1, d2, d3] }
  | _ => none }
def InnerBackWrongFalsely : Prop := innerBackRow.holds Try.pinned (OpenSpec.ofChange innerBackWrong)

/-- 'culvertlaw16.InnerKnown': WHATEVER THE INPUT: true; the input reads as it did. -/
def innerKnownSpec : ChangeSpec := { name := "innerKnown", fn := fun _ => fun
  | [] => { results := [.lit (.bool true)], args := [] }
  | _ => none }
def innerKnownRow : OpenClaim := { program := "ytoegfgbalcholaa", sum := "262d00d062f6c895337231a7abf301a241e21909a4ff800685c1d95efe6c144b", func := "culvert/culvertlaw16.InnerKnown", spec := "innerKnown", unfollowed := true, recurses := true, apart := false }
def InnerKnownSaid : Prop := innerKnownRow.holds Try.pinned (OpenSpec.ofChange innerKnownSpec)

/-- ITS FALSE NEIGHBOUR: 'it returns false'. Refute it at one input. -/
def innerKnownWrong : ChangeSpec := { name := "innerKnown", fn := fun _ => fun
  | [] => { results := [.lit (.bool false)], args := [] }
  | _ => none }
def InnerKnownWrongFalsely : Prop := innerKnownRow.holds Try.pinned (OpenSpec.ofChange innerKnownWrong)

/- THE SECOND FORM. 'bulk': how many values and letters a reading holds, each counted each time it is reached (what is shared counts as often as it is met; a slice's spare places count too). A statement '..UptoSaid' is the law's where the arguments, and the package variables that the reading takes, are together of bulk at most 1048576: NARROWER than '..Said'. Prove '..Said' where nothing that the law and all that it calls make is longer than what came in: it says more and counts as full. Else prove '..UptoSaid'. A law counts once. -/
mutual
def uptoBulk {H : Type} : DataW H → Nat
  | .lit (.string bytes) => bytes.length + 1
  | .lit _ => 1
  | .nil => 1
  | .ptr d => uptoBulk d + 1
  | .slice elems spare => uptoBulkAll elems + uptoBulkAll spare + 1
  | .agg parts => uptoBulkAll parts + 1
  | .iface _ d => uptoBulk d + 1
  | .map entries => uptoBulkEntries entries + 1
  | .held _ => 1
def uptoBulkAll {H : Type} : List (DataW H) → Nat
  | [] => 0
  | d :: r => uptoBulk d + uptoBulkAll r
def uptoBulkEntries {H : Type} : List (Lit × DataW H) → Nat
  | [] => 0
  | x :: r => uptoBulkEntry x + uptoBulkEntries r
def uptoBulkEntry {H : Type} : Lit × DataW H → Nat
  | (.string bytes, d) => bytes.length + uptoBulk d + 1
  | (_, d) => uptoBulk d + 1
 end
def uptoSmall : (H : Type) → List (DataW H) → Bool := fun _ ds => decide (uptoBulkAll ds ≤ 1048576)
def OpenSpec.upto (s : _root_.Go.ChangeSpec) : _root_.Go.OpenSpec := { _root_.Go.OpenSpec.ofChange s with cond := some uptoSmall }

/-- 'culvertlaw16.InnerCalls', WHERE WHAT IT READS IS OF BULK AT MOST 1048576: true; the input reads as it did. -/
def innerCallsUptoRow : OpenClaim := { program := "ytoegfgbalcholaa", sum := "262d00d062f6c895337231a7abf301a241e21909a4ff800685c1d95efe6c144b", func := "culvert/culvertlaw16.InnerCalls", spec := "innerCalls", unfollowed := true, recurses := true, apart := false, narrowed := true }
def InnerCallsUptoSaid : Prop := innerCallsUptoRow.holds Try.pinned (OpenSpec.upto innerCallsSpec)

/-- 'culvertlaw16.InnerAsIf', WHERE WHAT IT READS IS OF BULK AT MOST 1048576: true; the input reads as it did. -/
def innerAsIfUptoRow : OpenClaim := { program := "ytoegfgbalcholaa", sum := "262d00d062f6c895337231a7abf301a241e21909a4ff800685c1d95efe6c144b", func := "culvert/culvertlaw16.InnerAsIf", spec := "innerAsIf", unfollowed := true, recurses := true, apart := false, narrowed := true }
def InnerAsIfUptoSaid : Prop := innerAsIfUptoRow.holds Try.pinned (OpenSpec.upto innerAsIfSpec)

/-- 'culvertlaw16.InnerBack', WHERE WHAT IT READS IS OF BULK AT MOST 1048576: true; the input reads as it did. -/
def innerBackUptoRow : OpenClaim := { program := "ytoegfgbalcholaa", sum := "262d00d062f6c895337231a7abf301a241e21909a4ff800685c1d95efe6c144b", func := "culvert/culvertlaw16.InnerBack", spec := "innerBack", unfollowed := true, recurses := true, apart := false, narrowed := true }
def InnerBackUptoSaid : Prop := innerBackUptoRow.holds Try.pinned (OpenSpec.upto innerBackSpec)

/-- 'culvertlaw16.InnerKnown', WHERE WHAT IT READS IS OF BULK AT MOST 1048576: true; the input reads as it did. -/
def innerKnownUptoRow : OpenClaim := { program := "ytoegfgbalcholaa", sum := "262d00d062f6c895337231a7abf301a241e21909a4ff800685c1d95efe6c144b", func := "culvert/culvertlaw16.InnerKnown", spec := "innerKnown", unfollowed := true, recurses := true, apart := false, narrowed := true }
def InnerKnownUptoSaid : Prop := innerKnownUptoRow.holds Try.pinned (OpenSpec.upto innerKnownSpec)

end Rows
end Go.Proofs.Ytoegfgbalcholaa
