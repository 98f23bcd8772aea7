/-
  No cell of these rows narrows 'for every input' (looked for: loops, veiled, ifaces, maps, wideKeys, modest, calm, conditions, laid).
  DERIVED. THE GIVEN ROWS OF THIS SEAT. 3 by the template 'for every input the law returns true; each argument reads behind the call as it read before'; 0 by the template 'total and deterministic' (their statements: YtheknmihnkennaaGreatTotals.lean).
  GIVEN WITH THE SEED: the statements are not yours to turn. If you find one false, say at which input.
  Laid BY PROGRAM, IN A SANDBOX (cutbox-rows.mjs): the forced cells as the released guide's own fill.sh prints them over the translation 3eae5d842674db5c… (all of the seat's roots in one cut). By AI agents, Wed Nov 11 2026. No macro, syntax, notation, axiom, sorry.
-/
import Derived.Test.YtheknmihnkennaaGreatChecked
import GoSem.Claim
import GoSem.ClaimJoined
import GoSem.ClaimMapViews
import Derived.JoinedTies
import Derived.KernelRfl
namespace Go.Proofs.YtheknmihnkennaaGreat
/- THE CELL 'sum', in the pinned program and in every row, IS THE sha256 OF THE DUMP (.gsa) THAT YtheknmihnkennaaGreatProg.lean LOADS. Nothing in Lean hashes anything: it is a label: what it is worth is what the hold of that sum in a sandbox is worth. -/
noncomputable def Tryz.pinned : Pinned := { name := "ytheknmihnkennaagreat", sum := "3eae5d842674db5cefc7241249aa5b9ba21dd4990fc269fd954302bb215c0916", checked := Tryz.checked }
namespace Rows
def none {H : Type} : Left H := { results := [], args := [] }

/-- 'culvertlaw15.NatHops': WHATEVER THE INPUT: true; the input reads as it did. -/
def natHopsSpec : ChangeSpec := { name := "natHops", fn := fun _ => fun
  | [d] => { results := [.lit (.bool true)], args := [d] }
  | _ => none }
def natHopsRow : OpenClaim := { program := "ytheknmihnkennaagreat", sum := "3eae5d842674db5cefc7241249aa5b9ba21dd4990fc269fd954302bb215c0916", func := "culvert/culvertlaw15.NatHops", spec := "natHops", unfollowed := true, recurses := true, apart := false }
def NatHopsSaid : Prop := natHopsRow.holds Tryz.pinned (OpenSpec.ofChange natHopsSpec)

/-- ITS FALSE NEIGHBOUR: 'it returns false'. Refute it at one input. -/
def natHopsWrong : ChangeSpec := { name := "natHops", fn := fun _ => fun
  | [d] => { results := [.lit (.bool false)], args := [d] }
  | _ => none }
def NatHopsWrongFalsely : Prop := natHopsRow.holds Tryz.pinned (OpenSpec.ofChange natHopsWrong)

/-- 'culvertlaw15.NatChain': WHATEVER THE INPUT: true; the input reads as it did. -/
def natChainSpec : ChangeSpec := { name := "natChain", fn := fun _ => fun
  | [d1, d2, d3] => { results := [.lit (.bool true)], args := [d1, d2, d3] }
  | _ => none }
def natChainRow : OpenClaim := { program := "ytheknmihnkennaagreat", sum := "3eae5d842674db5cefc7241249aa5b9ba21dd4990fc269fd954302bb215c0916", func := "culvert/culvertlaw15.NatChain", spec := "natChain", unfollowed := true, recurses := true, apart := false }
def NatChainSaid : Prop := natChainRow.holds Tryz.pinned (OpenSpec.ofChange natChainSpec)

/-- ITS FALSE NEIGHBOUR: 'it returns false'. Refute it at one input. -/
def natChainWrong : ChangeSpec := { name := "natChain", fn := fun _ => fun
  | [d1, d2, d3] => { results := [.lit (.bool false)], args := [d1, d2, d3] }
  | _ => none }
def NatChainWrongFalsely : Prop := natChainRow.holds Tryz.pinned (OpenSpec.ofChange natChainWrong)

/-- 'culvertlaw15.NatKnown': WHATEVER THE INPUT: true; the input reads as it did. -/
def natKnownSpec : ChangeSpec := { name := "natKnown", fn := fun _ => fun
  | [] => { results := [.lit (.bool true)], args := [] }
  | _ => none }
def natKnownRow : OpenClaim := { program := "ytheknmihnkennaagreat", sum := "3eae5d842674db5cefc7241249aa5b9ba21dd4990fc269fd954302bb215c0916", func := "culvert/culvertlaw15.NatKnown", spec := "natKnown", unfollowed := true, recurses := true, apart := false }
def NatKnownSaid : Prop := natKnownRow.holds Tryz.pinned (OpenSpec.ofChange natKnownSpec)

/-- ITS FALSE NEIGHBOUR: 'it returns false'. Refute it at one input. -/
def natKnownWrong : ChangeSpec := { name := "natKnown", fn := fun _ => fun
  | [] => { results := [.lit (.bool false)], args := [] }
  | _ => none }
def NatKnownWrongFalsely : Prop := natKnownRow.holds Tryz.pinned (OpenSpec.ofChange natKnownWrong)

/- THE SECOND FORM. 'bulk': how many values and letters a reading holds, each counted each time it is reached (what is shared counts as often as it is met; a slice's spare places count too). A statement '..UptoSaid' is the law's where the arguments, and the package variables that the reading takes, are together of bulk at most 1048576: NARROWER than '..Said'. Prove '..Said' where nothing that the law and all that it calls make is longer than what came in: it says more and counts as full. Else prove '..UptoSaid'. A law counts once. -/
mutual
def uptoBulk {H : Type} : DataW H → Nat
  | .lit (.string bytes) => bytes.length + 1
  | .lit _ => 1
  | .nil => 1
  | .ptr d => uptoBulk d + 1
  | .slice elems spare => uptoBulkAll elems + uptoBulkAll spare + 1
  | .agg parts => uptoBulkAll parts + 1
  | .iface _ d => uptoBulk d + 1
  | .map entries => uptoBulkEntries entries + 1
  | .held _ => 1
def uptoBulkAll {H : Type} : List (DataW H) → Nat
  | [] => 0
  | d :: r => uptoBulk d + uptoBulkAll r
def uptoBulkEntries {H : Type} : List (Lit × DataW H) → Nat
  | [] => 0
  | x :: r => uptoBulkEntry x + uptoBulkEntries r
def uptoBulkEntry {H : Type} : Lit × DataW H → Nat
  | (.string bytes, d) => bytes.length + uptoBulk d + 1
  | (_, d) => uptoBulk d + 1
 end
def uptoSmall : (H : Type) → List (DataW H) → Bool := fun _ ds => decide (uptoBulkAll ds ≤ 1048576)
def OpenSpec.upto (s : _root_.Go.ChangeSpec) : _root_.Go.OpenSpec := { _root_.Go.OpenSpec.ofChange s with cond := some uptoSmall }

/-- 'culvertlaw15.NatHops', WHERE WHAT IT READS IS OF BULK AT MOST 1048576: true; the input reads as it did. -/
def natHopsUptoRow : OpenClaim := { program := "ytheknmihnkennaagreat", sum := "3eae5d842674db5cefc7241249aa5b9ba21dd4990fc269fd954302bb215c0916", func := "culvert/culvertlaw15.NatHops", spec := "natHops", unfollowed := true, recurses := true, apart := false, narrowed := true }
def NatHopsUptoSaid : Prop := natHopsUptoRow.holds Tryz.pinned (OpenSpec.upto natHopsSpec)

/-- 'culvertlaw15.NatChain', WHERE WHAT IT READS IS OF BULK AT MOST 1048576: true; the input reads as it did. -/
def natChainUptoRow : OpenClaim := { program := "ytheknmihnkennaagreat", sum := "3eae5d842674db5cefc7241249aa5b9ba21dd4990fc269fd954302bb215c0916", func := "culvert/culvertlaw15.NatChain", spec := "natChain", unfollowed := true, recurses := true, apart := false, narrowed := true }
def NatChainUptoSaid : Prop := natChainUptoRow.holds Tryz.pinned (OpenSpec.upto natChainSpec)

/-- 'culvertlaw15.NatKnown', WHERE WHAT IT READS IS OF BULK AT MOST 1048576: true; the input reads as it did. -/
def natKnownUptoRow : OpenClaim := { program := "ytheknmihnkennaagreat", sum := "3eae5d842674db5cefc7241249aa5b9ba21dd4990fc269fd954302bb215c0916", func := "culvert/culvertlaw15.NatKnown", spec := "natKnown", unfollowed := true, recurses := true, apart := false, narrowed := true }
def NatKnownUptoSaid : Prop := natKnownUptoRow.holds Tryz.pinned (OpenSpec.upto natKnownSpec)

end Rows
end Go.Proofs.YtheknmihnkennaaGreat
