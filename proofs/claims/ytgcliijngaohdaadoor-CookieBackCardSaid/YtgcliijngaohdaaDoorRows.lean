/-
  NARROWER THAN 'FOR EVERY INPUT', by the rows' own cells (each row's printed sentence says how): CookieMakes: laid · CookieChecks: laid · CookieBack: laid · CookieClasses: laid · CookieEpochs: laid · CookieKnown: laid.
  DERIVED. THE GIVEN ROWS OF THIS SEAT. 6 by the template 'for every input the law returns true; each argument reads behind the call as it read before'; 0 by the template 'total and deterministic' (their statements: YtgcliijngaohdaaDoorTotals.lean).
  GIVEN WITH THE SEED: the statements are not yours to turn. If you find one false, say at which input.
  Laid BY PROGRAM, IN A SANDBOX (cutbox-rows.mjs): the forced cells as the released guide's own fill.sh prints them over the translation 94481bb5a6d1b070… (all of the seat's roots in one cut). By AI agents, Wed Nov 11 2026. No macro, syntax, notation, axiom, sorry.
-/
import Derived.Test.YtgcliijngaohdaaDoorChecked
import GoSem.Claim
import GoSem.ClaimJoined
import GoSem.ClaimMapViews
import Derived.JoinedTies
import Derived.KernelRfl
namespace Go.Proofs.YtgcliijngaohdaaDoor
/- THE CELL 'sum', in the pinned program and in every row, IS THE sha256 OF THE DUMP (.gsa) THAT YtgcliijngaohdaaDoorProg.lean LOADS. Nothing in Lean hashes anything: it is a label: what it is worth is what the hold of that sum in a sandbox is worth. -/
noncomputable def Tryd.pinned : Pinned := { name := "ytgcliijngaohdaadoor", sum := "94481bb5a6d1b0706dde5ee42b729deeb4754017fd9c8ad60f463f58b9669d59", checked := Tryd.checked }
namespace Rows
def none {H : Type} : Left H := { results := [], args := [] }

/- WHAT THE LISTED PACKAGE-LEVEL VARIABLES READ AS WHEN THE CALL BEGINS. Each datum BY PROGRAM (the guide's laid-datum.mjs) off the statement by which the dump's own 'gosem.cut.vars' lays the variable. In a bare row this is a premise. The card (YtgcliijngaohdaaDoorCards.lean) ties it to the program's text. -/
def laid_culvert_cookie_sizes {H : Type} : DataW H := .agg [.lit (.int .u16 88), .lit (.int .u16 216), .lit (.int .u16 536), .lit (.int .u16 1024), .lit (.int .u16 1220), .lit (.int .u16 1360), .lit (.int .u16 1440), .lit (.int .u16 1460)]

/-- 'culvertlaw17.CookieMakes': WHATEVER THE INPUT: true; the input reads as it did. -/
def cookieMakesSpec : ChangeSpec := { name := "cookieMakes", fn := fun _ => fun
  | [d1, d2, d3] => { results := [.lit (.bool true)], args := [d1, d2, d3] }
  | _ => none }
def cookieMakesRow : OpenClaim := { program := "ytgcliijngaohdaadoor", sum := "94481bb5a6d1b0706dde5ee42b729deeb4754017fd9c8ad60f463f58b9669d59", func := "culvert/culvertlaw17.CookieMakes", spec := "cookieMakes", named := ["culvert/cookie.sizes"], apart := false, laid := [("culvert/cookie.sizes", laid_culvert_cookie_sizes)] }
def CookieMakesSaid : Prop := cookieMakesRow.holds Tryd.pinned (OpenSpec.ofChange cookieMakesSpec)

/-- ITS FALSE NEIGHBOUR: 'it returns false'. Refute it at one input. -/
def cookieMakesWrong : ChangeSpec := { name := "cookieMakes", fn := fun _ => fun
  | [d1, d2, d3] => { results := [.lit (.bool false)], args := [d1, d2, d3] }
  | _ => none }
def CookieMakesWrongFalsely : Prop := cookieMakesRow.holds Tryd.pinned (OpenSpec.ofChange cookieMakesWrong)

/-- 'culvertlaw17.CookieChecks': WHATEVER THE INPUT: true; the input reads as it did. -/
def cookieChecksSpec : ChangeSpec := { name := "cookieChecks", fn := fun _ => fun
  | [d1, d2, d3] => { results := [.lit (.bool true)], args := [d1, d2, d3] }
  | _ => none }
def cookieChecksRow : OpenClaim := { program := "ytgcliijngaohdaadoor", sum := "94481bb5a6d1b0706dde5ee42b729deeb4754017fd9c8ad60f463f58b9669d59", func := "culvert/culvertlaw17.CookieChecks", spec := "cookieChecks", unfollowed := true, recurses := true, named := ["culvert/cookie.sizes"], apart := false, laid := [("culvert/cookie.sizes", laid_culvert_cookie_sizes)] }
def CookieChecksSaid : Prop := cookieChecksRow.holds Tryd.pinned (OpenSpec.ofChange cookieChecksSpec)

/-- ITS FALSE NEIGHBOUR: 'it returns false'. Refute it at one input. -/
def cookieChecksWrong : ChangeSpec := { name := "cookieChecks", fn := fun _ => fun
  | [d1, d2, d3] => { results := [.lit (.bool false)], args := [d1, d2, d3] }
  | _ => none }
def CookieChecksWrongFalsely : Prop := cookieChecksRow.holds Tryd.pinned (OpenSpec.ofChange cookieChecksWrong)

/-- 'culvertlaw17.CookieBack': WHATEVER THE INPUT: true; the input reads as it did. -/
def cookieBackSpec : ChangeSpec := { name := "cookieBack", fn := fun _ => fun
  | [d1, d2, d3] => { results := [.lit (.bool true)], args := [d1, d2, d3] }
  | _ => none }
def cookieBackRow : OpenClaim := { program := "ytgcliijngaohdaadoor", sum := "94481bb5a6d1b0706dde5ee42b729deeb4754017fd9c8ad60f463f58b9669d59", func := "culvert/culvertlaw17.CookieBack", spec := "cookieBack", unfollowed := true, recurses := true, named := ["culvert/cookie.sizes"], apart := false, laid := [("culvert/cookie.sizes", laid_culvert_cookie_sizes)] }
def CookieBackSaid : Prop := cookieBackRow.holds Tryd.pinned (OpenSpec.ofChange cookieBackSpec)

/-- ITS FALSE NEIGHBOUR: 'it returns false'. Refute it at one input. -/
def cookieBackWrong : ChangeSpec := { name := "cookieBack", fn := fun _ => fun
  | [d1, d2, d3] => { results := [.lit (.bool false)], args := [d1, d2, d3] }
  | _ => none }
def CookieBackWrongFalsely : Prop := cookieBackRow.holds Tryd.pinned (OpenSpec.ofChange cookieBackWrong)

/-- 'culvertlaw17.CookieClasses': WHATEVER THE INPUT: true; the input reads as it did. -/
def cookieClassesSpec : ChangeSpec := { name := "cookieClasses", fn := fun _ => fun
  | [d1, d2] => { results := [.lit (.bool true)], args := [d1, d2] }
  | _ => none }
def cookieClassesRow : OpenClaim := { program := "ytgcliijngaohdaadoor", sum := "94481bb5a6d1b0706dde5ee42b729deeb4754017fd9c8ad60f463f58b9669d59", func := "culvert/culvertlaw17.CookieClasses", spec := "cookieClasses", named := ["culvert/cookie.sizes"], apart := false, laid := [("culvert/cookie.sizes", laid_culvert_cookie_sizes)] }
def CookieClassesSaid : Prop := cookieClassesRow.holds Tryd.pinned (OpenSpec.ofChange cookieClassesSpec)

/-- ITS FALSE NEIGHBOUR: 'it returns false'. Refute it at one input. -/
def cookieClassesWrong : ChangeSpec := { name := "cookieClasses", fn := fun _ => fun
  | [d1, d2] => { results := [.lit (.bool false)], args := [d1, d2] }
  | _ => none }
def CookieClassesWrongFalsely : Prop := cookieClassesRow.holds Tryd.pinned (OpenSpec.ofChange cookieClassesWrong)

/-- 'culvertlaw17.CookieEpochs': WHATEVER THE INPUT: true; the input reads as it did. -/
def cookieEpochsSpec : ChangeSpec := { name := "cookieEpochs", fn := fun _ => fun
  | [d1, d2, d3] => { results := [.lit (.bool true)], args := [d1, d2, d3] }
  | _ => none }
def cookieEpochsRow : OpenClaim := { program := "ytgcliijngaohdaadoor", sum := "94481bb5a6d1b0706dde5ee42b729deeb4754017fd9c8ad60f463f58b9669d59", func := "culvert/culvertlaw17.CookieEpochs", spec := "cookieEpochs", named := ["culvert/cookie.sizes"], apart := false, laid := [("culvert/cookie.sizes", laid_culvert_cookie_sizes)] }
def CookieEpochsSaid : Prop := cookieEpochsRow.holds Tryd.pinned (OpenSpec.ofChange cookieEpochsSpec)

/-- ITS FALSE NEIGHBOUR: 'it returns false'. Refute it at one input. -/
def cookieEpochsWrong : ChangeSpec := { name := "cookieEpochs", fn := fun _ => fun
  | [d1, d2, d3] => { results := [.lit (.bool false)], args := [d1, d2, d3] }
  | _ => none }
def CookieEpochsWrongFalsely : Prop := cookieEpochsRow.holds Tryd.pinned (OpenSpec.ofChange cookieEpochsWrong)

/-- 'culvertlaw17.CookieKnown': WHATEVER THE INPUT: true; the input reads as it did. -/
def cookieKnownSpec : ChangeSpec := { name := "cookieKnown", fn := fun _ => fun
  | [] => { results := [.lit (.bool true)], args := [] }
  | _ => none }
def cookieKnownRow : OpenClaim := { program := "ytgcliijngaohdaadoor", sum := "94481bb5a6d1b0706dde5ee42b729deeb4754017fd9c8ad60f463f58b9669d59", func := "culvert/culvertlaw17.CookieKnown", spec := "cookieKnown", named := ["culvert/cookie.sizes"], apart := false, laid := [("culvert/cookie.sizes", laid_culvert_cookie_sizes)] }
def CookieKnownSaid : Prop := cookieKnownRow.holds Tryd.pinned (OpenSpec.ofChange cookieKnownSpec)

/-- ITS FALSE NEIGHBOUR: 'it returns false'. Refute it at one input. -/
def cookieKnownWrong : ChangeSpec := { name := "cookieKnown", fn := fun _ => fun
  | [] => { results := [.lit (.bool false)], args := [] }
  | _ => none }
def CookieKnownWrongFalsely : Prop := cookieKnownRow.holds Tryd.pinned (OpenSpec.ofChange cookieKnownWrong)

/- THE SECOND FORM. 'bulk': how many values and letters a reading holds, each counted each time it is reached (what is shared counts as often as it is met; a slice's spare places count too). A statement '..UptoSaid' is the law's where the arguments, and the package variables that the reading takes, are together of bulk at most 1048576: NARROWER than '..Said'. Prove '..Said' where nothing that the law and all that it calls make is longer than what came in: it says more and counts as full. Else prove '..UptoSaid'. A law counts once. -/
mutual
def uptoBulk {H : Type} : DataW H → Nat
  | .lit (.string bytes) => bytes.length + 1
  | .lit _ => 1
  | .nil => 1
  | .ptr d => uptoBulk d + 1
  | .slice elems spare => uptoBulkAll elems + uptoBulkAll spare + 1
  | .agg parts => uptoBulkAll parts + 1
  | .iface _ d => uptoBulk d + 1
  | .map entries => uptoBulkEntries entries + 1
  | .held _ => 1
def uptoBulkAll {H : Type} : List (DataW H) → Nat
  | [] => 0
  | d :: r => uptoBulk d + uptoBulkAll r
def uptoBulkEntries {H : Type} : List (Lit × DataW H) → Nat
  | [] => 0
  | x :: r => uptoBulkEntry x + uptoBulkEntries r
def uptoBulkEntry {H : Type} : Lit × DataW H → Nat
  | (.string bytes, d) => bytes.length + uptoBulk d + 1
  | (_, d) => uptoBulk d + 1
 end
def uptoSmall : (H : Type) → List (DataW H) → Bool := fun _ ds => decide (uptoBulkAll ds ≤ 1048576)
def OpenSpec.upto (s : _root_.Go.ChangeSpec) : _root_.Go.OpenSpec := { _root_.Go.OpenSpec.ofChange s with cond := some uptoSmall }

/-- 'culvertlaw17.CookieMakes', WHERE WHAT IT READS IS OF BULK AT MOST 1048576: true; the input reads as it did. -/
def cookieMakesUptoRow : OpenClaim := { program := "ytgcliijngaohdaadoor", sum := "94481bb5a6d1b0706dde5ee42b729deeb4754017fd9c8ad60f463f58b9669d59", func := "culvert/culvertlaw17.CookieMakes", spec := "cookieMakes", named := ["culvert/cookie.sizes"], apart := false, laid := [("culvert/cookie.sizes", laid_culvert_cookie_sizes)], narrowed := true }
def CookieMakesUptoSaid : Prop := cookieMakesUptoRow.holds Tryd.pinned (OpenSpec.upto cookieMakesSpec)

/-- 'culvertlaw17.CookieChecks', WHERE WHAT IT READS IS OF BULK AT MOST 1048576: true; the input reads as it did. -/
def cookieChecksUptoRow : OpenClaim := { program := "ytgcliijngaohdaadoor", sum := "94481bb5a6d1b0706dde5ee42b729deeb4754017fd9c8ad60f463f58b9669d59", func := "culvert/culvertlaw17.CookieChecks", spec := "cookieChecks", unfollowed := true, recurses := true, named := ["culvert/cookie.sizes"], apart := false, laid := [("culvert/cookie.sizes", laid_culvert_cookie_sizes)], narrowed := true }
def CookieChecksUptoSaid : Prop := cookieChecksUptoRow.holds Tryd.pinned (OpenSpec.upto cookieChecksSpec)

/-- 'culvertlaw17.CookieBack', WHERE WHAT IT READS IS OF BULK AT MOST 1048576: true; the input reads as it did. -/
def cookieBackUptoRow : OpenClaim := { program := "ytgcliijngaohdaadoor", sum := "94481bb5a6d1b0706dde5ee42b729deeb4754017fd9c8ad60f463f58b9669d59", func := "culvert/culvertlaw17.CookieBack", spec := "cookieBack", unfollowed := true, recurses := true, named := ["culvert/cookie.sizes"], apart := false, laid := [("culvert/cookie.sizes", laid_culvert_cookie_sizes)], narrowed := true }
def CookieBackUptoSaid : Prop := cookieBackUptoRow.holds Tryd.pinned (OpenSpec.upto cookieBackSpec)

/-- 'culvertlaw17.CookieClasses', WHERE WHAT IT READS IS OF BULK AT MOST 1048576: true; the input reads as it did. -/
def cookieClassesUptoRow : OpenClaim := { program := "ytgcliijngaohdaadoor", sum := "94481bb5a6d1b0706dde5ee42b729deeb4754017fd9c8ad60f463f58b9669d59", func := "culvert/culvertlaw17.CookieClasses", spec := "cookieClasses", named := ["culvert/cookie.sizes"], apart := false, laid := [("culvert/cookie.sizes", laid_culvert_cookie_sizes)], narrowed := true }
def CookieClassesUptoSaid : Prop := cookieClassesUptoRow.holds Tryd.pinned (OpenSpec.upto cookieClassesSpec)

/-- 'culvertlaw17.CookieEpochs', WHERE WHAT IT READS IS OF BULK AT MOST 1048576: true; the input reads as it did. -/
def cookieEpochsUptoRow : OpenClaim := { program := "ytgcliijngaohdaadoor", sum := "94481bb5a6d1b0706dde5ee42b729deeb4754017fd9c8ad60f463f58b9669d59", func := "culvert/culvertlaw17.CookieEpochs", spec := "cookieEpochs", named := ["culvert/cookie.sizes"], apart := false, laid := [("culvert/cookie.sizes", laid_culvert_cookie_sizes)], narrowed := true }
def CookieEpochsUptoSaid : Prop := cookieEpochsUptoRow.holds Tryd.pinned (OpenSpec.upto cookieEpochsSpec)

/-- 'culvertlaw17.CookieKnown', WHERE WHAT IT READS IS OF BULK AT MOST 1048576: true; the input reads as it did. -/
def cookieKnownUptoRow : OpenClaim := { program := "ytgcliijngaohdaadoor", sum := "94481bb5a6d1b0706dde5ee42b729deeb4754017fd9c8ad60f463f58b9669d59", func := "culvert/culvertlaw17.CookieKnown", spec := "cookieKnown", named := ["culvert/cookie.sizes"], apart := false, laid := [("culvert/cookie.sizes", laid_culvert_cookie_sizes)], narrowed := true }
def CookieKnownUptoSaid : Prop := cookieKnownUptoRow.holds Tryd.pinned (OpenSpec.upto cookieKnownSpec)

end Rows
end Go.Proofs.YtgcliijngaohdaaDoor
