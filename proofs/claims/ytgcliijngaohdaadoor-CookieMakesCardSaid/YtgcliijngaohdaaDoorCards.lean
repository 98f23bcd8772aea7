/-
  DERIVED. GIVEN WITH THE SEED: THE CARDS: each row of YtgcliijngaohdaaDoorRows.lean that lists a variable, with what it lists TIED to the program's text (the seventh form; the later family's looks); each row that meets fmt, with fmt's text TOLD by the authors' own Lean function (tested against real Go, not proved from fmt's source: count such statements apart). THE CARD IS WHAT COUNTS. Prove the row's statement (the work); the ties are given (YtgcliijngaohdaaDoorTie.lean); close each card by the builder's one call (the guide's Derived/Test/ToyasCard.lean, 'card_holds'). Laid BY PROGRAM, IN A SANDBOX (cutbox-door.mjs). By AI agents, Wed Nov 11 2026. No macro, syntax, notation, axiom, sorry.
-/
import Derived.Test.YtgcliijngaohdaaDoorRows
import GoSem.ClaimSeven
namespace Go.Proofs.YtgcliijngaohdaaDoor
namespace Rows

/-- THE TIED CARD OF 'culvertlaw17.CookieMakes'. -/
def cookieMakesCard : Claim7 := { stood := { row := cookieMakesRow, standIns := [], harness := (true, "686307908691cc4264c040195acbf35cd2d1fa4d0814f0ae2fbb2d10bada47ec"), looks := false }, kinds := [], alts := [], laidByText := true, laidKinds := [.data], laidTests := true, laidLooks := .later }
def CookieMakesCardSaid : Prop := Claim7.holds Tryd.pinned (.plain (OpenSpec.ofChange cookieMakesSpec)) cookieMakesCard

/-- THE TIED CARD OF 'culvertlaw17.CookieChecks'. -/
def cookieChecksCard : Claim7 := { stood := { row := cookieChecksRow, standIns := [], harness := (true, "686307908691cc4264c040195acbf35cd2d1fa4d0814f0ae2fbb2d10bada47ec"), looks := false }, kinds := [], alts := [], laidByText := true, laidKinds := [.data], laidTests := true, laidLooks := .later }
def CookieChecksCardSaid : Prop := Claim7.holds Tryd.pinned (.plain (OpenSpec.ofChange cookieChecksSpec)) cookieChecksCard

/-- THE TIED CARD OF 'culvertlaw17.CookieBack'. -/
def cookieBackCard : Claim7 := { stood := { row := cookieBackRow, standIns := [], harness := (true, "686307908691cc4264c040195acbf35cd2d1fa4d0814f0ae2fbb2d10bada47ec"), looks := false }, kinds := [], alts := [], laidByText := true, laidKinds := [.data], laidTests := true, laidLooks := .later }
def CookieBackCardSaid : Prop := Claim7.holds Tryd.pinned (.plain (OpenSpec.ofChange cookieBackSpec)) cookieBackCard

/-- THE TIED CARD OF 'culvertlaw17.CookieClasses'. -/
def cookieClassesCard : Claim7 := { stood := { row := cookieClassesRow, standIns := [], harness := (true, "686307908691cc4264c040195acbf35cd2d1fa4d0814f0ae2fbb2d10bada47ec"), looks := false }, kinds := [], alts := [], laidByText := true, laidKinds := [.data], laidTests := true, laidLooks := .later }
def CookieClassesCardSaid : Prop := Claim7.holds Tryd.pinned (.plain (OpenSpec.ofChange cookieClassesSpec)) cookieClassesCard

/-- THE TIED CARD OF 'culvertlaw17.CookieEpochs'. -/
def cookieEpochsCard : Claim7 := { stood := { row := cookieEpochsRow, standIns := [], harness := (true, "686307908691cc4264c040195acbf35cd2d1fa4d0814f0ae2fbb2d10bada47ec"), looks := false }, kinds := [], alts := [], laidByText := true, laidKinds := [.data], laidTests := true, laidLooks := .later }
def CookieEpochsCardSaid : Prop := Claim7.holds Tryd.pinned (.plain (OpenSpec.ofChange cookieEpochsSpec)) cookieEpochsCard

/-- THE TIED CARD OF 'culvertlaw17.CookieKnown'. -/
def cookieKnownCard : Claim7 := { stood := { row := cookieKnownRow, standIns := [], harness := (true, "686307908691cc4264c040195acbf35cd2d1fa4d0814f0ae2fbb2d10bada47ec"), looks := false }, kinds := [], alts := [], laidByText := true, laidKinds := [.data], laidTests := true, laidLooks := .later }
def CookieKnownCardSaid : Prop := Claim7.holds Tryd.pinned (.plain (OpenSpec.ofChange cookieKnownSpec)) cookieKnownCard

/-- THE SECOND FORM's CARD OF 'culvertlaw17.CookieMakes'. -/
def cookieMakesUptoCard : Claim7 := { stood := { row := cookieMakesUptoRow, standIns := [], harness := (true, "686307908691cc4264c040195acbf35cd2d1fa4d0814f0ae2fbb2d10bada47ec"), looks := false }, kinds := [], alts := [], laidByText := true, laidKinds := [.data], laidTests := true, laidLooks := .later }
def CookieMakesUptoCardSaid : Prop := Claim7.holds Tryd.pinned (.plain (OpenSpec.upto cookieMakesSpec)) cookieMakesUptoCard

/-- THE SECOND FORM's CARD OF 'culvertlaw17.CookieChecks'. -/
def cookieChecksUptoCard : Claim7 := { stood := { row := cookieChecksUptoRow, standIns := [], harness := (true, "686307908691cc4264c040195acbf35cd2d1fa4d0814f0ae2fbb2d10bada47ec"), looks := false }, kinds := [], alts := [], laidByText := true, laidKinds := [.data], laidTests := true, laidLooks := .later }
def CookieChecksUptoCardSaid : Prop := Claim7.holds Tryd.pinned (.plain (OpenSpec.upto cookieChecksSpec)) cookieChecksUptoCard

/-- THE SECOND FORM's CARD OF 'culvertlaw17.CookieBack'. -/
def cookieBackUptoCard : Claim7 := { stood := { row := cookieBackUptoRow, standIns := [], harness := (true, "686307908691cc4264c040195acbf35cd2d1fa4d0814f0ae2fbb2d10bada47ec"), looks := false }, kinds := [], alts := [], laidByText := true, laidKinds := [.data], laidTests := true, laidLooks := .later }
def CookieBackUptoCardSaid : Prop := Claim7.holds Tryd.pinned (.plain (OpenSpec.upto cookieBackSpec)) cookieBackUptoCard

/-- THE SECOND FORM's CARD OF 'culvertlaw17.CookieClasses'. -/
def cookieClassesUptoCard : Claim7 := { stood := { row := cookieClassesUptoRow, standIns := [], harness := (true, "686307908691cc4264c040195acbf35cd2d1fa4d0814f0ae2fbb2d10bada47ec"), looks := false }, kinds := [], alts := [], laidByText := true, laidKinds := [.data], laidTests := true, laidLooks := .later }
def CookieClassesUptoCardSaid : Prop := Claim7.holds Tryd.pinned (.plain (OpenSpec.upto cookieClassesSpec)) cookieClassesUptoCard

/-- THE SECOND FORM's CARD OF 'culvertlaw17.CookieEpochs'. -/
def cookieEpochsUptoCard : Claim7 := { stood := { row := cookieEpochsUptoRow, standIns := [], harness := (true, "686307908691cc4264c040195acbf35cd2d1fa4d0814f0ae2fbb2d10bada47ec"), looks := false }, kinds := [], alts := [], laidByText := true, laidKinds := [.data], laidTests := true, laidLooks := .later }
def CookieEpochsUptoCardSaid : Prop := Claim7.holds Tryd.pinned (.plain (OpenSpec.upto cookieEpochsSpec)) cookieEpochsUptoCard

/-- THE SECOND FORM's CARD OF 'culvertlaw17.CookieKnown'. -/
def cookieKnownUptoCard : Claim7 := { stood := { row := cookieKnownUptoRow, standIns := [], harness := (true, "686307908691cc4264c040195acbf35cd2d1fa4d0814f0ae2fbb2d10bada47ec"), looks := false }, kinds := [], alts := [], laidByText := true, laidKinds := [.data], laidTests := true, laidLooks := .later }
def CookieKnownUptoCardSaid : Prop := Claim7.holds Tryd.pinned (.plain (OpenSpec.upto cookieKnownSpec)) cookieKnownUptoCard
end Rows
end Go.Proofs.YtgcliijngaohdaaDoor
