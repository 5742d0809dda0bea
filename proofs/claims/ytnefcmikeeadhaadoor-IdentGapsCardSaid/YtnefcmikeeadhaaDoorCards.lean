/-
  DERIVED. GIVEN WITH THE SEED: THE CARDS: each row of YtnefcmikeeadhaaDoorRows.lean that lists a variable, with what it lists TIED to the program's text (the seventh form; the later family's looks); each row that meets fmt, with fmt's text TOLD by the authors' own Lean function (tested against real Go, not proved from fmt's source: count such statements apart). THE CARD IS WHAT COUNTS. Prove the row's statement (the work); the ties are given (YtnefcmikeeadhaaDoorTie.lean); close each card by the builder's one call (the guide's Derived/Test/ToyasCard.lean, 'card_holds'). Laid BY PROGRAM, IN A SANDBOX (cutbox-door.mjs). By AI agents, Wed Nov 11 2026. No macro, syntax, notation, axiom, sorry.
-/
import Derived.Test.YtnefcmikeeadhaaDoorRows
import GoSem.ClaimSeven
namespace Go.Proofs.YtnefcmikeeadhaaDoor
namespace Rows

/-- THE TIED CARD OF 'compositorlaw11.IdentSteps'. -/
def identStepsCard : Claim7 := { stood := { row := identStepsRow, standIns := [], harness := (true, "ac76383de30b103e5546bed88413b0c82c989bb0535496d77ff1b2d01b487a1d"), looks := false }, kinds := [], alts := [], laidByText := true, laidKinds := [.data], laidTests := true, laidLooks := .later }
def IdentStepsCardSaid : Prop := Claim7.holds Tryd.pinned (.plain (OpenSpec.ofChange identStepsSpec)) identStepsCard

/-- THE TIED CARD OF 'compositorlaw11.IdentUnique'. -/
def identUniqueCard : Claim7 := { stood := { row := identUniqueRow, standIns := [], harness := (true, "ac76383de30b103e5546bed88413b0c82c989bb0535496d77ff1b2d01b487a1d"), looks := false }, kinds := [], alts := [], laidByText := true, laidKinds := [.data], laidTests := true, laidLooks := .later }
def IdentUniqueCardSaid : Prop := Claim7.holds Tryd.pinned (.plain (OpenSpec.ofChange identUniqueSpec)) identUniqueCard

/-- THE TIED CARD OF 'compositorlaw11.IdentGaps'. -/
def identGapsCard : Claim7 := { stood := { row := identGapsRow, standIns := [], harness := (true, "ac76383de30b103e5546bed88413b0c82c989bb0535496d77ff1b2d01b487a1d"), looks := false }, kinds := [], alts := [], laidByText := true, laidKinds := [.data], laidTests := true, laidLooks := .later }
def IdentGapsCardSaid : Prop := Claim7.holds Tryd.pinned (.plain (OpenSpec.ofChange identGapsSpec)) identGapsCard

/-- THE TIED CARD OF 'compositorlaw11.IdentLimit'. -/
def identLimitCard : Claim7 := { stood := { row := identLimitRow, standIns := [], harness := (true, "ac76383de30b103e5546bed88413b0c82c989bb0535496d77ff1b2d01b487a1d"), looks := false }, kinds := [], alts := [], laidByText := true, laidKinds := [.data], laidTests := true, laidLooks := .later }
def IdentLimitCardSaid : Prop := Claim7.holds Tryd.pinned (.plain (OpenSpec.ofChange identLimitSpec)) identLimitCard

/-- THE TIED CARD OF 'compositorlaw11.IdentNil'. -/
def identNilCard : Claim7 := { stood := { row := identNilRow, standIns := [], harness := (true, "ac76383de30b103e5546bed88413b0c82c989bb0535496d77ff1b2d01b487a1d"), looks := false }, kinds := [], alts := [], laidByText := true, laidKinds := [.data], laidTests := true, laidLooks := .later }
def IdentNilCardSaid : Prop := Claim7.holds Tryd.pinned (.plain (OpenSpec.ofChange identNilSpec)) identNilCard

/-- THE SECOND FORM's CARD OF 'compositorlaw11.IdentSteps'. -/
def identStepsUptoCard : Claim7 := { stood := { row := identStepsUptoRow, standIns := [], harness := (true, "ac76383de30b103e5546bed88413b0c82c989bb0535496d77ff1b2d01b487a1d"), looks := false }, kinds := [], alts := [], laidByText := true, laidKinds := [.data], laidTests := true, laidLooks := .later }
def IdentStepsUptoCardSaid : Prop := Claim7.holds Tryd.pinned (.plain (OpenSpec.upto identStepsSpec)) identStepsUptoCard

/-- THE SECOND FORM's CARD OF 'compositorlaw11.IdentUnique'. -/
def identUniqueUptoCard : Claim7 := { stood := { row := identUniqueUptoRow, standIns := [], harness := (true, "ac76383de30b103e5546bed88413b0c82c989bb0535496d77ff1b2d01b487a1d"), looks := false }, kinds := [], alts := [], laidByText := true, laidKinds := [.data], laidTests := true, laidLooks := .later }
def IdentUniqueUptoCardSaid : Prop := Claim7.holds Tryd.pinned (.plain (OpenSpec.upto identUniqueSpec)) identUniqueUptoCard

/-- THE SECOND FORM's CARD OF 'compositorlaw11.IdentGaps'. -/
def identGapsUptoCard : Claim7 := { stood := { row := identGapsUptoRow, standIns := [], harness := (true, "ac76383de30b103e5546bed88413b0c82c989bb0535496d77ff1b2d01b487a1d"), looks := false }, kinds := [], alts := [], laidByText := true, laidKinds := [.data], laidTests := true, laidLooks := .later }
def IdentGapsUptoCardSaid : Prop := Claim7.holds Tryd.pinned (.plain (OpenSpec.upto identGapsSpec)) identGapsUptoCard

/-- THE SECOND FORM's CARD OF 'compositorlaw11.IdentLimit'. -/
def identLimitUptoCard : Claim7 := { stood := { row := identLimitUptoRow, standIns := [], harness := (true, "ac76383de30b103e5546bed88413b0c82c989bb0535496d77ff1b2d01b487a1d"), looks := false }, kinds := [], alts := [], laidByText := true, laidKinds := [.data], laidTests := true, laidLooks := .later }
def IdentLimitUptoCardSaid : Prop := Claim7.holds Tryd.pinned (.plain (OpenSpec.upto identLimitSpec)) identLimitUptoCard

/-- THE SECOND FORM's CARD OF 'compositorlaw11.IdentNil'. -/
def identNilUptoCard : Claim7 := { stood := { row := identNilUptoRow, standIns := [], harness := (true, "ac76383de30b103e5546bed88413b0c82c989bb0535496d77ff1b2d01b487a1d"), looks := false }, kinds := [], alts := [], laidByText := true, laidKinds := [.data], laidTests := true, laidLooks := .later }
def IdentNilUptoCardSaid : Prop := Claim7.holds Tryd.pinned (.plain (OpenSpec.upto identNilSpec)) identNilUptoCard
end Rows
end Go.Proofs.YtnefcmikeeadhaaDoor
