/-
  DERIVED. GIVEN WITH THE SEED: THE CARDS: each row of YtmpkjjmgfakomaaDoorRows.lean that lists a variable, with what it lists TIED to the program's text (the seventh form; the later family's looks); each row that meets fmt, with fmt's text TOLD by the authors' own Lean function (tested against real Go, not proved from fmt's source: count such statements apart). THE CARD IS WHAT COUNTS. Prove the row's statement (the work); the ties are given (YtmpkjjmgfakomaaDoorTie.lean); close each card by the builder's one call (the guide's Derived/Test/ToyasCard.lean, 'card_holds'). Laid BY PROGRAM, IN A SANDBOX (cutbox-door.mjs). By AI agents, Wed Nov 11 2026. No macro, syntax, notation, axiom, sorry.
-/
import Derived.Test.YtmpkjjmgfakomaaDoorRows
import GoSem.ClaimSeven
namespace Go.Proofs.YtmpkjjmgfakomaaDoor
namespace Rows

/-- THE TIED CARD OF 'compositorlaw13.MessageEncodes'. -/
def messageEncodesCard : Claim7 := { stood := { row := messageEncodesRow, standIns := [], harness := (true, "efa5d4b93954bd4302b6a9d091ab2155492c676b5cbf835443a788f45c73d375"), looks := false }, kinds := [], alts := [], laidByText := true, laidKinds := [.data, .data, .data, .data], laidTests := true, laidLooks := .later }
def MessageEncodesCardSaid : Prop := Claim7.holds Tryd.pinned (.plain (OpenSpec.ofChange messageEncodesSpec)) messageEncodesCard

/-- THE TIED CARD OF 'compositorlaw13.MessageDecodes'. -/
def messageDecodesCard : Claim7 := { stood := { row := messageDecodesRow, standIns := [], harness := (true, "efa5d4b93954bd4302b6a9d091ab2155492c676b5cbf835443a788f45c73d375"), looks := false }, kinds := [], alts := [], laidByText := true, laidKinds := [.data, .data, .data, .data], laidTests := true, laidLooks := .later }
def MessageDecodesCardSaid : Prop := Claim7.holds Tryd.pinned (.plain (OpenSpec.ofChange messageDecodesSpec)) messageDecodesCard

/-- THE TIED CARD OF 'compositorlaw13.MessageTexts'. -/
def messageTextsCard : Claim7 := { stood := { row := messageTextsRow, standIns := [], harness := (true, "efa5d4b93954bd4302b6a9d091ab2155492c676b5cbf835443a788f45c73d375"), looks := false }, kinds := [], alts := [], laidByText := true, laidKinds := [.data, .data, .data, .data], laidTests := true, laidLooks := .later }
def MessageTextsCardSaid : Prop := Claim7.holds Tryd.pinned (.plain (OpenSpec.ofChange messageTextsSpec)) messageTextsCard

/-- THE TIED CARD OF 'compositorlaw13.MessageRoundTrip'. -/
def messageRoundTripCard : Claim7 := { stood := { row := messageRoundTripRow, standIns := [], harness := (true, "efa5d4b93954bd4302b6a9d091ab2155492c676b5cbf835443a788f45c73d375"), looks := false }, kinds := [], alts := [], laidByText := true, laidKinds := [.data, .data, .data, .data], laidTests := true, laidLooks := .later }
def MessageRoundTripCardSaid : Prop := Claim7.holds Tryd.pinned (.plain (OpenSpec.ofChange messageRoundTripSpec)) messageRoundTripCard

/-- THE TIED CARD OF 'compositorlaw13.MessageFrames'. -/
def messageFramesCard : Claim7 := { stood := { row := messageFramesRow, standIns := [], harness := (true, "efa5d4b93954bd4302b6a9d091ab2155492c676b5cbf835443a788f45c73d375"), looks := false }, kinds := [], alts := [], laidByText := true, laidKinds := [.data, .data, .data, .data], laidTests := true, laidLooks := .later }
def MessageFramesCardSaid : Prop := Claim7.holds Tryd.pinned (.plain (OpenSpec.ofChange messageFramesSpec)) messageFramesCard

/-- THE TIED CARD OF 'compositorlaw13.MessageDistinct'. -/
def messageDistinctCard : Claim7 := { stood := { row := messageDistinctRow, standIns := [], harness := (true, "efa5d4b93954bd4302b6a9d091ab2155492c676b5cbf835443a788f45c73d375"), looks := false }, kinds := [], alts := [], laidByText := true, laidKinds := [.data, .data, .data, .data], laidTests := true, laidLooks := .later }
def MessageDistinctCardSaid : Prop := Claim7.holds Tryd.pinned (.plain (OpenSpec.ofChange messageDistinctSpec)) messageDistinctCard

/-- THE TIED CARD OF 'compositorlaw13.MessageCuts'. -/
def messageCutsCard : Claim7 := { stood := { row := messageCutsRow, standIns := [], harness := (true, "efa5d4b93954bd4302b6a9d091ab2155492c676b5cbf835443a788f45c73d375"), looks := false }, kinds := [], alts := [], laidByText := true, laidKinds := [.data, .data, .data, .data], laidTests := true, laidLooks := .later }
def MessageCutsCardSaid : Prop := Claim7.holds Tryd.pinned (.plain (OpenSpec.ofChange messageCutsSpec)) messageCutsCard

/-- THE SECOND FORM's CARD OF 'compositorlaw13.MessageEncodes'. -/
def messageEncodesUptoCard : Claim7 := { stood := { row := messageEncodesUptoRow, standIns := [], harness := (true, "efa5d4b93954bd4302b6a9d091ab2155492c676b5cbf835443a788f45c73d375"), looks := false }, kinds := [], alts := [], laidByText := true, laidKinds := [.data, .data, .data, .data], laidTests := true, laidLooks := .later }
def MessageEncodesUptoCardSaid : Prop := Claim7.holds Tryd.pinned (.plain (OpenSpec.upto messageEncodesSpec)) messageEncodesUptoCard

/-- THE SECOND FORM's CARD OF 'compositorlaw13.MessageDecodes'. -/
def messageDecodesUptoCard : Claim7 := { stood := { row := messageDecodesUptoRow, standIns := [], harness := (true, "efa5d4b93954bd4302b6a9d091ab2155492c676b5cbf835443a788f45c73d375"), looks := false }, kinds := [], alts := [], laidByText := true, laidKinds := [.data, .data, .data, .data], laidTests := true, laidLooks := .later }
def MessageDecodesUptoCardSaid : Prop := Claim7.holds Tryd.pinned (.plain (OpenSpec.upto messageDecodesSpec)) messageDecodesUptoCard

/-- THE SECOND FORM's CARD OF 'compositorlaw13.MessageTexts'. -/
def messageTextsUptoCard : Claim7 := { stood := { row := messageTextsUptoRow, standIns := [], harness := (true, "efa5d4b93954bd4302b6a9d091ab2155492c676b5cbf835443a788f45c73d375"), looks := false }, kinds := [], alts := [], laidByText := true, laidKinds := [.data, .data, .data, .data], laidTests := true, laidLooks := .later }
def MessageTextsUptoCardSaid : Prop := Claim7.holds Tryd.pinned (.plain (OpenSpec.upto messageTextsSpec)) messageTextsUptoCard

/-- THE SECOND FORM's CARD OF 'compositorlaw13.MessageRoundTrip'. -/
def messageRoundTripUptoCard : Claim7 := { stood := { row := messageRoundTripUptoRow, standIns := [], harness := (true, "efa5d4b93954bd4302b6a9d091ab2155492c676b5cbf835443a788f45c73d375"), looks := false }, kinds := [], alts := [], laidByText := true, laidKinds := [.data, .data, .data, .data], laidTests := true, laidLooks := .later }
def MessageRoundTripUptoCardSaid : Prop := Claim7.holds Tryd.pinned (.plain (OpenSpec.upto messageRoundTripSpec)) messageRoundTripUptoCard

/-- THE SECOND FORM's CARD OF 'compositorlaw13.MessageFrames'. -/
def messageFramesUptoCard : Claim7 := { stood := { row := messageFramesUptoRow, standIns := [], harness := (true, "efa5d4b93954bd4302b6a9d091ab2155492c676b5cbf835443a788f45c73d375"), looks := false }, kinds := [], alts := [], laidByText := true, laidKinds := [.data, .data, .data, .data], laidTests := true, laidLooks := .later }
def MessageFramesUptoCardSaid : Prop := Claim7.holds Tryd.pinned (.plain (OpenSpec.upto messageFramesSpec)) messageFramesUptoCard

/-- THE SECOND FORM's CARD OF 'compositorlaw13.MessageDistinct'. -/
def messageDistinctUptoCard : Claim7 := { stood := { row := messageDistinctUptoRow, standIns := [], harness := (true, "efa5d4b93954bd4302b6a9d091ab2155492c676b5cbf835443a788f45c73d375"), looks := false }, kinds := [], alts := [], laidByText := true, laidKinds := [.data, .data, .data, .data], laidTests := true, laidLooks := .later }
def MessageDistinctUptoCardSaid : Prop := Claim7.holds Tryd.pinned (.plain (OpenSpec.upto messageDistinctSpec)) messageDistinctUptoCard

/-- THE SECOND FORM's CARD OF 'compositorlaw13.MessageCuts'. -/
def messageCutsUptoCard : Claim7 := { stood := { row := messageCutsUptoRow, standIns := [], harness := (true, "efa5d4b93954bd4302b6a9d091ab2155492c676b5cbf835443a788f45c73d375"), looks := false }, kinds := [], alts := [], laidByText := true, laidKinds := [.data, .data, .data, .data], laidTests := true, laidLooks := .later }
def MessageCutsUptoCardSaid : Prop := Claim7.holds Tryd.pinned (.plain (OpenSpec.upto messageCutsSpec)) messageCutsUptoCard
end Rows
end Go.Proofs.YtmpkjjmgfakomaaDoor
