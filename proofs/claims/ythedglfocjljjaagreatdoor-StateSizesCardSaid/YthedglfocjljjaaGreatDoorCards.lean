/-
  DERIVED. GIVEN WITH THE SEED: THE CARDS: each row of YthedglfocjljjaaGreatDoorRows.lean that lists a variable, with what it lists TIED to the program's text (the seventh form; the later family's looks); each row that meets fmt, with fmt's text TOLD by the authors' own Lean function (tested against real Go, not proved from fmt's source: count such statements apart). THE CARD IS WHAT COUNTS. Prove the row's statement (the work); the ties are given (YthedglfocjljjaaGreatDoorTie.lean); close each card by the builder's one call (the guide's Derived/Test/ToyasCard.lean, 'card_holds'). Laid BY PROGRAM, IN A SANDBOX (cutbox-door.mjs). By AI agents, Wed Nov 11 2026. No macro, syntax, notation, axiom, sorry.
-/
import Derived.Test.YthedglfocjljjaaGreatDoorRows
import GoSem.ClaimSeven
namespace Go.Proofs.YthedglfocjljjaaGreatDoor
namespace Rows

/-- THE TIED CARD OF 'compositorlaw16.StateChecks'. -/
def stateChecksCard : Claim7 := { stood := { row := stateChecksRow, standIns := [], harness := (true, "f353971e8698d2c2c7cf310048c43058baa571d89d823f0d6d16324aeafcb0af"), looks := false }, kinds := [], alts := [], laidByText := true, laidKinds := [.data], laidTests := true, laidLooks := .later }
def StateChecksCardSaid : Prop := Claim7.holds Tryz.pinned (.plain (OpenSpec.ofChange stateChecksSpec)) stateChecksCard

/-- THE TIED CARD OF 'compositorlaw16.StateMerges'. -/
def stateMergesCard : Claim7 := { stood := { row := stateMergesRow, standIns := [], harness := (true, "f353971e8698d2c2c7cf310048c43058baa571d89d823f0d6d16324aeafcb0af"), looks := false }, kinds := [], alts := [], laidByText := true, laidKinds := [.data], laidTests := true, laidLooks := .later }
def StateMergesCardSaid : Prop := Claim7.holds Tryz.pinned (.plain (OpenSpec.ofChange stateMergesSpec)) stateMergesCard

/-- THE TIED CARD OF 'compositorlaw16.StateContents'. -/
def stateContentsCard : Claim7 := { stood := { row := stateContentsRow, standIns := [], harness := (true, "f353971e8698d2c2c7cf310048c43058baa571d89d823f0d6d16324aeafcb0af"), looks := false }, kinds := [], alts := [], laidByText := true, laidKinds := [.data], laidTests := true, laidLooks := .later }
def StateContentsCardSaid : Prop := Claim7.holds Tryz.pinned (.plain (OpenSpec.ofChange stateContentsSpec)) stateContentsCard

/-- THE TIED CARD OF 'compositorlaw16.StateAtomicMerge'. -/
def stateAtomicMergeCard : Claim7 := { stood := { row := stateAtomicMergeRow, standIns := [], harness := (true, "f353971e8698d2c2c7cf310048c43058baa571d89d823f0d6d16324aeafcb0af"), looks := false }, kinds := [], alts := [], laidByText := true, laidKinds := [.data], laidTests := true, laidLooks := .later }
def StateAtomicMergeCardSaid : Prop := Claim7.holds Tryz.pinned (.plain (OpenSpec.ofChange stateAtomicMergeSpec)) stateAtomicMergeCard

/-- THE TIED CARD OF 'compositorlaw16.StateEmptyMerge'. -/
def stateEmptyMergeCard : Claim7 := { stood := { row := stateEmptyMergeRow, standIns := [], harness := (true, "f353971e8698d2c2c7cf310048c43058baa571d89d823f0d6d16324aeafcb0af"), looks := false }, kinds := [], alts := [], laidByText := true, laidKinds := [.data], laidTests := true, laidLooks := .later }
def StateEmptyMergeCardSaid : Prop := Claim7.holds Tryz.pinned (.plain (OpenSpec.ofChange stateEmptyMergeSpec)) stateEmptyMergeCard

/-- THE TIED CARD OF 'compositorlaw16.StateSizes'. -/
def stateSizesCard : Claim7 := { stood := { row := stateSizesRow, standIns := [], harness := (true, "f353971e8698d2c2c7cf310048c43058baa571d89d823f0d6d16324aeafcb0af"), looks := false }, kinds := [], alts := [], laidByText := true, laidKinds := [.data], laidTests := true, laidLooks := .later }
def StateSizesCardSaid : Prop := Claim7.holds Tryz.pinned (.plain (OpenSpec.ofChange stateSizesSpec)) stateSizesCard

/-- THE TIED CARD OF 'compositorlaw16.StateClones'. -/
def stateClonesCard : Claim7 := { stood := { row := stateClonesRow, standIns := [], harness := (true, "f353971e8698d2c2c7cf310048c43058baa571d89d823f0d6d16324aeafcb0af"), looks := false }, kinds := [], alts := [], laidByText := true, laidKinds := [.data], laidTests := true, laidLooks := .later }
def StateClonesCardSaid : Prop := Claim7.holds Tryz.pinned (.plain (OpenSpec.ofChange stateClonesSpec)) stateClonesCard

/-- THE SECOND FORM's CARD OF 'compositorlaw16.StateChecks'. -/
def stateChecksUptoCard : Claim7 := { stood := { row := stateChecksUptoRow, standIns := [], harness := (true, "f353971e8698d2c2c7cf310048c43058baa571d89d823f0d6d16324aeafcb0af"), looks := false }, kinds := [], alts := [], laidByText := true, laidKinds := [.data], laidTests := true, laidLooks := .later }
def StateChecksUptoCardSaid : Prop := Claim7.holds Tryz.pinned (.plain (OpenSpec.upto stateChecksSpec)) stateChecksUptoCard

/-- THE SECOND FORM's CARD OF 'compositorlaw16.StateMerges'. -/
def stateMergesUptoCard : Claim7 := { stood := { row := stateMergesUptoRow, standIns := [], harness := (true, "f353971e8698d2c2c7cf310048c43058baa571d89d823f0d6d16324aeafcb0af"), looks := false }, kinds := [], alts := [], laidByText := true, laidKinds := [.data], laidTests := true, laidLooks := .later }
def StateMergesUptoCardSaid : Prop := Claim7.holds Tryz.pinned (.plain (OpenSpec.upto stateMergesSpec)) stateMergesUptoCard

/-- THE SECOND FORM's CARD OF 'compositorlaw16.StateContents'. -/
def stateContentsUptoCard : Claim7 := { stood := { row := stateContentsUptoRow, standIns := [], harness := (true, "f353971e8698d2c2c7cf310048c43058baa571d89d823f0d6d16324aeafcb0af"), looks := false }, kinds := [], alts := [], laidByText := true, laidKinds := [.data], laidTests := true, laidLooks := .later }
def StateContentsUptoCardSaid : Prop := Claim7.holds Tryz.pinned (.plain (OpenSpec.upto stateContentsSpec)) stateContentsUptoCard

/-- THE SECOND FORM's CARD OF 'compositorlaw16.StateAtomicMerge'. -/
def stateAtomicMergeUptoCard : Claim7 := { stood := { row := stateAtomicMergeUptoRow, standIns := [], harness := (true, "f353971e8698d2c2c7cf310048c43058baa571d89d823f0d6d16324aeafcb0af"), looks := false }, kinds := [], alts := [], laidByText := true, laidKinds := [.data], laidTests := true, laidLooks := .later }
def StateAtomicMergeUptoCardSaid : Prop := Claim7.holds Tryz.pinned (.plain (OpenSpec.upto stateAtomicMergeSpec)) stateAtomicMergeUptoCard

/-- THE SECOND FORM's CARD OF 'compositorlaw16.StateEmptyMerge'. -/
def stateEmptyMergeUptoCard : Claim7 := { stood := { row := stateEmptyMergeUptoRow, standIns := [], harness := (true, "f353971e8698d2c2c7cf310048c43058baa571d89d823f0d6d16324aeafcb0af"), looks := false }, kinds := [], alts := [], laidByText := true, laidKinds := [.data], laidTests := true, laidLooks := .later }
def StateEmptyMergeUptoCardSaid : Prop := Claim7.holds Tryz.pinned (.plain (OpenSpec.upto stateEmptyMergeSpec)) stateEmptyMergeUptoCard

/-- THE SECOND FORM's CARD OF 'compositorlaw16.StateSizes'. -/
def stateSizesUptoCard : Claim7 := { stood := { row := stateSizesUptoRow, standIns := [], harness := (true, "f353971e8698d2c2c7cf310048c43058baa571d89d823f0d6d16324aeafcb0af"), looks := false }, kinds := [], alts := [], laidByText := true, laidKinds := [.data], laidTests := true, laidLooks := .later }
def StateSizesUptoCardSaid : Prop := Claim7.holds Tryz.pinned (.plain (OpenSpec.upto stateSizesSpec)) stateSizesUptoCard

/-- THE SECOND FORM's CARD OF 'compositorlaw16.StateClones'. -/
def stateClonesUptoCard : Claim7 := { stood := { row := stateClonesUptoRow, standIns := [], harness := (true, "f353971e8698d2c2c7cf310048c43058baa571d89d823f0d6d16324aeafcb0af"), looks := false }, kinds := [], alts := [], laidByText := true, laidKinds := [.data], laidTests := true, laidLooks := .later }
def StateClonesUptoCardSaid : Prop := Claim7.holds Tryz.pinned (.plain (OpenSpec.upto stateClonesSpec)) stateClonesUptoCard
end Rows
end Go.Proofs.YthedglfocjljjaaGreatDoor
