/-
  DERIVED. GIVEN WITH THE SEED: THE CARDS: each row of YtcecicmihdcjgaaDoorRows.lean that lists a variable, with what it lists TIED to the program's text (the seventh form; the later family's looks); each row that meets fmt, with fmt's text TOLD by the authors' own Lean function (tested against real Go, not proved from fmt's source: count such statements apart). THE CARD IS WHAT COUNTS. Prove the row's statement (the work); the ties are given (YtcecicmihdcjgaaDoorTie.lean); close each card by the builder's one call (the guide's Derived/Test/ToyasCard.lean, 'card_holds'). Laid BY PROGRAM, IN A SANDBOX (cutbox-door.mjs). By AI agents, Wed Nov 11 2026. No macro, syntax, notation, axiom, sorry.
-/
import Derived.Test.YtcecicmihdcjgaaDoorRows
import GoSem.ClaimSeven
namespace Go.Proofs.YtcecicmihdcjgaaDoor
namespace Rows

/-- THE TIED CARD OF 'compositorlaw14.RegistrySteps'. -/
def registryStepsCard : Claim7 := { stood := { row := registryStepsRow, standIns := [], harness := (true, "006097c0977f5d1a892dcd179165a848ae5261074ffeb8ead687a0f84ab4d312"), looks := false }, kinds := [], alts := [], laidByText := true, laidKinds := [.data], laidTests := true, laidLooks := .later }
def RegistryStepsCardSaid : Prop := Claim7.holds Tryd.pinned (.plain (OpenSpec.ofChange registryStepsSpec)) registryStepsCard

/-- THE TIED CARD OF 'compositorlaw14.RegistryNames'. -/
def registryNamesCard : Claim7 := { stood := { row := registryNamesRow, standIns := [], harness := (true, "006097c0977f5d1a892dcd179165a848ae5261074ffeb8ead687a0f84ab4d312"), looks := false }, kinds := [], alts := [], laidByText := true, laidKinds := [.data], laidTests := true, laidLooks := .later }
def RegistryNamesCardSaid : Prop := Claim7.holds Tryd.pinned (.plain (OpenSpec.ofChange registryNamesSpec)) registryNamesCard

/-- THE TIED CARD OF 'compositorlaw14.RegistryRemoval'. -/
def registryRemovalCard : Claim7 := { stood := { row := registryRemovalRow, standIns := [], harness := (true, "006097c0977f5d1a892dcd179165a848ae5261074ffeb8ead687a0f84ab4d312"), looks := false }, kinds := [], alts := [], laidByText := true, laidKinds := [.data], laidTests := true, laidLooks := .later }
def RegistryRemovalCardSaid : Prop := Claim7.holds Tryd.pinned (.plain (OpenSpec.ofChange registryRemovalSpec)) registryRemovalCard

/-- THE TIED CARD OF 'compositorlaw14.RegistryBind'. -/
def registryBindCard : Claim7 := { stood := { row := registryBindRow, standIns := [], harness := (true, "006097c0977f5d1a892dcd179165a848ae5261074ffeb8ead687a0f84ab4d312"), looks := false }, kinds := [], alts := [], laidByText := true, laidKinds := [.data], laidTests := true, laidLooks := .later }
def RegistryBindCardSaid : Prop := Claim7.holds Tryd.pinned (.plain (OpenSpec.ofChange registryBindSpec)) registryBindCard

/-- THE TIED CARD OF 'compositorlaw14.RegistryLimit'. -/
def registryLimitCard : Claim7 := { stood := { row := registryLimitRow, standIns := [], harness := (true, "006097c0977f5d1a892dcd179165a848ae5261074ffeb8ead687a0f84ab4d312"), looks := false }, kinds := [], alts := [], laidByText := true, laidKinds := [.data], laidTests := true, laidLooks := .later }
def RegistryLimitCardSaid : Prop := Claim7.holds Tryd.pinned (.plain (OpenSpec.ofChange registryLimitSpec)) registryLimitCard

/-- THE TIED CARD OF 'compositorlaw14.RegistryNil'. -/
def registryNilCard : Claim7 := { stood := { row := registryNilRow, standIns := [], harness := (true, "006097c0977f5d1a892dcd179165a848ae5261074ffeb8ead687a0f84ab4d312"), looks := false }, kinds := [], alts := [], laidByText := true, laidKinds := [.data], laidTests := true, laidLooks := .later }
def RegistryNilCardSaid : Prop := Claim7.holds Tryd.pinned (.plain (OpenSpec.ofChange registryNilSpec)) registryNilCard

/-- THE SECOND FORM's CARD OF 'compositorlaw14.RegistrySteps'. -/
def registryStepsUptoCard : Claim7 := { stood := { row := registryStepsUptoRow, standIns := [], harness := (true, "006097c0977f5d1a892dcd179165a848ae5261074ffeb8ead687a0f84ab4d312"), looks := false }, kinds := [], alts := [], laidByText := true, laidKinds := [.data], laidTests := true, laidLooks := .later }
def RegistryStepsUptoCardSaid : Prop := Claim7.holds Tryd.pinned (.plain (OpenSpec.upto registryStepsSpec)) registryStepsUptoCard

/-- THE SECOND FORM's CARD OF 'compositorlaw14.RegistryNames'. -/
def registryNamesUptoCard : Claim7 := { stood := { row := registryNamesUptoRow, standIns := [], harness := (true, "006097c0977f5d1a892dcd179165a848ae5261074ffeb8ead687a0f84ab4d312"), looks := false }, kinds := [], alts := [], laidByText := true, laidKinds := [.data], laidTests := true, laidLooks := .later }
def RegistryNamesUptoCardSaid : Prop := Claim7.holds Tryd.pinned (.plain (OpenSpec.upto registryNamesSpec)) registryNamesUptoCard

/-- THE SECOND FORM's CARD OF 'compositorlaw14.RegistryRemoval'. -/
def registryRemovalUptoCard : Claim7 := { stood := { row := registryRemovalUptoRow, standIns := [], harness := (true, "006097c0977f5d1a892dcd179165a848ae5261074ffeb8ead687a0f84ab4d312"), looks := false }, kinds := [], alts := [], laidByText := true, laidKinds := [.data], laidTests := true, laidLooks := .later }
def RegistryRemovalUptoCardSaid : Prop := Claim7.holds Tryd.pinned (.plain (OpenSpec.upto registryRemovalSpec)) registryRemovalUptoCard

/-- THE SECOND FORM's CARD OF 'compositorlaw14.RegistryBind'. -/
def registryBindUptoCard : Claim7 := { stood := { row := registryBindUptoRow, standIns := [], harness := (true, "006097c0977f5d1a892dcd179165a848ae5261074ffeb8ead687a0f84ab4d312"), looks := false }, kinds := [], alts := [], laidByText := true, laidKinds := [.data], laidTests := true, laidLooks := .later }
def RegistryBindUptoCardSaid : Prop := Claim7.holds Tryd.pinned (.plain (OpenSpec.upto registryBindSpec)) registryBindUptoCard

/-- THE SECOND FORM's CARD OF 'compositorlaw14.RegistryLimit'. -/
def registryLimitUptoCard : Claim7 := { stood := { row := registryLimitUptoRow, standIns := [], harness := (true, "006097c0977f5d1a892dcd179165a848ae5261074ffeb8ead687a0f84ab4d312"), looks := false }, kinds := [], alts := [], laidByText := true, laidKinds := [.data], laidTests := true, laidLooks := .later }
def RegistryLimitUptoCardSaid : Prop := Claim7.holds Tryd.pinned (.plain (OpenSpec.upto registryLimitSpec)) registryLimitUptoCard

/-- THE SECOND FORM's CARD OF 'compositorlaw14.RegistryNil'. -/
def registryNilUptoCard : Claim7 := { stood := { row := registryNilUptoRow, standIns := [], harness := (true, "006097c0977f5d1a892dcd179165a848ae5261074ffeb8ead687a0f84ab4d312"), looks := false }, kinds := [], alts := [], laidByText := true, laidKinds := [.data], laidTests := true, laidLooks := .later }
def RegistryNilUptoCardSaid : Prop := Claim7.holds Tryd.pinned (.plain (OpenSpec.upto registryNilSpec)) registryNilUptoCard
end Rows
end Go.Proofs.YtcecicmihdcjgaaDoor
