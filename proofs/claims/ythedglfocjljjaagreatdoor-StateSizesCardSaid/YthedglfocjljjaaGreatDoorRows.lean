/-
  NARROWER THAN 'FOR EVERY INPUT', by the rows' own cells (each row's printed sentence says how): StateChecks: laid · StateMerges: laid · StateContents: laid · StateAtomicMerge: laid · StateEmptyMerge: laid · StateSizes: laid · StateClones: laid.
  DERIVED. THE GIVEN ROWS OF THIS SEAT. 7 by the template 'for every input the law returns true; each argument reads behind the call as it read before'; 0 by the template 'total and deterministic' (their statements: YthedglfocjljjaaGreatDoorTotals.lean).
  GIVEN WITH THE SEED: the statements are not yours to turn. If you find one false, say at which input.
  Laid BY PROGRAM, IN A SANDBOX (cutbox-rows.mjs): the forced cells as the released guide's own fill.sh prints them over the translation 8b3b13a6621cfbbc… (all of the seat's roots in one cut). By AI agents, Wed Nov 11 2026. No macro, syntax, notation, axiom, sorry.
-/
import Derived.Test.YthedglfocjljjaaGreatDoorChecked
import GoSem.Claim
import GoSem.ClaimJoined
import GoSem.ClaimMapViews
import Derived.JoinedTies
import Derived.KernelRfl
namespace Go.Proofs.YthedglfocjljjaaGreatDoor
/- THE CELL 'sum', in the pinned program and in every row, IS THE sha256 OF THE DUMP (.gsa) THAT YthedglfocjljjaaGreatDoorProg.lean LOADS. Nothing in Lean hashes anything: it is a label: what it is worth is what the hold of that sum in a sandbox is worth. -/
noncomputable def Tryz.pinned : Pinned := { name := "ythedglfocjljjaagreatdoor", sum := "8b3b13a6621cfbbcb61f7c061849ed3d7075da6dc1d5cd7ccc972047b6be9f67", checked := Tryz.checked }
namespace Rows
def none {H : Type} : Left H := { results := [], args := [] }

/- WHAT THE LISTED PACKAGE-LEVEL VARIABLES READ AS WHEN THE CALL BEGINS. Each datum BY PROGRAM (the guide's laid-datum.mjs) off the statement by which the dump's own 'gosem.cut.vars' lays the variable. In a bare row this is a premise. The card (YthedglfocjljjaaGreatDoorCards.lean) ties it to the program's text. -/
def laid_compositor_transform_products {H : Type} : DataW H := .agg [.agg [.lit (.int .i64 0), .lit (.int .i64 1), .lit (.int .i64 2), .lit (.int .i64 3), .lit (.int .i64 4), .lit (.int .i64 5), .lit (.int .i64 6), .lit (.int .i64 7)], .agg [.lit (.int .i64 1), .lit (.int .i64 2), .lit (.int .i64 3), .lit (.int .i64 0), .lit (.int .i64 7), .lit (.int .i64 4), .lit (.int .i64 5), .lit (.int .i64 6)], .agg [.lit (.int .i64 2), .lit (.int .i64 3), .lit (.int .i64 0), .lit (.int .i64 1), .lit (.int .i64 6), .lit (.int .i64 7), .lit (.int .i64 4), .lit (.int .i64 5)], .agg [.lit (.int .i64 3), .lit (.int .i64 0), .lit (.int .i64 1), .lit (.int .i64 2), .lit (.int .i64 5), .lit (.int .i64 6), .lit (.int .i64 7), .lit (.int .i64 4)], .agg [.lit (.int .i64 4), .lit (.int .i64 5), .lit (.int .i64 6), .lit (.int .i64 7), .lit (.int .i64 0), .lit (.int .i64 1), .lit (.int .i64 2), .lit (.int .i64 3)], .agg [.lit (.int .i64 5), .lit (.int .i64 6), .lit (.int .i64 7), .lit (.int .i64 4), .lit (.int .i64 3), .lit (.int .i64 0), .lit (.int .i64 1), .lit (.int .i64 2)], .agg [.lit (.int .i64 6), .lit (.int .i64 7), .lit (.int .i64 4), .lit (.int .i64 5), .lit (.int .i64 2), .lit (.int .i64 3), .lit (.int .i64 0), .lit (.int .i64 1)], .agg [.lit (.int .i64 7), .lit (.int .i64 4), .lit (.int .i64 5), .lit (.int .i64 6), .lit (.int .i64 1), .lit (.int .i64 2), .lit (.int .i64 3), .lit (.int .i64 0)]]

/-- 'compositorlaw16.StateChecks': WHATEVER THE INPUT: true; the input reads as it did. -/
def stateChecksSpec : ChangeSpec := { name := "stateChecks", fn := fun _ => fun
  | [d] => { results := [.lit (.bool true)], args := [d] }
  | _ => none }
def stateChecksRow : OpenClaim := { program := "ythedglfocjljjaagreatdoor", sum := "8b3b13a6621cfbbcb61f7c061849ed3d7075da6dc1d5cd7ccc972047b6be9f67", func := "compositor/compositorlaw16.StateChecks", spec := "stateChecks", unfollowed := true, recurses := true, named := ["compositor/transform.products"], apart := false, laid := [("compositor/transform.products", laid_compositor_transform_products)] }
def StateChecksSaid : Prop := stateChecksRow.holds Tryz.pinned (OpenSpec.ofChange stateChecksSpec)

/-- ITS FALSE NEIGHBOUR: 'it returns false'. Refute it at one input. -/
def stateChecksWrong : ChangeSpec := { name := "stateChecks", fn := fun _ => fun
  | [d] => { results := [.lit (.bool false)], args := [d] }
  | _ => none }
def StateChecksWrongFalsely : Prop := stateChecksRow.holds Tryz.pinned (OpenSpec.ofChange stateChecksWrong)

/-- 'compositorlaw16.StateMerges': WHATEVER THE INPUT: true; the input reads as it did. -/
def stateMergesSpec : ChangeSpec := { name := "stateMerges", fn := fun _ => fun
  | [d1, d2] => { results := [.lit (.bool true)], args := [d1, d2] }
  | _ => none }
def stateMergesRow : OpenClaim := { program := "ythedglfocjljjaagreatdoor", sum := "8b3b13a6621cfbbcb61f7c061849ed3d7075da6dc1d5cd7ccc972047b6be9f67", func := "compositor/compositorlaw16.StateMerges", spec := "stateMerges", unfollowed := true, recurses := true, named := ["compositor/transform.products"], apart := false, laid := [("compositor/transform.products", laid_compositor_transform_products)] }
def StateMergesSaid : Prop := stateMergesRow.holds Tryz.pinned (OpenSpec.ofChange stateMergesSpec)

/-- ITS FALSE NEIGHBOUR: 'it returns false'. Refute it at one input. -/
def stateMergesWrong : ChangeSpec := { name := "stateMerges", fn := fun _ => fun
  | [d1, d2] => { results := [.lit (.bool false)], args := [d1, d2] }
  | _ => none }
def StateMergesWrongFalsely : Prop := stateMergesRow.holds Tryz.pinned (OpenSpec.ofChange stateMergesWrong)

/-- 'compositorlaw16.StateContents': WHATEVER THE INPUT: true; the input reads as it did. -/
def stateContentsSpec : ChangeSpec := { name := "stateContents", fn := fun _ => fun
  | [d] => { results := [.lit (.bool true)], args := [d] }
  | _ => none }
def stateContentsRow : OpenClaim := { program := "ythedglfocjljjaagreatdoor", sum := "8b3b13a6621cfbbcb61f7c061849ed3d7075da6dc1d5cd7ccc972047b6be9f67", func := "compositor/compositorlaw16.StateContents", spec := "stateContents", unfollowed := true, recurses := true, named := ["compositor/transform.products"], apart := false, laid := [("compositor/transform.products", laid_compositor_transform_products)] }
def StateContentsSaid : Prop := stateContentsRow.holds Tryz.pinned (OpenSpec.ofChange stateContentsSpec)

/-- ITS FALSE NEIGHBOUR: 'it returns false'. Refute it at one input. -/
def stateContentsWrong : ChangeSpec := { name := "stateContents", fn := fun _ => fun
  | [d] => { results := [.lit (.bool false)], args := [d] }
  | _ => none }
def StateContentsWrongFalsely : Prop := stateContentsRow.holds Tryz.pinned (OpenSpec.ofChange stateContentsWrong)

/-- 'compositorlaw16.StateAtomicMerge': WHATEVER THE INPUT: true; the input reads as it did. -/
def stateAtomicMergeSpec : ChangeSpec := { name := "stateAtomicMerge", fn := fun _ => fun
  | [d1, d2] => { results := [.lit (.bool true)], args := [d1, d2] }
  | _ => none }
def stateAtomicMergeRow : OpenClaim := { program := "ythedglfocjljjaagreatdoor", sum := "8b3b13a6621cfbbcb61f7c061849ed3d7075da6dc1d5cd7ccc972047b6be9f67", func := "compositor/compositorlaw16.StateAtomicMerge", spec := "stateAtomicMerge", unfollowed := true, recurses := true, named := ["compositor/transform.products"], apart := false, laid := [("compositor/transform.products", laid_compositor_transform_products)] }
def StateAtomicMergeSaid : Prop := stateAtomicMergeRow.holds Tryz.pinned (OpenSpec.ofChange stateAtomicMergeSpec)

/-- ITS FALSE NEIGHBOUR: 'it returns false'. Refute it at one input. -/
def stateAtomicMergeWrong : ChangeSpec := { name := "stateAtomicMerge", fn := fun _ => fun
  | [d1, d2] => { results := [.lit (.bool false)], args := [d1, d2] }
  | _ => none }
def StateAtomicMergeWrongFalsely : Prop := stateAtomicMergeRow.holds Tryz.pinned (OpenSpec.ofChange stateAtomicMergeWrong)

/-- 'compositorlaw16.StateEmptyMerge': WHATEVER THE INPUT: true; the input reads as it did. -/
def stateEmptyMergeSpec : ChangeSpec := { name := "stateEmptyMerge", fn := fun _ => fun
  | [d1, d2] => { results := [.lit (.bool true)], args := [d1, d2] }
  | _ => none }
def stateEmptyMergeRow : OpenClaim := { program := "ythedglfocjljjaagreatdoor", sum := "8b3b13a6621cfbbcb61f7c061849ed3d7075da6dc1d5cd7ccc972047b6be9f67", func := "compositor/compositorlaw16.StateEmptyMerge", spec := "stateEmptyMerge", unfollowed := true, recurses := true, named := ["compositor/transform.products"], apart := false, laid := [("compositor/transform.products", laid_compositor_transform_products)] }
def StateEmptyMergeSaid : Prop := stateEmptyMergeRow.holds Tryz.pinned (OpenSpec.ofChange stateEmptyMergeSpec)

/-- ITS FALSE NEIGHBOUR: 'it returns false'. Refute it at one input. -/
def stateEmptyMergeWrong : ChangeSpec := { name := "stateEmptyMerge", fn := fun _ => fun
  | [d1, d2] => { results := [.lit (.bool false)], args := [d1, d2] }
  | _ => none }
def StateEmptyMergeWrongFalsely : Prop := stateEmptyMergeRow.holds Tryz.pinned (OpenSpec.ofChange stateEmptyMergeWrong)

/-- 'compositorlaw16.StateSizes': WHATEVER THE INPUT: true; the input reads as it did. -/
def stateSizesSpec : ChangeSpec := { name := "stateSizes", fn := fun _ => fun
  | [d] => { results := [.lit (.bool true)], args := [d] }
  | _ => none }
def stateSizesRow : OpenClaim := { program := "ythedglfocjljjaagreatdoor", sum := "8b3b13a6621cfbbcb61f7c061849ed3d7075da6dc1d5cd7ccc972047b6be9f67", func := "compositor/compositorlaw16.StateSizes", spec := "stateSizes", unfollowed := true, recurses := true, named := ["compositor/transform.products"], apart := false, laid := [("compositor/transform.products", laid_compositor_transform_products)] }
def StateSizesSaid : Prop := stateSizesRow.holds Tryz.pinned (OpenSpec.ofChange stateSizesSpec)

/-- ITS FALSE NEIGHBOUR: 'it returns false'. Refute it at one input. -/
def stateSizesWrong : ChangeSpec := { name := "stateSizes", fn := fun _ => fun
  | [d] => { results := [.lit (.bool false)], args := [d] }
  | _ => none }
def StateSizesWrongFalsely : Prop := stateSizesRow.holds Tryz.pinned (OpenSpec.ofChange stateSizesWrong)

/-- 'compositorlaw16.StateClones': WHATEVER THE INPUT: true; the input reads as it did. -/
def stateClonesSpec : ChangeSpec := { name := "stateClones", fn := fun _ => fun
  | [d] => { results := [.lit (.bool true)], args := [d] }
  | _ => none }
def stateClonesRow : OpenClaim := { program := "ythedglfocjljjaagreatdoor", sum := "8b3b13a6621cfbbcb61f7c061849ed3d7075da6dc1d5cd7ccc972047b6be9f67", func := "compositor/compositorlaw16.StateClones", spec := "stateClones", unfollowed := true, recurses := true, named := ["compositor/transform.products"], apart := false, laid := [("compositor/transform.products", laid_compositor_transform_products)] }
def StateClonesSaid : Prop := stateClonesRow.holds Tryz.pinned (OpenSpec.ofChange stateClonesSpec)

/-- ITS FALSE NEIGHBOUR: 'it returns false'. Refute it at one input. -/
def stateClonesWrong : ChangeSpec := { name := "stateClones", fn := fun _ => fun
  | [d] => { results := [.lit (.bool false)], args := [d] }
  | _ => none }
def StateClonesWrongFalsely : Prop := stateClonesRow.holds Tryz.pinned (OpenSpec.ofChange stateClonesWrong)

/- THE SECOND FORM. 'bulk': how many values and letters a reading holds, each counted each time it is reached (what is shared counts as often as it is met; a slice's spare places count too). A statement '..UptoSaid' is the law's where the arguments, and the package variables that the reading takes, are together of bulk at most 1048576: NARROWER than '..Said'. Prove '..Said' where nothing that the law and all that it calls make is longer than what came in: it says more and counts as full. Else prove '..UptoSaid'. A law counts once. -/
mutual
def uptoBulk {H : Type} : DataW H → Nat
  | .lit (.string bytes) => bytes.length + 1
  | .lit _ => 1
  | .nil => 1
  | .ptr d => uptoBulk d + 1
  | .slice elems spare => uptoBulkAll elems + uptoBulkAll spare + 1
  | .agg parts => uptoBulkAll parts + 1
  | .iface _ d => uptoBulk d + 1
  | .map entries => uptoBulkEntries entries + 1
  | .held _ => 1
def uptoBulkAll {H : Type} : List (DataW H) → Nat
  | [] => 0
  | d :: r => uptoBulk d + uptoBulkAll r
def uptoBulkEntries {H : Type} : List (Lit × DataW H) → Nat
  | [] => 0
  | x :: r => uptoBulkEntry x + uptoBulkEntries r
def uptoBulkEntry {H : Type} : Lit × DataW H → Nat
  | (.string bytes, d) => bytes.length + uptoBulk d + 1
  | (_, d) => uptoBulk d + 1
 end
def uptoSmall : (H : Type) → List (DataW H) → Bool := fun _ ds => decide (uptoBulkAll ds ≤ 1048576)
def OpenSpec.upto (s : _root_.Go.ChangeSpec) : _root_.Go.OpenSpec := { _root_.Go.OpenSpec.ofChange s with cond := some uptoSmall }

/-- 'compositorlaw16.StateChecks', WHERE WHAT IT READS IS OF BULK AT MOST 1048576: true; the input reads as it did. -/
def stateChecksUptoRow : OpenClaim := { program := "ythedglfocjljjaagreatdoor", sum := "8b3b13a6621cfbbcb61f7c061849ed3d7075da6dc1d5cd7ccc972047b6be9f67", func := "compositor/compositorlaw16.StateChecks", spec := "stateChecks", unfollowed := true, recurses := true, named := ["compositor/transform.products"], apart := false, laid := [("compositor/transform.products", laid_compositor_transform_products)], narrowed := true }
def StateChecksUptoSaid : Prop := stateChecksUptoRow.holds Tryz.pinned (OpenSpec.upto stateChecksSpec)

/-- 'compositorlaw16.StateMerges', WHERE WHAT IT READS IS OF BULK AT MOST 1048576: true; the input reads as it did. -/
def stateMergesUptoRow : OpenClaim := { program := "ythedglfocjljjaagreatdoor", sum := "8b3b13a6621cfbbcb61f7c061849ed3d7075da6dc1d5cd7ccc972047b6be9f67", func := "compositor/compositorlaw16.StateMerges", spec := "stateMerges", unfollowed := true, recurses := true, named := ["compositor/transform.products"], apart := false, laid := [("compositor/transform.products", laid_compositor_transform_products)], narrowed := true }
def StateMergesUptoSaid : Prop := stateMergesUptoRow.holds Tryz.pinned (OpenSpec.upto stateMergesSpec)

/-- 'compositorlaw16.StateContents', WHERE WHAT IT READS IS OF BULK AT MOST 1048576: true; the input reads as it did. -/
def stateContentsUptoRow : OpenClaim := { program := "ythedglfocjljjaagreatdoor", sum := "8b3b13a6621cfbbcb61f7c061849ed3d7075da6dc1d5cd7ccc972047b6be9f67", func := "compositor/compositorlaw16.StateContents", spec := "stateContents", unfollowed := true, recurses := true, named := ["compositor/transform.products"], apart := false, laid := [("compositor/transform.products", laid_compositor_transform_products)], narrowed := true }
def StateContentsUptoSaid : Prop := stateContentsUptoRow.holds Tryz.pinned (OpenSpec.upto stateContentsSpec)

/-- 'compositorlaw16.StateAtomicMerge', WHERE WHAT IT READS IS OF BULK AT MOST 1048576: true; the input reads as it did. -/
def stateAtomicMergeUptoRow : OpenClaim := { program := "ythedglfocjljjaagreatdoor", sum := "8b3b13a6621cfbbcb61f7c061849ed3d7075da6dc1d5cd7ccc972047b6be9f67", func := "compositor/compositorlaw16.StateAtomicMerge", spec := "stateAtomicMerge", unfollowed := true, recurses := true, named := ["compositor/transform.products"], apart := false, laid := [("compositor/transform.products", laid_compositor_transform_products)], narrowed := true }
def StateAtomicMergeUptoSaid : Prop := stateAtomicMergeUptoRow.holds Tryz.pinned (OpenSpec.upto stateAtomicMergeSpec)

/-- 'compositorlaw16.StateEmptyMerge', WHERE WHAT IT READS IS OF BULK AT MOST 1048576: true; the input reads as it did. -/
def stateEmptyMergeUptoRow : OpenClaim := { program := "ythedglfocjljjaagreatdoor", sum := "8b3b13a6621cfbbcb61f7c061849ed3d7075da6dc1d5cd7ccc972047b6be9f67", func := "compositor/compositorlaw16.StateEmptyMerge", spec := "stateEmptyMerge", unfollowed := true, recurses := true, named := ["compositor/transform.products"], apart := false, laid := [("compositor/transform.products", laid_compositor_transform_products)], narrowed := true }
def StateEmptyMergeUptoSaid : Prop := stateEmptyMergeUptoRow.holds Tryz.pinned (OpenSpec.upto stateEmptyMergeSpec)

/-- 'compositorlaw16.StateSizes', WHERE WHAT IT READS IS OF BULK AT MOST 1048576: true; the input reads as it did. -/
def stateSizesUptoRow : OpenClaim := { program := "ythedglfocjljjaagreatdoor", sum := "8b3b13a6621cfbbcb61f7c061849ed3d7075da6dc1d5cd7ccc972047b6be9f67", func := "compositor/compositorlaw16.StateSizes", spec := "stateSizes", unfollowed := true, recurses := true, named := ["compositor/transform.products"], apart := false, laid := [("compositor/transform.products", laid_compositor_transform_products)], narrowed := true }
def StateSizesUptoSaid : Prop := stateSizesUptoRow.holds Tryz.pinned (OpenSpec.upto stateSizesSpec)

/-- 'compositorlaw16.StateClones', WHERE WHAT IT READS IS OF BULK AT MOST 1048576: true; the input reads as it did. -/
def stateClonesUptoRow : OpenClaim := { program := "ythedglfocjljjaagreatdoor", sum := "8b3b13a6621cfbbcb61f7c061849ed3d7075da6dc1d5cd7ccc972047b6be9f67", func := "compositor/compositorlaw16.StateClones", spec := "stateClones", unfollowed := true, recurses := true, named := ["compositor/transform.products"], apart := false, laid := [("compositor/transform.products", laid_compositor_transform_products)], narrowed := true }
def StateClonesUptoSaid : Prop := stateClonesUptoRow.holds Tryz.pinned (OpenSpec.upto stateClonesSpec)

end Rows
end Go.Proofs.YthedglfocjljjaaGreatDoor
