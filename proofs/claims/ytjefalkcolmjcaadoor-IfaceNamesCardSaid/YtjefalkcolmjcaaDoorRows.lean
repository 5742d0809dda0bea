/-
  NARROWER THAN 'FOR EVERY INPUT', by the rows' own cells (each row's printed sentence says how): IfaceNames: laid · IfaceRequest: laid · IfaceEvent: laid · IfaceOpcode: laid · IfaceSignature: laid · IfaceKinds: laid · IfaceVersions: laid · IfaceTable: laid.
  DERIVED. THE GIVEN ROWS OF THIS SEAT. 8 by the template 'for every input the law returns true; each argument reads behind the call as it read before'; 0 by the template 'total and deterministic' (their statements: YtjefalkcolmjcaaDoorTotals.lean).
  GIVEN WITH THE SEED: the statements are not yours to turn. If you find one false, say at which input.
  Laid BY PROGRAM, IN A SANDBOX (cutbox-rows.mjs): the forced cells as the released guide's own fill.sh prints them over the translation cb8f5aea74e9f5ef… (all of the seat's roots in one cut). By AI agents, Wed Nov 11 2026. No macro, syntax, notation, axiom, sorry.
-/
import Derived.Test.YtjefalkcolmjcaaDoorChecked
import GoSem.Claim
import GoSem.ClaimJoined
import GoSem.ClaimMapViews
import Derived.JoinedTies
import Derived.KernelRfl
namespace Go.Proofs.YtjefalkcolmjcaaDoor
/- THE CELL 'sum', in the pinned program and in every row, IS THE sha256 OF THE DUMP (.gsa) THAT YtjefalkcolmjcaaDoorProg.lean LOADS. Nothing in Lean hashes anything: it is a label: what it is worth is what the hold of that sum in a sandbox is worth. -/
noncomputable def Tryd.pinned : Pinned := { name := "ytjefalkcolmjcaadoor", sum := "cb8f5aea74e9f5efa864e4e51ea043c886504a6fc088de74120f035c5e3f480d", checked := Tryd.checked }
namespace Rows
def none {H : Type} : Left H := { results := [], args := [] }

/- WHAT THE LISTED PACKAGE-LEVEL VARIABLES READ AS WHEN THE CALL BEGINS. Each datum BY PROGRAM (the guide's laid-datum.mjs) off the statement by which the dump's own 'gosem.cut.vars' lays the variable. In a bare row this is a premise. The card (YtjefalkcolmjcaaDoorCards.lean) ties it to the program's text. -/
def laid_compositor_iface_interfaces {H : Type} : DataW H := .agg [.agg [.lit (.string [100, 105, 115, 112, 108, 97, 121]), .lit (.int .i64 1)], .agg [.lit (.string [114, 101, 103, 105, 115, 116, 114, 121]), .lit (.int .i64 1)], .agg [.lit (.string [99, 97, 108, 108, 98, 97, 99, 107]), .lit (.int .i64 1)], .agg [.lit (.string [115, 104, 101, 108, 108]), .lit (.int .i64 2)], .agg [.lit (.string [98, 117, 102, 102, 101, 114]), .lit (.int .i64 1)], .agg [.lit (.string [115, 117, 114, 102, 97, 99, 101]), .lit (.int .i64 3)], .agg [.lit (.string [115, 117, 98, 115, 117, 114, 102, 97, 99, 101]), .lit (.int .i64 1)], .agg [.lit (.string [116, 111, 112, 108, 101, 118, 101, 108]), .lit (.int .i64 1)], .agg [.lit (.string [112, 111, 112, 117, 112]), .lit (.int .i64 1)], .agg [.lit (.string [115, 101, 97, 116]), .lit (.int .i64 1)], .agg [.lit (.string [112, 111, 105, 110, 116, 101, 114]), .lit (.int .i64 1)], .agg [.lit (.string [107, 101, 121, 98, 111, 97, 114, 100]), .lit (.int .i64 1)], .agg [.lit (.string [116, 111, 117, 99, 104]), .lit (.int .i64 1)], .agg [.lit (.string [111, 117, 116, 112, 117, 116]), .lit (.int .i64 1)], .agg [.lit (.string [112, 114, 101, 115, 101, 110, 116, 97, 116, 105, 111, 110]), .lit (.int .i64 1)]]
def laid_compositor_iface_kinds {H : Type} : DataW H := .agg [.lit (.int .i64 0), .lit (.int .i64 0), .lit (.int .i64 0), .lit (.int .i64 0), .lit (.int .i64 0), .lit (.int .i64 0), .lit (.int .i64 0), .lit (.int .i64 0), .lit (.int .i64 0), .lit (.int .i64 0), .lit (.int .i64 0), .lit (.int .i64 0), .lit (.int .i64 0), .lit (.int .i64 0), .lit (.int .i64 0), .lit (.int .i64 0), .lit (.int .i64 0), .lit (.int .i64 0), .lit (.int .i64 0), .lit (.int .i64 0), .lit (.int .i64 0), .lit (.int .i64 0), .lit (.int .i64 0), .lit (.int .i64 0), .lit (.int .i64 0), .lit (.int .i64 0), .lit (.int .i64 0), .lit (.int .i64 0), .lit (.int .i64 0), .lit (.int .i64 0), .lit (.int .i64 0), .lit (.int .i64 0), .lit (.int .i64 0), .lit (.int .i64 0), .lit (.int .i64 0), .lit (.int .i64 0), .lit (.int .i64 0), .lit (.int .i64 0), .lit (.int .i64 0), .lit (.int .i64 0), .lit (.int .i64 0), .lit (.int .i64 0), .lit (.int .i64 0), .lit (.int .i64 0), .lit (.int .i64 0), .lit (.int .i64 0), .lit (.int .i64 0), .lit (.int .i64 0), .lit (.int .i64 0), .lit (.int .i64 0), .lit (.int .i64 0), .lit (.int .i64 0), .lit (.int .i64 0), .lit (.int .i64 0), .lit (.int .i64 0), .lit (.int .i64 0), .lit (.int .i64 0), .lit (.int .i64 0), .lit (.int .i64 0), .lit (.int .i64 0), .lit (.int .i64 0), .lit (.int .i64 0), .lit (.int .i64 0), .lit (.int .i64 0), .lit (.int .i64 0), .lit (.int .i64 0), .lit (.int .i64 0), .lit (.int .i64 0), .lit (.int .i64 0), .lit (.int .i64 0), .lit (.int .i64 0), .lit (.int .i64 0), .lit (.int .i64 0), .lit (.int .i64 0), .lit (.int .i64 0), .lit (.int .i64 0), .lit (.int .i64 0), .lit (.int .i64 0), .lit (.int .i64 0), .lit (.int .i64 0), .lit (.int .i64 0), .lit (.int .i64 0), .lit (.int .i64 0), .lit (.int .i64 0), .lit (.int .i64 0), .lit (.int .i64 0), .lit (.int .i64 0), .lit (.int .i64 0), .lit (.int .i64 0), .lit (.int .i64 0), .lit (.int .i64 0), .lit (.int .i64 0), .lit (.int .i64 0), .lit (.int .i64 0), .lit (.int .i64 0), .lit (.int .i64 0), .lit (.int .i64 0), .lit (.int .i64 7), .lit (.int .i64 0), .lit (.int .i64 0), .lit (.int .i64 0), .lit (.int .i64 0), .lit (.int .i64 3), .lit (.int .i64 0), .lit (.int .i64 0), .lit (.int .i64 1), .lit (.int .i64 0), .lit (.int .i64 0), .lit (.int .i64 0), .lit (.int .i64 0), .lit (.int .i64 6), .lit (.int .i64 5), .lit (.int .i64 0), .lit (.int .i64 0), .lit (.int .i64 0), .lit (.int .i64 4), .lit (.int .i64 0), .lit (.int .i64 2)]

/-- 'compositorlaw12.IfaceNames': WHATEVER THE INPUT: true; the input reads as it did. -/
def ifaceNamesSpec : ChangeSpec := { name := "ifaceNames", fn := fun _ => fun
  | [d] => { results := [.lit (.bool true)], args := [d] }
  | _ => none }
def ifaceNamesRow : OpenClaim := { program := "ytjefalkcolmjcaadoor", sum := "cb8f5aea74e9f5efa864e4e51ea043c886504a6fc088de74120f035c5e3f480d", func := "compositor/compositorlaw12.IfaceNames", spec := "ifaceNames", unfollowed := true, recurses := true, named := ["compositor/iface.interfaces", "compositor/iface.kinds"], apart := false, laid := [("compositor/iface.interfaces", laid_compositor_iface_interfaces), ("compositor/iface.kinds", laid_compositor_iface_kinds)] }
def IfaceNamesSaid : Prop := ifaceNamesRow.holds Tryd.pinned (OpenSpec.ofChange ifaceNamesSpec)

/-- ITS FALSE NEIGHBOUR: 'it returns false'. Refute it at one input. -/
def ifaceNamesWrong : ChangeSpec := { name := "ifaceNames", fn := fun _ => fun
  | [d] => { results := [.lit (.bool false)], args := [d] }
  | _ => none }
def IfaceNamesWrongFalsely : Prop := ifaceNamesRow.holds Tryd.pinned (OpenSpec.ofChange ifaceNamesWrong)

/-- 'compositorlaw12.IfaceRequest': WHATEVER THE INPUT: true; the input reads as it did. -/
def ifaceRequestSpec : ChangeSpec := { name := "ifaceRequest", fn := fun _ => fun
  | [d1, d2, d3] => { results := [.lit (.bool true)], args := [d1, d2, d3] }
  | _ => none }
def ifaceRequestRow : OpenClaim := { program := "ytjefalkcolmjcaadoor", sum := "cb8f5aea74e9f5efa864e4e51ea043c886504a6fc088de74120f035c5e3f480d", func := "compositor/compositorlaw12.IfaceRequest", spec := "ifaceRequest", unfollowed := true, recurses := true, named := ["compositor/iface.interfaces", "compositor/iface.kinds"], apart := false, laid := [("compositor/iface.interfaces", laid_compositor_iface_interfaces), ("compositor/iface.kinds", laid_compositor_iface_kinds)] }
def IfaceRequestSaid : Prop := ifaceRequestRow.holds Tryd.pinned (OpenSpec.ofChange ifaceRequestSpec)

/-- ITS FALSE NEIGHBOUR: 'it returns false'. Refute it at one input. -/
def ifaceRequestWrong : ChangeSpec := { name := "ifaceRequest", fn := fun _ => fun
  | [d1, d2, d3] => { results := [.lit (.bool false)], args := [d1, d2, d3] }
  | _ => none }
def IfaceRequestWrongFalsely : Prop := ifaceRequestRow.holds Tryd.pinned (OpenSpec.ofChange ifaceRequestWrong)

/-- 'compositorlaw12.IfaceEvent': WHATEVER THE INPUT: true; the input reads as it did. -/
def ifaceEventSpec : ChangeSpec := { name := "ifaceEvent", fn := fun _ => fun
  | [d1, d2, d3] => { results := [.lit (.bool true)], args := [d1, d2, d3] }
  | _ => none }
def ifaceEventRow : OpenClaim := { program := "ytjefalkcolmjcaadoor", sum := "cb8f5aea74e9f5efa864e4e51ea043c886504a6fc088de74120f035c5e3f480d", func := "compositor/compositorlaw12.IfaceEvent", spec := "ifaceEvent", unfollowed := true, recurses := true, named := ["compositor/iface.interfaces", "compositor/iface.kinds"], apart := false, laid := [("compositor/iface.interfaces", laid_compositor_iface_interfaces), ("compositor/iface.kinds", laid_compositor_iface_kinds)] }
def IfaceEventSaid : Prop := ifaceEventRow.holds Tryd.pinned (OpenSpec.ofChange ifaceEventSpec)

/-- ITS FALSE NEIGHBOUR: 'it returns false'. Refute it at one input. -/
def ifaceEventWrong : ChangeSpec := { name := "ifaceEvent", fn := fun _ => fun
  | [d1, d2, d3] => { results := [.lit (.bool false)], args := [d1, d2, d3] }
  | _ => none }
def IfaceEventWrongFalsely : Prop := ifaceEventRow.holds Tryd.pinned (OpenSpec.ofChange ifaceEventWrong)

/-- 'compositorlaw12.IfaceOpcode': WHATEVER THE INPUT: true; the input reads as it did. -/
def ifaceOpcodeSpec : ChangeSpec := { name := "ifaceOpcode", fn := fun _ => fun
  | [d1, d2] => { results := [.lit (.bool true)], args := [d1, d2] }
  | _ => none }
def ifaceOpcodeRow : OpenClaim := { program := "ytjefalkcolmjcaadoor", sum := "cb8f5aea74e9f5efa864e4e51ea043c886504a6fc088de74120f035c5e3f480d", func := "compositor/compositorlaw12.IfaceOpcode", spec := "ifaceOpcode", unfollowed := true, recurses := true, named := ["compositor/iface.interfaces", "compositor/iface.kinds"], apart := false, laid := [("compositor/iface.interfaces", laid_compositor_iface_interfaces), ("compositor/iface.kinds", laid_compositor_iface_kinds)] }
def IfaceOpcodeSaid : Prop := ifaceOpcodeRow.holds Tryd.pinned (OpenSpec.ofChange ifaceOpcodeSpec)

/-- ITS FALSE NEIGHBOUR: 'it returns false'. Refute it at one input. -/
def ifaceOpcodeWrong : ChangeSpec := { name := "ifaceOpcode", fn := fun _ => fun
  | [d1, d2] => { results := [.lit (.bool false)], args := [d1, d2] }
  | _ => none }
def IfaceOpcodeWrongFalsely : Prop := ifaceOpcodeRow.holds Tryd.pinned (OpenSpec.ofChange ifaceOpcodeWrong)

/-- 'compositorlaw12.IfaceSignature': WHATEVER THE INPUT: true; the input reads as it did. -/
def ifaceSignatureSpec : ChangeSpec := { name := "ifaceSignature", fn := fun _ => fun
  | [d] => { results := [.lit (.bool true)], args := [d] }
  | _ => none }
def ifaceSignatureRow : OpenClaim := { program := "ytjefalkcolmjcaadoor", sum := "cb8f5aea74e9f5efa864e4e51ea043c886504a6fc088de74120f035c5e3f480d", func := "compositor/compositorlaw12.IfaceSignature", spec := "ifaceSignature", unfollowed := true, recurses := true, named := ["compositor/iface.interfaces", "compositor/iface.kinds"], apart := false, laid := [("compositor/iface.interfaces", laid_compositor_iface_interfaces), ("compositor/iface.kinds", laid_compositor_iface_kinds)] }
def IfaceSignatureSaid : Prop := ifaceSignatureRow.holds Tryd.pinned (OpenSpec.ofChange ifaceSignatureSpec)

/-- ITS FALSE NEIGHBOUR: 'it returns false'. Refute it at one input. -/
def ifaceSignatureWrong : ChangeSpec := { name := "ifaceSignature", fn := fun _ => fun
  | [d] => { results := [.lit (.bool false)], args := [d] }
  | _ => none }
def IfaceSignatureWrongFalsely : Prop := ifaceSignatureRow.holds Tryd.pinned (OpenSpec.ofChange ifaceSignatureWrong)

/-- 'compositorlaw12.IfaceKinds': WHATEVER THE INPUT: true; the input reads as it did. -/
def ifaceKindsSpec : ChangeSpec := { name := "ifaceKinds", fn := fun _ => fun
  | [d1, d2] => { results := [.lit (.bool true)], args := [d1, d2] }
  | _ => none }
def ifaceKindsRow : OpenClaim := { program := "ytjefalkcolmjcaadoor", sum := "cb8f5aea74e9f5efa864e4e51ea043c886504a6fc088de74120f035c5e3f480d", func := "compositor/compositorlaw12.IfaceKinds", spec := "ifaceKinds", unfollowed := true, recurses := true, named := ["compositor/iface.interfaces", "compositor/iface.kinds"], apart := false, laid := [("compositor/iface.interfaces", laid_compositor_iface_interfaces), ("compositor/iface.kinds", laid_compositor_iface_kinds)] }
def IfaceKindsSaid : Prop := ifaceKindsRow.holds Tryd.pinned (OpenSpec.ofChange ifaceKindsSpec)

/-- ITS FALSE NEIGHBOUR: 'it returns false'. Refute it at one input. -/
def ifaceKindsWrong : ChangeSpec := { name := "ifaceKinds", fn := fun _ => fun
  | [d1, d2] => { results := [.lit (.bool false)], args := [d1, d2] }
  | _ => none }
def IfaceKindsWrongFalsely : Prop := ifaceKindsRow.holds Tryd.pinned (OpenSpec.ofChange ifaceKindsWrong)

/-- 'compositorlaw12.IfaceVersions': WHATEVER THE INPUT: true; the input reads as it did. -/
def ifaceVersionsSpec : ChangeSpec := { name := "ifaceVersions", fn := fun _ => fun
  | [d1, d2, d3] => { results := [.lit (.bool true)], args := [d1, d2, d3] }
  | _ => none }
def ifaceVersionsRow : OpenClaim := { program := "ytjefalkcolmjcaadoor", sum := "cb8f5aea74e9f5efa864e4e51ea043c886504a6fc088de74120f035c5e3f480d", func := "compositor/compositorlaw12.IfaceVersions", spec := "ifaceVersions", unfollowed := true, recurses := true, named := ["compositor/iface.interfaces", "compositor/iface.kinds"], apart := false, laid := [("compositor/iface.interfaces", laid_compositor_iface_interfaces), ("compositor/iface.kinds", laid_compositor_iface_kinds)] }
def IfaceVersionsSaid : Prop := ifaceVersionsRow.holds Tryd.pinned (OpenSpec.ofChange ifaceVersionsSpec)

/-- ITS FALSE NEIGHBOUR: 'it returns false'. Refute it at one input. -/
def ifaceVersionsWrong : ChangeSpec := { name := "ifaceVersions", fn := fun _ => fun
  | [d1, d2, d3] => { results := [.lit (.bool false)], args := [d1, d2, d3] }
  | _ => none }
def IfaceVersionsWrongFalsely : Prop := ifaceVersionsRow.holds Tryd.pinned (OpenSpec.ofChange ifaceVersionsWrong)

/-- 'compositorlaw12.IfaceTable': WHATEVER THE INPUT: true; the input reads as it did. -/
def ifaceTableSpec : ChangeSpec := { name := "ifaceTable", fn := fun _ => fun
  | [d1, d2, d3] => { results := [.lit (.bool true)], args := [d1, d2, d3] }
  | _ => none }
def ifaceTableRow : OpenClaim := { program := "ytjefalkcolmjcaadoor", sum := "cb8f5aea74e9f5efa864e4e51ea043c886504a6fc088de74120f035c5e3f480d", func := "compositor/compositorlaw12.IfaceTable", spec := "ifaceTable", unfollowed := true, recurses := true, named := ["compositor/iface.interfaces", "compositor/iface.kinds"], apart := false, laid := [("compositor/iface.interfaces", laid_compositor_iface_interfaces), ("compositor/iface.kinds", laid_compositor_iface_kinds)] }
def IfaceTableSaid : Prop := ifaceTableRow.holds Tryd.pinned (OpenSpec.ofChange ifaceTableSpec)

/-- ITS FALSE NEIGHBOUR: 'it returns false'. Refute it at one input. -/
def ifaceTableWrong : ChangeSpec := { name := "ifaceTable", fn := fun _ => fun
  | [d1, d2, d3] => { results := [.lit (.bool false)], args := [d1, d2, d3] }
  | _ => none }
def IfaceTableWrongFalsely : Prop := ifaceTableRow.holds Tryd.pinned (OpenSpec.ofChange ifaceTableWrong)

/- THE SECOND FORM. 'bulk': how many values and letters a reading holds, each counted each time it is reached (what is shared counts as often as it is met; a slice's spare places count too). A statement '..UptoSaid' is the law's where the arguments, and the package variables that the reading takes, are together of bulk at most 1048576: NARROWER than '..Said'. Prove '..Said' where nothing that the law and all that it calls make is longer than what came in: it says more and counts as full. Else prove '..UptoSaid'. A law counts once. -/
mutual
def uptoBulk {H : Type} : DataW H → Nat
  | .lit (.string bytes) => bytes.length + 1
  | .lit _ => 1
  | .nil => 1
  | .ptr d => uptoBulk d + 1
  | .slice elems spare => uptoBulkAll elems + uptoBulkAll spare + 1
  | .agg parts => uptoBulkAll parts + 1
  | .iface _ d => uptoBulk d + 1
  | .map entries => uptoBulkEntries entries + 1
  | .held _ => 1
def uptoBulkAll {H : Type} : List (DataW H) → Nat
  | [] => 0
  | d :: r => uptoBulk d + uptoBulkAll r
def uptoBulkEntries {H : Type} : List (Lit × DataW H) → Nat
  | [] => 0
  | x :: r => uptoBulkEntry x + uptoBulkEntries r
def uptoBulkEntry {H : Type} : Lit × DataW H → Nat
  | (.string bytes, d) => bytes.length + uptoBulk d + 1
  | (_, d) => uptoBulk d + 1
 end
def uptoSmall : (H : Type) → List (DataW H) → Bool := fun _ ds => decide (uptoBulkAll ds ≤ 1048576)
def OpenSpec.upto (s : _root_.Go.ChangeSpec) : _root_.Go.OpenSpec := { _root_.Go.OpenSpec.ofChange s with cond := some uptoSmall }

/-- 'compositorlaw12.IfaceNames', WHERE WHAT IT READS IS OF BULK AT MOST 1048576: true; the input reads as it did. -/
def ifaceNamesUptoRow : OpenClaim := { program := "ytjefalkcolmjcaadoor", sum := "cb8f5aea74e9f5efa864e4e51ea043c886504a6fc088de74120f035c5e3f480d", func := "compositor/compositorlaw12.IfaceNames", spec := "ifaceNames", unfollowed := true, recurses := true, named := ["compositor/iface.interfaces", "compositor/iface.kinds"], apart := false, laid := [("compositor/iface.interfaces", laid_compositor_iface_interfaces), ("compositor/iface.kinds", laid_compositor_iface_kinds)], narrowed := true }
def IfaceNamesUptoSaid : Prop := ifaceNamesUptoRow.holds Tryd.pinned (OpenSpec.upto ifaceNamesSpec)

/-- 'compositorlaw12.IfaceRequest', WHERE WHAT IT READS IS OF BULK AT MOST 1048576: true; the input reads as it did. -/
def ifaceRequestUptoRow : OpenClaim := { program := "ytjefalkcolmjcaadoor", sum := "cb8f5aea74e9f5efa864e4e51ea043c886504a6fc088de74120f035c5e3f480d", func := "compositor/compositorlaw12.IfaceRequest", spec := "ifaceRequest", unfollowed := true, recurses := true, named := ["compositor/iface.interfaces", "compositor/iface.kinds"], apart := false, laid := [("compositor/iface.interfaces", laid_compositor_iface_interfaces), ("compositor/iface.kinds", laid_compositor_iface_kinds)], narrowed := true }
def IfaceRequestUptoSaid : Prop := ifaceRequestUptoRow.holds Tryd.pinned (OpenSpec.upto ifaceRequestSpec)

/-- 'compositorlaw12.IfaceEvent', WHERE WHAT IT READS IS OF BULK AT MOST 1048576: true; the input reads as it did. -/
def ifaceEventUptoRow : OpenClaim := { program := "ytjefalkcolmjcaadoor", sum := "cb8f5aea74e9f5efa864e4e51ea043c886504a6fc088de74120f035c5e3f480d", func := "compositor/compositorlaw12.IfaceEvent", spec := "ifaceEvent", unfollowed := true, recurses := true, named := ["compositor/iface.interfaces", "compositor/iface.kinds"], apart := false, laid := [("compositor/iface.interfaces", laid_compositor_iface_interfaces), ("compositor/iface.kinds", laid_compositor_iface_kinds)], narrowed := true }
def IfaceEventUptoSaid : Prop := ifaceEventUptoRow.holds Tryd.pinned (OpenSpec.upto ifaceEventSpec)

/-- 'compositorlaw12.IfaceOpcode', WHERE WHAT IT READS IS OF BULK AT MOST 1048576: true; the input reads as it did. -/
def ifaceOpcodeUptoRow : OpenClaim := { program := "ytjefalkcolmjcaadoor", sum := "cb8f5aea74e9f5efa864e4e51ea043c886504a6fc088de74120f035c5e3f480d", func := "compositor/compositorlaw12.IfaceOpcode", spec := "ifaceOpcode", unfollowed := true, recurses := true, named := ["compositor/iface.interfaces", "compositor/iface.kinds"], apart := false, laid := [("compositor/iface.interfaces", laid_compositor_iface_interfaces), ("compositor/iface.kinds", laid_compositor_iface_kinds)], narrowed := true }
def IfaceOpcodeUptoSaid : Prop := ifaceOpcodeUptoRow.holds Tryd.pinned (OpenSpec.upto ifaceOpcodeSpec)

/-- 'compositorlaw12.IfaceSignature', WHERE WHAT IT READS IS OF BULK AT MOST 1048576: true; the input reads as it did. -/
def ifaceSignatureUptoRow : OpenClaim := { program := "ytjefalkcolmjcaadoor", sum := "cb8f5aea74e9f5efa864e4e51ea043c886504a6fc088de74120f035c5e3f480d", func := "compositor/compositorlaw12.IfaceSignature", spec := "ifaceSignature", unfollowed := true, recurses := true, named := ["compositor/iface.interfaces", "compositor/iface.kinds"], apart := false, laid := [("compositor/iface.interfaces", laid_compositor_iface_interfaces), ("compositor/iface.kinds", laid_compositor_iface_kinds)], narrowed := true }
def IfaceSignatureUptoSaid : Prop := ifaceSignatureUptoRow.holds Tryd.pinned (OpenSpec.upto ifaceSignatureSpec)

/-- 'compositorlaw12.IfaceKinds', WHERE WHAT IT READS IS OF BULK AT MOST 1048576: true; the input reads as it did. -/
def ifaceKindsUptoRow : OpenClaim := { program := "ytjefalkcolmjcaadoor", sum := "cb8f5aea74e9f5efa864e4e51ea043c886504a6fc088de74120f035c5e3f480d", func := "compositor/compositorlaw12.IfaceKinds", spec := "ifaceKinds", unfollowed := true, recurses := true, named := ["compositor/iface.interfaces", "compositor/iface.kinds"], apart := false, laid := [("compositor/iface.interfaces", laid_compositor_iface_interfaces), ("compositor/iface.kinds", laid_compositor_iface_kinds)], narrowed := true }
def IfaceKindsUptoSaid : Prop := ifaceKindsUptoRow.holds Tryd.pinned (OpenSpec.upto ifaceKindsSpec)

/-- 'compositorlaw12.IfaceVersions', WHERE WHAT IT READS IS OF BULK AT MOST 1048576: true; the input reads as it did. -/
def ifaceVersionsUptoRow : OpenClaim := { program := "ytjefalkcolmjcaadoor", sum := "cb8f5aea74e9f5efa864e4e51ea043c886504a6fc088de74120f035c5e3f480d", func := "compositor/compositorlaw12.IfaceVersions", spec := "ifaceVersions", unfollowed := true, recurses := true, named := ["compositor/iface.interfaces", "compositor/iface.kinds"], apart := false, laid := [("compositor/iface.interfaces", laid_compositor_iface_interfaces), ("compositor/iface.kinds", laid_compositor_iface_kinds)], narrowed := true }
def IfaceVersionsUptoSaid : Prop := ifaceVersionsUptoRow.holds Tryd.pinned (OpenSpec.upto ifaceVersionsSpec)

/-- 'compositorlaw12.IfaceTable', WHERE WHAT IT READS IS OF BULK AT MOST 1048576: true; the input reads as it did. -/
def ifaceTableUptoRow : OpenClaim := { program := "ytjefalkcolmjcaadoor", sum := "cb8f5aea74e9f5efa864e4e51ea043c886504a6fc088de74120f035c5e3f480d", func := "compositor/compositorlaw12.IfaceTable", spec := "ifaceTable", unfollowed := true, recurses := true, named := ["compositor/iface.interfaces", "compositor/iface.kinds"], apart := false, laid := [("compositor/iface.interfaces", laid_compositor_iface_interfaces), ("compositor/iface.kinds", laid_compositor_iface_kinds)], narrowed := true }
def IfaceTableUptoSaid : Prop := ifaceTableUptoRow.holds Tryd.pinned (OpenSpec.upto ifaceTableSpec)

end Rows
end Go.Proofs.YtjefalkcolmjcaaDoor
