/-
  The variables that are laid when a call begins, and a world in which they are laid.
-/
import Derived.Test.YtmpkjjmgfakomaaDoorPex
import Derived.Test.YtmpkjjmgfakomaaDoorMop
import Derived.Test.YtmpkjjmgfakomaaDoorTie
import Derived.Test.YtmpkjjmgfakomaaDoorCards
import Derived.Lib.LaidTab
import Derived.ProofKit
import Derived.OpenShut
import Derived.LaidMore
import Derived.Lay
import Derived.SevenTiedAt
import Derived.Stop.Joined
import Derived.Stop.LaidErr
namespace Go.Proofs.YtmpkjjmgfakomaaDoor
open Go.ChangeShapes Go.WideShapes Go.ChangeAt Go.RowKit

set_option maxRecDepth 100000 in
theorem own : ownKnob Tryd.prog.godebug = none := by kernel_rfl
set_option maxRecDepth 100000 in
theorem laidOut : laidOutB Tryd.prog = true := by kernel_rfl

/-- what the laws list as laid -/
def laidL : List (String × DataW Unit) := Rows.messageEncodesRow.laid

theorem dat_pow : (Rows.laid_internal_strconv_uint64pow10 : DataW Unit) = Lib.tabData .u64 Lib.pow10Tab := by kernel_rfl
theorem dat_knd : (Rows.laid_compositor_iface_kinds : DataW Unit) = Lib.tabData .i64 ((List.range 118).map fun c => (kindN c : Int)) := by kernel_rfl
set_option maxRecDepth 100000 in
theorem gKnd : Tryd.prog.globalNamed "compositor/iface.kinds" = some 0 := by kernel_rfl
theorem heap_of {P : Program} {W : World} {n : String} {g : Nat} {cs : Array Value} (hg : P.globalNamed n = some g) (h : W.var? P n = some cs) : ∃ t fr, W.heap[g]? = some (.cells cs t fr) := by
  simp only [World.var?, hg, Option.bind_some] at h
  split at h
  · rename_i cs' t fr hh
    simp only [Option.some.injEq] at h
    subst h
    exact ⟨t, fr, hh⟩
  · cases h

set_option maxRecDepth 100000 in
theorem pt_of {W : World} (h : laidMetH Tryd.prog laidL W) : PT W := by
  rw [MakeChecks.laidMetH_plain _ _ _ (by kernel_rfl)] at h
  have h1 : laidMet Tryd.prog [("math/bits.deBruijn32tab", Rows.laid_math_bits_deBruijn32tab), ("math/bits.deBruijn64tab", Rows.laid_math_bits_deBruijn64tab), ("internal/strconv.uint64pow10", Rows.laid_internal_strconv_uint64pow10), ("compositor/iface.kinds", Rows.laid_compositor_iface_kinds)] W := h
  have h2 := h1.tail.tail
  have h3 := h2.tail
  rw [dat_pow] at h2
  rw [dat_knd] at h3
  refine ⟨?_, Lib.tabIs_of_head (t := 139) (e := 67) (n := 20) gTbp (by kernel_rfl) (by kernel_rfl) (by kernel_rfl) (by kernel_rfl) (by kernel_rfl) h2⟩
  have hT := Lib.tabIs_of_head (t := 115) (e := 3) (n := 118) gKnd (by kernel_rfl) (by kernel_rfl) (by kernel_rfl) (by kernel_rfl) (by kernel_rfl) h3
  obtain ⟨t, fr, hk⟩ := heap_of gKnd hT
  refine ⟨⟨t, fr, ?_⟩⟩
  rw [hk, List.map_map]
  rfl

set_option maxRecDepth 100000 in
theorem world_met (os : Os) (args : Array Value) : laidMetH Tryd.prog laidL ((World.laidAll Tryd.prog os laidL).forCall (fun _ _ => 0) ⟨#[], args, []⟩).memory := by
  rw [MakeChecks.laidMetH_plain _ _ _ (by kernel_rfl)]
  exact laidMet_laidAll _ (by kernel_rfl) (by kernel_rfl)

set_option maxRecDepth 100000 in
theorem world_shaped (os : Os) : (World.laidAll Tryd.prog os laidL).Shaped Tryd.prog := World.shaped_of_ZipB (by kernel_rfl) (by kernel_rfl)

theorem range_i64 {m : Int} (h : (Lit.int .i64 m).wf = true) : -9223372036854775808 ≤ m ∧ m ≤ 9223372036854775807 := by
  have g1 : IntKind.i64.min = -9223372036854775808 := rfl
  have g2 : IntKind.i64.max = 9223372036854775807 := rfl
  simpa only [Lit.wf, Bool.and_eq_true, decide_eq_true_eq, g1, g2] using h

end Go.Proofs.YtmpkjjmgfakomaaDoor
