/-
  The arguments of the laws, opened; the tables that are laid when a call begins, and a world in which they are laid.
-/
import Derived.Test.YtnlkcdbeoeaalaaDoorExam
import Derived.Test.YtnlkcdbeoeaalaaDoorTie
import Derived.Test.YtnlkcdbeoeaalaaDoorCards
import Derived.ProofKit
import Derived.OpenShut
import Derived.LaidMore
import Derived.Lay
import Derived.SevenTiedAt
import Derived.Stop.Joined
import Derived.Stop.LaidErr
namespace Go.Proofs.YtnlkcdbeoeaalaaDoor
open Go.ChangeShapes Go.WideShapes Go.ChangeAt Go.RowKit

theorem own : ownKnob Tryd.prog.godebug = none := by kernel_rfl
theorem laidOut : laidOutB Tryd.prog = true := by kernel_rfl

/-- what the laws list as laid -/
def laidL : List (String × DataW Unit) := Rows.fixedFloorRow.laid

theorem tab_of {W : World} (h : laidMetH Tryd.prog laidL W) : Tab W := by
  rw [MakeChecks.laidMetH_plain _ _ _ (by kernel_rfl)] at h
  have h2 := h.tail.tail
  exact Lib.tabIs_of_head (t := 98) (e := 39) (n := 20) gTab (by kernel_rfl) (by kernel_rfl) (by kernel_rfl) (by kernel_rfl) (by kernel_rfl) (show laidMet Tryd.prog (("internal/strconv.uint64pow10", Lib.tabData .u64 Lib.pow10Tab) :: _) W from h2)

theorem world_met (os : Os) (args : Array Value) : laidMetH Tryd.prog laidL ((World.laidAll Tryd.prog os laidL).forCall (fun _ _ => 0) ⟨#[], args, []⟩).memory := by
  rw [MakeChecks.laidMetH_plain _ _ _ (by kernel_rfl)]
  exact laidMet_laidAll _ (by kernel_rfl) (by kernel_rfl)

theorem world_shaped (os : Os) : (World.laidAll Tryd.prog os laidL).Shaped Tryd.prog := World.shaped_of_ZipB (by kernel_rfl) (by kernel_rfl)

theorem range_i64 {m : Int} (h : (Lit.int .i64 m).wf = true) : -9223372036854775808 ≤ m ∧ m ≤ 9223372036854775807 := by
  have g1 : IntKind.i64.min = -9223372036854775808 := rfl
  have g2 : IntKind.i64.max = 9223372036854775807 := rfl
  simpa only [Lit.wf, Bool.and_eq_true, decide_eq_true_eq, g1, g2] using h

theorem range_i32 {m : Int} (h : (Lit.int .i32 m).wf = true) : -2147483648 ≤ m ∧ m ≤ 2147483647 := by
  have g1 : IntKind.i32.min = -2147483648 := rfl
  have g2 : IntKind.i32.max = 2147483647 := rfl
  simpa only [Lit.wf, Bool.and_eq_true, decide_eq_true_eq, g1, g2] using h

theorem range_i16 {m : Int} (h : (Lit.int .i16 m).wf = true) : -32768 ≤ m ∧ m ≤ 32767 := by
  have g1 : IntKind.i16.min = -32768 := rfl
  have g2 : IntKind.i16.max = 32767 := rfl
  simpa only [Lit.wf, Bool.and_eq_true, decide_eq_true_eq, g1, g2] using h

end Go.Proofs.YtnlkcdbeoeaalaaDoor
