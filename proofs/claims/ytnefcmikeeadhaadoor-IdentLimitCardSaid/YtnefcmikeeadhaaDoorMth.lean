/-
  The methods of the table that only read.
-/
import Derived.Test.YtnefcmikeeadhaaDoorTabm
import Derived.Test.YtnefcmikeeadhaaDoorIdp
import Derived.LaidEqlPtr
namespace Go.Proofs.YtnefcmikeeadhaaDoor
open Go.RowKit

theorem info55 : (Tryd.prog.info? 55).isSome = true := by kernel_rfl

theorem run_eql_none_some {P : Program} {tp te : TypeId} (a : Addr) (hp : P.underlying tp = some (.pointer te)) (w : World) :
    (binOp .eql tp (.pointer none) (.pointer (some a))).run P w = .ok (.bool false) w := by
  have h : ∀ d : Nat, (Op.equalIn (d + 1) tp (.pointer none) (.pointer (some a))).run P w = .ok false w := fun d => by
    simp [Op.equalIn, run_underlying hp]
  simp only [binOp]
  simp [Op.equal, Op.maxDepth, h 9999]

section
variable {base : Nat} {w : World} {k bl br : Nat} {V : Nat → Value} {L : Nat → List Nat} {f l g : Nat} {lv rl : List Nat}

set_option maxHeartbeats 1000000 in
theorem created_any (h : TabM base w k bl br V L f l g lv rl) : Calls Tryd.prog 27 #[.pointer (some ⟨k, 0, none⟩)] w fun e w' => e = .returned (.bool true) ∧ w = w' := by
  have c11 := h.c11
  obtain ⟨j, hj⟩ := Option.isSome_iff_exists.1 info55
  have hp : ∀ w : World, (binOp .eql 25 (.pointer (some ⟨k, 0, none⟩)) (.pointer (some ⟨k, 0, none⟩))).run Tryd.prog w = .ok (.bool true) w := fun w => run_eql_ptr_same w _ Tryd.underlying25 hj
  clear h
  go_enter Tryd.func27, Tryd.ntmps27
  go_wp2_with fail
  go_ret
  exact ⟨rfl, rfl⟩

set_option maxHeartbeats 1000000 in
theorem created_nil (w : World) : Calls Tryd.prog 27 #[.pointer none] w fun e w' => e = .returned (.bool false) ∧ w = w' := by
  go_enter Tryd.func27, Tryd.ntmps27
  go_wp2_with fail
  go_ret
  exact ⟨rfl, rfl⟩

set_option maxHeartbeats 1000000 in
theorem created_zero {w : World} {k : Nat} (h : w.cell? ⟨k, 11, none⟩ = some (.pointer none)) : Calls Tryd.prog 27 #[.pointer (some ⟨k, 0, none⟩)] w fun e w' => e = .returned (.bool false) ∧ w = w' := by
  have hp : ∀ w : World, (binOp .eql 25 (.pointer none) (.pointer (some ⟨k, 0, none⟩))).run Tryd.prog w = .ok (.bool false) w := fun w => run_eql_none_some _ Tryd.underlying25 w
  go_enter Tryd.func27, Tryd.ntmps27
  go_wp2_with fail
  go_ret
  exact ⟨rfl, rfl⟩

set_option maxHeartbeats 1000000 in
theorem full_any (h : TabM base w k bl br V L f l g lv rl) : Calls Tryd.prog 29 #[.pointer (some ⟨k, 0, none⟩)] w fun e w' => e = .returned (.bool (decide (256 ≤ lv.length))) ∧ w = w' := by
  have c3 := h.c3
  have hl := h.ml.len 3
  have e : decide (256 ≤ lv.length) = decide ((256 : Int) ≤ lv.length) := decide_eq_decide.2 (by omega)
  rw [e]
  generalize lv.length = n at *
  clear h
  go_enter Tryd.func29, Tryd.ntmps29
  go_wp2_with fail
  go_ret
  exact ⟨rfl, rfl⟩

set_option maxHeartbeats 1000000 in
theorem count_any (h : TabM base w k bl br V L f l g lv rl) : Calls Tryd.prog 13 #[.pointer (some ⟨k, 0, none⟩)] w fun e w' => e = .returned (.int .i64 (lv.length : Int)) ∧ w = w' := by
  have c3 := h.c3
  have hl := h.ml.len 3
  have C := Lib.hid (created_any h)
  generalize lv.length = n at *
  clear h
  go_enter Tryd.func13, Tryd.ntmps13
  go_wp2_with fail
  refine C.out.mono ?_
  rintro e w1 ⟨rfl, rfl⟩
  go_wp2_with fail
  go_ret
  exact ⟨rfl, rfl⟩

set_option maxHeartbeats 1000000 in
theorem live_any (h : TabM base w k bl br V L f l g lv rl) {n : Nat} (hn : n < 4294967296) : Calls Tryd.prog 15 #[.pointer (some ⟨k, 0, none⟩), .int .u32 (n : Int)] w fun e w' => e = .returned (.bool (decide (n ∈ lv))) ∧ w = w' := by
  have c3 := h.c3
  have hl := h.ml.look hn
  have C := Lib.hid (created_any h)
  generalize decide (n ∈ lv) = r at *
  clear h
  go_enter Tryd.func15, Tryd.ntmps15
  go_wp2_with fail
  refine C.out.mono ?_
  rintro e w1 ⟨rfl, rfl⟩
  go_wp2_with fail
  go_ret
  exact ⟨rfl, rfl⟩

end

end Go.Proofs.YtnefcmikeeadhaaDoor
