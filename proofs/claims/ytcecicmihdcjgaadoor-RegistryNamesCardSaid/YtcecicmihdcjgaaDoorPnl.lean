/-
  Package registry: its methods at nil and at a zero Registry; the contracts that the laws ask for.
-/
import Derived.Test.YtcecicmihdcjgaaDoorPrv
import Derived.Test.YtcecicmihdcjgaaDoorWni
namespace Go.Proofs.YtcecicmihdcjgaaDoor
open Go.RowKit

theorem p_created_zr {W : World} {v : Value} (h : Zr zReg W v) : Calls Tryd.prog 27 #[v] W fun e w' => e = .returned (.bool false) ∧ W = w' := by
  rcases h with rfl | ⟨k, rfl, _, hc⟩
  · exact p_created_nil W
  · exact p_created_zero (hc 4 _ rfl)

set_option maxRecDepth 100000 in
theorem z_add_any {W : World} {v : Value} (h : Zr zReg W v) (s : ByteArray) (x : Int) : Calls Tryd.prog 12 #[v, .string s, .int .i64 x] W fun e w' => e = .returned (.tuple #[.int .u32 0, .int .i64 1]) ∧ Below W.heap.size W w' := by
  have C := Lib.hid (p_created_zr h)
  clear h
  go_enter Tryd.func12, Tryd.ntmps12
  go_wp2_with fail
  refine C.out.mono ?_
  rintro e w1 ⟨rfl, rfl⟩
  clear C
  go_wp2_with fail
  exact bodyPost_ret (v := .tuple #[.int .u32 0, .int .i64 1]) (by simp [results, Tryd.results12, go_sem]) rfl ⟨rfl, Below.refl _ _⟩

set_option maxRecDepth 100000 in
theorem z_rem_any {W : World} {v : Value} (h : Zr zReg W v) (q : Nat) : Calls Tryd.prog 14 #[v, .int .u32 (q : Int)] W fun e w' => e = .returned (.int .i64 1) ∧ Below W.heap.size W w' := by
  have C := Lib.hid (p_created_zr h)
  clear h
  go_enter Tryd.func14, Tryd.ntmps14
  go_wp2_with fail
  refine C.out.mono ?_
  rintro e w1 ⟨rfl, rfl⟩
  clear C
  go_wp2_with fail
  go_ret
  exact ⟨rfl, Below.refl _ _⟩

set_option maxRecDepth 100000 in
theorem z_bind_any {W : World} {v : Value} (h : Zr zReg W v) (q : Nat) (s : ByteArray) (x : Int) : Calls Tryd.prog 16 #[v, .int .u32 (q : Int), .string s, .int .i64 x] W fun e w' => e = .returned (.int .i64 1) ∧ Below W.heap.size W w' := by
  have C := Lib.hid (p_created_zr h)
  clear h
  go_enter Tryd.func16, Tryd.ntmps16
  go_wp2_with fail
  refine C.out.mono ?_
  rintro e w1 ⟨rfl, rfl⟩
  clear C
  go_wp2_with fail
  go_ret
  exact ⟨rfl, Below.refl _ _⟩

set_option maxRecDepth 100000 in
theorem z_list_any {W : World} {v : Value} (h : Zr zReg W v)  : Calls Tryd.prog 19 #[v] W fun e w' => ∃ A c, e = .returned (.slice A 0 c) ∧ Below W.heap.size W w' := by
  have C := Lib.hid (p_created_zr h)
  clear h
  go_enter Tryd.func19, Tryd.ntmps19
  go_wp2_with fail
  refine C.out.mono ?_
  rintro e w1 ⟨rfl, rfl⟩
  clear C
  go_wp2_with fail
  go_ret
  exact ⟨_, _, rfl, Below.refl _ _⟩

set_option maxRecDepth 100000 in
theorem z_log_any {W : World} {v : Value} (h : Zr zReg W v)  : Calls Tryd.prog 21 #[v] W fun e w' => ∃ A c, e = .returned (.slice A 0 c) ∧ Below W.heap.size W w' := by
  have C := Lib.hid (p_created_zr h)
  clear h
  go_enter Tryd.func21, Tryd.ntmps21
  go_wp2_with fail
  refine C.out.mono ?_
  rintro e w1 ⟨rfl, rfl⟩
  clear C
  go_wp2_with fail
  go_ret
  exact ⟨_, _, rfl, Below.refl _ _⟩

theorem pr : PR Tab R0 where
  below T hb := T.below hb
  keep h hz hk := h.keep hz hk
  lt h := h.lt
  some h := by
    obtain ⟨p, va, vr, vl, M, hv, _⟩ := h
    exact ⟨_, hv⟩
  new _ hb := p_new_any hb
  add T R hl s v := p_add_any T R hl s v
  rem _ R hl q _ := p_rem_any R hl q
  bind _ R _ q _ s v := p_bind_any R q s v
  list _ R hl := p_list_any R hl
  log _ R hl := p_log_any R hl
theorem pn : PN Tab zReg where
  add _ h s x := z_add_any h s x
  rem _ h q := z_rem_any h q
  bind _ h q s x := z_bind_any h q s x
  list _ h := z_list_any h
  log _ h := z_log_any h

end Go.Proofs.YtcecicmihdcjgaaDoor
