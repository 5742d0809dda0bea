/-
  The examples of the chapter.
-/
import Derived.Test.YtjefalkcolmjcaaDoorPkd
namespace Go.Proofs.YtjefalkcolmjcaaDoor
open Go.RowKit

theorem ex1 : pickT s_surface (reqT s_surface) 2 1 = (⟨s_damage, s_iiii, 1⟩, 0) := rfl
theorem ex2 : pickT s_surface (reqT s_surface) 10 1 = (⟨s_0, s_0, 0⟩, 11) := rfl
theorem ex3 : pickT s_surface (reqT s_surface) 10 2 = (⟨s_set_scale, s_i, 2⟩, 0) := rfl
theorem ex4 : pickT s_pointer (evtT s_pointer) 6 1 = (⟨s_0, s_0, 0⟩, 10) := rfl
theorem ex5 : pickT ⟨#[119, 105, 110, 100, 111, 119]⟩ (evtT ⟨#[119, 105, 110, 100, 111, 119]⟩) 0 1 = (⟨s_0, s_0, 0⟩, 8) := rfl
theorem ex6 : opcF (reqT s_seat) s_finish_drag 0 = (7, true) := rfl
theorem ex7 : sigT s_no = true := rfl
theorem ex7b : kdsT s_no.data.toList = [6, 5] := rfl
theorem ex8 : sigT ⟨#[120]⟩ = false := rfl

/-- a row of ints, with nothing older turned -/
def GivesI (l : List Nat) (w : World) (e : Ending) (w' : World) : Prop := ∃ v, e = .returned v ∧ Is w' v l ∧ Below w.heap.size w w'

set_option maxHeartbeats 2000000 in
theorem exam_any {w : World} (T : Tab w) : Calls Tryd.prog 15 #[] w fun e w' => e = .returned (.bool true) ∧ Below w.heap.size w w' := by
  have C1 := fun W (T : Tab W) => Lib.hid (p_request_any T s_surface 2 1)
  have C2 := fun W (T : Tab W) => Lib.hid (p_request_any T s_surface 10 1)
  have C3 := fun W (T : Tab W) => Lib.hid (p_request_any T s_surface 10 2)
  have C4 := fun W (T : Tab W) => Lib.hid (p_event_any T s_pointer 6 1)
  have C5 := fun W (T : Tab W) => Lib.hid (p_event_any T ⟨#[119, 105, 110, 100, 111, 119]⟩ 0 1)
  have C6 := fun W => Lib.hid (p_opcode_any s_seat s_finish_drag W)
  have C7 := fun W (T : Tab W) => Lib.hid (p_kinds_any ex7 T)
  have C8 := fun W (T : Tab W) => Lib.hid (p_valid_any T ⟨#[120]⟩)
  rw [ex1] at C1
  rw [ex2] at C2
  rw [ex3] at C3
  rw [ex4] at C4
  rw [ex5] at C5
  rw [ex6] at C6
  rw [ex7b] at C7
  rw [ex8] at C8
  go_enter Tryd.func15, Tryd.ntmps15
  go_wp2_with fail
  refine (C1 _ (by first | exact T | exact T.below J.out.below | exact T.below J.out | exact T.below J0.out | exact T.below J1.out | exact T.below J2.out | exact T.below J4.out | exact T.below J6.out | exact T.below J7.out | exact T.below HB.out)).out.mono ?_
  rintro e w1 ⟨rfl, hb⟩
  have J := Lib.hid (((Held.nil w).step hb).alloc [.string s_damage, .string s_iiii, .int .i64 1] 28)
  clear C1 hb
  go_wp2_with fail
  refine (C2 _ (by first | exact T | exact T.below J.out.below | exact T.below J.out | exact T.below J0.out | exact T.below J1.out | exact T.below J2.out | exact T.below J4.out | exact T.below J6.out | exact T.below J7.out | exact T.below HB.out)).out.mono ?_
  rintro e w2 ⟨rfl, hb⟩
  replace J := Lib.hid ((J.out.step hb).alloc [.string s_0, .string s_0, .int .i64 0] 28)
  clear C2 hb
  go_wp2_with fail
  refine (C3 _ (by first | exact T | exact T.below J.out.below | exact T.below J.out | exact T.below J0.out | exact T.below J1.out | exact T.below J2.out | exact T.below J4.out | exact T.below J6.out | exact T.below J7.out | exact T.below HB.out)).out.mono ?_
  rintro e w3 ⟨rfl, hb⟩
  replace J := Lib.hid ((J.out.step hb).alloc [.string s_set_scale, .string s_i, .int .i64 2] 28)
  clear C3 hb
  go_wp2_with fail
  refine (C4 _ (by first | exact T | exact T.below J.out.below | exact T.below J.out | exact T.below J0.out | exact T.below J1.out | exact T.below J2.out | exact T.below J4.out | exact T.below J6.out | exact T.below J7.out | exact T.below HB.out)).out.mono ?_
  rintro e w4 ⟨rfl, hb⟩
  replace J := Lib.hid ((J.out.step hb).alloc [.string s_0, .string s_0, .int .i64 0] 28)
  clear C4 hb
  go_wp2_with fail
  refine (C5 _ (by first | exact T | exact T.below J.out.below | exact T.below J.out | exact T.below J0.out | exact T.below J1.out | exact T.below J2.out | exact T.below J4.out | exact T.below J6.out | exact T.below J7.out | exact T.below HB.out)).out.mono ?_
  rintro e w5 ⟨rfl, hb⟩
  replace J := Lib.hid ((J.out.step hb).alloc [.string s_0, .string s_0, .int .i64 0] 28)
  clear C5 hb
  go_wp2_with fail
  refine (C6 _).out.mono ?_
  rintro e w6 ⟨rfl, hb⟩
  replace J := Lib.hid (J.out.step hb)
  clear C6 hb
  go_wp2_with fail
  refine (C7 _ (by first | exact T | exact T.below J.out.below | exact T.below J.out | exact T.below J0.out | exact T.below J1.out | exact T.below J2.out | exact T.below J4.out | exact T.below J6.out | exact T.below J7.out | exact T.below HB.out)).out.mono ?_
  rintro e w7 ⟨v, rfl, hv, hb⟩
  replace J := Lib.hid (J.out.step hb)
  obtain ⟨A, cap, rfl, hc, -, hcs⟩ := hv.is
  obtain ⟨b, off, rfl, -, hcs⟩ := hcs (by decide)
  have t0 := hcs 0 6 rfl
  rw [Nat.add_zero] at t0
  have t1 := hcs 1 5 rfl
  clear C7 hb hv hcs
  obtain ⟨y0, -, -, -, -⟩ := (show Held w w7 ([_, _] ++ (w3.heap.size, _) :: [_, _]) from J.out).tri
  obtain ⟨z0, z1, z2, -, -⟩ := (show Held w w7 ([_, _, _, _] ++ (w1.heap.size, _) :: []) from J.out).tri
  have HB := Lib.hid J.out.below
  clear J
  go_wp2_with fail
  refine (C8 _ (by first | exact T | exact T.below J.out.below | exact T.below J.out | exact T.below J0.out | exact T.below J1.out | exact T.below J2.out | exact T.below J4.out | exact T.below J6.out | exact T.below J7.out | exact T.below HB.out)).out.mono ?_
  rintro e w8 ⟨rfl, rfl⟩
  clear C8
  go_wp2_with fail
  go_ret
  exact ⟨rfl, HB.out⟩

end Go.Proofs.YtjefalkcolmjcaaDoor
