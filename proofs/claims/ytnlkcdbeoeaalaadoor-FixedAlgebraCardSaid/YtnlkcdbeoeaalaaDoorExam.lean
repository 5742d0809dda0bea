/-
  exampleHolds: the examples of the chapter.
-/
import Derived.Test.YtnlkcdbeoeaalaaDoorPar
namespace Go.Proofs.YtnlkcdbeoeaalaaDoor
open Go.RowKit

/-- a law's answer b, and nothing that was there has turned -/
def Says (b : Bool) (w : World) (e : Ending) (w' : World) : Prop := e = .returned (.bool b) ∧ Below w.heap.size w w'

theorem x1 : intP 3 = (768, 0) := by decide +kernel
theorem x2 : ratP (-1) 512 = (-1, 0) := by decide +kernel
theorem x3 : ratP 1 0 = (0, 2) := by decide +kernel
theorem x4 : parseP [48, 46, 49] = (0, 3) := by decide +kernel
theorem x5 : parseP [45, 48, 46, 53] = (-128, 0) := by decide +kernel
theorem x6 : fmtP (-1) = [45, 48, 46, 48, 48, 51, 57, 48, 54, 50, 53] := by decide +kernel

set_option maxRecDepth 100000 in
set_option maxHeartbeats 4000000 in
theorem example_any (w : World) (htab : Tab w) : Calls Tryd.prog 14 #[] w (Says true w) := by
  have HT := Lib.hid htab
  clear htab
  have C1 := fun w => Lib.hid (fromint_any 3 (by decide) (by decide) w)
  have C2 := fun w => Lib.hid (ratio_any (-1) 512 (by decide) (by decide) (by decide) (by decide) w)
  have C3 := fun w => Lib.hid (ratio_any 1 0 (by decide) (by decide) (by decide) (by decide) w)
  have C4 := fun w => Lib.hid (parse_any ⟨#[48, 46, 49]⟩ (by decide) w)
  have C5 := fun w => Lib.hid (parse_any ⟨#[45, 48, 46, 53]⟩ (by decide) w)
  have C6 := fun w => Lib.hid (floor_any (-1) ⟨by decide, by decide⟩ w)
  have C7 := fun w => Lib.hid (round_any (-128) ⟨by decide, by decide⟩ w)
  have C8 := fun (w : World) (h : Tab w) => Lib.hid (fmt_any (-1) ⟨by decide, by decide⟩ w h)
  rw [x1] at C1
  rw [x2] at C2
  rw [x3] at C3
  rw [show parseP (⟨#[48, 46, 49]⟩ : ByteArray).data.toList = (0, 3) from x4] at C4
  rw [show parseP (⟨#[45, 48, 46, 53]⟩ : ByteArray).data.toList = (-128, 0) from x5] at C5
  rw [show (-1 : Int) / 256 = -1 from by decide] at C6
  rw [show ((-128 : Int) + 128) / 256 = 0 from by decide] at C7
  rw [x6] at C8
  go_enter Tryd.func14, Tryd.ntmps14
  go_wp2_with fail
  refine (C1 _).out.mono ?_
  rintro e w1 ⟨rfl, hb⟩
  have K := Lib.hid hb
  clear hb
  go_wp2_with fail
  refine (C2 _).out.mono ?_
  rintro e w2 ⟨rfl, hb⟩
  replace K := Lib.hid (Below.next K.out hb)
  clear hb
  go_wp2_with fail
  refine (C3 _).out.mono ?_
  rintro e w3 ⟨rfl, hb⟩
  replace K := Lib.hid (Below.next K.out hb)
  clear hb
  go_wp2_with fail
  refine (C4 _).out.mono ?_
  rintro e w4 ⟨rfl, hb⟩
  replace K := Lib.hid (Below.next K.out hb)
  clear hb
  go_wp2_with fail
  refine (C5 _).out.mono ?_
  rintro e w5 ⟨rfl, hb⟩
  replace K := Lib.hid (Below.next K.out hb)
  clear hb
  go_wp2_with fail
  refine (C6 _).out.mono ?_
  rintro e w6 ⟨rfl, rfl⟩
  go_wp2_with fail
  refine (C7 _).out.mono ?_
  rintro e w6 ⟨rfl, rfl⟩
  go_wp2_with fail
  refine (C8 _ (HT.out.below K.out)).out.mono ?_
  rintro e w7 ⟨rfl, hb⟩
  replace K := Lib.hid (Below.next K.out hb)
  clear hb
  go_wp2_with fail
  go_ret
  exact ⟨rfl, K.out⟩

end Go.Proofs.YtnlkcdbeoeaalaaDoor
