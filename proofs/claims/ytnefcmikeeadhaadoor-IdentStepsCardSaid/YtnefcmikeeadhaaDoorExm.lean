/-
  The chapter's examples hold.
-/
import Derived.Test.YtnefcmikeeadhaaDoorDos
namespace Go.Proofs.YtnefcmikeeadhaaDoor
open Go.RowKit

theorem ex1 : allT (newT false) = (⟨false, 1, [1], []⟩, 1, 0) := by rfl
theorem ex2 : allT ⟨false, 1, [1], []⟩ = (⟨false, 2, [1, 2], []⟩, 2, 0) := by rfl
theorem ex3 : relT ⟨false, 2, [1, 2], []⟩ 1 = (⟨false, 2, [2], [1]⟩, 0) := by rfl
theorem ex4 : allT ⟨false, 2, [2], [1]⟩ = (⟨false, 3, [2, 3], [1]⟩, 3, 0) := by rfl
theorem ex5 : conT ⟨false, 3, [2, 3], [1]⟩ 1 = (⟨false, 3, [2, 3], []⟩, 0) := by rfl
theorem ex6 : allT ⟨false, 3, [2, 3], []⟩ = (⟨false, 3, [2, 3, 1], []⟩, 1, 0) := by rfl
theorem ex7 : takT (newT false) 2 = (newT false, 2) := by rfl
theorem ex8 : takT (newT false) 0 = (newT false, 6) := by rfl
theorem ex9 : takT (newT false) 4278190080 = (newT false, 6) := by rfl

set_option maxRecDepth 40000 in
set_option maxHeartbeats 2000000 in
theorem example_any (w : World) (hT : Tab w) : Calls Tryd.prog 8 #[] w (Says true w) := by
  have C1 := Lib.hid (new_any false w hT)
  have C8 := fun W (h : Tab W) => Lib.hid (new_any false W h)
  go_enter Tryd.func8, Tryd.ntmps8
  go_wp2_with fail
  refine C1.out.mono ?_
  rintro e w1 ⟨v, rfl, hP, hb⟩
  have hB := Lib.hid hb
  have C := Lib.hid (alloc_any hP (by omega))
  rw [ex1] at C
  clear hP hb C1
  go_wp2_with fail
  refine C.out.mono ?_
  rintro e w2 ⟨rfl, hP, hT2⟩
  replace hB := Lib.hid (hT2.below hB.out)
  have C := Lib.hid (alloc_any hP (by omega))
  rw [ex2] at C
  clear hP hT2
  go_wp2_with fail
  refine C.out.mono ?_
  rintro e w3 ⟨rfl, hP, hT2⟩
  replace hB := Lib.hid (hT2.below hB.out)
  have C := Lib.hid (release_any (n := 1) hP (by omega) (by omega))
  rw [ex3] at C
  clear hP hT2
  go_wp2_with fail
  refine C.out.mono ?_
  rintro e w4 ⟨rfl, hP, hT2⟩
  replace hB := Lib.hid (hT2.below hB.out)
  have C := Lib.hid (alloc_any hP (by omega))
  rw [ex4] at C
  clear hP hT2
  go_wp2_with fail
  refine C.out.mono ?_
  rintro e w5 ⟨rfl, hP, hT2⟩
  replace hB := Lib.hid (hT2.below hB.out)
  have C := Lib.hid (confirm_any (n := 1) hP (by omega) (by omega))
  rw [ex5] at C
  clear hP hT2
  go_wp2_with fail
  refine C.out.mono ?_
  rintro e w6 ⟨rfl, hP, hT2⟩
  replace hB := Lib.hid (hT2.below hB.out)
  have C := Lib.hid (alloc_any hP (by omega))
  rw [ex6] at C
  clear hP hT2
  go_wp2_with fail
  refine C.out.mono ?_
  rintro e w7 ⟨rfl, hP, hT2⟩
  replace hB := Lib.hid (hT2.below hB.out)
  clear hP hT2 C
  go_wp2_with fail
  refine (C8 _ (hT.below hB.out)).out.mono ?_
  rintro e w8 ⟨x, rfl, hP, hb⟩
  have hz := hB.out.size
  replace hB := Lib.hid (Below.next hB.out hb)
  have C := Lib.hid (take_any (n := 2) hP (by omega) (by omega))
  rw [ex7] at C
  clear hP hb C8
  go_wp2_with fail
  refine C.out.mono ?_
  rintro e w9 ⟨rfl, hP, hT2⟩
  have hT9 := hT2
  have C := Lib.hid (take_any (n := 0) hP (by omega) (by omega))
  rw [ex8] at C
  clear hP hT2
  go_wp2_with fail
  refine C.out.mono ?_
  rintro e w10 ⟨rfl, hP, hT2⟩
  replace hT9 := hT9.trans hT2
  have C := Lib.hid (take_any (n := 4278190080) hP (by omega) (by omega))
  rw [ex9] at C
  clear hP hT2
  go_wp2_with fail
  refine C.out.mono ?_
  rintro e w11 ⟨rfl, hP, hT2⟩
  replace hT9 := hT9.trans hT2
  clear hP hT2 C
  go_wp2_with fail
  go_ret
  exact ⟨rfl, Below.trans hB.out ⟨hT9.os, hT9.tape, hT9.output, hT9.size, fun k hk => hT9.low k (by omega)⟩⟩

end Go.Proofs.YtnefcmikeeadhaaDoor
