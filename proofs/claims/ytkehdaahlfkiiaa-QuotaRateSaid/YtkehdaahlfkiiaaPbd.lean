/-
  Package quota: Take, Level.
-/
import Derived.Test.YtkehdaahlfkiiaaPbc
namespace Go.Proofs.Ytkehdaahlfkiiaa
open Go.RowKit

set_option maxRecDepth 100000 in
theorem p_take_nil (W : World) (t n : Int) : Calls Try.prog 26 #[.pointer none, .int .i64 t, .int .i64 n] W fun e w' => e = .returned (.bool false) ∧ W = w' := by
  have C := Lib.hid (p_bcreated_nil W)
  go_enter Try.func26, Try.ntmps26
  go_wp2_with fail
  refine C.out.mono ?_
  rintro e w1 ⟨rfl, rfl⟩
  go_wp2_with fail
  go_ret
  exact ⟨rfl, rfl⟩
set_option maxRecDepth 100000 in
theorem p_lvl_nil (W : World) (t : Int) : Calls Try.prog 24 #[.pointer none, .int .i64 t] W fun e w' => e = .returned (.int .i64 0) ∧ W = w' := by
  have C := Lib.hid (p_bcreated_nil W)
  go_enter Try.func24, Try.ntmps24
  go_wp2_with fail
  refine C.out.mono ?_
  rintro e w1 ⟨rfl, rfl⟩
  go_wp2_with fail
  go_ret
  exact ⟨rfl, rfl⟩

set_option maxRecDepth 100000 in
set_option maxHeartbeats 2000000 in
theorem p_lvl_own {W : World} {p : Nat} {b : Bk} (h : (boxO p (bukC p b)).P W) (hb : BOk b) {t : Int} (ht : I64 t) :
    Calls Try.prog 24 #[.pointer (some ⟨p, 0, none⟩), .int .i64 t] W fun e w' => e = .returned (.int .i64 ((advB b t).fi / 1000)) ∧ BX W w' p (bukC p (advB b t)) := by
  have C := Lib.hid (p_bcreated_own (h.1 5 _ rfl))
  have A := Lib.hid (p_adv_any h hb ht)
  have ho := advB_ok hb ht
  generalize advB b t = a at *
  obtain ⟨md, st, rt, bu, fi, la⟩ := a
  obtain ⟨-, ⟨b0, b1⟩, ⟨f0, f1⟩, -⟩ := ho
  dsimp only at A b0 b1 f0 f1 ⊢
  have uq : fi.tdiv 1000 = fi / 1000 := Int.tdiv_eq_ediv_of_nonneg f0
  have uq2 : IntKind.i64.wrap (fi / 1000) = fi / 1000 := by rw [IntKind.wrap_i64]; omega
  clear h hb ht
  go_enter Try.func24, Try.ntmps24
  go_wp2_with fail
  refine C.out.mono ?_
  rintro e w1 ⟨rfl, rfl⟩
  go_wp2_with fail
  refine A.out.mono ?_
  rintro e w1 ⟨rfl, hx⟩
  have JX := Lib.hid hx
  clear A C hx
  obtain ⟨x0, x1, x2, x3, x4, x5, xf, xl⟩ := JX.out.c6
  go_wp2_with fail
  go_ret
  exact ⟨rfl, JX.out⟩

set_option maxRecDepth 100000 in
set_option maxHeartbeats 4000000 in
theorem p_take_own {W : World} {p : Nat} {b : Bk} (h : (boxO p (bukC p b)).P W) (hb : BOk b) (hm : b.md = true) {t n : Int} (ht : I64 t) (hn : I64 n) :
    Calls Try.prog 26 #[.pointer (some ⟨p, 0, none⟩), .int .i64 t, .int .i64 n] W fun e w' => e = .returned (.bool (takeB b t n).2) ∧ BX W w' p (bukC p (takeB b t n).1) := by
  have C := Lib.hid (p_bcreated_own (h.1 5 _ rfl))
  have A := Lib.hid (p_adv_any h hb ht)
  have ho := advB_ok hb ht
  unfold takeB
  rw [if_neg (by rw [hm]; simp)]
  generalize advB b t = a at *
  obtain ⟨md, st, rt, bu, fi, la⟩ := a
  obtain ⟨-, ⟨b0, b1⟩, ⟨f0, f1⟩, -⟩ := ho
  obtain ⟨n0, n1⟩ := hn
  dsimp only at A b0 b1 f0 f1 ⊢
  have uq : fi.tdiv 1000 = fi / 1000 := Int.tdiv_eq_ediv_of_nonneg f0
  have uq2 : IntKind.i64.wrap (fi / 1000) = fi / 1000 := by rw [IntKind.wrap_i64]; omega
  clear h hb ht hm
  by_cases hbad : n < 0 ∨ bu < n ∨ fi < n * 1000
  · rw [if_pos hbad]
    dsimp only
    by_cases h1 : n < 0
    · clear hbad
      go_enter Try.func26, Try.ntmps26
      go_wp2_with fail
      refine C.out.mono ?_
      rintro e w1 ⟨rfl, rfl⟩
      go_wp2_with fail
      refine A.out.mono ?_
      rintro e w1 ⟨rfl, hx⟩
      have JX := Lib.hid hx
      clear A C hx
      obtain ⟨x0, x1, x2, x3, x4, x5, xf, xl⟩ := JX.out.c6
      go_wp2_with fail
      go_ret
      exact ⟨rfl, JX.out⟩
    · have h2 : fi / 1000 < n := by omega
      clear hbad
      go_enter Try.func26, Try.ntmps26
      go_wp2_with fail
      refine C.out.mono ?_
      rintro e w1 ⟨rfl, rfl⟩
      go_wp2_with fail
      refine A.out.mono ?_
      rintro e w1 ⟨rfl, hx⟩
      have JX := Lib.hid hx
      clear A C hx
      obtain ⟨x0, x1, x2, x3, x4, x5, xf, xl⟩ := JX.out.c6
      go_wp2_with fail
      go_ret
      exact ⟨rfl, JX.out⟩
  · rw [if_neg hbad]
    dsimp only
    have h1 : ¬ n < 0 := by omega
    have h2 : ¬ fi / 1000 < n := by omega
    have v1 : IntKind.i64.wrap (n * 1000) = n * 1000 := by rw [IntKind.wrap_i64]; omega
    have v2 : IntKind.i64.wrap (fi - n * 1000) = fi - n * 1000 := by rw [IntKind.wrap_i64]; omega
    clear hbad
    go_enter Try.func26, Try.ntmps26
    go_wp2_with fail
    refine C.out.mono ?_
    rintro e w1 ⟨rfl, rfl⟩
    go_wp2_with fail
    refine A.out.mono ?_
    rintro e w1 ⟨rfl, hx⟩
    have JX := Lib.hid hx
    clear A C hx
    obtain ⟨x0, x1, x2, x3, x4, x5, xf, xl⟩ := JX.out.c6
    have J2 := Lib.hid (JX.out.cell (i := 2) (by simp) (.int .i64 (fi - n * 1000)))
    go_wp2_with fail
    go_ret
    exact ⟨rfl, J2.out⟩

end Go.Proofs.Ytkehdaahlfkiiaa
