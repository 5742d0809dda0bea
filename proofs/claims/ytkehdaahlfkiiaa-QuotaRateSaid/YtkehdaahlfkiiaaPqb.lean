/-
  Package quota: Used, Use, Release.
-/
import Derived.Test.YtkehdaahlfkiiaaPqa
namespace Go.Proofs.Ytkehdaahlfkiiaa
open Go.RowKit

theorem chkN_eq (q : Qs) (k n : Int) : chkN q.ls.length k n = chkQ q k n := rfl
set_option maxRecDepth 100000 in
theorem p_used_any {w0 W : World} {rv : Value} {q : Qs} {S : Nat → Prop} (R : Q0 w0 W rv q S) (hq : QOk q) (k : Int) :
    Calls Try.prog 17 #[rv, .int .i64 k] W fun e w' => e = .returned (.int .i64 (usedQ q k)) ∧ W = w' := by
  obtain ⟨p, b, rfl, h1, h2, h3, h4, hS, hb, hp⟩ := R
  have x0 := hb.1 0 _ rfl
  have x1 := hb.1 1 _ rfl
  have C := Lib.hid (p_created_own x1)
  have D := Lib.hid (p_has_any x0 k)
  unfold usedQ
  by_cases hk : kindQ q k
  · rw [decide_eq_true hk] at D
    rw [if_neg (not_not_intro hk)]
    obtain ⟨i, a, c, rfl, hi, g1, g2, g3, g4, g5, g6, g7⟩ := hq.at hk
    have c0 := hp.cnt i c g2
    rw [g4]
    have q0 : (0 : Int) ≤ i := by omega
    have q1 : (i : Int) < q.ls.length := by omega
    generalize q.ls.length = m at *
    clear g1 g2 g3 g4 hS hb hp hk
    go_enter Try.func17, Try.ntmps17
    go_wp2_with fail
    refine C.out.mono ?_
    rintro e w1 ⟨rfl, rfl⟩
    go_wp2_with fail
    refine D.out.mono ?_
    rintro e w1 ⟨rfl, rfl⟩
    go_wp2_with fail
    go_ret
    exact ⟨rfl, rfl⟩
  · rw [decide_eq_false hk] at D
    rw [if_pos hk]
    generalize q.ls.length = m at *
    clear hk hS hb hp
    go_enter Try.func17, Try.ntmps17
    go_wp2_with fail
    refine C.out.mono ?_
    rintro e w1 ⟨rfl, rfl⟩
    go_wp2_with fail
    refine D.out.mono ?_
    rintro e w1 ⟨rfl, rfl⟩
    go_wp2_with fail
    go_ret
    exact ⟨rfl, rfl⟩
set_option maxRecDepth 100000 in
theorem p_used_nil (W : World) (k : Int) : Calls Try.prog 17 #[.pointer none, .int .i64 k] W fun e w' => e = .returned (.int .i64 0) ∧ W = w' := by
  have C := Lib.hid (p_created_nil W)
  go_enter Try.func17, Try.ntmps17
  go_wp2_with fail
  refine C.out.mono ?_
  rintro e w1 ⟨rfl, rfl⟩
  go_wp2_with fail
  go_ret
  exact ⟨rfl, rfl⟩

end Go.Proofs.Ytkehdaahlfkiiaa
