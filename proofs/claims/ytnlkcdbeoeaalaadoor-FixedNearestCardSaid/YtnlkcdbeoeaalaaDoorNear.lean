/-
  The walk of FixedNearest.
-/
import Derived.Test.YtnlkcdbeoeaalaaDoorExam
import Derived.Test.YtnlkcdbeoeaalaaDoorRef
namespace Go.Proofs.YtnlkcdbeoeaalaaDoor
open Go.RowKit

theorem round_near (x y : Nat) (hy : 0 < y) : 2 * (roundP x y * y) ≤ 512 * x + y ∧ 512 * x + y < 2 * (roundP x y * y) + 2 * y := by
  have h1 := Nat.div_add_mod (512 * x + y) (2 * y)
  have h2 := Nat.mod_lt (512 * x + y) (show 0 < 2 * y by omega)
  have e : 2 * y * ((512 * x + y) / (2 * y)) = 2 * (roundP x y * y) := by
    unfold roundP
    rw [Nat.mul_assoc, Nat.mul_comm y]
  rw [e] at h1
  omega

theorem near_facts (a b : Int) (ha1 : -32768 ≤ a) (ha2 : a ≤ 32767) (hb1 : -32768 ≤ b) (hb2 : b ≤ 32767) (hb : b ≠ 0) :
    ∃ f y : Int, ratP a b = (f, 0) ∧ In32 f ∧ f * b = y ∧ -20000000 ≤ y ∧ y ≤ 20000000 ∧
      2 * max (256 * a - y) (y - 256 * a) ≤ max b (-b) ∧ (2 * max (256 * a - y) (y - 256 * a) = max b (-b) → max (256 * a) (-(256 * a)) ≤ max y (-y)) := by
  have hy : 0 < b.natAbs := by omega
  obtain ⟨h1, h2⟩ := round_near a.natAbs b.natAbs hy
  have hN : roundP a.natAbs b.natAbs ≤ roundP a.natAbs b.natAbs * b.natAbs := Nat.le_mul_of_pos_right _ hy
  have hr : ratP a b = fitP (decide (a < 0) != decide (b < 0)) (roundP a.natAbs b.natAbs) := if_neg hb
  obtain ⟨N, hNe⟩ : ∃ N, roundP a.natAbs b.natAbs = N := ⟨_, rfl⟩
  obtain ⟨z, hz⟩ : ∃ z, N * b.natAbs = z := ⟨_, rfl⟩
  rw [hNe] at h1 h2 hN hr
  rw [hz] at h1 h2 hN
  have hNb : N ≤ 16777216 := by omega
  have hzi : ((N : Int) * (b.natAbs : Int)) = (z : Int) := by rw [← hz, Int.natCast_mul]
  by_cases sa : a < 0
  · by_cases sb : b < 0
    · rw [decide_eq_true sa, decide_eq_true sb, bne_self_eq_false, ← fit_pos (by omega)] at hr
      refine ⟨N, -z, hr, ⟨by omega, by omega⟩, ?_, by omega, by omega, by omega, by omega⟩
      rw [show b = -(b.natAbs : Int) by omega, Int.mul_neg, hzi]
    · rw [decide_eq_true sa, decide_eq_false sb, show (true != false) = true from rfl, ← fit_neg (by omega)] at hr
      refine ⟨-N, -z, hr, ⟨by omega, by omega⟩, ?_, by omega, by omega, by omega, by omega⟩
      rw [show b = (b.natAbs : Int) by omega, Int.neg_mul, hzi]
  · by_cases sb : b < 0
    · rw [decide_eq_false sa, decide_eq_true sb, show (false != true) = true from rfl, ← fit_neg (by omega)] at hr
      refine ⟨-N, z, hr, ⟨by omega, by omega⟩, ?_, by omega, by omega, by omega, by omega⟩
      rw [show b = -(b.natAbs : Int) by omega, Int.neg_mul_neg, hzi]
    · rw [decide_eq_false sa, decide_eq_false sb, bne_self_eq_false, ← fit_pos (by omega)] at hr
      refine ⟨N, z, hr, ⟨by omega, by omega⟩, ?_, by omega, by omega, by omega, by omega⟩
      rw [show b = (b.natAbs : Int) by omega, hzi]

set_option maxRecDepth 100000 in
set_option maxHeartbeats 4000000 in
theorem near_walk (a b : Int) (ha1 : -32768 ≤ a) (ha2 : a ≤ 32767) (hb1 : -32768 ≤ b) (hb2 : b ≤ 32767) (w : World) (htab : Tab w) : Calls Tryd.prog 7 #[.int .i16 a, .int .i16 b] w (Says true w) := by
  have HT := Lib.hid htab
  clear htab
  have C1 := fun w => Lib.hid (ratio_any a b (by omega) (by omega) (by omega) (by omega) w)
  by_cases hb : b = 0
  · subst hb
    have q : ((0 : Int) == 0) = true := rfl
    rw [show ratP a 0 = (0, 2) from if_pos rfl] at C1
    go_enter Tryd.func7, Tryd.ntmps7
    go_wp2_with fail
    refine (C1 _).out.mono ?_
    rintro e w1 ⟨rfl, hb⟩
    have K := Lib.hid hb
    clear hb
    go_wp2_with fail
    refine (example_any _ (HT.out.below K.out)).mono ?_
    rintro e w8 ⟨rfl, hb⟩
    replace K := Lib.hid (Below.next K.out hb)
    clear hb
    go_wp2_with fail
    go_ret
    exact ⟨rfl, K.out⟩
  · have q : (b == 0) = false := by rw [beq_eq_false_iff_ne]; exact hb
    obtain ⟨f, y, hr, hf, hy, y1, y2, hd, hde⟩ := near_facts a b ha1 ha2 hb1 hb2 hb
    rw [hr] at C1
    obtain ⟨f1, f2⟩ := hf
    obtain ⟨d, hd'⟩ : ∃ d, max (256 * a - y) (y - 256 * a) = d := ⟨_, rfl⟩
    obtain ⟨n, hn'⟩ : ∃ d, max b (-b) = d := ⟨_, rfl⟩
    obtain ⟨ax, hax⟩ : ∃ d, max (256 * a) (-(256 * a)) = d := ⟨_, rfl⟩
    obtain ⟨ay, hay⟩ : ∃ d, max y (-y) = d := ⟨_, rfl⟩
    have hdb : 0 ≤ d ∧ d ≤ 100000000 := by omega
    obtain ⟨d1, d2⟩ := hdb
    rw [hd', hn'] at hd hde
    rw [hax, hay] at hde
    have k1 : wrap64 (f * b) = y := by rw [hy]; exact IntWalk.wrap64_in _ (by omega)
    have k2 : IntKind.i64.wrap (f * b) = y := by rw [hy]; exact IntWalk.i64_in _ (by omega)
    have t1 : decide (n < 2 * d) = false := decide_eq_false (by omega)
    have HDE := Lib.hid hde
    have HD' := Lib.hid hd
    clear hr hy hde hb
    by_cases he : 2 * d = n
    · have t2 : (2 * d == n) = true := by rw [beq_iff_eq]; exact he
      have t3 : decide (ay < ax) = false := decide_eq_false (by have := HDE.out he; omega)
      clear he hd
      go_enter Tryd.func7, Tryd.ntmps7
      go_wp2_with fail
      refine (C1 _).out.mono ?_
      rintro e w1 ⟨rfl, hb⟩
      have K := Lib.hid hb
      clear hb
      go_wp2_with fail
      refine (example_any _ (HT.out.below K.out)).mono ?_
      rintro e w8 ⟨rfl, hb⟩
      replace K := Lib.hid (Below.next K.out hb)
      clear hb
      go_wp2_with fail
      go_ret
      exact ⟨rfl, K.out⟩
    · have t2 : (2 * d == n) = false := by rw [beq_eq_false_iff_ne]; exact he
      clear he hd
      go_enter Tryd.func7, Tryd.ntmps7
      go_wp2_with fail
      refine (C1 _).out.mono ?_
      rintro e w1 ⟨rfl, hb⟩
      have K := Lib.hid hb
      clear hb
      go_wp2_with fail
      refine (example_any _ (HT.out.below K.out)).mono ?_
      rintro e w8 ⟨rfl, hb⟩
      replace K := Lib.hid (Below.next K.out hb)
      clear hb
      go_wp2_with fail
      go_ret
      exact ⟨rfl, K.out⟩

end Go.Proofs.YtnlkcdbeoeaalaaDoor
