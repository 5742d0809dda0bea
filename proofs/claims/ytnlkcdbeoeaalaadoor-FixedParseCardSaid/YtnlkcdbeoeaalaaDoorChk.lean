/-
  The check of the range, of a method value, and the functions that are built of it.
-/
import Derived.Test.YtnlkcdbeoeaalaaDoorOps
namespace Go.Proofs.YtnlkcdbeoeaalaaDoor
open Go.RowKit

/-- what a call that hands a number and a code back leaves -/
def Gives (p : Int × Int) (w : World) (e : Ending) (w' : World) : Prop := e = .returned (.tuple #[.int .i32 p.1, .int .i64 p.2]) ∧ Below w.heap.size w w'

theorem gives_of {p q : Int × Int} {w w' : World} (h : p = q) (hb : Below w.heap.size w w') : Gives q w (.returned (.tuple #[.int .i32 p.1, .int .i64 p.2])) w' := ⟨by rw [h], hb⟩

theorem chk_in {z : Int} (h1 : ¬ z < -2147483648) (h2 : ¬ 2147483647 < z) : ((z, 0) : Int × Int) = chkP z := by unfold chkP; rw [if_neg (by omega)]
theorem chk_low {z : Int} (h1 : z < -2147483648) : ((0, 6) : Int × Int) = chkP z := by unfold chkP; rw [if_pos (by omega)]
theorem chk_high {z : Int} (h1 : 2147483647 < z) : ((0, 6) : Int × Int) = chkP z := by unfold chkP; rw [if_pos (by omega)]

set_option maxHeartbeats 4000000 in
theorem checked38 (a b z : Int) (w : World) (C : Calls Tryd.prog 38 #[.agg #[.int .i64 a, .int .i64 b]] w fun e w' => e = .returned (.int .i64 z) ∧ Below w.heap.size w w') :
    Calls Tryd.prog 37 #[.func (.func 38) #[.agg #[.int .i64 a, .int .i64 b]] #[]] w (Gives (chkP z) w) := by
  have CC := Lib.hid C
  clear C
  by_cases h1 : z < -2147483648
  · go_enter Tryd.func37, Tryd.ntmps37
    go_wp2_with fail
    refine CC.out.mono ?_
    rintro e w1 ⟨rfl, hb⟩
    have K := Lib.hid hb
    clear hb
    go_wp2_with fail
    go_ret2
    exact gives_of (chk_low h1) K.out
  · by_cases h2 : 2147483647 < z
    · go_enter Tryd.func37, Tryd.ntmps37
      go_wp2_with fail
      refine CC.out.mono ?_
      rintro e w1 ⟨rfl, hb⟩
      have K := Lib.hid hb
      clear hb
      go_wp2_with fail
      go_ret2
      exact gives_of (chk_high h2) K.out
    · have k1 : -2147483648 ≤ z := by omega
      have k2 : z ≤ 2147483647 := by omega
      go_enter Tryd.func37, Tryd.ntmps37
      go_wp2_with fail
      refine CC.out.mono ?_
      rintro e w1 ⟨rfl, hb⟩
      have K := Lib.hid hb
      clear hb
      go_wp2_with fail
      go_ret2
      exact gives_of (chk_in (by omega) (by omega)) K.out

set_option maxHeartbeats 4000000 in
theorem checked43 (a b z : Int) (w : World) (C : Calls Tryd.prog 43 #[.agg #[.int .i64 a, .int .i64 b]] w fun e w' => e = .returned (.int .i64 z) ∧ Below w.heap.size w w') :
    Calls Tryd.prog 37 #[.func (.func 43) #[.agg #[.int .i64 a, .int .i64 b]] #[]] w (Gives (chkP z) w) := by
  have CC := Lib.hid C
  clear C
  by_cases h1 : z < -2147483648
  · go_enter Tryd.func37, Tryd.ntmps37
    go_wp2_with fail
    refine CC.out.mono ?_
    rintro e w1 ⟨rfl, hb⟩
    have K := Lib.hid hb
    clear hb
    go_wp2_with fail
    go_ret2
    exact gives_of (chk_low h1) K.out
  · by_cases h2 : 2147483647 < z
    · go_enter Tryd.func37, Tryd.ntmps37
      go_wp2_with fail
      refine CC.out.mono ?_
      rintro e w1 ⟨rfl, hb⟩
      have K := Lib.hid hb
      clear hb
      go_wp2_with fail
      go_ret2
      exact gives_of (chk_high h2) K.out
    · have k1 : -2147483648 ≤ z := by omega
      have k2 : z ≤ 2147483647 := by omega
      go_enter Tryd.func37, Tryd.ntmps37
      go_wp2_with fail
      refine CC.out.mono ?_
      rintro e w1 ⟨rfl, hb⟩
      have K := Lib.hid hb
      clear hb
      go_wp2_with fail
      go_ret2
      exact gives_of (chk_in (by omega) (by omega)) K.out

set_option maxHeartbeats 4000000 in
theorem checked44 (a b z : Int) (w : World) (C : Calls Tryd.prog 44 #[.agg #[.int .i64 a, .int .i64 b]] w fun e w' => e = .returned (.int .i64 z) ∧ Below w.heap.size w w') :
    Calls Tryd.prog 37 #[.func (.func 44) #[.agg #[.int .i64 a, .int .i64 b]] #[]] w (Gives (chkP z) w) := by
  have CC := Lib.hid C
  clear C
  by_cases h1 : z < -2147483648
  · go_enter Tryd.func37, Tryd.ntmps37
    go_wp2_with fail
    refine CC.out.mono ?_
    rintro e w1 ⟨rfl, hb⟩
    have K := Lib.hid hb
    clear hb
    go_wp2_with fail
    go_ret2
    exact gives_of (chk_low h1) K.out
  · by_cases h2 : 2147483647 < z
    · go_enter Tryd.func37, Tryd.ntmps37
      go_wp2_with fail
      refine CC.out.mono ?_
      rintro e w1 ⟨rfl, hb⟩
      have K := Lib.hid hb
      clear hb
      go_wp2_with fail
      go_ret2
      exact gives_of (chk_high h2) K.out
    · have k1 : -2147483648 ≤ z := by omega
      have k2 : z ≤ 2147483647 := by omega
      go_enter Tryd.func37, Tryd.ntmps37
      go_wp2_with fail
      refine CC.out.mono ?_
      rintro e w1 ⟨rfl, hb⟩
      have K := Lib.hid hb
      clear hb
      go_wp2_with fail
      go_ret2
      exact gives_of (chk_in (by omega) (by omega)) K.out

set_option maxHeartbeats 4000000 in
theorem ratio_any (a b : Int) (ha1 : -9223372036854775808 ≤ a) (ha2 : a ≤ 9223372036854775807) (hb1 : -9223372036854775808 ≤ b) (hb2 : b ≤ 9223372036854775807) (w : World) :
    Calls Tryd.prog 20 #[.int .i64 a, .int .i64 b] w (Gives (ratP a b) w) := by
  by_cases h0 : b = 0
  · subst h0
    have q : ((0 : Int) == 0) = true := rfl
    go_enter Tryd.func20, Tryd.ntmps20
    go_wp2_with fail
    go_ret2
    exact gives_of (p := (0, 2)) (by unfold ratP; rw [if_pos rfl]) (Below.refl _ _)
  · have q : (b == 0) = false := by rw [beq_eq_false_iff_ne]; exact h0
    have hb0 : 0 < b.natAbs := by omega
    have C := checked38 a b _ w (quo_any a b ha1 ha2 hb1 hb2 h0 w)
    rw [chk_fit, fit_quo _ _ _ hb0] at C
    have e : ratP a b = fitP (decide (a < 0) != decide (b < 0)) (roundP a.natAbs b.natAbs) := if_neg h0
    rw [← e] at C
    obtain ⟨p, hp⟩ : ∃ p, ratP a b = p := ⟨_, rfl⟩
    rw [hp] at C ⊢
    have CC := Lib.hid C
    clear C e hp h0
    go_enter Tryd.func20, Tryd.ntmps20
    go_wp2_with fail
    refine CC.out.mono ?_
    rintro e w1 ⟨rfl, hb⟩
    have K := Lib.hid hb
    clear hb
    go_wp2_with fail
    go_ret2
    exact ⟨rfl, K.out⟩

theorem fromint_any (n : Int) (h1 : -9223372036854775808 ≤ n) (h2 : n ≤ 9223372036854775807) (w : World) :
    Calls Tryd.prog 16 #[.int .i64 n] w (Gives (intP n) w) := by
  have CC := Lib.hid (ratio_any n 1 h1 h2 (by decide) (by decide) w)
  rw [show ratP n 1 = intP n from rfl] at CC
  obtain ⟨p, hp⟩ : ∃ p, intP n = p := ⟨_, rfl⟩
  rw [hp] at CC ⊢
  clear hp
  go_enter Tryd.func16, Tryd.ntmps16
  go_wp2_with fail
  refine CC.out.mono ?_
  rintro e w1 ⟨rfl, hb⟩
  have K := Lib.hid hb
  clear hb
  go_wp2_with fail
  go_ret2
  exact ⟨rfl, K.out⟩

/-- a number of 32 bits -/
def In32 (x : Int) : Prop := -2147483648 ≤ x ∧ x ≤ 2147483647

theorem div_walk (a b : Int) (ha : In32 a) (hb : In32 b) (w : World) : Calls Tryd.prog 26 #[.int .i32 a, .int .i32 b] w (Gives (ratP a b) w) := by
  obtain ⟨a1, a2⟩ := ha
  obtain ⟨b1, b2⟩ := hb
  have CC := Lib.hid (ratio_any a b (by omega) (by omega) (by omega) (by omega) w)
  obtain ⟨p, hp⟩ : ∃ p, ratP a b = p := ⟨_, rfl⟩
  rw [hp] at CC ⊢
  clear hp
  go_enter Tryd.func26, Tryd.ntmps26
  go_wp2_with fail
  refine CC.out.mono ?_
  rintro e w1 ⟨rfl, hb⟩
  have K := Lib.hid hb
  clear hb
  go_wp2_with fail
  go_ret2
  exact ⟨rfl, K.out⟩

theorem sum_run (a b : Int) (ha : In32 a) (hb : In32 b) (w : World) :
    Calls Tryd.prog 43 #[.agg #[.int .i64 a, .int .i64 b]] w fun e w' => e = .returned (.int .i64 (a + b)) ∧ Below w.heap.size w w' := by
  obtain ⟨a1, a2⟩ := ha
  obtain ⟨b1, b2⟩ := hb
  go_enter Tryd.func43, Tryd.ntmps43
  go_wp2_with fail
  go_ret
  exact ⟨rfl, (Below.refl _ _).alloc (Nat.le_refl _) _⟩

theorem add_any (a b : Int) (ha : In32 a) (hb : In32 b) (w : World) : Calls Tryd.prog 22 #[.int .i32 a, .int .i32 b] w (Gives (sumP a b) w) := by
  have CC := Lib.hid (checked43 a b _ w (sum_run a b ha hb w))
  rw [show chkP (a + b) = sumP a b from rfl] at CC
  obtain ⟨a1, a2⟩ := ha
  obtain ⟨b1, b2⟩ := hb
  obtain ⟨p, hp⟩ : ∃ p, sumP a b = p := ⟨_, rfl⟩
  rw [hp] at CC ⊢
  clear hp
  go_enter Tryd.func22, Tryd.ntmps22
  go_wp2_with fail
  refine CC.out.mono ?_
  rintro e w1 ⟨rfl, hb⟩
  have K := Lib.hid hb
  clear hb
  go_wp2_with fail
  go_ret2
  exact ⟨rfl, K.out⟩

/-- a product of two numbers of 32 bits -/
theorem mul_in {a b : Int} (ha : In32 a) (hb : In32 b) : -4611686018427387904 ≤ a * b ∧ a * b ≤ 4611686018427387904 := by
  have h1 : (a * b).natAbs ≤ 4611686018427387904 := by
    rw [Int.natAbs_mul]
    exact Nat.mul_le_mul (show a.natAbs ≤ 2147483648 by have := ha.1; have := ha.2; omega) (show b.natAbs ≤ 2147483648 by have := hb.1; have := hb.2; omega)
  omega

set_option maxHeartbeats 1000000 in
theorem prod_run (a b : Int) (ha : In32 a) (hb : In32 b) (w : World) :
    Calls Tryd.prog 44 #[.agg #[.int .i64 a, .int .i64 b]] w fun e w' => e = .returned (.int .i64 (if (decide (a * b < 0) != false) = true then -((quoP (a * b).natAbs 65536 : Nat) : Int) else ((quoP (a * b).natAbs 65536 : Nat) : Int))) ∧ Below w.heap.size w w' := by
  obtain ⟨m1, m2⟩ := mul_in ha hb
  have C : ∀ w, Hid (Calls Tryd.prog 38 #[.agg #[.int .i64 (a * b), .int .i64 65536]] w fun e w' => e = .returned (.int .i64 (if (decide (a * b < 0) != false) = true then -((quoP (a * b).natAbs 65536 : Nat) : Int) else ((quoP (a * b).natAbs 65536 : Nat) : Int))) ∧ Below w.heap.size w w') := fun w => Lib.hid (quo_any (a * b) 65536 (by omega) (by omega) (by decide) (by decide) (by decide) w)
  obtain ⟨res, hres⟩ : ∃ z : Int, (if (decide (a * b < 0) != false) = true then -((quoP (a * b).natAbs 65536 : Nat) : Int) else ((quoP (a * b).natAbs 65536 : Nat) : Int)) = z := ⟨_, rfl⟩
  rw [hres] at C ⊢
  clear hres
  obtain ⟨m, hm⟩ : ∃ m, a * b = m := ⟨_, rfl⟩
  rw [hm] at C m1 m2
  have k1 : IntKind.i64.wrap (a * b) = m := by rw [hm]; exact IntWalk.i64_in _ (by omega)
  have k2 : wrap64 (a * b) = m := by rw [hm]; exact IntWalk.wrap64_in (by omega) (by omega)
  go_enter Tryd.func44, Tryd.ntmps44
  go_wp2_with fail
  refine (C _).out.mono ?_
  rintro e w1 ⟨rfl, hb⟩
  have K := Lib.hid (((Below.refl w.heap.size w).alloc (Nat.le_refl _) _).trans (hb.mono (by simp)))
  clear hb
  go_wp2_with fail
  go_ret
  exact ⟨rfl, K.out⟩

theorem mul_any (a b : Int) (ha : In32 a) (hb : In32 b) (w : World) : Calls Tryd.prog 24 #[.int .i32 a, .int .i32 b] w (Gives (mulP a b) w) := by
  have C := checked44 a b _ w (prod_run a b ha hb w)
  rw [chk_fit, mul_quo] at C
  have CC := Lib.hid C
  clear C
  obtain ⟨a1, a2⟩ := ha
  obtain ⟨b1, b2⟩ := hb
  obtain ⟨p, hp⟩ : ∃ p, mulP a b = p := ⟨_, rfl⟩
  rw [hp] at CC ⊢
  clear hp
  go_enter Tryd.func24, Tryd.ntmps24
  go_wp2_with fail
  refine CC.out.mono ?_
  rintro e w1 ⟨rfl, hb⟩
  have K := Lib.hid hb
  clear hb
  go_wp2_with fail
  go_ret2
  exact ⟨rfl, K.out⟩

theorem floor_any (f : Int) (hf : In32 f) (w : World) : Calls Tryd.prog 18 #[.int .i32 f] w fun e w' => e = .returned (.int .i64 (f / 256)) ∧ w' = w := by
  obtain ⟨a1, a2⟩ := hf
  go_enter Tryd.func18, Tryd.ntmps18
  go_wp2_with fail
  go_ret
  exact ⟨rfl, rfl⟩

theorem round_any (f : Int) (hf : In32 f) (w : World) : Calls Tryd.prog 19 #[.int .i32 f] w fun e w' => e = .returned (.int .i64 ((f + 128) / 256)) ∧ w' = w := by
  obtain ⟨a1, a2⟩ := hf
  go_enter Tryd.func19, Tryd.ntmps19
  go_wp2_with fail
  go_ret
  exact ⟨rfl, rfl⟩

end Go.Proofs.YtnlkcdbeoeaalaaDoor
