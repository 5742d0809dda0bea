/-
  What package fixed computes, over integers and lists of bytes: rounding, the range. Nothing of the program.
-/
namespace Go.Proofs.YtnlkcdbeoeaalaaDoor

/-- x / y in 256ths, rounded half up -/
def roundP (x y : Nat) : Nat := (512 * x + y) / (2 * y)

/-- a sign and a magnitude as a number and an error code -/
def fitP (neg : Bool) (n : Nat) : Int × Int :=
  if neg then (if 2147483648 < n then (0, 6) else (-(n : Int), 0)) else (if 2147483647 < n then (0, 6) else ((n : Int), 0))

/-- an integer as a number and an error code -/
def chkP (z : Int) : Int × Int := if z < -2147483648 ∨ 2147483647 < z then (0, 6) else (z, 0)

theorem chk_fit (neg : Bool) (n : Nat) : chkP (if neg then -(n : Int) else n) = fitP neg n := by
  unfold chkP fitP
  cases neg
  · simp only [Bool.false_eq_true, if_false]
    by_cases h : 2147483647 < n
    · rw [if_pos (by omega), if_pos h]
    · rw [if_neg (by omega), if_neg h]
  · simp only [if_true]
    by_cases h : 2147483648 < n
    · rw [if_pos (by omega), if_pos h]
    · rw [if_neg (by omega), if_neg h]

theorem fit_far (neg : Bool) {n : Nat} (h : 2147483648 < n) : fitP neg n = (0, 6) := by
  unfold fitP
  cases neg
  · rw [if_neg (by decide), if_pos (by omega)]
  · rw [if_pos rfl, if_pos h]

theorem fit_zero (neg : Bool) : fitP neg 0 = (0, 0) := by cases neg <;> rfl

/-- what is half or more of y counts one more -/
theorem round_split (q p r y : Nat) (hr : r < y) : (2 * (y * (q * 256 + p) + r) + y) / (2 * y) = q * 256 + p + (if y ≤ 2 * r then 1 else 0) := by
  have e : 2 * (y * (q * 256 + p) + r) + y = (2 * r + y) + 2 * y * (q * 256 + p) := by
    rw [Nat.mul_assoc]
    generalize y * (q * 256 + p) = z
    omega
  rw [e, Nat.add_mul_div_left _ _ (by omega), Nat.add_comm]
  congr 1
  split
  · rename_i h
    exact Nat.div_eq_of_lt_le (by omega) (by omega)
  · rename_i h
    exact Nat.div_eq_of_lt (by omega)

/-- the digits of a quotient in 256ths -/
theorem round_digits (x y : Nat) (hy : 0 < y) : roundP x y = x / y * 256 + x % y * 256 / y + (if y ≤ 2 * (x % y * 256 % y) then 1 else 0) := by
  rw [← round_split _ _ _ y (Nat.mod_lt _ hy)]
  unfold roundP
  have h1 := Nat.div_add_mod x y
  have h2 := Nat.div_add_mod (x % y * 256) y
  have e : y * (x / y * 256 + x % y * 256 / y) + x % y * 256 % y = 256 * x := by
    rw [Nat.mul_add, Nat.add_assoc, h2, ← Nat.mul_assoc]
    generalize y * (x / y) = z at *
    omega
  rw [e, ← Nat.mul_assoc]

/-- the program's magnitude of a quotient: beyond the range another number beyond the range -/
def quoP (x y : Nat) : Nat := min (x / y) 16777216 * 256 + (x % y * 256 / y + (if y ≤ 2 * (x % y * 256 % y) then 1 else 0))

theorem fit_quo (neg : Bool) (x y : Nat) (hy : 0 < y) : fitP neg (quoP x y) = fitP neg (roundP x y) := by
  rw [round_digits x y hy]
  unfold quoP
  by_cases h : x / y ≤ 16777216
  · rw [Nat.min_eq_left h, Nat.add_assoc]
  · rw [Nat.min_eq_right (by omega)]
    generalize x / y = q at *
    generalize x % y * 256 / y = p
    generalize (if y ≤ 2 * (x % y * 256 % y) then 1 else 0) = c
    rw [fit_far neg (by omega), fit_far neg (by omega)]

theorem part_lt (x y : Nat) (hy : 0 < y) : x % y * 256 / y < 256 := by
  rw [Nat.div_lt_iff_lt_mul hy]
  have := Nat.mod_lt x hy
  omega

/-- a / b -/
def ratP (a b : Int) : Int × Int := if b = 0 then (0, 2) else fitP (decide (a < 0) != decide (b < 0)) (roundP a.natAbs b.natAbs)

def sumP (a b : Int) : Int × Int := chkP (a + b)

def mulP (a b : Int) : Int × Int := fitP (decide (a < 0) != decide (b < 0)) ((a.natAbs * b.natAbs + 128) / 256)

theorem round_mul (z : Nat) : roundP z 65536 = (z + 128) / 256 := by unfold roundP; omega

theorem sign_mul (a b : Int) (n : Nat) (hn : a = 0 ∨ b = 0 → n = 0) : fitP (decide (a * b < 0) != false) n = fitP (decide (a < 0) != decide (b < 0)) n := by
  by_cases h0 : a = 0 ∨ b = 0
  · rw [hn h0, fit_zero, fit_zero]
  · congr 1
    rcases Int.lt_trichotomy a 0 with ha | ha | ha
    · rcases Int.lt_trichotomy b 0 with hb | hb | hb
      · have := Int.mul_pos_of_neg_of_neg ha hb
        simp only [decide_eq_true ha, decide_eq_true hb, decide_eq_false (show ¬ a * b < 0 by omega)]; rfl
      · omega
      · have := Int.mul_neg_of_neg_of_pos ha hb
        simp only [decide_eq_true ha, decide_eq_false (show ¬ b < 0 by omega), decide_eq_true this]
    · omega
    · rcases Int.lt_trichotomy b 0 with hb | hb | hb
      · have := Int.mul_neg_of_pos_of_neg ha hb
        simp only [decide_eq_true hb, decide_eq_false (show ¬ a < 0 by omega), decide_eq_true this]; rfl
      · omega
      · have := Int.mul_pos ha hb
        simp only [decide_eq_false (show ¬ a < 0 by omega), decide_eq_false (show ¬ b < 0 by omega), decide_eq_false (show ¬ a * b < 0 by omega)]

/-- the product, as the program reckons it -/
theorem mul_quo (a b : Int) : fitP (decide (a * b < 0) != false) (quoP (a * b).natAbs 65536) = mulP a b := by
  rw [fit_quo _ _ _ (by decide), round_mul, Int.natAbs_mul]
  unfold mulP
  refine sign_mul a b _ fun h => ?_
  rcases h with rfl | rfl <;> simp

theorem mul_comm' (a b : Int) : mulP a b = mulP b a := by
  unfold mulP
  rw [Nat.mul_comm, show (decide (a < 0) != decide (b < 0)) = (decide (b < 0) != decide (a < 0)) from by cases decide (a < 0) <;> cases decide (b < 0) <;> rfl]

theorem sum_comm (a b : Int) : sumP a b = sumP b a := by unfold sumP; rw [Int.add_comm]

theorem fit_self (x : Int) (h1 : -2147483648 ≤ x) (h2 : x ≤ 2147483647) : fitP (decide (x < 0)) x.natAbs = (x, 0) := by
  unfold fitP
  by_cases h : x < 0
  · rw [if_pos (by simpa using h), if_neg (by omega)]
    exact Prod.ext (by show -((x.natAbs : Nat) : Int) = x; omega) rfl
  · rw [if_neg (by simpa using h), if_neg (by omega)]
    exact Prod.ext (by show ((x.natAbs : Nat) : Int) = x; omega) rfl

theorem mul_one' (x : Int) (h1 : -2147483648 ≤ x) (h2 : x ≤ 2147483647) : mulP x 256 = (x, 0) := by
  unfold mulP
  rw [show (decide (x < 0) != decide ((256 : Int) < 0)) = decide (x < 0) by simp, show (x.natAbs * (256 : Int).natAbs + 128) / 256 = x.natAbs by show (x.natAbs * 256 + 128) / 256 = _; omega]
  exact fit_self x h1 h2

theorem div_one' (x : Int) (h1 : -2147483648 ≤ x) (h2 : x ≤ 2147483647) : ratP x 256 = (x, 0) := by
  unfold ratP
  rw [if_neg (by decide), show (decide (x < 0) != decide ((256 : Int) < 0)) = decide (x < 0) by simp, show roundP x.natAbs (256 : Int).natAbs = x.natAbs by show (512 * x.natAbs + 256) / (2 * 256) = _; omega]
  exact fit_self x h1 h2

theorem sum_zero (x : Int) (h1 : -2147483648 ≤ x) (h2 : x ≤ 2147483647) : sumP x 0 = (x, 0) := by
  unfold sumP chkP
  rw [if_neg (by omega), Int.add_zero]

/-- an integer as a number -/
def intP (n : Int) : Int × Int := ratP n 1

theorem int_eq (n : Int) : intP n = fitP (decide (n < 0)) (n.natAbs * 256) := by
  unfold intP ratP
  rw [if_neg (by decide), show (decide (n < 0) != decide ((1 : Int) < 0)) = decide (n < 0) by simp, show roundP n.natAbs (1 : Int).natAbs = n.natAbs * 256 by show (512 * n.natAbs + 1) / (2 * 1) = _; omega]

theorem fit_ok {neg : Bool} {n : Nat} (h : (fitP neg n).2 = 0) : (fitP neg n).1 = (if neg then -(n : Int) else n) ∧ -2147483648 ≤ (fitP neg n).1 ∧ (fitP neg n).1 ≤ 2147483647 := by
  unfold fitP at *
  cases neg
  · simp only [Bool.false_eq_true, if_false] at *
    split at h
    · exact absurd h (by decide)
    · rename_i h1
      rw [if_neg h1]
      refine ⟨rfl, ?_, ?_⟩ <;> (show _ ≤ _; dsimp only; omega)
  · simp only [if_true] at *
    split at h
    · exact absurd h (by decide)
    · rename_i h1
      rw [if_neg h1]
      refine ⟨rfl, ?_, ?_⟩ <;> (show _ ≤ _; dsimp only; omega)

theorem int_ok {n : Int} (h : (intP n).2 = 0) : (intP n).1 = n * 256 ∧ -8388608 ≤ n ∧ n ≤ 8388607 := by
  rw [int_eq] at *
  obtain ⟨h1, h2, h3⟩ := fit_ok h
  rw [h1] at h2 h3
  rw [h1]
  by_cases hn : n < 0
  · simp only [decide_eq_true hn, if_true] at *
    omega
  · simp only [decide_eq_false hn, Bool.false_eq_true, if_false] at *
    omega

/-- the code of an error -/
theorem fit_code (neg : Bool) (n : Nat) : ((fitP neg n).2 = 0 ∧ -2147483648 ≤ (fitP neg n).1 ∧ (fitP neg n).1 ≤ 2147483647) ∨ fitP neg n = (0, 6) := by
  unfold fitP
  cases neg
  · simp only [Bool.false_eq_true, if_false]
    split
    · exact .inr rfl
    · refine .inl ⟨rfl, ?_, ?_⟩ <;> (dsimp only; omega)
  · simp only [if_true]
    split
    · exact .inr rfl
    · refine .inl ⟨rfl, ?_, ?_⟩ <;> (dsimp only; omega)

theorem rat_code (a b : Int) : (b = 0 ∧ ratP a b = (0, 2)) ∨ (b ≠ 0 ∧ (ratP a b).2 = 0 ∧ -2147483648 ≤ (ratP a b).1 ∧ (ratP a b).1 ≤ 2147483647) ∨ (b ≠ 0 ∧ ratP a b = (0, 6)) := by
  unfold ratP
  by_cases h : b = 0
  · exact .inl ⟨h, if_pos h⟩
  · rw [if_neg h]
    rcases fit_code (decide (a < 0) != decide (b < 0)) (roundP a.natAbs b.natAbs) with h1 | h1
    · exact .inr (.inl ⟨h, h1⟩)
    · exact .inr (.inr ⟨h, h1⟩)

end Go.Proofs.YtnlkcdbeoeaalaaDoor
