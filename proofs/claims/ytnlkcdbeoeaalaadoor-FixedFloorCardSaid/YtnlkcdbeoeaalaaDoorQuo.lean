/-
  The arithmetic of a division of two words by one, on natural numbers: the estimate of a digit, corrected, is the digit.
-/
namespace Go.Proofs.YtnlkcdbeoeaalaaDoor

theorem div_le_est {N Y un yn1 B : Nat} (h1 : 0 < yn1) (hY : yn1 * B ≤ Y) (hN : N < (un + 1) * B) : N / Y ≤ un / yn1 := by
  rw [Nat.le_div_iff_mul_le h1]
  have h := Nat.div_mul_le_self N Y
  generalize N / Y = t at *
  have h2 : t * (yn1 * B) ≤ t * Y := Nat.mul_le_mul_left t hY
  have h3 : (t * yn1) * B < (un + 1) * B := by rw [Nat.mul_assoc]; omega
  have h4 := Nat.lt_of_mul_lt_mul_right h3
  omega

/-- an estimate q of the digit N / Y, with what is left of un -/
def Est (un N Y yn1 q r : Nat) : Prop := q * yn1 + r = un ∧ N / Y ≤ q

theorem est_init {un N Y yn1 B : Nat} (h1 : 0 < yn1) (hY : yn1 * B ≤ Y) (hN : N < (un + 1) * B) : Est un N Y yn1 (un / yn1) (un % yn1) :=
  ⟨by rw [Nat.mul_comm]; exact Nat.div_add_mod un yn1, div_le_est h1 hY hN⟩

/-- the true digit is less than the base -/
theorem digit_lt {un N Y B : Nat} (hu : un < Y) (hN : N < (un + 1) * B) : N / Y < B := by
  rw [Nat.div_lt_iff_lt_mul (by omega)]
  have : (un + 1) * B ≤ Y * B := Nat.mul_le_mul_right B hu
  rw [Nat.mul_comm B Y]
  omega

theorem est_down {un N Y yn1 q r : Nat} (h : Est un N Y yn1 q r) (hlt : N / Y < q) : 1 ≤ q ∧ Est un N Y yn1 (q - 1) (r + yn1) := by
  have h1 := h.1
  have hq : 1 ≤ q := Nat.lt_of_le_of_lt (Nat.zero_le _) hlt
  refine ⟨hq, ?_, Nat.le_sub_one_of_lt hlt⟩
  obtain ⟨k, rfl⟩ : ∃ k, q = k + 1 := ⟨q - 1, by omega⟩
  rw [Nat.add_sub_cancel]
  rw [Nat.succ_mul] at h1
  omega

/-- q times Y, by the two halves of Y -/
theorem mul_halves (q yn1 yn0 B un r : Nat) (h : q * yn1 + r = un) : q * (yn1 * B + yn0) + r * B = un * B + q * yn0 := by
  rw [← h, Nat.mul_add, Nat.add_mul, ← Nat.mul_assoc]
  omega

/-- the test is met: the estimate is too great -/
theorem est_big {un d yn1 yn0 q r B : Nat} (h : q * yn1 + r = un) (h0 : 0 < yn1 * B + yn0) (ht : r * B + d < q * yn0) : (un * B + d) / (yn1 * B + yn0) < q := by
  rw [Nat.div_lt_iff_lt_mul h0]
  have := mul_halves q yn1 yn0 B un r h
  omega

/-- the test is not met: the estimate is the digit -/
theorem est_exit {un d yn1 yn0 q r B : Nat} (h : Est un (un * B + d) (yn1 * B + yn0) yn1 q r) (h0 : 0 < yn1 * B + yn0)
    (ht : q * yn0 ≤ r * B + d) : q = (un * B + d) / (yn1 * B + yn0) := by
  refine Nat.le_antisymm ?_ h.2
  rw [Nat.le_div_iff_mul_le h0]
  have := mul_halves q yn1 yn0 B un r h.1
  omega

/-- what is left is no digit any more: the estimate is the digit -/
theorem est_break {un d yn1 yn0 q r B : Nat} (h : Est un (un * B + d) (yn1 * B + yn0) yn1 q r) (h1 : 0 < yn1) (hu : un < yn1 * B + yn0) (hB : yn0 < B)
    (ht : B ≤ r) : q = (un * B + d) / (yn1 * B + yn0) := by
  refine est_exit h (by omega) ?_
  have hq : q ≤ B := by
    have h2 := h.1
    rcases Nat.lt_or_ge B q with hlt | hge
    · have h3 : (B + 1) * yn1 ≤ q * yn1 := Nat.mul_le_mul_right yn1 hlt
      rw [Nat.add_mul, Nat.mul_comm B yn1] at h3
      omega
    · exact hge
  have h2 : q * yn0 ≤ B * B := Nat.mul_le_mul hq (by omega)
  have h3 : B * B ≤ r * B := Nat.mul_le_mul_right B ht
  omega

theorem mul_lt_word {q yn0 : Nat} (hq : q < 4294967296) (h0 : yn0 < 4294967296) : q * yn0 < 18446744073709551616 := by
  have : q * yn0 ≤ 4294967295 * 4294967295 := Nat.mul_le_mul (by omega) (by omega)
  omega

/-- the remainder behind a digit, reckoned in words -/
theorem rem_word {N Y M : Nat} (hY : 0 < Y) (hM : Y ≤ M) : ((N : Int) - ((N / Y : Nat) : Int) * (Y : Int)) % (M : Int) = ((N % Y : Nat) : Int) := by
  have h := Nat.div_add_mod N Y
  have h2 := Nat.mod_lt N hY
  have e : (N : Int) = (Y : Int) * ((N / Y : Nat) : Int) + ((N % Y : Nat) : Int) := by
    rw [← Int.natCast_mul, ← Int.natCast_add, h]
  generalize ((N % Y : Nat)) = r at *
  generalize ((N / Y : Nat) : Int) = q at *
  rw [e, Int.mul_comm q]
  generalize (Y : Int) * q = z at *
  rw [show z + (r : Int) - z = r by omega]
  exact Int.emod_eq_of_lt (by omega) (by omega)

theorem rem_mod {N Y M : Nat} (hY : 0 < Y) (hM : Y ≤ M) : (((N % M : Nat) : Int) - ((N / Y * Y % M : Nat) : Int)) % (M : Int) = ((N % Y : Nat) : Int) := by
  rw [Int.natCast_emod, Int.natCast_emod, ← Int.sub_emod, Int.natCast_mul]
  exact rem_word hY hM

/-- the two digits together are the quotient, and what is left of the second one is the remainder -/
theorem two_digits {U y p un32 un1 un0 B : Nat} (hy : 0 < y) (hp : 0 < p) (hU : U * p = un32 * B * B + un1 * B + un0) :
    (un32 * B + un1) / (y * p) * B + ((un32 * B + un1) % (y * p) * B + un0) / (y * p) = U / y ∧
    ((un32 * B + un1) % (y * p) * B + un0) % (y * p) / p = U % y := by
  have hY : 0 < y * p := Nat.mul_pos hy hp
  have h1 := Nat.div_add_mod (un32 * B + un1) (y * p)
  generalize (un32 * B + un1) / (y * p) = q1 at *
  generalize (un32 * B + un1) % (y * p) = r1 at *
  have h2 := Nat.div_add_mod (r1 * B + un0) (y * p)
  have hr2 := Nat.mod_lt (r1 * B + un0) hY
  generalize (r1 * B + un0) / (y * p) = q0 at *
  generalize (r1 * B + un0) % (y * p) = r0 at *
  have e : U * p = y * p * (q1 * B + q0) + r0 := by
    rw [hU, ← Nat.add_mul, ← h1, Nat.add_mul, Nat.add_assoc, ← h2, Nat.mul_add, ← Nat.mul_assoc, Nat.add_assoc]
  have e2 : U * p = (y * (q1 * B + q0)) * p + r0 := by rw [e, Nat.mul_right_comm y p]
  generalize q1 * B + q0 = q at *
  have hle : y * q * p ≤ U * p := by omega
  have hle2 : y * q ≤ U := Nat.le_of_mul_le_mul_right hle hp
  have e3 : r0 = (U - y * q) * p := by rw [Nat.sub_mul]; omega
  have hlt : U - y * q < y := by
    rw [e3] at hr2
    exact Nat.lt_of_mul_lt_mul_right hr2
  rw [e3, Nat.mul_div_cancel _ hp]
  have e4 : U = (U - y * q) + y * q := by omega
  generalize U - y * q = m at *
  constructor
  · rw [e4, Nat.add_mul_div_left _ _ hy, Nat.div_eq_of_lt hlt]
    omega
  · rw [e4, Nat.add_mul_mod_self_left, Nat.mod_eq_of_lt hlt]

/-- the dividend, moved up by s bits: its upper word and its lower word -/
theorem shifted {hi lo y W p p2 : Nat} (hW : p * p2 = W) (hp : 0 < p) (h : hi < y) (_ : lo < W) :
    hi * p + lo / p2 < y * p ∧ (hi * W + lo) * p = (hi * p + lo / p2) * W + lo * p % W := by
  have hp2 : 0 < p2 ∨ p2 = 0 := by omega
  rcases hp2 with hp2 | rfl
  · have h1 : lo / p2 < p := by
      rw [Nat.div_lt_iff_lt_mul hp2, hW]
      assumption
    have h2 : (hi + 1) * p ≤ y * p := Nat.mul_le_mul_right p h
    rw [Nat.add_mul] at h2
    refine ⟨by omega, ?_⟩
    have h3 : lo * p / W = lo / p2 := by rw [← hW, Nat.mul_comm p p2, Nat.mul_div_mul_right _ _ hp]
    have h4 := Nat.div_add_mod (lo * p) W
    rw [h3] at h4
    rw [Nat.add_mul, Nat.add_mul, Nat.mul_right_comm, Nat.mul_comm (lo / p2) W]
    omega
  · omega

end Go.Proofs.YtnlkcdbeoeaalaaDoor
