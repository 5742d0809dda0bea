/-
  The reference's arithmetic: fit, abs, the long division, and what is built of them.
-/
import Derived.Test.YtnlkcdbeoeaalaaDoorChk
namespace Go.Proofs.YtnlkcdbeoeaalaaDoor
open Go.RowKit

theorem rabs_any (n : Int) (h1 : -9223372036854775808 ≤ n) (h2 : n ≤ 9223372036854775807) (w : World) :
    Calls Tryd.prog 39 #[.int .i64 n] w fun e w' => e = .returned (.int .u64 ((n.natAbs : Nat) : Int)) ∧ w' = w := by
  have e1 : IntKind.u64.wrap (-IntKind.u64.wrap n) = IntKind.u64.wrap (-n) := by rw [IntKind.wrap_u64, IntKind.wrap_u64, IntKind.wrap_u64]; omega
  by_cases h : n < 0
  · have e2 : IntKind.u64.wrap (-IntKind.u64.wrap n) = ((n.natAbs : Nat) : Int) := by rw [e1, IntKind.wrap_u64]; omega
    clear e1
    go_enter Tryd.func39, Tryd.ntmps39
    go_wp2_with fail
    go_ret
    exact ⟨rfl, rfl⟩
  · have e2 : IntKind.u64.wrap n = ((n.natAbs : Nat) : Int) := by rw [IntKind.wrap_u64]; omega
    have e3 : n = ((n.natAbs : Nat) : Int) := by omega
    clear e1
    have H3 := Lib.hid e3
    clear e3
    go_enter Tryd.func39, Tryd.ntmps39
    go_wp2_with fail
    go_ret
    exact ⟨by first | rfl | (rw [← H3.out]), rfl⟩

/-- as 'Gives', the world as it was -/
def GivesS (p : Int × Int) (w : World) (e : Ending) (w' : World) : Prop := e = .returned (.tuple #[.int .i32 p.1, .int .i64 p.2]) ∧ w' = w

theorem givesS_of {p q : Int × Int} {w : World} (h : p = q) : GivesS q w (.returned (.tuple #[.int .i32 p.1, .int .i64 p.2])) w := ⟨by rw [h], rfl⟩

theorem GivesS.gives {p : Int × Int} {w w' : World} {e : Ending} (h : GivesS p w e w') : Gives p w e w' := ⟨h.1, by rw [h.2]; exact Below.refl _ _⟩

theorem fit_neg {n : Nat} (h : ¬ 2147483648 < n) : ((-(n : Int), 0) : Int × Int) = fitP true n := by unfold fitP; rw [if_pos rfl, if_neg h]
theorem fit_pos {n : Nat} (h : ¬ 2147483647 < n) : (((n : Int), 0) : Int × Int) = fitP false n := by unfold fitP; rw [if_neg (by decide), if_neg h]
theorem fit_negbig {n : Nat} (h : 2147483648 < n) : ((0, 6) : Int × Int) = fitP true n := by unfold fitP; rw [if_pos rfl, if_pos h]
theorem fit_posbig {n : Nat} (h : 2147483647 < n) : ((0, 6) : Int × Int) = fitP false n := by unfold fitP; rw [if_neg (by decide), if_pos h]

theorem fit_any (neg : Bool) (n : Nat) (hn : n < 18446744073709551616) (w : World) : Calls Tryd.prog 42 #[.bool neg, .int .u64 (n : Int)] w (GivesS (fitP neg n) w) := by
  cases neg
  · by_cases h : 2147483647 < n
    · have k : (2147483647 : Int) < n := by omega
      go_enter Tryd.func42, Tryd.ntmps42
      go_wp2_with fail
      go_ret2
      exact givesS_of (fit_posbig h)
    · have k : ¬ (2147483647 : Int) < n := by omega
      have k2 : (n : Int) ≤ 2147483647 := by omega
      have H := Lib.hid h
      clear h
      go_enter Tryd.func42, Tryd.ntmps42
      go_wp2_with fail
      go_ret2
      exact givesS_of (fit_pos H.out)
  · by_cases h : 2147483648 < n
    · have k : (2147483648 : Int) < n := by omega
      go_enter Tryd.func42, Tryd.ntmps42
      go_wp2_with fail
      go_ret2
      exact givesS_of (fit_negbig h)
    · have k : ¬ (2147483648 : Int) < n := by omega
      have k2 : (n : Int) ≤ 2147483648 := by omega
      have H := Lib.hid h
      clear h
      go_enter Tryd.func42, Tryd.ntmps42
      go_wp2_with fail
      go_ret2
      exact givesS_of (fit_neg H.out)

theorem radd_any (a b : Int) (ha : In32 a) (hb : In32 b) (w : World) : Calls Tryd.prog 23 #[.int .i32 a, .int .i32 b] w (GivesS (sumP a b) w) := by
  obtain ⟨a1, a2⟩ := ha
  obtain ⟨b1, b2⟩ := hb
  have e : sumP a b = fitP (decide (a + b < 0)) (a + b).natAbs := by
    rw [← chk_fit]
    unfold sumP
    congr 1
    by_cases h : a + b < 0
    · rw [decide_eq_true h, if_pos rfl]; omega
    · rw [decide_eq_false h, if_neg (by decide)]; omega
  rw [e]
  have A := Lib.hid (rabs_any (a + b) (by omega) (by omega) w)
  have F := Lib.hid (fit_any (decide (a + b < 0)) (a + b).natAbs (by omega) w)
  obtain ⟨p, hp⟩ : ∃ p, fitP (decide (a + b < 0)) (a + b).natAbs = p := ⟨_, rfl⟩
  rw [hp] at F ⊢
  clear e hp
  obtain ⟨s, hs⟩ : ∃ s, decide (a + b < 0) = s := ⟨_, rfl⟩
  rw [hs] at F
  go_enter Tryd.func23, Tryd.ntmps23
  go_wp2_with fail
  refine A.out.mono ?_
  rintro e w' ⟨rfl, rfl⟩
  go_wp2_with fail
  refine F.out.mono ?_
  rintro e w' ⟨rfl, rfl⟩
  go_wp2_with fail
  go_ret2
  exact givesS_of rfl

theorem rmul_any (a b : Int) (ha : In32 a) (hb : In32 b) (w : World) : Calls Tryd.prog 25 #[.int .i32 a, .int .i32 b] w (GivesS (mulP a b) w) := by
  obtain ⟨a1, a2⟩ := ha
  obtain ⟨b1, b2⟩ := hb
  unfold mulP
  have hx : a.natAbs ≤ 2147483648 := by omega
  have hy : b.natAbs ≤ 2147483648 := by omega
  have A := Lib.hid (rabs_any a (by omega) (by omega) w)
  have B := Lib.hid (rabs_any b (by omega) (by omega) w)
  obtain ⟨x, hxe⟩ : ∃ x, a.natAbs = x := ⟨_, rfl⟩
  obtain ⟨y, hye⟩ : ∃ x, b.natAbs = x := ⟨_, rfl⟩
  rw [hxe] at A hx ⊢
  rw [hye] at B hy ⊢
  have hz : x * y ≤ 4611686018427387904 := Nat.mul_le_mul hx hy
  obtain ⟨z, hze⟩ : ∃ z, x * y = z := ⟨_, rfl⟩
  rw [hze] at hz ⊢
  have k1 : IntKind.u64.wrap ((x : Int) * (y : Int)) = (z : Int) := by rw [← Int.natCast_mul, hze, wrap_nat (by omega)]
  have k2 : ((z : Int) + 128) / 256 = (((z + 128) / 256 : Nat) : Int) := by omega
  have hq : (z + 128) / 256 ≤ z + 128 := Nat.div_le_self _ _
  obtain ⟨q, hqe⟩ : ∃ q, (z + 128) / 256 = q := ⟨_, rfl⟩
  rw [hqe] at k2 hq ⊢
  obtain ⟨s, hs⟩ : ∃ s, (decide (a < 0) != decide (b < 0)) = s := ⟨_, rfl⟩
  rw [hs]
  have hs' : (!(decide (a < 0) == decide (b < 0))) = s := hs
  have F := Lib.hid (fit_any s q (by omega) w)
  obtain ⟨p, hp⟩ : ∃ p, fitP s q = p := ⟨_, rfl⟩
  rw [hp] at F ⊢
  clear hp hqe hze hxe hye
  go_enter Tryd.func25, Tryd.ntmps25
  go_wp2_with fail
  refine A.out.mono ?_
  rintro e w' ⟨rfl, rfl⟩
  go_wp2_with fail
  refine B.out.mono ?_
  rintro e w' ⟨rfl, rfl⟩
  go_wp2_with fail
  refine F.out.mono ?_
  rintro e w' ⟨rfl, rfl⟩
  go_wp2_with fail
  go_ret2
  exact givesS_of rfl

/-- a step of the long division -/
theorem long_step (X y : Nat) (hy : 0 < y) : (y ≤ 2 * (X % y) → 2 * X / y = 2 * (X / y) + 1 ∧ 2 * X % y = 2 * (X % y) - y) ∧ (2 * (X % y) < y → 2 * X / y = 2 * (X / y) ∧ 2 * X % y = 2 * (X % y)) := by
  have h1 := Nat.div_add_mod X y
  have h2 := Nat.mod_lt X hy
  generalize X / y = q at *
  generalize X % y = r at *
  constructor
  · intro h
    have e : 2 * X = (2 * r - y) + y * (2 * q + 1) := by
      rw [Nat.mul_add, Nat.mul_one, Nat.mul_left_comm]
      generalize y * q = z at *
      omega
    rw [e, Nat.add_mul_div_left _ _ hy, Nat.add_mul_mod_self_left, Nat.div_eq_of_lt (by omega), Nat.mod_eq_of_lt (by omega), Nat.zero_add]
    exact ⟨rfl, rfl⟩
  · intro h
    have e : 2 * X = 2 * r + y * (2 * q) := by
      rw [Nat.mul_left_comm]
      generalize y * q = z at *
      omega
    rw [e, Nat.add_mul_div_left _ _ hy, Nat.add_mul_mod_self_left, Nat.div_eq_of_lt (by omega), Nat.mod_eq_of_lt (by omega), Nat.zero_add]
    exact ⟨rfl, rfl⟩

theorem long_bound {x y : Nat} (hy : 0 < y) (hq : x / y ≤ 16777216) {k : Nat} (hk : k ≤ 8) : x * 2 ^ k / y < 4294967552 := by
  have h1 : x < 16777217 * y := by
    rw [← Nat.div_lt_iff_lt_mul hy]
    omega
  have h2 : 2 ^ k ≤ 2 ^ 8 := Nat.pow_le_pow_right (by decide) hk
  rw [Nat.div_lt_iff_lt_mul hy]
  have h3 : x * 2 ^ k ≤ x * 256 := Nat.mul_le_mul_left x h2
  omega

/-- what the long division keeps -/
def LongD (x y : Nat) (s8 s9 s10 : Value) : Prop := ∃ k : Nat, k ≤ 8 ∧ s10 = .int .i64 (k : Int) ∧ s8 = .int .u64 ((x * 2 ^ k / y : Nat) : Int) ∧ s9 = .int .u64 ((x * 2 ^ k % y : Nat) : Int)

/-- what the long division leaves -/
def LongE (x y : Nat) (s8 s9 : Value) : Prop := s8 = .int .u64 ((x * 256 / y : Nat) : Int) ∧ s9 = .int .u64 ((x * 256 % y : Nat) : Int)

def left8 (v : Value) : Nat := 8 - (intOf v).toNat
theorem left8_lt {k : Nat} (h : k < 8) {z : Int} (hz : z = (k : Int) + 1) : left8 (.int .i64 z) < left8 (.int .i64 (k : Int)) := by
  subst hz
  show 8 - ((k : Int) + 1).toNat < 8 - ((k : Int)).toNat
  omega

theorem round_long (x y : Nat) (hy : 0 < y) : roundP x y = x * 256 / y + (if y ≤ 2 * (x * 256 % y) then 1 else 0) := by
  have h := round_split 0 (x * 256 / y) (x * 256 % y) y (Nat.mod_lt _ hy)
  rw [Nat.zero_mul, Nat.zero_add] at h
  rw [← h, Nat.div_add_mod]
  unfold roundP
  rw [show 512 * x + y = 2 * (x * 256) + y by omega]

set_option maxRecDepth 100000 in
set_option maxHeartbeats 4000000 in
theorem rratio_any (a b : Int) (ha1 : -9223372036854775808 ≤ a) (ha2 : a ≤ 9223372036854775807) (hb1 : -9223372036854775808 ≤ b) (hb2 : b ≤ 9223372036854775807) (w : World) :
    Calls Tryd.prog 21 #[.int .i64 a, .int .i64 b] w (Gives (ratP a b) w) := by
  by_cases h0 : b = 0
  · subst h0
    have q : ((0 : Int) == 0) = true := rfl
    go_enter Tryd.func21, Tryd.ntmps21
    go_wp2_with fail
    go_ret2
    exact gives_of (p := (0, 2)) (by unfold ratP; rw [if_pos rfl]) (Below.refl _ _)
  have q : (b == 0) = false := by rw [beq_eq_false_iff_ne]; exact h0
  have hb0 : 0 < b.natAbs := by omega
  have hx2 : a.natAbs ≤ 9223372036854775808 := by omega
  have hy2 : b.natAbs ≤ 9223372036854775808 := by omega
  have e : ratP a b = fitP (decide (a < 0) != decide (b < 0)) (roundP a.natAbs b.natAbs) := if_neg h0
  rw [e]
  have A := Lib.hid (rabs_any a ha1 ha2 w)
  have B := Lib.hid (rabs_any b hb1 hb2 w)
  obtain ⟨x, hxe⟩ : ∃ x, a.natAbs = x := ⟨_, rfl⟩
  obtain ⟨y, hye⟩ : ∃ x, b.natAbs = x := ⟨_, rfl⟩
  rw [hxe] at A hx2 ⊢
  rw [hye] at B hy2 hb0 ⊢
  clear hxe hye e h0
  have hqx : x / y ≤ x := Nat.div_le_self _ _
  have hrx := Nat.mod_lt x hb0
  have k1 : (x : Int) / (y : Int) = ((x / y : Nat) : Int) := (Int.natCast_ediv _ _).symm
  have k2 : (x : Int) % (y : Int) = ((x % y : Nat) : Int) := (Int.natCast_emod _ _).symm
  have k3 : (y : Int) ≠ 0 := by omega
  obtain ⟨s, hs⟩ : ∃ s, (decide (a < 0) != decide (b < 0)) = s := ⟨_, rfl⟩
  rw [hs]
  have hs' : (!(decide (a < 0) == decide (b < 0))) = s := hs
  by_cases hbig : 16777216 < x / y
  · have hfar : fitP s (roundP x y) = (0, 6) := by
      rw [round_digits x y hb0]
      refine fit_far s ?_
      generalize x / y = q at *
      generalize x % y * 256 / y = p
      generalize (if y ≤ 2 * (x % y * 256 % y) then 1 else 0) = c
      omega
    rw [hfar]
    obtain ⟨q0, hq0⟩ : ∃ n, x / y = n := ⟨_, rfl⟩
    obtain ⟨r0, hr0⟩ : ∃ n, x % y = n := ⟨_, rfl⟩
    rw [hq0] at k1 hqx hbig
    rw [hr0] at k2 hrx
    have kb : (16777216 : Int) < q0 := by omega
    have kw : IntKind.u64.wrap (q0 : Int) = (q0 : Int) := wrap_nat (by omega)
    clear hq0 hr0 hs hs' hfar
    go_enter Tryd.func21, Tryd.ntmps21
    go_wp2_with fail
    refine A.out.mono ?_
    rintro e w' ⟨rfl, rfl⟩
    go_wp2_with fail
    refine B.out.mono ?_
    rintro e w' ⟨rfl, rfl⟩
    go_wp2_with fail
    go_quiet (fail)
    go_wp2_with fail
    go_ret2
    exact gives_of (p := (0, 6)) rfl (below_draws (Below.refl _ _) _)
  · have HQ := Lib.hid (Nat.le_of_not_lt hbig)
    obtain ⟨q0, hq0⟩ : ∃ n, x / y = n := ⟨_, rfl⟩
    obtain ⟨r0, hr0⟩ : ∃ n, x % y = n := ⟨_, rfl⟩
    rw [hq0] at k1 hqx hbig
    rw [hr0] at k2 hrx
    have kb : ¬ (16777216 : Int) < q0 := by omega
    have kw : IntKind.u64.wrap (q0 : Int) = (q0 : Int) := wrap_nat (by omega)
    have HQ0 := Lib.hid hq0
    have HR0 := Lib.hid hr0
    clear hq0 hr0 hbig
    obtain ⟨p, hp⟩ : ∃ p, fitP s (roundP x y) = p := ⟨_, rfl⟩
    rw [hp]
    have HP := Lib.hid hp
    clear hp
    go_enter Tryd.func21, Tryd.ntmps21
    go_wp2_with fail
    refine A.out.mono ?_
    rintro e w' ⟨rfl, rfl⟩
    go_wp2_with fail
    refine B.out.mono ?_
    rintro e w' ⟨rfl, rfl⟩
    go_wp2_with fail
    go_quiet (fail)
    go_upto_block 0 with (fail)
    generalize hW : w'.drewN nq = w1
    have K1 : Hid (Below w'.heap.size w' w1) := Lib.hid (by rw [← hW]; exact below_draws (Below.refl _ _) _)
    clear hW
    go_cut [8, 9] (fun s8 s9 wx => wx = w1 ∧ LongE x y s8 s9)
    case first =>
      go_wp2_with fail
      go_loop [8, 9, 10] (fun s8 s9 s10 => LongD x y s8 s9 s10) (fun _ _ s10 => left8 s10)
      case atStart => exact ⟨0, by omega, rfl, by rw [Nat.pow_zero, Nat.mul_one, HQ0.out], by rw [Nat.pow_zero, Nat.mul_one, ← Int.natCast_emod]⟩
      case round =>
        obtain ⟨k, hk, rfl, rfl, rfl⟩ := hrel
        clear k1 k2 kw kb hqx hrx
        by_cases hlt : k < 8
        · have hB := long_bound hb0 HQ.out hk
          have hS := long_step (x * 2 ^ k) y hb0
          have hR := Nat.mod_lt (x * 2 ^ k) hb0
          have e2 : 2 * (x * 2 ^ k) = x * 2 ^ (k + 1) := by rw [Nat.pow_succ, Nat.mul_left_comm, Nat.mul_comm 2, ← Nat.mul_assoc]
          rw [e2] at hS
          obtain ⟨qk, hqk⟩ : ∃ n, x * 2 ^ k / y = n := ⟨_, rfl⟩
          obtain ⟨rk, hrk⟩ : ∃ n, x * 2 ^ k % y = n := ⟨_, rfl⟩
          rw [hqk] at hS hB
          rw [hrk] at hS hR
          rw [hqk, hrk]
          have HS := Lib.hid hS
          clear hqk hrk hS e2
          have c1 : (k : Int) < 8 := by omega
          by_cases ht : y ≤ 2 * rk
          · have c2 : (y : Int) ≤ 2 * (rk : Int) := by omega
            go_wp2_with fail
            exact ⟨⟨k + 1, by omega, rfl, by rw [(HS.out.1 ht).1]; rfl, by rw [(HS.out.1 ht).2]; congr 1; omega⟩, left8_lt hlt rfl⟩
          · have c2 : ¬ (y : Int) ≤ 2 * (rk : Int) := by omega
            go_wp2_with fail
            exact ⟨⟨k + 1, by omega, rfl, by rw [(HS.out.2 (by omega)).1]; rfl, by rw [(HS.out.2 (by omega)).2]; rfl⟩, left8_lt hlt rfl⟩
        · obtain rfl : k = 8 := by omega
          have c1 : ¬ ((8 : Nat) : Int) < 8 := by omega
          go_wp2_with fail
          go_meet
          exact ⟨rfl, rfl, rfl⟩
    case rest =>
      obtain ⟨rfl, rfl, rfl⟩ := hcut
      have hB : x * 256 / y < 4294967552 := long_bound hb0 HQ.out (Nat.le_refl 8)
      have hR := Nat.mod_lt (x * 256) hb0
      have hRL := round_long x y hb0
      clear k1 k2 kw kb hqx hrx
      obtain ⟨qk, hqk⟩ : ∃ n, x * 256 / y = n := ⟨_, rfl⟩
      obtain ⟨rk, hrk⟩ : ∃ n, x * 256 % y = n := ⟨_, rfl⟩
      rw [hqk] at hB hRL ⊢
      rw [hrk] at hR hRL ⊢
      clear hqk hrk
      have hc : ∃ c, (if y ≤ 2 * rk then 1 else 0) = c ∧ c ≤ 1 := ⟨_, rfl, by split <;> omega⟩
      obtain ⟨c, hc, hc1⟩ := hc
      rw [hc] at hRL
      have F := Lib.hid (fit_any s (qk + c) (by omega) wc)
      rw [← hRL, HP.out] at F
      rw [hRL] at F
      by_cases ht : y ≤ 2 * rk
      · have c2 : (y : Int) ≤ 2 * (rk : Int) := by omega
        rw [if_pos ht] at hc
        subst hc
        have F2 : Hid (Calls Tryd.prog 42 #[.bool s, .int .u64 ((qk : Int) + 1)] wc (GivesS p wc)) := Lib.hid F.out
        clear F hRL
        go_wp2_with fail
        refine F2.out.mono ?_
        rintro e w2 ⟨rfl, rfl⟩
        go_wp2_with fail
        go_ret2
        exact ⟨rfl, K1.out⟩
      · have c2 : ¬ (y : Int) ≤ 2 * (rk : Int) := by omega
        rw [if_neg ht] at hc
        subst hc
        have F2 : Hid (Calls Tryd.prog 42 #[.bool s, .int .u64 (qk : Int)] wc (GivesS p wc)) := Lib.hid F.out
        clear F hRL
        go_wp2_with fail
        refine F2.out.mono ?_
        rintro e w2 ⟨rfl, rfl⟩
        go_wp2_with fail
        go_ret2
        exact ⟨rfl, K1.out⟩

set_option maxHeartbeats 1000000 in
theorem rint_any (n : Int) (h1 : -9223372036854775808 ≤ n) (h2 : n ≤ 9223372036854775807) (w : World) : Calls Tryd.prog 17 #[.int .i64 n] w (GivesS (intP n) w) := by
  rw [int_eq]
  have A := Lib.hid (rabs_any n h1 h2 w)
  have hx2 : n.natAbs ≤ 9223372036854775808 := by omega
  obtain ⟨s, hs⟩ : ∃ s, decide (n < 0) = s := ⟨_, rfl⟩
  obtain ⟨x, hx⟩ : ∃ x, n.natAbs = x := ⟨_, rfl⟩
  rw [hx] at A hx2 ⊢
  rw [hs]
  by_cases hbig : 16777216 < x
  · have k : (16777216 : Int) < x := by omega
    rw [fit_far s (by omega)]
    clear hx
    go_enter Tryd.func17, Tryd.ntmps17
    go_wp2_with fail
    refine A.out.mono ?_
    rintro e w' ⟨rfl, rfl⟩
    go_wp2_with fail
    go_ret2
    exact givesS_of (p := (0, 6)) rfl
  · have k : ¬ (16777216 : Int) < x := by omega
    have F := Lib.hid (fit_any s (x * 256) (by omega) w)
    obtain ⟨p, hp⟩ : ∃ p, fitP s (x * 256) = p := ⟨_, rfl⟩
    rw [hp] at F ⊢
    have F2 : Hid (Calls Tryd.prog 42 #[.bool s, .int .u64 ((x : Int) * 256)] w (GivesS p w)) := Lib.hid (by rw [show (x : Int) * 256 = ((x * 256 : Nat) : Int) by omega]; exact F.out)
    clear hp hx F
    go_enter Tryd.func17, Tryd.ntmps17
    go_wp2_with fail
    refine A.out.mono ?_
    rintro e w' ⟨rfl, rfl⟩
    go_wp2_with fail
    refine A.out.mono ?_
    rintro e w' ⟨rfl, rfl⟩
    go_wp2_with fail
    refine F2.out.mono ?_
    rintro e w' ⟨rfl, rfl⟩
    go_wp2_with fail
    go_ret2
    exact ⟨rfl, rfl⟩

theorem rdiv_any (a b : Int) (ha : In32 a) (hb : In32 b) (w : World) : Calls Tryd.prog 27 #[.int .i32 a, .int .i32 b] w (Gives (ratP a b) w) := by
  obtain ⟨a1, a2⟩ := ha
  obtain ⟨b1, b2⟩ := hb
  have CC := Lib.hid (rratio_any a b (by omega) (by omega) (by omega) (by omega) w)
  obtain ⟨p, hp⟩ : ∃ p, ratP a b = p := ⟨_, rfl⟩
  rw [hp] at CC ⊢
  clear hp
  go_enter Tryd.func27, Tryd.ntmps27
  go_wp2_with fail
  refine CC.out.mono ?_
  rintro e w1 ⟨rfl, hb⟩
  have K := Lib.hid hb
  clear hb
  go_wp2_with fail
  go_ret2
  exact ⟨rfl, K.out⟩

end Go.Proofs.YtnlkcdbeoeaalaaDoor
