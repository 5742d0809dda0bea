/-
  CombineAdler32 of the program and of the reference.
-/
import Derived.Test.YtllmdgbokmldnaaAdl
namespace Go.Proofs.Ytllmdgbokmldnaa
open Go.RowKit Mem Adler

/-- the combination of the checksums a and b, the second part being n long -/
def comb (a b n : Nat) : Nat := both ((p1 a + p1 b + 65520) % 65521) ((p2 a + p2 b + n * (p1 a + 65520)) % 65521)

/-- the length that counts -/
def cnt (n : Int) : Nat := n.toNat

theorem ret_num {k : IntKind} {a b : Int} (h : a = b) : Ending.returned (.int k a) = .returned (.int k b) := by rw [h]

theorem mod_part (x N y : Nat) : (x + N % 65521 * (y % 65521)) % 65521 = (x + N * y) % 65521 := by
  rw [Nat.add_mod, ← Nat.mul_mod, ← Nat.add_mod]

theorem mul_small {a b c d : Nat} (h1 : a ≤ c) (h2 : b ≤ d) : a * b ≤ c * d := Nat.mul_le_mul h1 h2

theorem val_ge (a1 a2 b1 b2 N : Nat) (h2 : a2 < 65521) (h4 : b2 < 65521) :
    ((a2 : Int) + b2 + (N : Int) % 65521 * (((a1 : Int) + 65521 - 1) % 65521)) % 4294967296 % 65521 * 65536 + ((a1 : Int) + 65521 - 1 + b1) % 65521 = ((both ((a1 + b1 + 65520) % 65521) ((a2 + b2 + N * (a1 + 65520)) % 65521) : Nat) : Int) := by
  have e1 : (a1 : Int) + 65521 - 1 = ((a1 + 65520 : Nat) : Int) := by omega
  rw [e1]
  have hm := mod_part (a2 + b2) N (a1 + 65520)
  have hL : N % 65521 ≤ 65520 := by omega
  have hl : (a1 + 65520) % 65521 ≤ 65520 := by omega
  have hq := mul_small hL hl
  have e2 : (N : Int) % 65521 * (((a1 + 65520 : Nat) : Int) % 65521) = ((N % 65521 * ((a1 + 65520) % 65521) : Nat) : Int) := by
    rw [Int.natCast_mul, Int.natCast_emod, Int.natCast_emod]
    rfl
  rw [e2, ← hm]
  generalize N % 65521 * ((a1 + 65520) % 65521) = q at *
  unfold both
  omega

theorem val_lt (a1 a2 b1 b2 : Nat) :
    ((a2 : Int) + b2) % 65521 * 65536 + ((a1 : Int) + 65521 - 1 + b1) % 65521 = ((both ((a1 + b1 + 65520) % 65521) ((a2 + b2 + 0 * (a1 + 65520)) % 65521) : Nat) : Int) := by
  unfold both
  omega

theorem rval_lt (a1 a2 b1 b2 : Nat) :
    (((a2 : Int) + b2) % 65521 * 65536 + ((a1 : Int) + b1 + 65520) % 65521) = ((both ((a1 + b1 + 65520) % 65521) ((a2 + b2 + 0 * (a1 + 65520)) % 65521) : Nat) : Int) := by
  unfold both
  omega

theorem wrap64_of (z : Int) (h0 : 0 ≤ z) (h1 : z < 18446744073709551616) : IntKind.u64.wrap z = z := by
  rw [IntKind.wrap_u64]
  exact Int.emod_eq_of_lt h0 h1

theorem rval_ge (a1 a2 b1 b2 N : Nat) (h1 : a1 < 65521) (h2 : a2 < 65521) (h4 : b2 < 65521) :
    (IntKind.u64.wrap (IntKind.u64.wrap ((IntKind.u64.wrap ((a2 : Int) + b2 + IntKind.u64.wrap ((N : Int) % 65521 * ((a1 : Int) + 65520)))).tmod 65521 * 65536) + ((a1 : Int) + b1 + 65520) % 65521) % 4294967296) = ((both ((a1 + b1 + 65520) % 65521) ((a2 + b2 + N * (a1 + 65520)) % 65521) : Nat) : Int) := by
  have hm : (a2 + b2 + N % 65521 * (a1 + 65520)) % 65521 = (a2 + b2 + N * (a1 + 65520)) % 65521 := by
    rw [Nat.add_mod, Nat.mod_mul_mod, ← Nat.add_mod]
  have hL : N % 65521 ≤ 65520 := by omega
  have hl : a1 + 65520 ≤ 131040 := by omega
  have hq : N % 65521 * (a1 + 65520) ≤ 8585740800 := mul_small hL hl
  have e2 : (N : Int) % 65521 * ((a1 : Int) + 65520) = ((N % 65521 * (a1 + 65520) : Nat) : Int) := by
    rw [Int.natCast_mul, Int.natCast_emod, Int.natCast_add]
    rfl
  rw [e2, ← hm]
  obtain ⟨q, hqe⟩ : ∃ q, q = N % 65521 * (a1 + 65520) := ⟨_, rfl⟩
  rw [← hqe] at hq ⊢
  clear hm e2 hL hl hqe
  rw [wrap64_of (q : Int) (by omega) (by omega), wrap64_of ((a2 : Int) + b2 + q) (by omega) (by omega), Int.tmod_eq_emod_of_nonneg (by omega)]
  have e3 : ((a2 : Int) + b2 + q) % 65521 = (((a2 + b2 + q) % 65521 : Nat) : Int) := by omega
  rw [e3]
  have hz : (a2 + b2 + q) % 65521 < 65521 := Nat.mod_lt _ (by decide)
  generalize (a2 + b2 + q) % 65521 = z at *
  clear e3
  rw [wrap64_of ((z : Int) * 65536) (by omega) (by omega), wrap64_of _ (by omega) (by omega)]
  unfold both
  omega

set_option maxRecDepth 100000 in
set_option maxHeartbeats 2000000 in
theorem comb_any (a b : Nat) (ha : a < 4294967296) (hb : b < 4294967296) (n : Int) (hn : n ≤ 9223372036854775807) (hn0 : -9223372036854775808 ≤ n) (w : World) :
    Calls Try.prog 21 #[.int .u32 (a : Int), .int .u32 (b : Int), .int .i64 n] w (Only w (comb a b (cnt n))) := by
  have HA := Lib.hid (parts_any a ha)
  have HB := Lib.hid (parts_any b hb)
  have h1 := p1_lt a
  have h2 := p2_lt a
  have h3 := p1_lt b
  have h4 := p2_lt b
  unfold comb
  generalize p1 a = a1 at *
  generalize p2 a = a2 at *
  generalize p1 b = b1 at *
  generalize p2 b = b2 at *
  by_cases hneg : n < 0
  · have hN : cnt n = 0 := by unfold cnt; omega
    rw [hN]
    clear hN
    go_enter Try.func21, Try.ntmps21
    go_wp2_with fail
    refine (HA.out w).mono ?_
    rintro e w1 ⟨rfl, rfl⟩
    go_wp2_with fail
    refine (HB.out w).mono ?_
    rintro e w1 ⟨rfl, rfl⟩
    clear HA HB
    go_wp2_with fail
    go_ret
    exact ⟨ret_num (val_lt a1 a2 b1 b2), rfl⟩
  · obtain ⟨N, rfl⟩ : ∃ N : Nat, n = (N : Int) := ⟨n.toNat, by omega⟩
    have hN : cnt (N : Int) = N := by unfold cnt; omega
    rw [hN]
    clear hN
    go_enter Try.func21, Try.ntmps21
    go_wp2_with fail
    refine (HA.out w).mono ?_
    rintro e w1 ⟨rfl, rfl⟩
    go_wp2_with fail
    refine (HB.out w).mono ?_
    rintro e w1 ⟨rfl, rfl⟩
    clear HA HB
    go_wp2_with fail
    go_ret
    exact ⟨ret_num (val_ge a1 a2 b1 b2 N h2 h4), rfl⟩

set_option maxHeartbeats 2000000 in
theorem rcomb_any (a b : Nat) (ha : a < 4294967296) (hb : b < 4294967296) (n : Int) (hn : n ≤ 9223372036854775807) (hn0 : -9223372036854775808 ≤ n) (w : World) :
    Calls Try.prog 22 #[.int .u32 (a : Int), .int .u32 (b : Int), .int .i64 n] w (Only w (comb a b (cnt n))) := by
  obtain ⟨qa1, qa2⟩ := parts_cast a
  obtain ⟨qb1, qb2⟩ := parts_cast b
  have h1 := p1_lt a
  have h2 := p2_lt a
  have h3 := p1_lt b
  have h4 := p2_lt b
  unfold comb
  generalize p1 a = a1 at *
  generalize p2 a = a2 at *
  generalize p1 b = b1 at *
  generalize p2 b = b2 at *
  by_cases hneg : n < 0
  · have hN : cnt n = 0 := by unfold cnt; omega
    rw [hN]
    clear hN
    go_enter Try.func22, Try.ntmps22
    go_wp2_with fail
    go_ret
    exact ⟨ret_num (rval_lt a1 a2 b1 b2), rfl⟩
  · obtain ⟨N, rfl⟩ : ∃ N : Nat, n = (N : Int) := ⟨n.toNat, by omega⟩
    have hN : cnt (N : Int) = N := by unfold cnt; omega
    rw [hN]
    clear hN
    go_enter Try.func22, Try.ntmps22
    go_wp2_with fail
    go_ret
    exact ⟨ret_num (rval_ge a1 a2 b1 b2 N h1 h2 h4), rfl⟩

end Go.Proofs.Ytllmdgbokmldnaa
