/-
  floor and limited of the reference of package scale.
-/
import Derived.Test.YtnkbejbpkjkgeaaRval
import Derived.Test.YtnkbejbpkjkgeaaMapr
namespace Go.Proofs.Ytnkbejbpkjkgeaa
open Go.RowKit

set_option maxRecDepth 100000 in
set_option maxHeartbeats 2000000 in
theorem rlimited_any (n : Int) (w : World) : Calls Try.prog 46 #[.int .i64 n] w fun e w' => e = .returned (.int .i64 (limI n)) ∧ w = w' := by
  unfold limI
  go_enter Try.func46, Try.ntmps46
  go_wp2_with fail
  go_ret
  exact ⟨rfl, rfl⟩

set_option maxRecDepth 100000 in
set_option maxHeartbeats 2000000 in
theorem rfloor_any {a b c : Int} (ha : -16384 ≤ a ∧ a ≤ 16384) (hb : 1 ≤ b ∧ b ≤ 256) (hc : 1 ≤ c ∧ c ≤ 256) (w : World) : Calls Try.prog 47 #[.int .i64 a, .int .i64 b, .int .i64 c] w fun e w' => e = .returned (.int .i64 (flI a b c)) ∧ w = w' := by
  have h1 : a * b ≤ 16384 * 256 := by
    rcases Int.lt_or_le a 0 with h | h
    · have := Int.mul_nonneg (show 0 ≤ -a by omega) (show 0 ≤ b by omega)
      rw [Int.neg_mul] at this
      omega
    · exact Int.mul_le_mul (by omega) (by omega) (by omega) (by omega)
  have h2 : -(16384 * 256) ≤ a * b := by
    rcases Int.lt_or_le a 0 with h | h
    · have := Int.mul_le_mul (a := -a) (b := b) (c := 16384) (d := 256) (by omega) (by omega) (by omega) (by omega)
      rw [Int.neg_mul] at this
      omega
    · have := Int.mul_nonneg h (show 0 ≤ b by omega)
      omega
  unfold flI
  obtain ⟨N, hN⟩ : ∃ z : Int, a * b = z := ⟨_, rfl⟩
  rw [hN] at h1 h2 ⊢
  have E := Lib.hid (show wrap64 (a * b) = N from by rw [hN]; exact IntWalk.wrap64_in _ (by omega))
  have c0 : c ≠ 0 := by omega
  by_cases hn : N < 0
  · have hq := fl_neg (n := N) (c := c) (by omega)
    obtain ⟨S, hS⟩ : ∃ z : Int, -N + c = z := ⟨_, rfl⟩
    obtain ⟨T, hT⟩ : ∃ z : Int, S - 1 = z := ⟨_, rfl⟩
    rw [hS, hT] at hq
    obtain ⟨M, hM⟩ : ∃ z : Int, -N = z := ⟨_, rfl⟩
    obtain ⟨Q, hQ⟩ : ∃ z : Int, T / c = z := ⟨_, rfl⟩
    have hQ2 : 0 ≤ Q ∧ Q ≤ T := by
      rw [← hQ]
      exact ⟨Int.ediv_nonneg (by omega) (by omega), Int.ediv_le_self _ (by omega)⟩
    rw [hQ] at hq
    have F := Lib.hid (show wrap64 (-N) = M ∧ wrap64 (M + c) = S ∧ wrap64 (S - 1) = T ∧ wrap64 (T.tdiv c) = Q ∧ wrap64 (-Q) = N / c from by
      refine ⟨?_, ?_, ?_, ?_, ?_⟩
      · rw [hM]; exact IntWalk.wrap64_in _ (by omega)
      · rw [IntWalk.wrap64_in _ (by omega)]; omega
      · rw [hT]; exact IntWalk.wrap64_in _ (by omega)
      · rw [Int.tdiv_eq_ediv_of_nonneg (by omega), hQ]; exact IntWalk.wrap64_in _ (by omega)
      · rw [hq]; exact IntWalk.wrap64_in _ (by omega))
    generalize N / c = R at *
    clear hq hS hT hM hQ hQ2 h1 h2 hN
    have e := E.out
    obtain ⟨f1, f2, f3, f4, f5⟩ := F.out
    go_enter Try.func47, Try.ntmps47
    go_wp2_with fail
    go_ret
    exact ⟨ret_int f5, rfl⟩
  · have hq : N.tdiv c = N / c := Int.tdiv_eq_ediv_of_nonneg (by omega)
    have hQ2 : 0 ≤ N / c ∧ N / c ≤ N := ⟨Int.ediv_nonneg (by omega) (by omega), Int.ediv_le_self _ (by omega)⟩
    have F := Lib.hid (show wrap64 (N.tdiv c) = N / c from by rw [hq]; exact IntWalk.wrap64_in _ (by omega))
    generalize N / c = R at *
    clear hq hQ2 h1 h2 hN
    have e := E.out
    have f1 := F.out
    go_enter Try.func47, Try.ntmps47
    go_wp2_with fail
    go_ret
    exact ⟨rfl, rfl⟩

end Go.Proofs.Ytnkbejbpkjkgeaa
