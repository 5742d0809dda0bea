/-
  center, validSize and the spans of package scale.
-/
import Derived.Test.YtnkbejbpkjkgeaaRnear
import Derived.Test.YtnkbejbpkjkgeaaAvgs
namespace Go.Proofs.Ytnkbejbpkjkgeaa
open Go.RowKit

set_option maxHeartbeats 1000000 in
theorem vsize10_any (a b : Int) (w : World) : Calls Try.prog 43 #[.int .i64 a, .int .i64 b] w fun e w' => e = .returned (.bool (sizB a b)) ∧ w = w' := by
  obtain ⟨v, hv⟩ : ∃ v, sizB a b = v := ⟨_, rfl⟩
  rw [hv]
  unfold sizB at hv
  by_cases h0 : 1 ≤ a <;> by_cases h1 : a ≤ 256 <;> by_cases h2 : 1 ≤ b <;> by_cases h3 : b ≤ 256 <;> (simp [h0, h1, h2, h3] at hv; subst hv)
  all_goals
    go_enter Try.func43, Try.ntmps43
    go_wp2
    go_ret
    exact ⟨ret_bool (by simp [*]), rfl⟩

set_option maxRecDepth 100000 in
set_option maxHeartbeats 2000000 in
theorem center_any {x n m : Nat} (hx : x < m) (hn0 : 1 ≤ n) (hn : n ≤ 256) (hm : m ≤ 256) (w : World) : Calls Try.prog 34 #[.int .i64 (x : Int), .int .i64 (n : Int), .int .i64 (m : Int)] w fun e w' => e = .returned (.int .i64 ((nrsI x n m : Nat) : Int)) ∧ w = w' := by
  have i1 := near_int (x := x) (n := n) (m := m)
  have hr := near_lt hx hn0
  generalize nrsI x n m = r at *
  have p1 : (2 * (x : Int) + 1) * (n : Int) ≤ 200000 := Int.le_trans (Int.mul_le_mul (a := 2 * (x : Int) + 1) (b := (n : Int)) (c := 600) (d := 256) (by omega) (by omega) (by omega) (by omega)) (by omega)
  have p3 : 0 ≤ (2 * (x : Int) + 1) * (n : Int) := Int.mul_nonneg (by omega) (by omega)
  obtain ⟨X3, hX3⟩ : ∃ X3 : Int, 2 * (x : Int) + 1 = X3 := ⟨_, rfl⟩
  obtain ⟨X2, hX2⟩ : ∃ X2 : Int, 2 * (x : Int) = X2 := ⟨_, rfl⟩
  obtain ⟨M2, hM2⟩ : ∃ M2 : Int, 2 * (m : Int) = M2 := ⟨_, rfl⟩
  rw [hX3] at i1 p1 p3
  rw [hM2] at i1
  obtain ⟨T1, hT1⟩ : ∃ T1 : Int, X3 * (n : Int) = T1 := ⟨_, rfl⟩
  rw [hT1] at i1 p1 p3
  have F := Lib.hid (show IntKind.i64.wrap (2 * (x : Int)) = X2 ∧ wrap64 (2 * (x : Int)) = X2 ∧ IntKind.i64.wrap (2 * (m : Int)) = M2 ∧ wrap64 (2 * (m : Int)) = M2 ∧ IntKind.i64.wrap (X2 + 1) = X3 ∧ wrap64 (X2 + 1) = X3 ∧ IntKind.i64.wrap (X3 * (n : Int)) = T1 ∧ wrap64 (X3 * (n : Int)) = T1 ∧ IntKind.i64.wrap (T1.tdiv M2) = (r : Int) ∧ wrap64 (T1.tdiv M2) = (r : Int) ∧ wrap64 (T1 / M2) = (r : Int) from by
    refine ⟨?_, ?_, ?_, ?_, ?_, ?_, ?_, ?_, ?_, ?_, ?_⟩
    · rw [IntWalk.i64_in _ (by omega)]; exact hX2
    · rw [IntWalk.wrap64_in _ (by omega)]; exact hX2
    · rw [IntWalk.i64_in _ (by omega)]; exact hM2
    · rw [IntWalk.wrap64_in _ (by omega)]; exact hM2
    · rw [IntWalk.i64_in _ (by omega)]; omega
    · rw [IntWalk.wrap64_in _ (by omega)]; omega
    · rw [hT1]; exact IntWalk.i64_in _ (by omega)
    · rw [hT1]; exact IntWalk.wrap64_in _ (by omega)
    · rw [Int.tdiv_eq_ediv_of_nonneg p3, i1]; exact IntWalk.i64_in _ (by omega)
    · rw [Int.tdiv_eq_ediv_of_nonneg p3, i1]; exact IntWalk.wrap64_in _ (by omega)
    · rw [i1]; exact IntWalk.wrap64_in _ (by omega))
  have g1 : M2 ≠ 0 := by omega
  have z0 : 0 ≤ T1 := p3
  clear hX3 hX2 hM2 hT1 i1 p1 p3 hx hn hm hr hn0
  obtain ⟨f1, f2, f3, f4, f5, f6, f7, f8, f9, f10, f11⟩ := F.out
  go_enter Try.func34, Try.ntmps34
  go_wp2_with fail
  go_ret
  exact ⟨rfl, rfl⟩

set_option maxRecDepth 100000 in
set_option maxHeartbeats 2000000 in
theorem cover_any {x n m : Nat} (hx : x < m) (hn : n ≤ 256) (hm : m ≤ 256) (w : World) : Calls Try.prog 39 #[.int .i64 (x : Int), .int .i64 (n : Int), .int .i64 (m : Int)] w fun e w' => e = .returned (.agg #[.int .i64 ((x * n : Nat) : Int), .int .i64 (((x + 1) * n : Nat) : Int), .int .i64 (m : Int)]) ∧ Below w.heap.size w w' := by
  have b1 : x * n ≤ 65536 := mul_small (by omega) hn
  have b2 : (x + 1) * n ≤ 65536 := mul_small (by omega) hn
  obtain ⟨P, hP⟩ : ∃ z : Int, ((x * n : Nat) : Int) = z := ⟨_, rfl⟩
  obtain ⟨Q, hQ⟩ : ∃ z : Int, (((x + 1) * n : Nat) : Int) = z := ⟨_, rfl⟩
  have F := Lib.hid (show wrap64 ((x : Int) * (n : Int)) = P ∧ wrap64 (((x : Int) + 1) * (n : Int)) = Q ∧ IntKind.i64.wrap ((x : Int) * (n : Int)) = P ∧ IntKind.i64.wrap (((x : Int) + 1) * (n : Int)) = Q from by
    have e1 : (x : Int) * (n : Int) = P := by rw [← hP, Int.natCast_mul]
    have e2 : ((x : Int) + 1) * (n : Int) = Q := by rw [← hQ, Int.natCast_mul]; rfl
    rw [e1, e2]
    exact ⟨IntWalk.wrap64_in _ (by omega), IntWalk.wrap64_in _ (by omega), IntWalk.i64_in _ (by omega), IntWalk.i64_in _ (by omega)⟩)
  rw [hP, hQ]
  have K := Lib.hid ((Held.nil w).alloc [.int .i64 P, .int .i64 Q, .int .i64 (m : Int)] 57).below
  clear hP hQ b1 b2
  obtain ⟨f1, f2, f3, f4⟩ := F.out
  go_enter Try.func39, Try.ntmps39
  go_wp2_with fail
  exact bodyPost_ret (v := .agg #[.int .i64 P, .int .i64 Q, .int .i64 (m : Int)]) (by simp [results, Try.results39, go_sem]) rfl ⟨rfl, K.out⟩

set_option maxRecDepth 100000 in
set_option maxHeartbeats 2000000 in
theorem first_any {F T L : Nat} (hF : F ≤ 70000) (h1 : 1 ≤ L) (h2 : L ≤ 256) (w : World) : Calls Try.prog 50 #[.agg #[.int .i64 (F : Int), .int .i64 (T : Int), .int .i64 (L : Int)]] w fun e w' => e = .returned (.int .i64 ((F / L : Nat) : Int)) ∧ Below w.heap.size w w' := by
  have J := Lib.hid ((Held.nil w).alloc [.int .i64 (F : Int), .int .i64 (T : Int), .int .i64 (L : Int)] 57)
  have i1 : (F : Int) / (L : Int) = ((F / L : Nat) : Int) := (Int.natCast_ediv _ _).symm
  have b1 : F / L ≤ F := Nat.div_le_self _ _
  generalize F / L = r at *
  have G := Lib.hid (show wrap64 ((F : Int).tdiv (L : Int)) = (r : Int) ∧ wrap64 ((F : Int) / (L : Int)) = (r : Int) ∧ IntKind.i64.wrap ((F : Int).tdiv (L : Int)) = (r : Int) ∧ IntKind.i64.wrap ((F : Int) / (L : Int)) = (r : Int) from by
    rw [Int.tdiv_eq_ediv_of_nonneg (by omega), i1]
    exact ⟨IntWalk.wrap64_in _ (by omega), IntWalk.wrap64_in _ (by omega), IntWalk.i64_in _ (by omega), IntWalk.i64_in _ (by omega)⟩)
  have g0 : (L : Int) ≠ 0 := by omega
  have g1 : L ≠ 0 := by omega
  obtain ⟨z0, z1, z2, _, zt⟩ := J.out.tri (l1 := [])
  clear i1 b1 hF
  obtain ⟨f1, f2, f3, f4⟩ := G.out
  go_enter Try.func50, Try.ntmps50
  go_wp2_with fail
  go_ret
  exact ⟨rfl, J.out.below⟩

set_option maxRecDepth 100000 in
set_option maxHeartbeats 2000000 in
theorem count_any {F T L : Nat} (hT : T ≤ 70000) (hFT : F < T) (h1 : 1 ≤ L) (h2 : L ≤ 256) (w : World) : Calls Try.prog 49 #[.agg #[.int .i64 (F : Int), .int .i64 (T : Int), .int .i64 (L : Int)]] w fun e w' => e = .returned (.int .i64 (((T - 1) / L - F / L + 1 : Nat) : Int)) ∧ Below w.heap.size w w' := by
  have J := Lib.hid ((Held.nil w).alloc [.int .i64 (F : Int), .int .i64 (T : Int), .int .i64 (L : Int)] 57)
  have C := fun W => Lib.hid (first_any (F := F) (T := T) (L := L) (by omega) h1 h2 W)
  have i1 : ((T : Int) - 1) / (L : Int) = (((T - 1) / L : Nat) : Int) := by
    rw [Int.natCast_ediv, Int.natCast_sub (by omega)]
    rfl
  have b1 : (T - 1) / L ≤ T - 1 := Nat.div_le_self _ _
  have b2 : F / L ≤ (T - 1) / L := Nat.div_le_div_right (by omega)
  generalize (T - 1) / L = r at *
  generalize F / L = q at *
  obtain ⟨T1, hT1⟩ : ∃ z : Int, (T : Int) - 1 = z := ⟨_, rfl⟩
  obtain ⟨R1, hR1⟩ : ∃ z : Int, (r : Int) - (q : Int) = z := ⟨_, rfl⟩
  obtain ⟨R2, hR2⟩ : ∃ z : Int, R1 + 1 = z := ⟨_, rfl⟩
  rw [show ((r - q + 1 : Nat) : Int) = R2 by omega]
  rw [hT1] at i1
  have G := Lib.hid (show IntKind.i64.wrap ((T : Int) - 1) = T1 ∧ wrap64 ((T : Int) - 1) = T1 ∧ IntKind.i64.wrap (T1.tdiv (L : Int)) = (r : Int) ∧ wrap64 (T1.tdiv (L : Int)) = (r : Int) ∧ IntKind.i64.wrap (T1 / (L : Int)) = (r : Int) ∧ IntKind.i64.wrap ((r : Int) - (q : Int)) = R1 ∧ wrap64 ((r : Int) - (q : Int)) = R1 ∧ IntKind.i64.wrap (R1 + 1) = R2 ∧ wrap64 (R1 + 1) = R2 from by
    refine ⟨?_, ?_, ?_, ?_, ?_, ?_, ?_, ?_, ?_⟩
    · rw [hT1]; exact IntWalk.i64_in _ (by omega)
    · rw [hT1]; exact IntWalk.wrap64_in _ (by omega)
    · rw [Int.tdiv_eq_ediv_of_nonneg (by omega), i1]; exact IntWalk.i64_in _ (by omega)
    · rw [Int.tdiv_eq_ediv_of_nonneg (by omega), i1]; exact IntWalk.wrap64_in _ (by omega)
    · rw [i1]; exact IntWalk.i64_in _ (by omega)
    · rw [hR1]; exact IntWalk.i64_in _ (by omega)
    · rw [hR1]; exact IntWalk.wrap64_in _ (by omega)
    · rw [hR2]; exact IntWalk.i64_in _ (by omega)
    · rw [hR2]; exact IntWalk.wrap64_in _ (by omega))
  have g0 : (L : Int) ≠ 0 := by omega
  have g1 : L ≠ 0 := by omega
  have z0 : 0 ≤ T1 := by omega
  clear i1 b1 b2 hT1 hR1 hR2 hT hFT
  obtain ⟨f1, f2, f3, f4, f5, f6, f7, f8, f9⟩ := G.out
  go_enter Try.func49, Try.ntmps49
  go_wp2_with fail
  have sk := J.out.drew.three (l1 := [])
  go_region_held3 (fun W => W.cell? ⟨w.heap.size, 0, none⟩ = some (.int .i64 (F : Int)) ∧ W.cell? ⟨w.heap.size, 1, none⟩ = some (.int .i64 (T : Int)) ∧ W.cell? ⟨w.heap.size, 2, none⟩ = some (.int .i64 (L : Int)))
    (first
      | go_keep
      | exact sk)
    (first
      | (go_at_call 50; (with_reducible refine (C _).out.mono ?_); rintro e wq ⟨rfl, hb⟩; replace J := Lib.hid (J.out.drew.step hb); clear hb; replace sk := J.out.three (l1 := []))
      | fail)
  all_goals
    go_wp2_with fail
    go_ret
    exact ⟨rfl, J.out.below⟩

set_option maxRecDepth 100000 in
set_option maxHeartbeats 2000000 in
theorem weight_any {F T L i : Nat} (hT : T ≤ 70000) (hF : F ≤ 70000) (hi : i ≤ 256) (h2 : L ≤ 256) (w : World) : Calls Try.prog 51 #[.agg #[.int .i64 (F : Int), .int .i64 (T : Int), .int .i64 (L : Int)], .int .i64 (i : Int)] w fun e w' => e = .returned (.int .i64 (min (T : Int) (((i + 1) * L : Nat) : Int) - max (F : Int) ((i * L : Nat) : Int))) ∧ Below w.heap.size w w' := by
  have J := Lib.hid ((Held.nil w).alloc [.int .i64 (F : Int), .int .i64 (T : Int), .int .i64 (L : Int)] 57)
  have b1 : i * L ≤ 65536 := mul_small hi h2
  have b2 : (i + 1) * L ≤ 70000 := by rw [Nat.add_mul, Nat.one_mul]; omega
  obtain ⟨P, hP⟩ : ∃ z : Int, ((i * L : Nat) : Int) = z := ⟨_, rfl⟩
  obtain ⟨Q, hQ⟩ : ∃ z : Int, (((i + 1) * L : Nat) : Int) = z := ⟨_, rfl⟩
  have G := Lib.hid (show IntKind.i64.wrap ((i : Int) + 1) = (i : Int) + 1 ∧ wrap64 ((i : Int) + 1) = (i : Int) + 1 ∧ wrap64 ((i : Int) * (L : Int)) = P ∧ wrap64 (((i : Int) + 1) * (L : Int)) = Q ∧ IntKind.i64.wrap ((i : Int) * (L : Int)) = P ∧ IntKind.i64.wrap (((i : Int) + 1) * (L : Int)) = Q ∧ wrap64 (min (T : Int) Q - max (F : Int) P) = min (T : Int) Q - max (F : Int) P ∧ IntKind.i64.wrap (min (T : Int) Q - max (F : Int) P) = min (T : Int) Q - max (F : Int) P from by
    have e1 : (i : Int) * (L : Int) = P := by rw [← hP, Int.natCast_mul]
    have e2 : ((i : Int) + 1) * (L : Int) = Q := by rw [← hQ, Int.natCast_mul]; rfl
    rw [e1, e2]
    exact ⟨IntWalk.i64_in _ (by omega), IntWalk.wrap64_in _ (by omega), IntWalk.wrap64_in _ (by omega), IntWalk.wrap64_in _ (by omega), IntWalk.i64_in _ (by omega), IntWalk.i64_in _ (by omega), IntWalk.wrap64_in _ (by omega), IntWalk.i64_in _ (by omega)⟩)
  rw [hP, hQ]
  obtain ⟨z0, z1, z2, _, zt⟩ := J.out.tri (l1 := [])
  clear hP hQ b1 b2 hT hF hi
  obtain ⟨f1, f2, f3, f4, f5, f6, f7, f8⟩ := G.out
  go_enter Try.func51, Try.ntmps51
  go_wp2_with fail
  go_ret
  exact ⟨rfl, J.out.below⟩

set_option maxRecDepth 100000 in
set_option maxHeartbeats 2000000 in
theorem mean1_any {s t k : Nat} {w : World} (hs : s ≤ 20000000) (ht0 : 0 < t) (ht : t ≤ 65536) (hr : rndN s t < 256) (hk : w.cell? ⟨k, 0, none⟩ = some (.int .i64 (t : Int))) : Calls Try.prog 52 #[.int .i64 (s : Int), .pointer (some ⟨k, 0, none⟩)] w fun e w' => e = .returned (.int .u8 ((rndN s t : Nat) : Int)) ∧ w = w' := by
  have h0 : (2 * (s : Int) + (t : Int)) / (2 * (t : Int)) = ((rndN s t : Nat) : Int) := by
    unfold rndN
    rw [Int.natCast_ediv]
    rfl
  generalize rndN s t = r at *
  obtain ⟨S2, hS2⟩ : ∃ z : Int, 2 * (s : Int) = z := ⟨_, rfl⟩
  obtain ⟨T2, hT2⟩ : ∃ z : Int, 2 * (t : Int) = z := ⟨_, rfl⟩
  obtain ⟨S3, hS3⟩ : ∃ z : Int, S2 + (t : Int) = z := ⟨_, rfl⟩
  rw [hS2, hT2, hS3] at h0
  have g0 : T2 ≠ 0 := by omega
  have F := Lib.hid (show IntKind.i64.wrap (2 * (s : Int)) = S2 ∧ wrap64 (2 * (s : Int)) = S2 ∧ IntKind.i64.wrap (2 * (t : Int)) = T2 ∧ wrap64 (2 * (t : Int)) = T2 ∧ wrap64 (S2 + (t : Int)) = S3 ∧ wrap64 S2 = S2 ∧ wrap64 (S3.tdiv T2) = (r : Int) ∧ wrap64 (S3 / T2) = (r : Int) ∧ IntKind.u8.wrap (r : Int) = (r : Int) ∧ wrap64 (r : Int) = (r : Int) from by
    refine ⟨?_, ?_, ?_, ?_, ?_, ?_, ?_, ?_, ?_, ?_⟩
    · rw [IntWalk.i64_in _ (by omega)]; exact hS2
    · rw [IntWalk.wrap64_in _ (by omega)]; exact hS2
    · rw [IntWalk.i64_in _ (by omega)]; exact hT2
    · rw [IntWalk.wrap64_in _ (by omega)]; exact hT2
    · rw [hS3]; exact IntWalk.wrap64_in _ (by omega)
    · exact IntWalk.wrap64_in _ (by omega)
    · rw [Int.tdiv_eq_ediv_of_nonneg (by omega), h0]; exact IntWalk.wrap64_in _ (by omega)
    · rw [h0]; exact IntWalk.wrap64_in _ (by omega)
    · exact IntWalk.u8_in _ (by omega)
    · exact IntWalk.wrap64_in _ (by omega))
  have z0 : 0 ≤ S3 := by omega
  clear hS2 hT2 hS3 hs ht0 ht hr
  obtain ⟨f1, f2, f3, f4, f5, f6, f7, f8, f9, f10⟩ := F.out
  go_enter Try.func52, Try.ntmps52
  go_wp2_with fail
  go_ret
  exact ⟨rfl, rfl⟩

end Go.Proofs.Ytnkbejbpkjkgeaa
