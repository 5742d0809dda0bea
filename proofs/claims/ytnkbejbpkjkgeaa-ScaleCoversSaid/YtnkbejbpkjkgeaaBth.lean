/-
  What the functions of package scale and their references both answer.
-/
import Derived.Test.YtnkbejbpkjkgeaaEnl
import Derived.Test.YtnkbejbpkjkgeaaMpr
namespace Go.Proofs.Ytnkbejbpkjkgeaa
open Go.RowKit

theorem chk_zero {a b p q : Int} {l : List Px} (h : chkE a b l p q = 0) : vBuf a b l = true ∧ sizB p q = true := by
  unfold chkE at h
  cases h1 : vBuf a b l
  · rw [h1] at h; simp at h
  · cases h2 : sizB p q
    · rw [h1, h2] at h; simp at h
    · exact ⟨rfl, rfl⟩
theorem chk_good {a b p q : Int} {l : List Px} (h1 : vBuf a b l = true) (h2 : sizB p q = true) : chkE a b l p q = 0 := by
  unfold chkE
  rw [if_pos h1, if_pos h2]
theorem size_nat {p q : Int} (h : sizB p q = true) : ∃ P Q : Nat, p = P ∧ q = Q ∧ (1 ≤ P ∧ P ≤ 256) ∧ (1 ≤ Q ∧ Q ≤ 256) := by
  obtain ⟨h1, h2⟩ := siz_iff.1 h
  exact ⟨p.toNat, q.toNat, by omega, by omega, by omega, by omega⟩

theorem both_box (a b p q : Int) {l : List Px} (hlb : ∀ z ∈ l, Byt z) : ∃ (oa ob er : Int) (O : List Px), (∀ W v, Pxs W v l → Calls Try.prog 16 #[.agg #[.int .i64 a, .int .i64 b, v], .int .i64 p, .int .i64 q] W (OutB oa ob O er W)) ∧ (∀ W v, Pxs W v l → Calls Try.prog 17 #[.agg #[.int .i64 a, .int .i64 b, v], .int .i64 p, .int .i64 q] W (OutB oa ob O er W)) := by
  by_cases h0 : chkE a b l p q = 0
  · obtain ⟨h1, h2⟩ := chk_zero h0
    obtain ⟨A, B, rfl, rfl, hv⟩ := vld_of h1
    obtain ⟨P, Q, rfl, rfl, hp, hq⟩ := size_nat h2
    exact ⟨_, _, _, _, fun W v h => (box_good h hv hlb hp hq).mono fun _ _ => outB, fun W v h => (rbox_good h hv hlb hp hq).mono fun _ _ => outB⟩
  · exact ⟨_, _, _, _, fun W v h => (box_bad h h0).mono fun _ _ => outB, fun W v h => (rbox_bad h h0).mono fun _ _ => outB⟩

theorem both_near (a b p q : Int) {l : List Px} (hlb : ∀ z ∈ l, Byt z) : ∃ (oa ob er : Int) (O : List Px), (∀ W v, Pxs W v l → Calls Try.prog 13 #[.agg #[.int .i64 a, .int .i64 b, v], .int .i64 p, .int .i64 q] W (OutB oa ob O er W)) ∧ (∀ W v, Pxs W v l → Calls Try.prog 14 #[.agg #[.int .i64 a, .int .i64 b, v], .int .i64 p, .int .i64 q] W (OutB oa ob O er W)) := by
  by_cases h0 : chkE a b l p q = 0
  · obtain ⟨h1, h2⟩ := chk_zero h0
    obtain ⟨A, B, rfl, rfl, hv⟩ := vld_of h1
    obtain ⟨P, Q, rfl, rfl, hp, hq⟩ := size_nat h2
    exact ⟨_, _, _, _, fun W v h => (near_good h hv hlb hp hq).mono fun _ _ => outB, fun W v h => (rnear_good h hv hp hq).mono fun _ _ => outB⟩
  · exact ⟨_, _, _, _, fun W v h => (near_bad h h0).mono fun _ _ => outB, fun W v h => (rnear_bad h h0).mono fun _ _ => outB⟩

theorem both_shrink (a b k : Int) {l : List Px} (hlb : ∀ z ∈ l, Byt z) : ∃ (oa ob er : Int) (O : List Px), (∀ W v, Pxs W v l → Calls Try.prog 18 #[.agg #[.int .i64 a, .int .i64 b, v], .int .i64 k] W (OutB oa ob O er W)) ∧ (∀ W v, Pxs W v l → Calls Try.prog 19 #[.agg #[.int .i64 a, .int .i64 b, v], .int .i64 k] W (OutB oa ob O er W)) := by
  cases h0 : vBuf a b l
  · exact ⟨_, _, _, _, fun W v h => (shrink_inv h h0).mono fun _ _ => outB, fun W v h => (rshrink_inv h h0).mono fun _ _ => outB⟩
  · obtain ⟨A, B, rfl, rfl, hv⟩ := vld_of h0
    by_cases hk : 1 ≤ k
    · obtain ⟨K, rfl⟩ : ∃ K : Nat, k = K := ⟨k.toNat, by omega⟩
      have hK : 1 ≤ K := by omega
      by_cases hm : A % K = 0 ∧ B % K = 0
      · have e1 : A / K * K = A := Nat.div_mul_cancel (Nat.dvd_of_mod_eq_zero hm.1)
        have e2 : B / K * K = B := Nat.div_mul_cancel (Nat.dvd_of_mod_eq_zero hm.2)
        exact ⟨_, _, _, _, fun W v h => (shrink_good h hv hlb hK e1 e2).mono fun _ _ => outB, fun W v h => (rshrink_good h hv hlb hK e1 e2).mono fun _ _ => outB⟩
      · have hx : (K : Int) < 1 ∨ ∃ m : Nat, (K : Int) = m ∧ 1 ≤ m ∧ (A % m ≠ 0 ∨ B % m ≠ 0) := .inr ⟨K, rfl, hK, by omega⟩
        exact ⟨_, _, _, _, fun W v h => (shrink_arg h hv hx).mono fun _ _ => outB, fun W v h => (rshrink_arg h hv hx).mono fun _ _ => outB⟩
    · have hx : k < 1 ∨ ∃ m : Nat, k = m ∧ 1 ≤ m ∧ (A % m ≠ 0 ∨ B % m ≠ 0) := .inl (by omega)
      exact ⟨_, _, _, _, fun W v h => (shrink_arg h hv hx).mono fun _ _ => outB, fun W v h => (rshrink_arg h hv hx).mono fun _ _ => outB⟩

theorem both_enl (a b k : Int) {l : List Px} (hlb : ∀ z ∈ l, Byt z) : ∃ (oa ob er : Int) (O : List Px), (∀ W v, Pxs W v l → Calls Try.prog 20 #[.agg #[.int .i64 a, .int .i64 b, v], .int .i64 k] W (OutB oa ob O er W)) ∧ (∀ W v, Pxs W v l → Calls Try.prog 21 #[.agg #[.int .i64 a, .int .i64 b, v], .int .i64 k] W (OutB oa ob O er W)) := by
  cases h0 : vBuf a b l
  · exact ⟨_, _, _, _, fun W v h => (enl_inv h h0).mono fun _ _ => outB, fun W v h => (renl_inv h h0).mono fun _ _ => outB⟩
  · obtain ⟨A, B, rfl, rfl, hv⟩ := vld_of h0
    by_cases hk : 1 ≤ k
    · obtain ⟨K, rfl⟩ : ∃ K : Nat, k = K := ⟨k.toNat, by omega⟩
      have hK : 1 ≤ K := by omega
      by_cases hm : A * K ≤ 256 ∧ B * K ≤ 256
      · exact ⟨_, _, _, _, fun W v h => (enl_good h hv hlb hK rfl rfl hm.1 hm.2).mono fun _ _ => outB, fun W v h => (renl_good h hv hK rfl rfl hm.1 hm.2).mono fun _ _ => outB⟩
      · exact ⟨_, _, _, _, fun W v h => (enl_lim h hv hK hm).mono fun _ _ => outB, fun W v h => (renl_lim h hv hK hm).mono fun _ _ => outB⟩
    · exact ⟨_, _, _, _, fun W v h => (enl_arg h hv (by omega)).mono fun _ _ => outB, fun W v h => (renl_arg h hv (by omega)).mono fun _ _ => outB⟩

end Go.Proofs.Ytnkbejbpkjkgeaa
