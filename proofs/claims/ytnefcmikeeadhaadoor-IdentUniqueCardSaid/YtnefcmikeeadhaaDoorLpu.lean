/-
  What the laws ask of the tables (no memory).
-/
import Derived.Test.YtnefcmikeeadhaaDoorExm
namespace Go.Proofs.YtnefcmikeeadhaaDoor
open Go.RowKit

theorem frs_at {t : Tb} {m : Nat} (h1 : m ∉ t.lv) (h2 : m ∉ t.rl) (h3 : fstN t.sv ≤ m) (h4 : ∀ j, fstN t.sv ≤ j → j < m → j ∈ t.lv ∨ j ∈ t.rl) : frsT t = m := by
  obtain ⟨f1, f2, f3, f4⟩ := frs_spec t
  rcases Nat.lt_trichotomy (frsT t) m with h | h | h
  · rcases h4 _ f3 h with q | q
    · exact absurd q f1
    · exact absurd q f2
  · exact h
  · rcases f4 _ h3 h with q | q
    · exact absurd q h1
    · exact absurd q h2

theorem side_ok {t : Tb} {n : Nat} (hf : fstN t.sv ≤ n) (hl : n ≤ lstN t.sv) : ¬ (n = 0 ∨ t.sv ≠ decide (4278190080 ≤ n)) := by
  obtain ⟨s, g, lv, rl⟩ := t
  cases s
  · simp only [fstN, lstN, Bool.false_eq_true, if_false] at hf hl
    have : decide (4278190080 ≤ n) = false := decide_eq_false (by omega)
    rw [this]
    simp
    omega
  · simp only [fstN, lstN, if_true] at hf hl
    have : decide (4278190080 ≤ n) = true := decide_eq_true hf
    rw [this]
    simp
    omega

theorem side_is {t : Tb} {n : Nat} (h : ¬ (n = 0 ∨ t.sv ≠ decide (4278190080 ≤ n))) : fstN t.sv ≤ n := by
  obtain ⟨s, g, lv, rl⟩ := t
  rw [not_or, Classical.not_not] at h
  obtain ⟨h1, h2⟩ := h
  cases s
  · simp only [fstN, Bool.false_eq_true, if_false]
    omega
  · simp only at h2
    simp only [fstN, if_true]
    exact of_decide_eq_true h2.symm

/-- what a call that came through has done -/
theorem do_ok {t : Tb} {c n : Nat} {kd : Int} (hG : GoodT t c) (h0 : (doT t kd n).2.2 = 0) :
    ((kd = 0 ∨ kd = 1) ∧ (doT t kd n).1 = usedT t (doT t kd n).2.1 ∧ (doT t kd n).2.1 ∉ t.lv ∧ (doT t kd n).2.1 ∉ t.rl ∧ t.lv.length < 256 ∧ fstN t.sv ≤ (doT t kd n).2.1 ∧ ((doT t kd n).2.1 : Int) ≤ t.lg + 1) ∨
      (kd = 2 ∧ n ∈ t.lv ∧ (doT t kd n) = (⟨t.sv, t.lg, wouN t.lv n, t.rl ++ [n]⟩, n, 0)) ∨ (¬ kd = 0 ∧ ¬ kd = 1 ∧ ¬ kd = 2 ∧ n ∈ t.rl ∧ (doT t kd n) = (⟨t.sv, t.lg, t.lv, wouN t.rl n⟩, n, 0)) := by
  unfold doT at *
  by_cases k0 : kd = 0
  · rw [if_pos k0] at h0 ⊢
    unfold allT at *
    by_cases hl : 256 ≤ t.lv.length
    · rw [if_pos hl] at h0
      simp at h0
    · rw [if_neg hl]
      obtain ⟨f1, f2, f3, _⟩ := frs_spec t
      exact .inl ⟨.inl k0, rfl, f1, f2, by omega, f3, frs_le hG⟩
  · rw [if_neg k0] at h0 ⊢
    by_cases k1 : kd = 1
    · rw [if_pos k1] at h0 ⊢
      simp only at h0 ⊢
      unfold takT at *
      by_cases a1 : n = 0 ∨ t.sv ≠ decide (4278190080 ≤ n)
      · rw [if_pos a1] at h0
        simp at h0
      · rw [if_neg a1] at h0 ⊢
        by_cases a2 : n ∈ t.lv ∨ n ∈ t.rl
        · rw [if_pos a2] at h0
          simp at h0
        · rw [if_neg a2] at h0 ⊢
          by_cases a3 : 256 ≤ t.lv.length
          · rw [if_pos a3] at h0
            simp at h0
          · rw [if_neg a3] at h0 ⊢
            by_cases a4 : t.lg + 1 < n
            · rw [if_pos a4] at h0
              simp at h0
            · rw [if_neg a4]
              rw [not_or] at a2
              exact .inl ⟨.inr k1, rfl, a2.1, a2.2, by omega, side_is a1, by omega⟩
    · rw [if_neg k1] at h0 ⊢
      by_cases k2 : kd = 2
      · rw [if_pos k2] at h0 ⊢
        unfold relT at *
        by_cases hm : n ∈ t.lv
        · rw [if_pos hm]
          exact .inr (.inl ⟨k2, hm, rfl⟩)
        · rw [if_neg hm] at h0
          simp at h0
      · rw [if_neg k2] at h0 ⊢
        unfold conT at *
        by_cases hm : n ∈ t.rl
        · rw [if_pos hm]
          exact .inr (.inr ⟨k0, k1, k2, hm, rfl⟩)
        · rw [if_neg hm] at h0
          simp at h0

/-- a call that failed has changed nothing -/
theorem do_no {t : Tb} {n : Nat} {kd : Int} (h0 : (doT t kd n).2.2 ≠ 0) : (doT t kd n).1 = t := by
  unfold doT at *
  by_cases k0 : kd = 0
  · rw [if_pos k0] at h0 ⊢
    unfold allT at *
    by_cases hl : 256 ≤ t.lv.length
    · rw [if_pos hl]
    · rw [if_neg hl] at h0
      simp at h0
  · rw [if_neg k0] at h0 ⊢
    by_cases k1 : kd = 1
    · rw [if_pos k1] at h0 ⊢
      simp only at h0 ⊢
      unfold takT at *
      by_cases a1 : n = 0 ∨ t.sv ≠ decide (4278190080 ≤ n)
      · rw [if_pos a1]
      · rw [if_neg a1] at h0 ⊢
        by_cases a2 : n ∈ t.lv ∨ n ∈ t.rl
        · rw [if_pos a2]
        · rw [if_neg a2] at h0 ⊢
          by_cases a3 : 256 ≤ t.lv.length
          · rw [if_pos a3]
          · rw [if_neg a3] at h0 ⊢
            by_cases a4 : t.lg + 1 < n
            · rw [if_pos a4]
            · rw [if_neg a4] at h0
              simp at h0
    · rw [if_neg k1] at h0 ⊢
      by_cases k2 : kd = 2
      · rw [if_pos k2] at h0 ⊢
        unfold relT at *
        by_cases hm : n ∈ t.lv
        · rw [if_pos hm] at h0
          simp at h0
        · rw [if_neg hm]
      · rw [if_neg k2] at h0 ⊢
        unfold conT at *
        by_cases hm : n ∈ t.rl
        · rw [if_pos hm] at h0
          simp at h0
        · rw [if_neg hm]

/-- the largest identifier behind a call -/
theorem do_gap {t : Tb} {c n : Nat} {kd : Int} (hG : GoodT t c) : (((doT t kd n).2.2 = 0 ∧ kd ≤ 1 ∧ 0 ≤ kd ∧ t.lg < (doT t kd n).2.1) → ((doT t kd n).2.1 : Int) = t.lg + 1 ∧ (doT t kd n).1.lg = (doT t kd n).2.1) ∧
    (¬ ((doT t kd n).2.2 = 0 ∧ kd ≤ 1 ∧ 0 ≤ kd ∧ t.lg < (doT t kd n).2.1) → (doT t kd n).1.lg = t.lg) := by
  by_cases h0 : (doT t kd n).2.2 = 0
  · rcases do_ok hG h0 with ⟨hk, he, _, _, _, _, hle⟩ | ⟨hk, _, he⟩ | ⟨k0, k1, k2, _, he⟩
    · refine ⟨fun ⟨_, _, _, hl⟩ => ⟨by omega, ?_⟩, fun hn => ?_⟩
      · rw [he]
        simp only [usedT]
        omega
      · rw [he]
        simp only [usedT]
        have : ¬ t.lg < (doT t kd n).2.1 := fun q => hn ⟨h0, by omega, by omega, q⟩
        omega
    · exact ⟨fun ⟨_, q, _, _⟩ => by omega, fun _ => by rw [he]⟩
    · exact ⟨fun ⟨_, q1, q2, _⟩ => by omega, fun _ => by rw [he]⟩
  · exact ⟨fun ⟨q, _⟩ => absurd q h0, fun _ => by rw [do_no h0]⟩

theorem do_side {t : Tb} {n : Nat} {kd : Int} : (doT t kd n).1.sv = t.sv := by
  unfold doT allT takT relT conT usedT
  repeat' split
  all_goals rfl

theorem do_u32 {t : Tb} {c n : Nat} {kd : Int} (hG : GoodT t c) (hc : c ≤ 1400) (hn : n < 4294967296) : (doT t kd n).2.1 < 4294967296 := by
  have h2 := hG.few
  have h3 := fst_lst t.sv
  have h4 := frs_le hG
  unfold doT allT
  repeat' split
  all_goals simp only
  all_goals omega

theorem count_tab {base : Nat} {w : World} {v : Value} {t : Tb} {c : Nat} (h : TabP base w v t c) : Calls Tryd.prog 13 #[v] w fun e w' => e = .returned (.int .i64 (t.lv.length : Int)) ∧ w = w' := by
  obtain ⟨k, bl, br, V, L, g, rfl, hM, _⟩ := h
  exact count_any hM
theorem live_tab {base : Nat} {w : World} {v : Value} {t : Tb} {c : Nat} (h : TabP base w v t c) {n : Nat} (hn : n < 4294967296) : Calls Tryd.prog 15 #[v, .int .u32 (n : Int)] w fun e w' => e = .returned (.bool (decide (n ∈ t.lv))) ∧ w = w' := by
  obtain ⟨k, bl, br, V, L, g, rfl, hM, _⟩ := h
  exact live_any hM hn

end Go.Proofs.YtnefcmikeeadhaaDoor
