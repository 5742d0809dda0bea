/-
  The plain functions of package rect and of its reference (from the seat of rect). Types: 44 a rectangle.
-/
import Derived.Test.YtnkbejbpkjkgeaaBase
namespace Go.Proofs.Ytnkbejbpkjkgeaa
open Go.RowKit

set_option maxHeartbeats 1000000 in
theorem rokc_any (n : Int) (w : World) : Calls Try.prog 57 #[.int .i64 n] w fun e w' => e = .returned (.bool (okC n)) ∧ w = w' := by
  unfold okC
  by_cases h0 : -16384 ≤ n <;> by_cases h1 : n ≤ 16384
  all_goals
    simp only [h0, h1, and_true, and_false, decide_true, decide_false]
    go_enter Try.func57, Try.ntmps57
    go_wp2
    go_ret
    exact ⟨rfl, rfl⟩

set_option maxHeartbeats 1000000 in
theorem vrrect_any (r : R) (w : World) : Calls Try.prog 48 #[.agg #[.int .i64 r.x0, .int .i64 r.y0, .int .i64 r.x1, .int .i64 r.y1]] w fun e w' => e = .returned (.bool (vldB r)) ∧ Below w.heap.size w w' := by
  obtain ⟨v, hv⟩ : ∃ v, vldB r = v := ⟨_, rfl⟩
  rw [hv]
  unfold vldB at hv
  cases h0 : okC r.x0 <;> cases h1 : okC r.y0 <;> cases h2 : okC r.x1 <;> cases h3 : okC r.y1 <;> (rw [h0, h1, h2, h3] at hv; simp at hv; subst hv)
  all_goals
    go_enter Try.func48, Try.ntmps48
    go_wp2_with (with_reducible refine (rokc_any _ _).mono ?_; rintro e w' ⟨rfl, rfl⟩)
    go_ret
    exact ⟨rfl, (Below.refl _ _).alloc (Nat.le_refl _) _⟩

set_option maxHeartbeats 1000000 in
theorem rempty_any (r : R) (w : World) : Calls Try.prog 28 #[.agg #[.int .i64 r.x0, .int .i64 r.y0, .int .i64 r.x1, .int .i64 r.y1]] w fun e w' => e = .returned (.bool (empB r)) ∧ Below w.heap.size w w' := by
  obtain ⟨v, hv⟩ : ∃ v, empB r = v := ⟨_, rfl⟩
  rw [hv]
  unfold empB at hv
  cases h0 : vldB r <;> by_cases h1 : r.x1 ≤ r.x0 <;> by_cases h2 : r.y1 ≤ r.y0 <;> (rw [h0] at hv; simp [h1, h2] at hv; subst hv)
  all_goals
    go_enter Try.func28, Try.ntmps28
    go_wp2_with fail
    refine (vrrect_any _ _).mono ?_
    rintro e w1 ⟨rfl, hb⟩
    obtain ⟨hc, hf⟩ := bcell hb
    go_wp2
    go_ret
    exact ⟨ret_bool (by clear hc hf hb; simp [*]), ((Below.refl _ _).alloc (Nat.le_refl _) _).trans (hb.mono (by simp))⟩

end Go.Proofs.Ytnkbejbpkjkgeaa
