/-
  The plain functions of package rect and of its reference (from the seat of rect). Types: 44 a rectangle.
-/
import Derived.Test.YtahhcklkcibgoaaBase
namespace Go.Proofs.Ytahhcklkcibgoaa
open Go.RowKit

set_option maxHeartbeats 1000000 in
theorem near_any (n lo hi : Int) (w : World) : Calls Try.prog 81 #[.int .i64 n, .int .i64 lo, .int .i64 hi] w fun e w' => e = .returned (.int .i64 (min (max n lo) hi)) ∧ w = w' := by
  go_enter Try.func81, Try.ntmps81
  go_wp2
  go_ret
  exact ⟨rfl, rfl⟩

set_option maxHeartbeats 1000000 in
theorem okc_any (n : Int) (w : World) : Calls Try.prog 74 #[.int .i64 n] w fun e w' => e = .returned (.bool (okC n)) ∧ w = w' := by
  rw [← okC_near]
  go_enter Try.func74, Try.ntmps74
  go_wp2_with fail
  refine (near_any _ _ _ _).mono ?_
  rintro e w' ⟨rfl, rfl⟩
  go_wp2
  go_ret
  exact ⟨rfl, rfl⟩

set_option maxHeartbeats 1000000 in
theorem rokc_any (n : Int) (w : World) : Calls Try.prog 78 #[.int .i64 n] w fun e w' => e = .returned (.bool (okC n)) ∧ w = w' := by
  unfold okC
  by_cases h0 : -16384 ≤ n <;> by_cases h1 : n ≤ 16384
  all_goals
    simp only [h0, h1, and_true, and_false, decide_true, decide_false]
    go_enter Try.func78, Try.ntmps78
    go_wp2
    go_ret
    exact ⟨rfl, rfl⟩

set_option maxHeartbeats 1000000 in
theorem vrect_any (r : R) (w : World) : Calls Try.prog 64 #[.agg #[.int .i64 r.x0, .int .i64 r.y0, .int .i64 r.x1, .int .i64 r.y1]] w fun e w' => e = .returned (.bool (vldB r)) ∧ Below w.heap.size w w' := by
  obtain ⟨v, hv⟩ : ∃ v, vldB r = v := ⟨_, rfl⟩
  rw [hv]
  unfold vldB at hv
  cases h0 : okC r.x0 <;> cases h1 : okC r.y0 <;> cases h2 : okC r.x1 <;> cases h3 : okC r.y1 <;> (rw [h0, h1, h2, h3] at hv; simp at hv; subst hv)
  all_goals
    go_enter Try.func64, Try.ntmps64
    go_wp2_with (with_reducible refine (okc_any _ _).mono ?_; rintro e w' ⟨rfl, rfl⟩)
    go_ret
    exact ⟨rfl, (Below.refl _ _).alloc (Nat.le_refl _) _⟩

set_option maxHeartbeats 1000000 in
theorem empty_any (r : R) (w : World) : Calls Try.prog 49 #[.agg #[.int .i64 r.x0, .int .i64 r.y0, .int .i64 r.x1, .int .i64 r.y1]] w fun e w' => e = .returned (.bool (empB r)) ∧ Below w.heap.size w w' := by
  obtain ⟨v, hv⟩ : ∃ v, empB r = v := ⟨_, rfl⟩
  rw [hv]
  unfold empB at hv
  cases h0 : vldB r <;> by_cases h1 : r.x1 ≤ r.x0 <;> by_cases h2 : r.y1 ≤ r.y0 <;> (rw [h0] at hv; simp [h1, h2] at hv; subst hv)
  all_goals
    go_enter Try.func49, Try.ntmps49
    go_wp2_with fail
    refine (vrect_any _ _).mono ?_
    rintro e w1 ⟨rfl, hb⟩
    obtain ⟨hc, hf⟩ := bcell hb
    go_wp2
    go_ret
    exact ⟨ret_bool (by clear hc hf hb; simp [*]), ((Below.refl _ _).alloc (Nat.le_refl _) _).trans (hb.mono (by simp))⟩

set_option maxHeartbeats 1000000 in
theorem canon_any (r : R) (w : World) : Calls Try.prog 67 #[.agg #[.int .i64 r.x0, .int .i64 r.y0, .int .i64 r.x1, .int .i64 r.y1]] w fun e w' => e = .returned (.agg #[.int .i64 (canR r).x0, .int .i64 (canR r).y0, .int .i64 (canR r).x1, .int .i64 (canR r).y1]) ∧ Below w.heap.size w w' := by
  obtain ⟨c, hcan⟩ : ∃ c, canR r = c := ⟨_, rfl⟩
  rw [hcan]
  unfold canR at hcan
  cases h0 : empB r <;> (rw [h0] at hcan; simp at hcan; subst hcan)
  all_goals
    go_enter Try.func67, Try.ntmps67
    go_wp2_with fail
    refine (empty_any _ _).mono ?_
    rintro e w1 ⟨rfl, hb⟩
    obtain ⟨hc, hf⟩ := bcell hb
    have hz : w.heap.size + 1 < w1.heap.size := by have := hb.size; simp at this; omega
    have HB := Lib.hid ((((Below.refl w.heap.size w).alloc (Nat.le_refl _) (.cells #[.int .i64 r.x0, .int .i64 r.y0, .int .i64 r.x1, .int .i64 r.y1] 44)).alloc (by simp) (.cells #[.int .i64 0, .int .i64 0, .int .i64 0, .int .i64 0] 44)).trans (hb.mono (B' := w.heap.size) (by simp; omega)))
    clear hb
    go_wp2
  · refine bodyPost_ret (v := .agg #[.int .i64 r.x0, .int .i64 r.y0, .int .i64 r.x1, .int .i64 r.y1]) (by simp [results, Try.results67, go_sem, hc]) rfl ⟨rfl, ?_⟩
    exact below_set4 HB.out (Nat.le_succ _)
  · refine bodyPost_ret (v := .agg #[.int .i64 zeroR.x0, .int .i64 zeroR.y0, .int .i64 zeroR.x1, .int .i64 zeroR.y1]) (by simp [results, Try.results67, go_sem, hc, zeroR]) rfl ⟨rfl, ?_⟩
    exact below_set4 HB.out (Nat.le_succ _)

set_option maxHeartbeats 2000000 in
theorem contains_any (r : R) (x y : Int) (w : World) : Calls Try.prog 43 #[.agg #[.int .i64 r.x0, .int .i64 r.y0, .int .i64 r.x1, .int .i64 r.y1], .int .i64 x, .int .i64 y] w fun e w' => e = .returned (.bool (conB r x y)) ∧ Below w.heap.size w w' := by
  obtain ⟨v, hv⟩ : ∃ v, conB r x y = v := ⟨_, rfl⟩
  rw [hv]
  unfold conB at hv
  cases h0 : vldB r <;> by_cases h1 : r.x0 ≤ x <;> by_cases h2 : x < r.x1 <;> by_cases h3 : r.y0 ≤ y <;> by_cases h4 : y < r.y1 <;> (rw [h0] at hv; simp [h1, h2, h3, h4] at hv; subst hv)
  all_goals
    go_enter Try.func43, Try.ntmps43
    go_wp2_with fail
    refine (vrect_any _ _).mono ?_
    rintro e w1 ⟨rfl, hb⟩
    obtain ⟨hc, hf⟩ := bcell hb
    go_wp2
    go_ret
    exact ⟨ret_bool (by clear hc hf hb; simp [*]), ((Below.refl _ _).alloc (Nat.le_refl _) _).trans (hb.mono (by simp))⟩

set_option maxHeartbeats 1000000 in
theorem vrrect_any (r : R) (w : World) : Calls Try.prog 70 #[.agg #[.int .i64 r.x0, .int .i64 r.y0, .int .i64 r.x1, .int .i64 r.y1]] w fun e w' => e = .returned (.bool (vldB r)) ∧ Below w.heap.size w w' := by
  obtain ⟨v, hv⟩ : ∃ v, vldB r = v := ⟨_, rfl⟩
  rw [hv]
  unfold vldB at hv
  cases h0 : okC r.x0 <;> cases h1 : okC r.y0 <;> cases h2 : okC r.x1 <;> cases h3 : okC r.y1 <;> (rw [h0, h1, h2, h3] at hv; simp at hv; subst hv)
  all_goals
    go_enter Try.func70, Try.ntmps70
    go_wp2_with (with_reducible refine (rokc_any _ _).mono ?_; rintro e w' ⟨rfl, rfl⟩)
    go_ret
    exact ⟨rfl, (Below.refl _ _).alloc (Nat.le_refl _) _⟩

set_option maxHeartbeats 1000000 in
theorem rempty_any (r : R) (w : World) : Calls Try.prog 53 #[.agg #[.int .i64 r.x0, .int .i64 r.y0, .int .i64 r.x1, .int .i64 r.y1]] w fun e w' => e = .returned (.bool (empB r)) ∧ Below w.heap.size w w' := by
  obtain ⟨v, hv⟩ : ∃ v, empB r = v := ⟨_, rfl⟩
  rw [hv]
  unfold empB at hv
  cases h0 : vldB r <;> by_cases h1 : r.x1 ≤ r.x0 <;> by_cases h2 : r.y1 ≤ r.y0 <;> (rw [h0] at hv; simp [h1, h2] at hv; subst hv)
  all_goals
    go_enter Try.func53, Try.ntmps53
    go_wp2_with fail
    refine (vrrect_any _ _).mono ?_
    rintro e w1 ⟨rfl, hb⟩
    obtain ⟨hc, hf⟩ := bcell hb
    go_wp2
    go_ret
    exact ⟨ret_bool (by clear hc hf hb; simp [*]), ((Below.refl _ _).alloc (Nat.le_refl _) _).trans (hb.mono (by simp))⟩

end Go.Proofs.Ytahhcklkcibgoaa
