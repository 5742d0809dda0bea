/-
  Canonical and Contains of the reference of package rect (from the seat of rect).
-/
import Derived.Test.YtnkbejbpkjkgeaaRect
namespace Go.Proofs.Ytnkbejbpkjkgeaa
open Go.RowKit

set_option maxHeartbeats 1000000 in
theorem rcanon_any (r : R) (w : World) : Calls Try.prog 25 #[.agg #[.int .i64 r.x0, .int .i64 r.y0, .int .i64 r.x1, .int .i64 r.y1]] w fun e w' => e = .returned (.agg #[.int .i64 (canR r).x0, .int .i64 (canR r).y0, .int .i64 (canR r).x1, .int .i64 (canR r).y1]) ∧ Below w.heap.size w w' := by
  obtain ⟨c, hcan⟩ : ∃ c, canR r = c := ⟨_, rfl⟩
  rw [hcan]
  unfold canR at hcan
  cases h0 : empB r <;> (rw [h0] at hcan; simp at hcan; subst hcan)
  all_goals
    go_enter Try.func25, Try.ntmps25
    go_wp2_with fail
    refine (rempty_any _ _).mono ?_
    rintro e w1 ⟨rfl, hb⟩
    obtain ⟨hc, hf⟩ := bcell hb
    have hz : w.heap.size + 1 < w1.heap.size := by have := hb.size; simp at this; omega
    have HB := Lib.hid ((((Below.refl w.heap.size w).alloc (Nat.le_refl _) (.cells #[.int .i64 r.x0, .int .i64 r.y0, .int .i64 r.x1, .int .i64 r.y1] 34)).alloc (by simp) (.cells #[.int .i64 0, .int .i64 0, .int .i64 0, .int .i64 0] 34)).trans (hb.mono (B' := w.heap.size) (by simp; omega)))
    clear hb
    go_wp2
  · refine bodyPost_ret (v := .agg #[.int .i64 r.x0, .int .i64 r.y0, .int .i64 r.x1, .int .i64 r.y1]) (by simp [results, Try.results25, go_sem, hc]) rfl ⟨rfl, ?_⟩
    exact below_set4 HB.out (Nat.le_succ _)
  · refine bodyPost_ret (v := .agg #[.int .i64 zeroR.x0, .int .i64 zeroR.y0, .int .i64 zeroR.x1, .int .i64 zeroR.y1]) (by simp [results, Try.results25, go_sem, hc, zeroR]) rfl ⟨rfl, ?_⟩
    exact below_set4 HB.out (Nat.le_succ _)

set_option maxHeartbeats 2000000 in
theorem rcontains_any (r : R) (x y : Int) (w : World) : Calls Try.prog 30 #[.agg #[.int .i64 r.x0, .int .i64 r.y0, .int .i64 r.x1, .int .i64 r.y1], .int .i64 x, .int .i64 y] w fun e w' => e = .returned (.bool (conB r x y)) ∧ Below w.heap.size w w' := by
  obtain ⟨v, hv⟩ : ∃ v, conB r x y = v := ⟨_, rfl⟩
  rw [hv]
  rw [con_emp] at hv
  cases h0 : empB r <;> by_cases h1 : r.x0 ≤ x <;> by_cases h2 : x < r.x1 <;> by_cases h3 : r.y0 ≤ y <;> by_cases h4 : y < r.y1 <;> (rw [h0] at hv; simp [h1, h2, h3, h4] at hv; subst hv)
  all_goals
    go_enter Try.func30, Try.ntmps30
    go_wp2_with fail
    refine (rempty_any _ _).mono ?_
    rintro e w1 ⟨rfl, hb⟩
    obtain ⟨hc, hf⟩ := bcell hb
    go_wp2
    go_ret
    exact ⟨ret_bool (by clear hc hf hb; simp [*]), ((Below.refl _ _).alloc (Nat.le_refl _) _).trans (hb.mono (by simp))⟩

end Go.Proofs.Ytnkbejbpkjkgeaa
