/-
  The plain functions of package rect and of its reference: what each returns, and that nothing that was there has turned. Types: 32 a rectangle.
-/
import Derived.Test.YtphgjfkmnohjlaaDoorRows
import Derived.Test.YtphgjfkmnohjlaaDoorPure
import Derived.WalkKit
import Derived.WalkSpells
import Derived.Lib.MinMax
import Derived.Lib.Hide
namespace Go.Proofs.YtphgjfkmnohjlaaDoor
open Go.RowKit

theorem bcell {W w1 : World} (hb : Below W.heap.size W w1) : (∀ b o, b < W.heap.size → w1.cell? ⟨b, o, none⟩ = W.cell? ⟨b, o, none⟩) ∧ (∀ b o, b < W.heap.size → w1.frozen? ⟨b, o, none⟩ = W.frozen? ⟨b, o, none⟩) :=
  ⟨fun b o h => hb.cell (p := ⟨b, o, none⟩) h, fun b o h => hb.frozen (p := ⟨b, o, none⟩) h⟩

theorem below_set4 {B k : Nat} {w w1 : World} (h : Below B w w1) (hb : B ≤ k) {x0 x1 x2 x3 : Value} :
    Below B w ((((w1.setCell ⟨k, 0, none⟩ x0).setCell ⟨k, 1, none⟩ x1).setCell ⟨k, 2, none⟩ x2).setCell ⟨k, 3, none⟩ x3) :=
  (((h.setCell (p := ⟨k, 0, none⟩) hb x0).setCell (p := ⟨k, 1, none⟩) hb x1).setCell (p := ⟨k, 2, none⟩) hb x2).setCell (p := ⟨k, 3, none⟩) hb x3

theorem ret_bool {a b : Bool} (h : a = b) : Ending.returned (.bool a) = .returned (.bool b) := by rw [h]
theorem ret_int {k : IntKind} {a b : Int} (h : a = b) : Ending.returned (.int k a) = .returned (.int k b) := by rw [h]

set_option maxHeartbeats 1000000 in
theorem near_any (n lo hi : Int) (w : World) : Calls Tryd.prog 56 #[.int .i64 n, .int .i64 lo, .int .i64 hi] w fun e w' => e = .returned (.int .i64 (min (max n lo) hi)) ∧ w = w' := by
  go_enter Tryd.func56, Tryd.ntmps56
  go_wp2
  go_ret
  exact ⟨rfl, rfl⟩

set_option maxHeartbeats 1000000 in
theorem okc_any (n : Int) (w : World) : Calls Tryd.prog 54 #[.int .i64 n] w fun e w' => e = .returned (.bool (okC n)) ∧ w = w' := by
  rw [← okC_near]
  go_enter Tryd.func54, Tryd.ntmps54
  go_wp2_with fail
  refine (near_any _ _ _ _).mono ?_
  rintro e w' ⟨rfl, rfl⟩
  go_wp2
  go_ret
  exact ⟨rfl, rfl⟩

set_option maxHeartbeats 1000000 in
theorem rokc_any (n : Int) (w : World) : Calls Tryd.prog 55 #[.int .i64 n] w fun e w' => e = .returned (.bool (okC n)) ∧ w = w' := by
  unfold okC
  by_cases h0 : -16384 ≤ n <;> by_cases h1 : n ≤ 16384
  all_goals
    simp only [h0, h1, and_true, and_false, decide_true, decide_false]
    go_enter Tryd.func55, Tryd.ntmps55
    go_wp2
    go_ret
    exact ⟨rfl, rfl⟩

set_option maxHeartbeats 1000000 in
theorem valid_any (r : R) (w : World) : Calls Tryd.prog 50 #[.agg #[.int .i64 r.x0, .int .i64 r.y0, .int .i64 r.x1, .int .i64 r.y1]] w fun e w' => e = .returned (.bool (vldB r)) ∧ Below w.heap.size w w' := by
  obtain ⟨v, hv⟩ : ∃ v, vldB r = v := ⟨_, rfl⟩
  rw [hv]
  unfold vldB at hv
  cases h0 : okC r.x0 <;> cases h1 : okC r.y0 <;> cases h2 : okC r.x1 <;> cases h3 : okC r.y1 <;> (rw [h0, h1, h2, h3] at hv; simp at hv; subst hv)
  all_goals
    go_enter Tryd.func50, Tryd.ntmps50
    go_wp2_with (with_reducible refine (okc_any _ _).mono ?_; rintro e w' ⟨rfl, rfl⟩)
    go_ret
    exact ⟨rfl, (Below.refl _ _).alloc (Nat.le_refl _) _⟩

set_option maxHeartbeats 1000000 in
theorem empty_any (r : R) (w : World) : Calls Tryd.prog 41 #[.agg #[.int .i64 r.x0, .int .i64 r.y0, .int .i64 r.x1, .int .i64 r.y1]] w fun e w' => e = .returned (.bool (empB r)) ∧ Below w.heap.size w w' := by
  obtain ⟨v, hv⟩ : ∃ v, empB r = v := ⟨_, rfl⟩
  rw [hv]
  unfold empB at hv
  cases h0 : vldB r <;> by_cases h1 : r.x1 ≤ r.x0 <;> by_cases h2 : r.y1 ≤ r.y0 <;> (rw [h0] at hv; simp [h1, h2] at hv; subst hv)
  all_goals
    go_enter Tryd.func41, Tryd.ntmps41
    go_wp2_with fail
    refine (valid_any _ _).mono ?_
    rintro e w1 ⟨rfl, hb⟩
    obtain ⟨hc, hf⟩ := bcell hb
    go_wp2
    go_ret
    exact ⟨ret_bool (by clear hc hf hb; simp [*]), ((Below.refl _ _).alloc (Nat.le_refl _) _).trans (hb.mono (by simp))⟩

set_option maxHeartbeats 1000000 in
theorem canon_any (r : R) (w : World) : Calls Tryd.prog 51 #[.agg #[.int .i64 r.x0, .int .i64 r.y0, .int .i64 r.x1, .int .i64 r.y1]] w fun e w' => e = .returned (.agg #[.int .i64 (canR r).x0, .int .i64 (canR r).y0, .int .i64 (canR r).x1, .int .i64 (canR r).y1]) ∧ Below w.heap.size w w' := by
  obtain ⟨c, hcan⟩ : ∃ c, canR r = c := ⟨_, rfl⟩
  rw [hcan]
  unfold canR at hcan
  cases h0 : empB r <;> (rw [h0] at hcan; simp at hcan; subst hcan)
  all_goals
    go_enter Tryd.func51, Tryd.ntmps51
    go_wp2_with fail
    refine (empty_any _ _).mono ?_
    rintro e w1 ⟨rfl, hb⟩
    obtain ⟨hc, hf⟩ := bcell hb
    have hz : w.heap.size + 1 < w1.heap.size := by have := hb.size; simp at this; omega
    have HB := Lib.hid ((((Below.refl w.heap.size w).alloc (Nat.le_refl _) (.cells #[.int .i64 r.x0, .int .i64 r.y0, .int .i64 r.x1, .int .i64 r.y1] 32)).alloc (by simp) (.cells #[.int .i64 0, .int .i64 0, .int .i64 0, .int .i64 0] 32)).trans (hb.mono (B' := w.heap.size) (by simp; omega)))
    clear hb
    go_wp2
  · refine bodyPost_ret (v := .agg #[.int .i64 r.x0, .int .i64 r.y0, .int .i64 r.x1, .int .i64 r.y1]) (by simp [results, Tryd.results51, go_sem, hc]) rfl ⟨rfl, ?_⟩
    exact below_set4 HB.out (Nat.le_succ _)
  · refine bodyPost_ret (v := .agg #[.int .i64 zeroR.x0, .int .i64 zeroR.y0, .int .i64 zeroR.x1, .int .i64 zeroR.y1]) (by simp [results, Tryd.results51, go_sem, hc, zeroR]) rfl ⟨rfl, ?_⟩
    exact below_set4 HB.out (Nat.le_succ _)

set_option maxHeartbeats 2000000 in
theorem contains_any (r : R) (x y : Int) (w : World) : Calls Tryd.prog 36 #[.agg #[.int .i64 r.x0, .int .i64 r.y0, .int .i64 r.x1, .int .i64 r.y1], .int .i64 x, .int .i64 y] w fun e w' => e = .returned (.bool (conB r x y)) ∧ Below w.heap.size w w' := by
  obtain ⟨v, hv⟩ : ∃ v, conB r x y = v := ⟨_, rfl⟩
  rw [hv]
  unfold conB at hv
  cases h0 : vldB r <;> by_cases h1 : r.x0 ≤ x <;> by_cases h2 : x < r.x1 <;> by_cases h3 : r.y0 ≤ y <;> by_cases h4 : y < r.y1 <;> (rw [h0] at hv; simp [h1, h2, h3, h4] at hv; subst hv)
  all_goals
    go_enter Tryd.func36, Tryd.ntmps36
    go_wp2_with fail
    refine (valid_any _ _).mono ?_
    rintro e w1 ⟨rfl, hb⟩
    obtain ⟨hc, hf⟩ := bcell hb
    go_wp2
    go_ret
    exact ⟨ret_bool (by clear hc hf hb; simp [*]), ((Below.refl _ _).alloc (Nat.le_refl _) _).trans (hb.mono (by simp))⟩

set_option maxHeartbeats 1000000 in
theorem rvalid_any (r : R) (w : World) : Calls Tryd.prog 52 #[.agg #[.int .i64 r.x0, .int .i64 r.y0, .int .i64 r.x1, .int .i64 r.y1]] w fun e w' => e = .returned (.bool (vldB r)) ∧ Below w.heap.size w w' := by
  obtain ⟨v, hv⟩ : ∃ v, vldB r = v := ⟨_, rfl⟩
  rw [hv]
  unfold vldB at hv
  cases h0 : okC r.x0 <;> cases h1 : okC r.y0 <;> cases h2 : okC r.x1 <;> cases h3 : okC r.y1 <;> (rw [h0, h1, h2, h3] at hv; simp at hv; subst hv)
  all_goals
    go_enter Tryd.func52, Tryd.ntmps52
    go_wp2_with (with_reducible refine (rokc_any _ _).mono ?_; rintro e w' ⟨rfl, rfl⟩)
    go_ret
    exact ⟨rfl, (Below.refl _ _).alloc (Nat.le_refl _) _⟩

set_option maxHeartbeats 1000000 in
theorem rempty_any (r : R) (w : World) : Calls Tryd.prog 44 #[.agg #[.int .i64 r.x0, .int .i64 r.y0, .int .i64 r.x1, .int .i64 r.y1]] w fun e w' => e = .returned (.bool (empB r)) ∧ Below w.heap.size w w' := by
  obtain ⟨v, hv⟩ : ∃ v, empB r = v := ⟨_, rfl⟩
  rw [hv]
  unfold empB at hv
  cases h0 : vldB r <;> by_cases h1 : r.x1 ≤ r.x0 <;> by_cases h2 : r.y1 ≤ r.y0 <;> (rw [h0] at hv; simp [h1, h2] at hv; subst hv)
  all_goals
    go_enter Tryd.func44, Tryd.ntmps44
    go_wp2_with fail
    refine (rvalid_any _ _).mono ?_
    rintro e w1 ⟨rfl, hb⟩
    obtain ⟨hc, hf⟩ := bcell hb
    go_wp2
    go_ret
    exact ⟨ret_bool (by clear hc hf hb; simp [*]), ((Below.refl _ _).alloc (Nat.le_refl _) _).trans (hb.mono (by simp))⟩

set_option maxHeartbeats 1000000 in
theorem rcanon_any (r : R) (w : World) : Calls Tryd.prog 47 #[.agg #[.int .i64 r.x0, .int .i64 r.y0, .int .i64 r.x1, .int .i64 r.y1]] w fun e w' => e = .returned (.agg #[.int .i64 (canR r).x0, .int .i64 (canR r).y0, .int .i64 (canR r).x1, .int .i64 (canR r).y1]) ∧ Below w.heap.size w w' := by
  obtain ⟨c, hcan⟩ : ∃ c, canR r = c := ⟨_, rfl⟩
  rw [hcan]
  unfold canR at hcan
  cases h0 : empB r <;> (rw [h0] at hcan; simp at hcan; subst hcan)
  all_goals
    go_enter Tryd.func47, Tryd.ntmps47
    go_wp2_with fail
    refine (rempty_any _ _).mono ?_
    rintro e w1 ⟨rfl, hb⟩
    obtain ⟨hc, hf⟩ := bcell hb
    have hz : w.heap.size + 1 < w1.heap.size := by have := hb.size; simp at this; omega
    have HB := Lib.hid ((((Below.refl w.heap.size w).alloc (Nat.le_refl _) (.cells #[.int .i64 r.x0, .int .i64 r.y0, .int .i64 r.x1, .int .i64 r.y1] 32)).alloc (by simp) (.cells #[.int .i64 0, .int .i64 0, .int .i64 0, .int .i64 0] 32)).trans (hb.mono (B' := w.heap.size) (by simp; omega)))
    clear hb
    go_wp2
  · refine bodyPost_ret (v := .agg #[.int .i64 r.x0, .int .i64 r.y0, .int .i64 r.x1, .int .i64 r.y1]) (by simp [results, Tryd.results47, go_sem, hc]) rfl ⟨rfl, ?_⟩
    exact below_set4 HB.out (Nat.le_succ _)
  · refine bodyPost_ret (v := .agg #[.int .i64 zeroR.x0, .int .i64 zeroR.y0, .int .i64 zeroR.x1, .int .i64 zeroR.y1]) (by simp [results, Tryd.results47, go_sem, hc, zeroR]) rfl ⟨rfl, ?_⟩
    exact below_set4 HB.out (Nat.le_succ _)

set_option maxHeartbeats 1000000 in
theorem rarea_any (r : R) (w : World) : Calls Tryd.prog 29 #[.agg #[.int .i64 r.x0, .int .i64 r.y0, .int .i64 r.x1, .int .i64 r.y1]] w fun e w' => e = .returned (.int .i64 (areaI r)) ∧ Below w.heap.size w w' := by
  have hd := can_bd r
  have hm : 0 ≤ ((canR r).x1 - (canR r).x0) * ((canR r).y1 - (canR r).y0) ∧ ((canR r).x1 - (canR r).x0) * ((canR r).y1 - (canR r).y0) ≤ 32768 * 32768 :=
    ⟨Int.mul_nonneg (by omega) (by omega), Int.mul_le_mul (by omega) (by omega) (by omega) (by omega)⟩
  obtain ⟨v, hv⟩ : ∃ v, areaI r = v := ⟨_, rfl⟩
  rw [hv]
  unfold areaI at hv
  have C := Lib.hid (rcanon_any r (w.alloc (.cells #[.int .i64 r.x0, .int .i64 r.y0, .int .i64 r.x1, .int .i64 r.y1] 32)))
  generalize canR r = c at *
  have HV := Lib.hid hv
  clear hv
  go_enter Tryd.func29, Tryd.ntmps29
  go_wp2_with fail
  refine C.out.mono ?_
  clear C
  rintro e w1 ⟨rfl, hb⟩
  obtain ⟨hc, hf⟩ := bcell hb
  have hz : w.heap.size < w1.heap.size := by have := hb.size; simp at this; omega
  have HB := Lib.hid (((Below.refl w.heap.size w).alloc (Nat.le_refl _) (.cells #[.int .i64 r.x0, .int .i64 r.y0, .int .i64 r.x1, .int .i64 r.y1] 32)).trans (hb.mono (B' := w.heap.size) (by simp)))
  clear hb
  go_wp2
  go_ret
  exact ⟨ret_int (by rw [← HV.out]), HB.out.alloc (by omega) _⟩

set_option maxHeartbeats 2000000 in
theorem rcontains_any (r : R) (x y : Int) (w : World) : Calls Tryd.prog 32 #[.agg #[.int .i64 r.x0, .int .i64 r.y0, .int .i64 r.x1, .int .i64 r.y1], .int .i64 x, .int .i64 y] w fun e w' => e = .returned (.bool (conB r x y)) ∧ Below w.heap.size w w' := by
  obtain ⟨v, hv⟩ : ∃ v, conB r x y = v := ⟨_, rfl⟩
  rw [hv]
  rw [con_emp] at hv
  cases h0 : empB r <;> by_cases h1 : r.x0 ≤ x <;> by_cases h2 : x < r.x1 <;> by_cases h3 : r.y0 ≤ y <;> by_cases h4 : y < r.y1 <;> (rw [h0] at hv; simp [h1, h2, h3, h4] at hv; subst hv)
  all_goals
    go_enter Tryd.func32, Tryd.ntmps32
    go_wp2_with fail
    refine (rempty_any _ _).mono ?_
    rintro e w1 ⟨rfl, hb⟩
    obtain ⟨hc, hf⟩ := bcell hb
    go_wp2
    go_ret
    exact ⟨ret_bool (by clear hc hf hb; simp [*]), ((Below.refl _ _).alloc (Nat.le_refl _) _).trans (hb.mono (by simp))⟩

end Go.Proofs.YtphgjfkmnohjlaaDoor
