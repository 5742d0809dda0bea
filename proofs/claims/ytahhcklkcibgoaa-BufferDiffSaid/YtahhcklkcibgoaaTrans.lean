/-
  Translate of package rect (from the seat of rect).
-/
import Derived.Test.YtahhcklkcibgoaaRect
namespace Go.Proofs.Ytahhcklkcibgoaa
open Go.RowKit

set_option maxHeartbeats 1000000 in
theorem moved_any (n d : Int) (h0 : -16384 ≤ n) (h1 : n ≤ 16384) (w : World) : Calls Try.prog 77 #[.int .i64 n, .int .i64 d] w fun e w' => e = .returned (.int .i64 (movI n d)) ∧ w = w' := by
  have C := fun W => Lib.hid (near_any d (-16384 - n) (16384 - n) W)
  unfold movI nearI
  have b0 : -16384 - n ≤ min (max d (-16384 - n)) (16384 - n) := by omega
  have b1 : min (max d (-16384 - n)) (16384 - n) ≤ 16384 - n := by omega
  generalize min (max d (-16384 - n)) (16384 - n) = m at *
  go_enter Try.func77, Try.ntmps77
  go_wp2_with fail
  refine (C _).out.mono ?_
  rintro e w' ⟨rfl, rfl⟩
  go_wp2
  go_ret
  exact ⟨rfl, rfl⟩

theorem mov_mid (n d : Int) : movI n d = max (-16384) (min 16384 (n + d)) := by unfold movI nearI; omega

set_option maxHeartbeats 2000000 in
theorem trans_any (r : R) (x y : Int) (w : World) : Calls Try.prog 68 #[.agg #[.int .i64 r.x0, .int .i64 r.y0, .int .i64 r.x1, .int .i64 r.y1], .int .i64 x, .int .i64 y] w fun e w' => e = .returned (.agg #[.int .i64 (trR r x y).x0, .int .i64 (trR r x y).y0, .int .i64 (trR r x y).x1, .int .i64 (trR r x y).y1]) ∧ Below w.heap.size w w' := by
  have H0 := Lib.hid (((Below.refl w.heap.size w).alloc (Nat.le_refl _) (.cells #[.int .i64 r.x0, .int .i64 r.y0, .int .i64 r.x1, .int .i64 r.y1] 44)).alloc (by simp) (.cells #[.int .i64 0, .int .i64 0, .int .i64 0, .int .i64 0] 44))
  obtain ⟨c, hcan⟩ : ∃ c, trR r x y = c := ⟨_, rfl⟩
  rw [hcan]
  unfold trR at hcan
  have C1 := fun W => Lib.hid (empty_any r W)
  cases h0 : empB r
  · rw [h0] at hcan C1
    have hb := (emp_no r).1 h0
    have M0 := fun W => Lib.hid (moved_any r.x0 x (by omega) (by omega) W)
    have M1 := fun W => Lib.hid (moved_any r.y0 y (by omega) (by omega) W)
    have M2 := fun W => Lib.hid (moved_any r.x1 x (by omega) (by omega) W)
    have M3 := fun W => Lib.hid (moved_any r.y1 y (by omega) (by omega) W)
    simp only [Bool.false_eq_true, if_false] at hcan
    have C2 := fun W => Lib.hid (canon_any ⟨movI r.x0 x, movI r.y0 y, movI r.x1 x, movI r.y1 y⟩ W)
    rw [hcan] at C2
    simp only at C2
    generalize movI r.x0 x = m0 at *
    generalize movI r.y0 y = m1 at *
    generalize movI r.x1 x = m2 at *
    generalize movI r.y1 y = m3 at *
    clear h0 hb hcan
    go_enter Try.func68, Try.ntmps68
    go_wp2_with fail
    refine ((C1 _).out).mono ?_
    rintro e w1 ⟨rfl, hb1⟩
    obtain ⟨hc1, hf1⟩ := bcell hb1
    have hz1 : w.heap.size + 1 < w1.heap.size := by have := hb1.size; simp at this; omega
    have K1 := Lib.hid hb1
    clear hb1
    go_wp2_with fail
    refine wp_region_still_tail 16 (by kernel_rfl) (by kernel_rfl) ?_
    simp only [List.take_succ_cons, List.take_zero, List.drop_succ_cons, List.drop_zero]
    change wpStill _ _ w1.drew (fun a' => wpList _ _ _ _ a' w1.drew) _ _
    repeat still_step
    still_call (turn (M0 _).out)
    repeat still_step
    still_call (turn (M1 _).out)
    repeat still_step
    still_call (turn (M2 _).out)
    repeat still_step
    still_call (turn (M3 _).out)
    repeat still_step
    refine wpStill_nil ?_
    go_wp2_with fail
    refine ((C2 _).out).mono ?_
    rintro e w2 ⟨rfl, hb2⟩
    replace hb2 := K1.out.drew.trans (hb2.mono K1.out.drew.size)
    clear K1 hc1 hf1 hz1
    obtain ⟨hc2, hf2⟩ := bcell hb2
    have hz2 : w.heap.size + 1 < w2.heap.size := by have := hb2.size; simp at this; omega
    have K2 := Lib.hid hb2
    clear hb2
    go_wp2_with fail
    exact bodyPost_ret (v := .agg #[.int .i64 c.x0, .int .i64 c.y0, .int .i64 c.x1, .int .i64 c.y1]) (by simp [results, Try.results68, go_sem, hc2]) rfl ⟨rfl, below_set4 (H0.out.trans (K2.out.mono H0.out.size)) (by omega)⟩
  · rw [h0] at hcan C1
    simp only [if_true] at hcan
    subst hcan
    clear h0
    go_enter Try.func68, Try.ntmps68
    go_wp2_with fail
    refine ((C1 _).out).mono ?_
    rintro e w1 ⟨rfl, hb1⟩
    obtain ⟨hc1, hf1⟩ := bcell hb1
    have hz1 : w.heap.size + 1 < w1.heap.size := by have := hb1.size; simp at this; omega
    have K1 := Lib.hid hb1
    clear hb1
    go_wp2_with fail
    exact bodyPost_ret (v := .agg #[.int .i64 zeroR.x0, .int .i64 zeroR.y0, .int .i64 zeroR.x1, .int .i64 zeroR.y1]) (by simp [results, Try.results68, go_sem, hc1, zeroR]) rfl ⟨rfl, below_set4 (H0.out.trans (K1.out.mono H0.out.size)) (by omega)⟩

end Go.Proofs.Ytahhcklkcibgoaa
