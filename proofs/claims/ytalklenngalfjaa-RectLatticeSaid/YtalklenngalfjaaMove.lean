/-
  Translate and Clamp of package rect and of its reference, and the law's box and distance: what each returns, and that nothing that was there has turned.
-/
import Derived.Test.YtalklenngalfjaaFour
import Derived.StillTailTactics
import Derived.IntWalk
import Derived.Deep.QuietTactic
import Derived.BigQuiet
namespace Go.Proofs.Ytalklenngalfjaa
open Go.RowKit

theorem turn {f : FuncId} {args : Array Value} {w : World} {x : Ending} (h : Calls Try.prog f args w fun e w' => e = x ∧ w = w') : Calls Try.prog f args w fun e w' => e = x ∧ w' = w := h.mono fun _ _ ⟨a, b⟩ => ⟨a, b.symm⟩

theorem below_drewN {B : Nat} {w w1 : World} (h : Below B w w1) : ∀ n, Below B w (w1.drewN n)
  | 0 => h
  | n + 1 => (below_drewN h n).drew

theorem ret_ints {a b c d : Int} (h : a = c) (h2 : b = d) : Ending.returned (.tuple #[.int .i64 a, .int .i64 b]) = .returned (.tuple #[.int .i64 c, .int .i64 d]) := by rw [h, h2]

set_option maxHeartbeats 1000000 in
theorem moved_any (n d : Int) (h0 : -16384 ≤ n) (h1 : n ≤ 16384) (w : World) : Calls Try.prog 41 #[.int .i64 n, .int .i64 d] w fun e w' => e = .returned (.int .i64 (movI n d)) ∧ w = w' := by
  have C := fun W => Lib.hid (near_any d (-16384 - n) (16384 - n) W)
  unfold movI nearI
  have b0 : -16384 - n ≤ min (max d (-16384 - n)) (16384 - n) := by omega
  have b1 : min (max d (-16384 - n)) (16384 - n) ≤ 16384 - n := by omega
  generalize min (max d (-16384 - n)) (16384 - n) = m at *
  go_enter Try.func41, Try.ntmps41
  go_wp2_with fail
  refine (C _).out.mono ?_
  rintro e w' ⟨rfl, rfl⟩
  go_wp2
  go_ret
  exact ⟨rfl, rfl⟩

theorem mov_far {n d : Int} (h0 : -16384 ≤ n) (h1 : n ≤ 16384) (h : 65536 < d) : movI n d = 16384 := by unfold movI nearI; omega
theorem mov_low {n d : Int} (h0 : -16384 ≤ n) (h1 : n ≤ 16384) (h : d < -65536) : movI n d = -16384 := by unfold movI nearI; omega
theorem mov_mid (n d : Int) : movI n d = max (-16384) (min 16384 (n + d)) := by unfold movI nearI; omega

set_option maxHeartbeats 1000000 in
theorem rmoved_any (n d : Int) (h0 : -16384 ≤ n) (h1 : n ≤ 16384) (w : World) : Calls Try.prog 42 #[.int .i64 n, .int .i64 d] w fun e w' => e = .returned (.int .i64 (movI n d)) ∧ w = w' := by
  by_cases g0 : 65536 < d
  · rw [mov_far h0 h1 g0]
    go_enter Try.func42, Try.ntmps42
    go_wp2
    go_ret
    exact ⟨rfl, rfl⟩
  · by_cases g1 : d < -65536
    · rw [mov_low h0 h1 g1]
      go_enter Try.func42, Try.ntmps42
      go_wp2
      go_ret
      exact ⟨rfl, rfl⟩
    · rw [mov_mid]
      have b0 : -81920 ≤ n + d := by omega
      have b1 : n + d ≤ 81920 := by omega
      go_enter Try.func42, Try.ntmps42
      go_wp2
      go_ret
      exact ⟨rfl, rfl⟩

set_option maxHeartbeats 1000000 in
theorem box_any (a b c d : Int) (w : World) : Calls Try.prog 35 #[.int .i64 a, .int .i64 b, .int .i64 c, .int .i64 d] w fun e w' => e = .returned (.agg #[.int .i64 a, .int .i64 b, .int .i64 c, .int .i64 d]) ∧ Below w.heap.size w w' := by
  go_enter Try.func35, Try.ntmps35
  go_wp2
  exact bodyPost_ret (v := .agg #[.int .i64 a, .int .i64 b, .int .i64 c, .int .i64 d]) (by simp [results, Try.results35, go_sem]) rfl ⟨rfl, (Below.refl _ _).alloc (Nat.le_refl _) _⟩

set_option maxHeartbeats 1000000 in
theorem dist_any (a b : Int) (h0 : -65536 ≤ a ∧ a ≤ 65536) (h1 : -65536 ≤ b ∧ b ≤ 65536) (w : World) : Calls Try.prog 36 #[.int .i64 a, .int .i64 b] w fun e w' => e = .returned (.int .i64 (max (a - b) (b - a))) ∧ w = w' := by
  obtain ⟨g0, g1⟩ := h0
  obtain ⟨g2, g3⟩ := h1
  go_enter Try.func36, Try.ntmps36
  go_wp2
  go_ret
  exact ⟨rfl, rfl⟩

set_option maxHeartbeats 2000000 in
theorem trans_any (r : R) (x y : Int) (w : World) : Calls Try.prog 33 #[.agg #[.int .i64 r.x0, .int .i64 r.y0, .int .i64 r.x1, .int .i64 r.y1], .int .i64 x, .int .i64 y] w fun e w' => e = .returned (.agg #[.int .i64 (trR r x y).x0, .int .i64 (trR r x y).y0, .int .i64 (trR r x y).x1, .int .i64 (trR r x y).y1]) ∧ Below w.heap.size w w' := by
  have H0 := Lib.hid (((Below.refl w.heap.size w).alloc (Nat.le_refl _) (.cells #[.int .i64 r.x0, .int .i64 r.y0, .int .i64 r.x1, .int .i64 r.y1] 23)).alloc (by simp) (.cells #[.int .i64 0, .int .i64 0, .int .i64 0, .int .i64 0] 23))
  obtain ⟨c, hcan⟩ : ∃ c, trR r x y = c := ⟨_, rfl⟩
  rw [hcan]
  unfold trR at hcan
  have C1 := fun W => Lib.hid (empty_any r W)
  cases h0 : empB r
  · rw [h0] at hcan C1
    have hb := (emp_no r).1 h0
    have M0 := fun W => Lib.hid (moved_any r.x0 x (by omega) (by omega) W)
    have M1 := fun W => Lib.hid (moved_any r.y0 y (by omega) (by omega) W)
    have M2 := fun W => Lib.hid (moved_any r.x1 x (by omega) (by omega) W)
    have M3 := fun W => Lib.hid (moved_any r.y1 y (by omega) (by omega) W)
    simp only [Bool.false_eq_true, if_false] at hcan
    have C2 := fun W => Lib.hid (canon_any ⟨movI r.x0 x, movI r.y0 y, movI r.x1 x, movI r.y1 y⟩ W)
    rw [hcan] at C2
    simp only at C2
    generalize movI r.x0 x = m0 at *
    generalize movI r.y0 y = m1 at *
    generalize movI r.x1 x = m2 at *
    generalize movI r.y1 y = m3 at *
    clear h0 hb hcan
    go_enter Try.func33, Try.ntmps33
    go_wp2_with fail
    refine ((C1 _).out).mono ?_
    rintro e w1 ⟨rfl, hb1⟩
    obtain ⟨hc1, hf1⟩ := bcell hb1
    have hz1 : w.heap.size + 1 < w1.heap.size := by have := hb1.size; simp at this; omega
    have K1 := Lib.hid hb1
    clear hb1
    go_wp2_with fail
    refine wp_region_still_tail 16 (by kernel_rfl) (by kernel_rfl) ?_
    simp only [List.take_succ_cons, List.take_zero, List.drop_succ_cons, List.drop_zero]
    change wpStill _ _ w1.drew (fun a' => wpList _ _ _ _ a' w1.drew) _ _
    repeat still_step
    still_call (turn (M0 _).out)
    repeat still_step
    still_call (turn (M1 _).out)
    repeat still_step
    still_call (turn (M2 _).out)
    repeat still_step
    still_call (turn (M3 _).out)
    repeat still_step
    refine wpStill_nil ?_
    go_wp2_with fail
    refine ((C2 _).out).mono ?_
    rintro e w2 ⟨rfl, hb2⟩
    replace hb2 := K1.out.drew.trans (hb2.mono K1.out.drew.size)
    clear K1 hc1 hf1 hz1
    obtain ⟨hc2, hf2⟩ := bcell hb2
    have hz2 : w.heap.size + 1 < w2.heap.size := by have := hb2.size; simp at this; omega
    have K2 := Lib.hid hb2
    clear hb2
    go_wp2_with fail
    exact bodyPost_ret (v := .agg #[.int .i64 c.x0, .int .i64 c.y0, .int .i64 c.x1, .int .i64 c.y1]) (by simp [results, Try.results33, go_sem, hc2]) rfl ⟨rfl, below_set4 (H0.out.trans (K2.out.mono H0.out.size)) (by omega)⟩
  · rw [h0] at hcan C1
    simp only [if_true] at hcan
    subst hcan
    clear h0
    go_enter Try.func33, Try.ntmps33
    go_wp2_with fail
    refine ((C1 _).out).mono ?_
    rintro e w1 ⟨rfl, hb1⟩
    obtain ⟨hc1, hf1⟩ := bcell hb1
    have hz1 : w.heap.size + 1 < w1.heap.size := by have := hb1.size; simp at this; omega
    have K1 := Lib.hid hb1
    clear hb1
    go_wp2_with fail
    exact bodyPost_ret (v := .agg #[.int .i64 zeroR.x0, .int .i64 zeroR.y0, .int .i64 zeroR.x1, .int .i64 zeroR.y1]) (by simp [results, Try.results33, go_sem, hc1, zeroR]) rfl ⟨rfl, below_set4 (H0.out.trans (K1.out.mono H0.out.size)) (by omega)⟩

set_option maxHeartbeats 2000000 in
theorem rtrans_any (r : R) (x y : Int) (w : World) : Calls Try.prog 34 #[.agg #[.int .i64 r.x0, .int .i64 r.y0, .int .i64 r.x1, .int .i64 r.y1], .int .i64 x, .int .i64 y] w fun e w' => e = .returned (.agg #[.int .i64 (trR r x y).x0, .int .i64 (trR r x y).y0, .int .i64 (trR r x y).x1, .int .i64 (trR r x y).y1]) ∧ Below w.heap.size w w' := by
  have H0 := Lib.hid (((Below.refl w.heap.size w).alloc (Nat.le_refl _) (.cells #[.int .i64 r.x0, .int .i64 r.y0, .int .i64 r.x1, .int .i64 r.y1] 23)).alloc (by simp) (.cells #[.int .i64 0, .int .i64 0, .int .i64 0, .int .i64 0] 23))
  obtain ⟨c, hcan⟩ : ∃ c, trR r x y = c := ⟨_, rfl⟩
  rw [hcan]
  unfold trR at hcan
  have C1 := fun W => Lib.hid (rempty_any r W)
  cases h0 : empB r
  · rw [h0] at hcan C1
    have hb := (emp_no r).1 h0
    have M0 := fun W => Lib.hid (rmoved_any r.x0 x (by omega) (by omega) W)
    have M1 := fun W => Lib.hid (rmoved_any r.y0 y (by omega) (by omega) W)
    have M2 := fun W => Lib.hid (rmoved_any r.x1 x (by omega) (by omega) W)
    have M3 := fun W => Lib.hid (rmoved_any r.y1 y (by omega) (by omega) W)
    simp only [Bool.false_eq_true, if_false] at hcan
    have C2 := fun W => Lib.hid (rcanon_any ⟨movI r.x0 x, movI r.y0 y, movI r.x1 x, movI r.y1 y⟩ W)
    rw [hcan] at C2
    simp only at C2
    generalize movI r.x0 x = m0 at *
    generalize movI r.y0 y = m1 at *
    generalize movI r.x1 x = m2 at *
    generalize movI r.y1 y = m3 at *
    clear h0 hb hcan
    go_enter Try.func34, Try.ntmps34
    go_wp2_with fail
    refine ((C1 _).out).mono ?_
    rintro e w1 ⟨rfl, hb1⟩
    obtain ⟨hc1, hf1⟩ := bcell hb1
    have hz1 : w.heap.size + 1 < w1.heap.size := by have := hb1.size; simp at this; omega
    have K1 := Lib.hid hb1
    clear hb1
    go_wp2_with fail
    refine wp_region_still_tail 16 (by kernel_rfl) (by kernel_rfl) ?_
    simp only [List.take_succ_cons, List.take_zero, List.drop_succ_cons, List.drop_zero]
    change wpStill _ _ w1.drew (fun a' => wpList _ _ _ _ a' w1.drew) _ _
    repeat still_step
    still_call (turn (M0 _).out)
    repeat still_step
    still_call (turn (M1 _).out)
    repeat still_step
    still_call (turn (M2 _).out)
    repeat still_step
    still_call (turn (M3 _).out)
    repeat still_step
    refine wpStill_nil ?_
    go_wp2_with fail
    refine ((C2 _).out).mono ?_
    rintro e w2 ⟨rfl, hb2⟩
    replace hb2 := K1.out.drew.trans (hb2.mono K1.out.drew.size)
    clear K1 hc1 hf1 hz1
    obtain ⟨hc2, hf2⟩ := bcell hb2
    have hz2 : w.heap.size + 1 < w2.heap.size := by have := hb2.size; simp at this; omega
    have K2 := Lib.hid hb2
    clear hb2
    go_wp2_with fail
    exact bodyPost_ret (v := .agg #[.int .i64 c.x0, .int .i64 c.y0, .int .i64 c.x1, .int .i64 c.y1]) (by simp [results, Try.results34, go_sem, hc2]) rfl ⟨rfl, below_set4 (H0.out.trans (K2.out.mono H0.out.size)) (by omega)⟩
  · rw [h0] at hcan C1
    simp only [if_true] at hcan
    subst hcan
    clear h0
    go_enter Try.func34, Try.ntmps34
    go_wp2_with fail
    refine ((C1 _).out).mono ?_
    rintro e w1 ⟨rfl, hb1⟩
    obtain ⟨hc1, hf1⟩ := bcell hb1
    have hz1 : w.heap.size + 1 < w1.heap.size := by have := hb1.size; simp at this; omega
    have K1 := Lib.hid hb1
    clear hb1
    go_wp2_with fail
    exact bodyPost_ret (v := .agg #[.int .i64 zeroR.x0, .int .i64 zeroR.y0, .int .i64 zeroR.x1, .int .i64 zeroR.y1]) (by simp [results, Try.results34, go_sem, hc1, zeroR]) rfl ⟨rfl, below_set4 (H0.out.trans (K1.out.mono H0.out.size)) (by omega)⟩

set_option maxHeartbeats 2000000 in
theorem clamp_any (r : R) (x y : Int) (w : World) : Calls Try.prog 31 #[.agg #[.int .i64 r.x0, .int .i64 r.y0, .int .i64 r.x1, .int .i64 r.y1], .int .i64 x, .int .i64 y] w fun e w' => e = .returned (.tuple #[.int .i64 (clX r x), .int .i64 (clY r y)]) ∧ Below w.heap.size w w' := by
  have H0 := Lib.hid ((Below.refl w.heap.size w).alloc (Nat.le_refl _) (.cells #[.int .i64 r.x0, .int .i64 r.y0, .int .i64 r.x1, .int .i64 r.y1] 23))
  have C1 := fun W => Lib.hid (empty_any r W)
  cases h0 : empB r
  · have e0 : clX r x = nearI x r.x0 (r.x1 - 1) := by simp [clX, h0]
    have e1 : clY r y = nearI y r.y0 (r.y1 - 1) := by simp [clY, h0]
    rw [e0, e1]
    rw [h0] at C1
    obtain ⟨g0, g1, g2, g3, g4, g5⟩ := (emp_no r).1 h0
    clear h0 e0 e1
    unfold nearI
    
    have t0 : IntKind.i64.wrap (r.x1 - 1) = r.x1 - 1 := IntWalk.i64_in _ (by omega)
    have t1 : IntKind.i64.wrap (r.y1 - 1) = r.y1 - 1 := IntWalk.i64_in _ (by omega)
    go_enter Try.func31, Try.ntmps31
    go_wp2_with fail
    refine ((C1 _).out).mono ?_
    rintro e w1 ⟨rfl, hb1⟩
    obtain ⟨hc1, hf1⟩ := bcell hb1
    have hz1 : w.heap.size + 0 < w1.heap.size := by have := hb1.size; simp at this; omega
    have K1 := Lib.hid hb1
    clear hb1
    go_wp2_with fail
    go_quiet ((go_at_call 40; exact Calls.quiet_of_same (turn (near_any _ _ _ _))))
    go_wp2_with fail
    go_ret2
    exact ⟨rfl, below_drewN (H0.out.trans (K1.out.mono H0.out.size)) _⟩
  · have e0 : clX r x = 0 := by simp [clX, h0]
    have e1 : clY r y = 0 := by simp [clY, h0]
    rw [e0, e1]
    rw [h0] at C1
    clear h0 e0 e1
    go_enter Try.func31, Try.ntmps31
    go_wp2_with fail
    refine ((C1 _).out).mono ?_
    rintro e w1 ⟨rfl, hb1⟩
    obtain ⟨hc1, hf1⟩ := bcell hb1
    have hz1 : w.heap.size + 0 < w1.heap.size := by have := hb1.size; simp at this; omega
    have K1 := Lib.hid hb1
    clear hb1
    go_wp2_with fail
    go_ret2
    exact ⟨rfl, H0.out.trans (K1.out.mono H0.out.size)⟩

set_option maxHeartbeats 2000000 in
theorem rclamp_any (r : R) (x y : Int) (w : World) : Calls Try.prog 32 #[.agg #[.int .i64 r.x0, .int .i64 r.y0, .int .i64 r.x1, .int .i64 r.y1], .int .i64 x, .int .i64 y] w fun e w' => e = .returned (.tuple #[.int .i64 (clX r x), .int .i64 (clY r y)]) ∧ Below w.heap.size w w' := by
  have H0 := Lib.hid ((Below.refl w.heap.size w).alloc (Nat.le_refl _) (.cells #[.int .i64 r.x0, .int .i64 r.y0, .int .i64 r.x1, .int .i64 r.y1] 23))
  have C1 := fun W => Lib.hid (rempty_any r W)
  cases h0 : empB r
  · have e0 : clX r x = nearI x r.x0 (r.x1 - 1) := by simp [clX, h0]
    have e1 : clY r y = nearI y r.y0 (r.y1 - 1) := by simp [clY, h0]
    rw [e0, e1]
    rw [h0] at C1
    obtain ⟨g0, g1, g2, g3, g4, g5⟩ := (emp_no r).1 h0
    clear h0 e0 e1
    unfold nearI
    rw [show min (max x r.x0) (r.x1 - 1) = max r.x0 (min (r.x1 - 1) x) by omega, show min (max y r.y0) (r.y1 - 1) = max r.y0 (min (r.y1 - 1) y) by omega]
    have t0 : IntKind.i64.wrap (r.x1 - 1) = r.x1 - 1 := IntWalk.i64_in _ (by omega)
    have t1 : IntKind.i64.wrap (r.y1 - 1) = r.y1 - 1 := IntWalk.i64_in _ (by omega)
    go_enter Try.func32, Try.ntmps32
    go_wp2_with fail
    refine ((C1 _).out).mono ?_
    rintro e w1 ⟨rfl, hb1⟩
    obtain ⟨hc1, hf1⟩ := bcell hb1
    have hz1 : w.heap.size + 0 < w1.heap.size := by have := hb1.size; simp at this; omega
    have K1 := Lib.hid hb1
    clear hb1
    go_wp2_with fail
    go_quiet (fail)
    go_wp2_with fail
    go_ret2
    exact ⟨rfl, below_drewN (H0.out.trans (K1.out.mono H0.out.size)) _⟩
  · have e0 : clX r x = 0 := by simp [clX, h0]
    have e1 : clY r y = 0 := by simp [clY, h0]
    rw [e0, e1]
    rw [h0] at C1
    clear h0 e0 e1
    go_enter Try.func32, Try.ntmps32
    go_wp2_with fail
    refine ((C1 _).out).mono ?_
    rintro e w1 ⟨rfl, hb1⟩
    obtain ⟨hc1, hf1⟩ := bcell hb1
    have hz1 : w.heap.size + 0 < w1.heap.size := by have := hb1.size; simp at this; omega
    have K1 := Lib.hid hb1
    clear hb1
    go_wp2_with fail
    go_ret2
    exact ⟨rfl, H0.out.trans (K1.out.mono H0.out.size)⟩

end Go.Proofs.Ytalklenngalfjaa
