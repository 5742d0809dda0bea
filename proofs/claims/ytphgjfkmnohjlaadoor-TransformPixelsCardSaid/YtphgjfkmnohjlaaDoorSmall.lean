/-
  The small functions of package transform and of its reference: what each returns, and that nothing that was there has turned. Types: 23 a point, 32 a rectangle.
-/
import Derived.Test.YtphgjfkmnohjlaaDoorPlain
import Derived.Test.YtphgjfkmnohjlaaDoorSym
import Derived.Deep.QuietTactic
import Derived.BigQuiet
namespace Go.Proofs.YtphgjfkmnohjlaaDoor
open Go.RowKit

theorem below_set2 {B k : Nat} {w w1 : World} (h : Below B w w1) (hb : B ≤ k) {x0 x1 : Value} :
    Below B w ((w1.setCell ⟨k, 0, none⟩ x0).setCell ⟨k, 1, none⟩ x1) :=
  (h.setCell (p := ⟨k, 0, none⟩) hb x0).setCell (p := ⟨k, 1, none⟩) hb x1

set_option maxHeartbeats 1000000 in
theorem validt_any (t : Int) (w : World) : Calls Tryd.prog 12 #[.int .i64 t] w fun e w' => e = .returned (.bool (vT t)) ∧ w = w' := by
  unfold vT
  by_cases h0 : 0 ≤ t <;> by_cases h1 : t ≤ 7
  · have h2 : t < 8 := by omega
    simp only [h0, h1, and_true, decide_true]
    go_enter Tryd.func12, Tryd.ntmps12
    go_wp2
    go_ret
    exact ⟨rfl, rfl⟩
  · have h2 : ¬ t < 8 := by omega
    simp only [h0, h1, and_false, decide_false]
    go_enter Tryd.func12, Tryd.ntmps12
    go_wp2
    go_ret
    exact ⟨rfl, rfl⟩
  all_goals
    simp only [h0, h1, and_true, and_false, decide_false]
    go_enter Tryd.func12, Tryd.ntmps12
    go_wp2
    go_ret
    exact ⟨rfl, rfl⟩

set_option maxHeartbeats 1000000 in
theorem rvalidt_any (t : Int) (w : World) : Calls Tryd.prog 13 #[.int .i64 t] w fun e w' => e = .returned (.bool (vT t)) ∧ w = w' := by
  unfold vT
  by_cases h0 : 0 ≤ t <;> by_cases h1 : t ≤ 7
  all_goals
    simp only [h0, h1, and_true, and_false, decide_true, decide_false]
    go_enter Tryd.func13, Tryd.ntmps13
    go_wp2
    go_ret
    exact ⟨rfl, rfl⟩

theorem vT_cl {t : Int} (h : vT t = true) : cl t = t := by
  unfold vT at h
  have := of_decide_eq_true h
  exact cl_eq this.1 this.2
theorem vT_no {t : Int} (h : vT t = false) : cl t = 0 := by
  unfold vT at h
  have := of_decide_eq_false h
  simp only [cl, if_neg this]

set_option maxHeartbeats 1000000 in
theorem known_any (t : Int) (w : World) : Calls Tryd.prog 33 #[.int .i64 t] w fun e w' => e = .returned (.int .i64 (cl t)) ∧ w = w' := by
  have C := fun W => Lib.hid (validt_any t W)
  cases h : vT t
  · rw [vT_no h]
    rw [h] at C
    clear h
    go_enter Tryd.func33, Tryd.ntmps33
    go_wp2_with fail
    refine (C _).out.mono ?_
    rintro e w' ⟨rfl, rfl⟩
    go_wp2
    go_ret
    exact ⟨rfl, rfl⟩
  · rw [vT_cl h]
    rw [h] at C
    clear h
    go_enter Tryd.func33, Tryd.ntmps33
    go_wp2_with fail
    refine (C _).out.mono ?_
    rintro e w' ⟨rfl, rfl⟩
    go_wp2
    go_ret
    exact ⟨rfl, rfl⟩

set_option maxHeartbeats 1000000 in
theorem rclean_any (t : Int) (w : World) : Calls Tryd.prog 34 #[.int .i64 t] w fun e w' => e = .returned (.int .i64 (cl t)) ∧ w = w' := by
  have C := fun W => Lib.hid (rvalidt_any t W)
  cases h : vT t
  · rw [vT_no h]
    rw [h] at C
    clear h
    go_enter Tryd.func34, Tryd.ntmps34
    go_wp2_with fail
    refine (C _).out.mono ?_
    rintro e w' ⟨rfl, rfl⟩
    go_wp2
    go_ret
    exact ⟨rfl, rfl⟩
  · rw [vT_cl h]
    rw [h] at C
    clear h
    go_enter Tryd.func34, Tryd.ntmps34
    go_wp2_with fail
    refine (C _).out.mono ?_
    rintro e w' ⟨rfl, rfl⟩
    go_wp2
    go_ret
    exact ⟨rfl, rfl⟩

set_option maxHeartbeats 1000000 in
theorem lclean_any (t : Int) (w : World) : Calls Tryd.prog 27 #[.int .i64 t] w fun e w' => e = .returned (.int .i64 (cl t)) ∧ w = w' := by
  have C := fun W => Lib.hid (rvalidt_any t W)
  cases h : vT t
  · rw [vT_no h]
    rw [h] at C
    clear h
    go_enter Tryd.func27, Tryd.ntmps27
    go_wp2_with fail
    refine (C _).out.mono ?_
    rintro e w' ⟨rfl, rfl⟩
    go_wp2
    go_ret
    exact ⟨rfl, rfl⟩
  · rw [vT_cl h]
    rw [h] at C
    clear h
    go_enter Tryd.func27, Tryd.ntmps27
    go_wp2_with fail
    refine (C _).out.mono ?_
    rintro e w' ⟨rfl, rfl⟩
    go_wp2
    go_ret
    exact ⟨rfl, rfl⟩

theorem odd_rem (t : Int) : (cl t).tmod 2 = if odd t then 1 else 0 := by
  have h := cl_in t
  unfold odd
  generalize cl t = a at *
  rcases eight h with rfl | rfl | rfl | rfl | rfl | rfl | rfl | rfl <;> decide

set_option maxHeartbeats 1000000 in
theorem size_any (t a b : Int) (w : World) : Calls Tryd.prog 10 #[.int .i64 t, .int .i64 a, .int .i64 b] w fun e w' => e = .returned (.tuple #[.int .i64 (siW t a b), .int .i64 (siH t a b)]) ∧ w = w' := by
  have C := fun W => Lib.hid (known_any t W)
  have hr := odd_rem t
  have hc := cl_in t
  unfold siW siH
  generalize cl t = c at *
  cases h : odd t
  all_goals
    rw [h] at hr
    simp only [Bool.false_eq_true, if_true, if_false] at hr ⊢
    clear h
    go_enter Tryd.func10, Tryd.ntmps10
    go_wp2_with fail
    refine (C _).out.mono ?_
    rintro e w' ⟨rfl, rfl⟩
    go_wp2
    go_ret2
    exact ⟨rfl, rfl⟩

set_option maxHeartbeats 1000000 in
theorem rsize_any (t a b : Int) (w : World) : Calls Tryd.prog 11 #[.int .i64 t, .int .i64 a, .int .i64 b] w fun e w' => e = .returned (.tuple #[.int .i64 (siW t a b), .int .i64 (siH t a b)]) ∧ w = w' := by
  have C := fun W => Lib.hid (rclean_any t W)
  have hr := odd_rem t
  have hc := cl_in t
  unfold siW siH
  generalize cl t = c at *
  cases h : odd t
  all_goals
    rw [h] at hr
    simp only [Bool.false_eq_true, if_true, if_false] at hr ⊢
    clear h
    go_enter Tryd.func11, Tryd.ntmps11
    go_wp2_with fail
    refine (C _).out.mono ?_
    rintro e w' ⟨rfl, rfl⟩
    go_wp2
    go_ret2
    exact ⟨rfl, rfl⟩

set_option maxHeartbeats 1000000 in
theorem side_any (n : Int) (w : World) : Calls Tryd.prog 53 #[.int .i64 n] w fun e w' => e = .returned (.bool (decide (1 ≤ n ∧ n ≤ 256))) ∧ w = w' := by
  by_cases h0 : 1 ≤ n <;> by_cases h1 : n ≤ 256
  all_goals
    simp only [h0, h1, and_true, and_false, decide_true, decide_false]
    go_enter Tryd.func53, Tryd.ntmps53
    go_wp2
    go_ret
    exact ⟨rfl, rfl⟩

/-- whether w and h are the size of an image -/
def szB (a b : Int) : Bool := decide ((1 ≤ a ∧ a ≤ 16384) ∧ (1 ≤ b ∧ b ≤ 16384))

set_option maxHeartbeats 1000000 in
theorem sized_any (a b : Int) (w : World) : Calls Tryd.prog 39 #[.int .i64 a, .int .i64 b] w fun e w' => e = .returned (.bool (szB a b)) ∧ w = w' := by
  unfold szB
  by_cases h0 : 1 ≤ a <;> by_cases h1 : a ≤ 16384 <;> by_cases h2 : 1 ≤ b <;> by_cases h3 : b ≤ 16384
  all_goals
    simp only [h0, h1, h2, h3, and_true, and_false, decide_true, decide_false]
    go_enter Tryd.func39, Tryd.ntmps39
    go_wp2
    go_ret
    exact ⟨rfl, rfl⟩

set_option maxHeartbeats 1000000 in
theorem image_any (a b : Int) (w : World) : Calls Tryd.prog 37 #[.int .i64 a, .int .i64 b] w fun e w' => e = .returned (.agg #[.int .i64 0, .int .i64 0, .int .i64 a, .int .i64 b]) ∧ Below w.heap.size w w' := by
  go_enter Tryd.func37, Tryd.ntmps37
  go_wp2
  refine bodyPost_ret (v := .agg #[.int .i64 0, .int .i64 0, .int .i64 a, .int .i64 b]) (by simp [results, Tryd.results37, go_sem]) rfl ⟨rfl, ?_⟩
  exact (Below.refl _ _).alloc (Nat.le_refl _) _

set_option maxHeartbeats 1000000 in
theorem square_any (x y : Int) (hx : 0 ≤ x ∧ x < 16384) (hy : 0 ≤ y ∧ y < 16384) (w : World) : Calls Tryd.prog 43 #[.agg #[.int .i64 x, .int .i64 y]] w fun e w' => e = .returned (.agg #[.int .i64 x, .int .i64 y, .int .i64 (x + 1), .int .i64 (y + 1)]) ∧ Below w.heap.size w w' := by
  have t0 : IntKind.i64.wrap (x + 1) = x + 1 := IntWalk.i64_in _ (by omega)
  have t1 : IntKind.i64.wrap (y + 1) = y + 1 := IntWalk.i64_in _ (by omega)
  go_enter Tryd.func43, Tryd.ntmps43
  go_wp2
  refine bodyPost_ret (v := .agg #[.int .i64 x, .int .i64 y, .int .i64 (x + 1), .int .i64 (y + 1)]) (by simp [results, Tryd.results43, go_sem]) rfl ⟨rfl, ?_⟩
  exact ((Below.refl _ _).alloc (Nat.le_refl _) _).alloc (Nat.le_of_lt (by rw [World.size_alloc]; exact Nat.lt_succ_self _)) _

set_option maxHeartbeats 1000000 in
theorem flip_any (a x y : Int) (hx : 0 ≤ x ∧ x < a) (ha : a ≤ 16384) (w : World) : Calls Tryd.prog 48 #[.int .i64 a, .agg #[.int .i64 x, .int .i64 y]] w fun e w' => e = .returned (.agg #[.int .i64 (a - 1 - x), .int .i64 y]) ∧ Below w.heap.size w w' := by
  have t0 : IntKind.i64.wrap (a - 1) = a - 1 := IntWalk.i64_in _ (by omega)
  have t1 : IntKind.i64.wrap (a - 1 - x) = a - 1 - x := IntWalk.i64_in _ (by omega)
  go_enter Tryd.func48, Tryd.ntmps48
  go_wp2
  refine bodyPost_ret (v := .agg #[.int .i64 (a - 1 - x), .int .i64 y]) (by simp [results, Tryd.results48, go_sem]) rfl ⟨rfl, ?_⟩
  exact ((Below.refl _ _).alloc (Nat.le_refl _) _).alloc (Nat.le_of_lt (by rw [World.size_alloc]; exact Nat.lt_succ_self _)) _

set_option maxHeartbeats 1000000 in
theorem turn_any (a x y : Int) (hx : 0 ≤ x ∧ x < a) (ha : a ≤ 16384) (w : World) : Calls Tryd.prog 49 #[.int .i64 a, .agg #[.int .i64 x, .int .i64 y]] w fun e w' => e = .returned (.agg #[.int .i64 y, .int .i64 (a - 1 - x)]) ∧ Below w.heap.size w w' := by
  have t0 : IntKind.i64.wrap (a - 1) = a - 1 := IntWalk.i64_in _ (by omega)
  have t1 : IntKind.i64.wrap (a - 1 - x) = a - 1 - x := IntWalk.i64_in _ (by omega)
  go_enter Tryd.func49, Tryd.ntmps49
  go_wp2
  refine bodyPost_ret (v := .agg #[.int .i64 y, .int .i64 (a - 1 - x)]) (by simp [results, Tryd.results49, go_sem]) rfl ⟨rfl, ?_⟩
  exact ((Below.refl _ _).alloc (Nat.le_refl _) _).alloc (Nat.le_of_lt (by rw [World.size_alloc]; exact Nat.lt_succ_self _)) _

end Go.Proofs.YtphgjfkmnohjlaaDoor
