/-
  The plain functions of package rect: what each returns, and that nothing that was there has turned. Types: 32 a rectangle.
-/
import Derived.Test.YtclnepijbnhdfaaRows
import Derived.Test.YtclnepijbnhdfaaPure
import Derived.WalkKit
import Derived.WalkSpells
import Derived.Lib.MinMax
import Derived.Lib.Hide
namespace Go.Proofs.Ytclnepijbnhdfaa
open Go.RowKit

theorem bcell {W w1 : World} (hb : Below W.heap.size W w1) : (∀ b o, b < W.heap.size → w1.cell? ⟨b, o, none⟩ = W.cell? ⟨b, o, none⟩) ∧ (∀ b o, b < W.heap.size → w1.frozen? ⟨b, o, none⟩ = W.frozen? ⟨b, o, none⟩) :=
  ⟨fun b o h => hb.cell (p := ⟨b, o, none⟩) h, fun b o h => hb.frozen (p := ⟨b, o, none⟩) h⟩

theorem below_set4 {B k : Nat} {w w1 : World} (h : Below B w w1) (hb : B ≤ k) {x0 x1 x2 x3 : Value} :
    Below B w ((((w1.setCell ⟨k, 0, none⟩ x0).setCell ⟨k, 1, none⟩ x1).setCell ⟨k, 2, none⟩ x2).setCell ⟨k, 3, none⟩ x3) :=
  (((h.setCell (p := ⟨k, 0, none⟩) hb x0).setCell (p := ⟨k, 1, none⟩) hb x1).setCell (p := ⟨k, 2, none⟩) hb x2).setCell (p := ⟨k, 3, none⟩) hb x3

theorem ret_bool {a b : Bool} (h : a = b) : Ending.returned (.bool a) = .returned (.bool b) := by rw [h]

theorem ret_int {k : IntKind} {a b : Int} (h : a = b) : Ending.returned (.int k a) = .returned (.int k b) := by rw [h]

set_option maxHeartbeats 1000000 in
theorem near_any (n lo hi : Int) (w : World) : Calls Try.prog 82 #[.int .i64 n, .int .i64 lo, .int .i64 hi] w fun e w' => e = .returned (.int .i64 (min (max n lo) hi)) ∧ w = w' := by
  go_enter Try.func82, Try.ntmps82
  go_wp2
  go_ret
  exact ⟨rfl, rfl⟩

set_option maxHeartbeats 1000000 in
theorem okc_any (n : Int) (w : World) : Calls Try.prog 71 #[.int .i64 n] w fun e w' => e = .returned (.bool (okC n)) ∧ w = w' := by
  rw [← okC_near]
  go_enter Try.func71, Try.ntmps71
  go_wp2_with fail
  refine (near_any _ _ _ _).mono ?_
  rintro e w' ⟨rfl, rfl⟩
  go_wp2
  go_ret
  exact ⟨rfl, rfl⟩

set_option maxHeartbeats 1000000 in
theorem valid_any (r : R) (w : World) : Calls Try.prog 56 #[.agg #[.int .i64 r.x0, .int .i64 r.y0, .int .i64 r.x1, .int .i64 r.y1]] w fun e w' => e = .returned (.bool (vldB r)) ∧ Below w.heap.size w w' := by
  obtain ⟨v, hv⟩ : ∃ v, vldB r = v := ⟨_, rfl⟩
  rw [hv]
  unfold vldB at hv
  cases h0 : okC r.x0 <;> cases h1 : okC r.y0 <;> cases h2 : okC r.x1 <;> cases h3 : okC r.y1 <;> (rw [h0, h1, h2, h3] at hv; simp at hv; subst hv)
  all_goals
    go_enter Try.func56, Try.ntmps56
    go_wp2_with (with_reducible refine (okc_any _ _).mono ?_; rintro e w' ⟨rfl, rfl⟩)
    go_ret
    exact ⟨rfl, (Below.refl _ _).alloc (Nat.le_refl _) _⟩

set_option maxHeartbeats 1000000 in
theorem empty_any (r : R) (w : World) : Calls Try.prog 64 #[.agg #[.int .i64 r.x0, .int .i64 r.y0, .int .i64 r.x1, .int .i64 r.y1]] w fun e w' => e = .returned (.bool (empB r)) ∧ Below w.heap.size w w' := by
  obtain ⟨v, hv⟩ : ∃ v, empB r = v := ⟨_, rfl⟩
  rw [hv]
  unfold empB at hv
  cases h0 : vldB r <;> by_cases h1 : r.x1 ≤ r.x0 <;> by_cases h2 : r.y1 ≤ r.y0 <;> (rw [h0] at hv; simp [h1, h2] at hv; subst hv)
  all_goals
    go_enter Try.func64, Try.ntmps64
    go_wp2_with fail
    refine (valid_any _ _).mono ?_
    rintro e w1 ⟨rfl, hb⟩
    obtain ⟨hc, hf⟩ := bcell hb
    go_wp2
    go_ret
    exact ⟨ret_bool (by clear hc hf hb; simp [*]), ((Below.refl _ _).alloc (Nat.le_refl _) _).trans (hb.mono (by simp))⟩

set_option maxHeartbeats 1000000 in
theorem canon_any (r : R) (w : World) : Calls Try.prog 63 #[.agg #[.int .i64 r.x0, .int .i64 r.y0, .int .i64 r.x1, .int .i64 r.y1]] w fun e w' => e = .returned (.agg #[.int .i64 (canR r).x0, .int .i64 (canR r).y0, .int .i64 (canR r).x1, .int .i64 (canR r).y1]) ∧ Below w.heap.size w w' := by
  obtain ⟨c, hcan⟩ : ∃ c, canR r = c := ⟨_, rfl⟩
  rw [hcan]
  unfold canR at hcan
  cases h0 : empB r <;> (rw [h0] at hcan; simp at hcan; subst hcan)
  all_goals
    go_enter Try.func63, Try.ntmps63
    go_wp2_with fail
    refine (empty_any _ _).mono ?_
    rintro e w1 ⟨rfl, hb⟩
    obtain ⟨hc, hf⟩ := bcell hb
    have hz : w.heap.size + 1 < w1.heap.size := by have := hb.size; simp at this; omega
    have HB := Lib.hid ((((Below.refl w.heap.size w).alloc (Nat.le_refl _) (.cells #[.int .i64 r.x0, .int .i64 r.y0, .int .i64 r.x1, .int .i64 r.y1] 32)).alloc (by simp) (.cells #[.int .i64 0, .int .i64 0, .int .i64 0, .int .i64 0] 32)).trans (hb.mono (B' := w.heap.size) (by simp; omega)))
    clear hb
    go_wp2
  · refine bodyPost_ret (v := .agg #[.int .i64 r.x0, .int .i64 r.y0, .int .i64 r.x1, .int .i64 r.y1]) (by simp [results, Try.results63, go_sem, hc]) rfl ⟨rfl, ?_⟩
    exact below_set4 HB.out (Nat.le_succ _)
  · refine bodyPost_ret (v := .agg #[.int .i64 zeroR.x0, .int .i64 zeroR.y0, .int .i64 zeroR.x1, .int .i64 zeroR.y1]) (by simp [results, Try.results63, go_sem, hc, zeroR]) rfl ⟨rfl, ?_⟩
    exact below_set4 HB.out (Nat.le_succ _)

set_option maxHeartbeats 1000000 in
theorem area_any (r : R) (w : World) : Calls Try.prog 43 #[.agg #[.int .i64 r.x0, .int .i64 r.y0, .int .i64 r.x1, .int .i64 r.y1]] w fun e w' => e = .returned (.int .i64 (areaI r)) ∧ Below w.heap.size w w' := by
  have hd := can_bd r
  have hm : 0 ≤ ((canR r).x1 - (canR r).x0) * ((canR r).y1 - (canR r).y0) ∧ ((canR r).x1 - (canR r).x0) * ((canR r).y1 - (canR r).y0) ≤ 32768 * 32768 :=
    ⟨Int.mul_nonneg (by omega) (by omega), Int.mul_le_mul (by omega) (by omega) (by omega) (by omega)⟩
  obtain ⟨v, hv⟩ : ∃ v, areaI r = v := ⟨_, rfl⟩
  rw [hv]
  unfold areaI at hv
  have C := Lib.hid (canon_any r (w.alloc (.cells #[.int .i64 r.x0, .int .i64 r.y0, .int .i64 r.x1, .int .i64 r.y1] 32)))
  generalize canR r = c at *
  have HV := Lib.hid hv
  clear hv
  go_enter Try.func43, Try.ntmps43
  go_wp2_with fail
  refine C.out.mono ?_
  clear C
  rintro e w1 ⟨rfl, hb⟩
  obtain ⟨hc, hf⟩ := bcell hb
  have hz : w.heap.size < w1.heap.size := by have := hb.size; simp at this; omega
  have HB := Lib.hid (((Below.refl w.heap.size w).alloc (Nat.le_refl _) (.cells #[.int .i64 r.x0, .int .i64 r.y0, .int .i64 r.x1, .int .i64 r.y1] 32)).trans (hb.mono (B' := w.heap.size) (by simp)))
  clear hb
  go_wp2
  go_ret
  exact ⟨ret_int (by rw [← HV.out]), below_set4 HB.out (Nat.le_refl _)⟩

set_option maxHeartbeats 2000000 in
theorem contains_any (r : R) (x y : Int) (w : World) : Calls Try.prog 40 #[.agg #[.int .i64 r.x0, .int .i64 r.y0, .int .i64 r.x1, .int .i64 r.y1], .int .i64 x, .int .i64 y] w fun e w' => e = .returned (.bool (conB r x y)) ∧ Below w.heap.size w w' := by
  obtain ⟨v, hv⟩ : ∃ v, conB r x y = v := ⟨_, rfl⟩
  rw [hv]
  unfold conB at hv
  cases h0 : vldB r <;> by_cases h1 : r.x0 ≤ x <;> by_cases h2 : x < r.x1 <;> by_cases h3 : r.y0 ≤ y <;> by_cases h4 : y < r.y1 <;> (rw [h0] at hv; simp [h1, h2, h3, h4] at hv; subst hv)
  all_goals
    go_enter Try.func40, Try.ntmps40
    go_wp2_with fail
    refine (valid_any _ _).mono ?_
    rintro e w1 ⟨rfl, hb⟩
    obtain ⟨hc, hf⟩ := bcell hb
    go_wp2
    go_ret
    exact ⟨ret_bool (by clear hc hf hb; simp [*]), ((Below.refl _ _).alloc (Nat.le_refl _) _).trans (hb.mono (by simp))⟩

/-- four cells at the head of block k -/
def Four (W : World) (k : Nat) (x0 x1 x2 x3 : Value) : Prop := W.cell? ⟨k, 0, none⟩ = some x0 ∧ W.cell? ⟨k, 1, none⟩ = some x1 ∧ W.cell? ⟨k, 2, none⟩ = some x2 ∧ W.cell? ⟨k, 3, none⟩ = some x3 ∧ ∀ i, W.frozen? ⟨k, i, none⟩ = false

def set4 (W : World) (k : Nat) (x0 x1 x2 x3 : Value) : World := (((W.setCell ⟨k, 0, none⟩ x0).setCell ⟨k, 1, none⟩ x1).setCell ⟨k, 2, none⟩ x2).setCell ⟨k, 3, none⟩ x3

theorem Four.keep {W w1 : World} {B k : Nat} {x0 x1 x2 x3 : Value} (h : Four W k x0 x1 x2 x3) (hb : Below B W w1) (hk : k < B) : Four w1 k x0 x1 x2 x3 :=
  ⟨(hb.cell (p := ⟨k, 0, none⟩) hk).trans h.1, (hb.cell (p := ⟨k, 1, none⟩) hk).trans h.2.1, (hb.cell (p := ⟨k, 2, none⟩) hk).trans h.2.2.1, (hb.cell (p := ⟨k, 3, none⟩) hk).trans h.2.2.2.1, fun i => (hb.frozen (p := ⟨k, i, none⟩) hk).trans (h.2.2.2.2 i)⟩

theorem Four.set {W : World} {k : Nat} {x0 x1 x2 x3 y0 y1 y2 y3 : Value} (h : Four W k x0 x1 x2 x3) : Four (set4 W k y0 y1 y2 y3) k y0 y1 y2 y3 := by
  obtain ⟨h0, h1, h2, h3, h4⟩ := h
  unfold Four set4
  simp [go_sem, h0, h1, h2, h3, h4]

theorem Four.far {W : World} {k j : Nat} {x0 x1 x2 x3 y0 y1 y2 y3 : Value} (h : Four W k x0 x1 x2 x3) (hne : k ≠ j) : Four (set4 W j y0 y1 y2 y3) k x0 x1 x2 x3 := by
  obtain ⟨h0, h1, h2, h3, h4⟩ := h
  unfold Four set4
  simp [go_sem, h0, h1, h2, h3, h4]

theorem Four.new (w : World) (x0 x1 x2 x3 : Value) (t : TypeId) : Four (w.alloc (.cells #[x0, x1, x2, x3] t)) w.heap.size x0 x1 x2 x3 := by
  unfold Four
  simp [go_sem]

theorem Four.alloc {w : World} {k : Nat} {x0 x1 x2 x3 : Value} (h : Four w k x0 x1 x2 x3) (hk : k < w.heap.size) (o : Obj) : Four (w.alloc o) k x0 x1 x2 x3 :=
  h.keep ((Below.refl _ _).alloc (Nat.le_refl _) o) hk

theorem Four.drew {w : World} {k : Nat} {x0 x1 x2 x3 : Value} (h : Four w k x0 x1 x2 x3) : Four w.drew k x0 x1 x2 x3 := h

theorem below_four {B k : Nat} {w w1 : World} (h : Below B w w1) (hb : B ≤ k) {x0 x1 x2 x3 : Value} : Below B w (set4 w1 k x0 x1 x2 x3) := below_set4 h hb

theorem set4_size (W : World) (k : Nat) (x0 x1 x2 x3 : Value) : (set4 W k x0 x1 x2 x3).heap.size = W.heap.size := by simp [set4]

end Go.Proofs.Ytclnepijbnhdfaa
