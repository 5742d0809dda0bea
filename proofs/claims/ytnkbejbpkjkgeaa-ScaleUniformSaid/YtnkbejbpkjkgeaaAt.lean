/-
  At of package buffer and of the reference; small of the laws.
-/
import Derived.Test.YtnkbejbpkjkgeaaVali
import Derived.Test.YtnkbejbpkjkgeaaRect
namespace Go.Proofs.Ytnkbejbpkjkgeaa
open Go.RowKit

theorem con_fr {a b x y : Int} (h : sizB a b = true) : conB ⟨0, 0, a, b⟩ x y = (decide (0 ≤ x) && decide (x < a) && (decide (0 ≤ y) && decide (y < b))) := by
  obtain ⟨h0, h1⟩ := siz_iff.1 h
  have hv : vldB ⟨0, 0, a, b⟩ = true := (vld_iff _).2 ⟨by simp, by simp, by simp only; omega, by simp only; omega⟩
  unfold conB
  rw [hv, Bool.true_and, Bool.and_assoc]

theorem at_no {a b : Int} (l : List Px) (x y : Int) (h : sizB a b = false) : atB a b l x y = zeroPx := by unfold atB; rw [h]; simp
theorem at_out {a b : Int} (l : List Px) {x y : Int} (h : (decide (0 ≤ x) && decide (x < a) && (decide (0 ≤ y) && decide (y < b))) = false) : atB a b l x y = zeroPx := by unfold atB; rw [h]; simp
theorem at_far {a b : Int} {l : List Px} {x y : Int} (h : ¬ y * a + x < l.length) : atB a b l x y = zeroPx := by unfold atB; rw [decide_eq_false h]; simp
theorem at_get {a b : Int} {l : List Px} {x y : Int} (h : sizB a b = true) (h1 : (decide (0 ≤ x) && decide (x < a) && (decide (0 ≤ y) && decide (y < b))) = true) (h2 : y * a + x < l.length) : atB a b l x y = l.getD (y * a + x).toNat zeroPx := by
  unfold atB
  rw [h, h1, decide_eq_true h2]
  simp

theorem idx_int {a b x y : Int} (h : sizB a b = true) (h1 : (decide (0 ≤ x) && decide (x < a) && (decide (0 ≤ y) && decide (y < b))) = true) : (0 ≤ x ∧ x < a) ∧ (0 ≤ y ∧ y < b) ∧ (0 ≤ y * a ∧ y * a ≤ 65536) := by
  obtain ⟨g0, g1⟩ := siz_iff.1 h
  simp only [Bool.and_eq_true, decide_eq_true_eq] at h1
  have h3 := Int.mul_nonneg h1.2.1 (show 0 ≤ a by omega)
  have h4 := Int.mul_le_mul (show y ≤ 256 by omega) (show a ≤ 256 by omega) (by omega) (by omega)
  omega

/-- the boxes of a buffer and of a pixel -/
abbrev W2 (w : World) (a b : Int) (v : Value) : World := (w.alloc (.cells #[.int .i64 a, .int .i64 b, v] 24)).alloc (.cells #[.int .u8 0, .int .u8 0, .int .u8 0, .int .u8 0] 43)

theorem held2 (w : World) (a b : Int) (v : Value) : Held w (W2 w a b v) [(w.heap.size + 1, [.int .u8 0, .int .u8 0, .int .u8 0, .int .u8 0]), (w.heap.size, [.int .i64 a, .int .i64 b, v])] := by
  have h := ((Held.nil w).alloc [.int .i64 a, .int .i64 b, v] 24).alloc [.int .u8 0, .int .u8 0, .int .u8 0, .int .u8 0] 43
  rw [World.size_alloc] at h
  exact h

end Go.Proofs.Ytnkbejbpkjkgeaa
