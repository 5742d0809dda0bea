/-
  More of what package rect computes: the order of rectangles.
-/
import Derived.Test.YtnkbejbpkjkgeaaPure
namespace Go.Proofs.Ytnkbejbpkjkgeaa

theorem sameR_iff (a b : R) : sameR a b = true ↔ a = b := by
  constructor
  · intro h
    simp [sameR] at h
    exact R.same h.1.1.1 h.1.1.2 h.1.2 h.2
  · rintro rfl
    simp [sameR]

theorem with_eq (a b : R) : withB a b = (empB a || (!empB b && decide (b.x0 ≤ a.x0) && decide (b.y0 ≤ a.y0) && decide (a.x1 ≤ b.x1) && decide (a.y1 ≤ b.y1))) := by
  rw [Bool.eq_iff_iff]
  unfold withB
  rw [sameR_iff]
  cases ha : empB a
  · cases hb : empB b
    · rw [int_full ha hb, can_full ha]
      have ha' := (emp_no a).1 ha
      simp only [Bool.false_or, Bool.not_false, Bool.true_and, Bool.and_eq_true, decide_eq_true_eq]
      constructor
      · intro h
        cases hc : empB (cutR a b)
        · rw [can_full hc] at h
          have h0 : max a.x0 b.x0 = a.x0 := congrArg R.x0 h
          have h1 : max a.y0 b.y0 = a.y0 := congrArg R.y0 h
          have h2 : min a.x1 b.x1 = a.x1 := congrArg R.x1 h
          have h3 : min a.y1 b.y1 = a.y1 := congrArg R.y1 h
          omega
        · rw [can_emp hc] at h
          rw [← h, emp_zero] at ha
          cases ha
      · rintro ⟨⟨⟨h0, h1⟩, h2⟩, h3⟩
        have e : cutR a b = a := R.same (by simp only [cutR]; omega) (by simp only [cutR]; omega) (by simp only [cutR]; omega) (by simp only [cutR]; omega)
        rw [e, can_full ha]
    · rw [int_emp_r hb, can_full ha]
      simp only [Bool.not_true, Bool.false_and, Bool.or_false, Bool.false_eq_true, iff_false]
      intro h
      rw [← h, emp_zero] at ha
      cases ha
  · rw [int_emp_l ha, can_emp ha]
    simp

end Go.Proofs.Ytnkbejbpkjkgeaa
