/-
  Intersections and unions on unbounded integers: the laws of a lattice, and the order that belongs to them.
-/
import Derived.Test.YtalklenngalfjaaParts
namespace Go.Proofs.Ytalklenngalfjaa

theorem cut_comm (a b : R) : cutR a b = cutR b a := by
  refine R.same ?_ ?_ ?_ ?_ <;> (simp only [cutR]; omega)

theorem hull_comm (a b : R) : hullR a b = hullR b a := by
  refine R.same ?_ ?_ ?_ ?_ <;> (simp only [hullR]; omega)

theorem int_comm (a b : R) : intR a b = intR b a := by
  unfold intR
  rw [cut_comm]

theorem uni_comm (a b : R) : uniR a b = uniR b a := by
  cases ha : empB a
  · cases hb : empB b
    · rw [uni_full ha hb, uni_full hb ha, hull_comm]
    · rw [uni_emp_r ha hb, uni_emp_l hb, can_full ha]
  · cases hb : empB b
    · rw [uni_emp_l ha, uni_emp_r hb ha, can_full hb]
    · rw [uni_emp_l ha, uni_emp_l hb, can_emp ha, can_emp hb]

/-- what an intersection is, whatever its rectangles are -/
theorem int_ways (a b : R) : intR a b = zeroR ∨ (empB a = false ∧ empB b = false ∧ empB (cutR a b) = false ∧ intR a b = cutR a b) := by
  cases h : empB (intR a b)
  · obtain ⟨ha, hb, e⟩ := int_ne h
    exact .inr ⟨ha, hb, by rw [← e]; exact h, e⟩
  · left
    have e : canR (intR a b) = intR a b := by unfold intR; exact can_can _
    rw [← e, can_emp h]

theorem emp_int {a b : R} : empB (intR a b) = true ↔ intR a b = zeroR := by
  constructor
  · intro h
    rcases int_ways a b with e | ⟨_, _, hc, e⟩
    · exact e
    · rw [e, hc] at h
      cases h
  · intro h
    rw [h]
    exact emp_zero

theorem three {a b c : R} (h : empB (cutR (cutR a b) c) = false) (hb : -16384 ≤ b.x0 ∧ b.x0 < b.x1 ∧ b.x1 ≤ 16384 ∧ -16384 ≤ b.y0 ∧ b.y0 < b.y1 ∧ b.y1 ≤ 16384) (hc : -16384 ≤ c.x0 ∧ c.x0 < c.x1 ∧ c.x1 ≤ 16384 ∧ -16384 ≤ c.y0 ∧ c.y0 < c.y1 ∧ c.y1 ≤ 16384) : empB (cutR b c) = false := by
  have h0 := (emp_no _).1 h
  simp only [cutR] at h0
  obtain ⟨_, h1, _, _, h4, _⟩ := h0
  obtain ⟨b0, b1, b2, b3, b4, b5⟩ := hb
  obtain ⟨c0, c1, c2, c3, c4, c5⟩ := hc
  refine (emp_no _).2 ?_
  simp only [cutR]
  refine ⟨by omega, ?_, by omega, by omega, ?_, by omega⟩
  · clear h4 b3 b4 b5 c3 c4 c5 b0 b2 c0 c2
    omega
  · clear h1 b0 b1 b2 c0 c1 c2 b3 b5 c3 c5
    omega

theorem int_assoc (a b c : R) : intR (intR a b) c = intR a (intR b c) := by
  cases ha : empB a
  · cases hb : empB b
    · cases hc : empB c
      · have ha' := (emp_no a).1 ha
        have hb' := (emp_no b).1 hb
        have hc' := (emp_no c).1 hc
        rw [int_full ha hb, int_full hb hc]
        cases h1 : empB (cutR a b)
        · cases h2 : empB (cutR b c)
          · rw [can_full h1, can_full h2, int_full h1 hc, int_full ha h2]
            congr 1
            refine R.same ?_ ?_ ?_ ?_ <;> (simp only [cutR]; omega)
          · rw [can_full h1, can_emp h2, int_emp_r emp_zero, int_full h1 hc]
            refine can_emp ?_
            cases h3 : empB (cutR (cutR a b) c)
            · rw [three h3 hb' hc'] at h2
              cases h2
            · rfl
        · rw [can_emp h1, int_emp_l emp_zero]
          cases h2 : empB (cutR b c)
          · rw [can_full h2, int_full ha h2]
            symm
            refine can_emp ?_
            cases h3 : empB (cutR a (cutR b c))
            · rw [cut_comm a, cut_comm b] at h3
              rw [cut_comm, three h3 hb' ha'] at h1
              cases h1
            · rfl
          · rw [can_emp h2, int_emp_r emp_zero]
      · rw [int_emp_r hc, int_emp_r hc, int_emp_r emp_zero]
    · rw [int_emp_r hb, int_emp_l emp_zero, int_emp_l hb, int_emp_r emp_zero]
  · rw [int_emp_l ha, int_emp_l emp_zero, int_emp_l ha]

theorem hull_ne {a b : R} (ha : empB a = false) (hb : empB b = false) : empB (hullR a b) = false := by
  have ha' := (emp_no a).1 ha
  have hb' := (emp_no b).1 hb
  rw [emp_no]
  simp only [hullR]
  omega

theorem uni_assoc (a b c : R) : uniR (uniR a b) c = uniR a (uniR b c) := by
  cases ha : empB a
  · cases hb : empB b
    · cases hc : empB c
      · rw [uni_full ha hb, uni_full hb hc, uni_full (hull_ne ha hb) hc, uni_full ha (hull_ne hb hc)]
        refine R.same ?_ ?_ ?_ ?_ <;> (simp only [hullR]; omega)
      · rw [uni_full ha hb, uni_emp_r (hull_ne ha hb) hc, uni_emp_r hb hc, uni_full ha hb]
    · rw [uni_emp_r ha hb]
      cases hc : empB c
      · rw [uni_emp_l hb, can_full hc]
      · rw [uni_emp_l hb, can_emp hc, uni_emp_r ha hc, uni_emp_r ha emp_zero]
  · rw [uni_emp_l ha]
    cases hb : empB b
    · rw [can_full hb]
      cases hc : empB c
      · rw [uni_full hb hc, uni_emp_l ha, can_full (hull_ne hb hc)]
      · rw [uni_emp_r hb hc, uni_emp_l ha, can_full hb]
    · rw [can_emp hb, uni_emp_l emp_zero, uni_emp_l hb, uni_emp_l ha, can_can]

/-- within, over coordinates -/
theorem with_iff (a b : R) : withB a b = true ↔ (empB a = true ∨ (empB b = false ∧ b.x0 ≤ a.x0 ∧ b.y0 ≤ a.y0 ∧ a.x1 ≤ b.x1 ∧ a.y1 ≤ b.y1)) := by
  rw [with_eq]
  cases empB a <;> cases empB b <;> simp [and_assoc]

theorem with_int (a b : R) : withB a b = sameR (intR a b) (canR a) := rfl

theorem can_uni_same (a b : R) : withB a b = sameR (uniR a b) (canR b) := by
  rw [Bool.eq_iff_iff, with_iff, same_iff]
  cases ha : empB a
  · cases hb : empB b
    · rw [uni_full ha hb, can_full hb]
      constructor
      · rintro (h | ⟨_, h0, h1, h2, h3⟩)
        · cases h
        · refine R.same ?_ ?_ ?_ ?_ <;> (simp only [hullR]; omega)
      · intro h
        have h0 : min a.x0 b.x0 = b.x0 := congrArg R.x0 h
        have h1 : min a.y0 b.y0 = b.y0 := congrArg R.y0 h
        have h2 : max a.x1 b.x1 = b.x1 := congrArg R.x1 h
        have h3 : max a.y1 b.y1 = b.y1 := congrArg R.y1 h
        exact .inr ⟨rfl, by omega, by omega, by omega, by omega⟩
    · rw [uni_emp_r ha hb, can_emp hb]
      constructor
      · rintro (h | h)
        · cases h
        · cases h.1
      · intro h
        rw [h, emp_zero] at ha
        cases ha
  · rw [uni_emp_l ha]
    simp

theorem with_uni (a b c : R) : withB (uniR a b) c = (withB a c && withB b c) := by
  rw [Bool.eq_iff_iff, Bool.and_eq_true, with_iff, with_iff, with_iff]
  cases ha : empB a
  · cases hb : empB b
    · rw [uni_full ha hb, hull_ne ha hb]
      simp only [Bool.false_eq_true, false_or, hullR]
      constructor
      · rintro ⟨h, h0, h1, h2, h3⟩
        exact ⟨⟨h, by omega, by omega, by omega, by omega⟩, h, by omega, by omega, by omega, by omega⟩
      · rintro ⟨⟨h, h0, h1, h2, h3⟩, _, h4, h5, h6, h7⟩
        exact ⟨h, by omega, by omega, by omega, by omega⟩
    · rw [uni_emp_r ha hb, ha]
      simp
  · rw [uni_emp_l ha]
    cases hb : empB b
    · rw [can_full hb, hb]
      simp
    · rw [can_emp hb, emp_zero]
      simp

theorem with_of_int (a b c : R) : withB c (intR a b) = (withB c a && withB c b) := by
  rw [Bool.eq_iff_iff, Bool.and_eq_true, with_iff, with_iff, with_iff]
  cases hc : empB c
  · have hc' := (emp_no c).1 hc
    simp only [Bool.false_eq_true, false_or]
    rcases int_ways a b with e | ⟨ha, hb, hn, e⟩
    · rw [e, emp_zero]
      simp only [Bool.true_eq_false, false_and, false_iff]
      rintro ⟨⟨ha, h0, h1, h2, h3⟩, hb, h4, h5, h6, h7⟩
      rw [int_full ha hb] at e
      have ha' := (emp_no a).1 ha
      have hb' := (emp_no b).1 hb
      cases hn : empB (cutR a b)
      · rw [can_full hn] at e
        have hz := emp_zero
        rw [← e, hn] at hz
        cases hz
      · have := (emp_yes _).1 hn
        simp only [cutR] at this
        omega
    · rw [e, ha, hb, hn]
      simp only [true_and, cutR]
      constructor
      · rintro ⟨h0, h1, h2, h3⟩
        exact ⟨⟨by omega, by omega, by omega, by omega⟩, by omega, by omega, by omega, by omega⟩
      · rintro ⟨⟨h0, h1, h2, h3⟩, h4, h5, h6, h7⟩
        exact ⟨by omega, by omega, by omega, by omega⟩
  · simp

end Go.Proofs.Ytalklenngalfjaa
