/-
  Which rectangles have a point, on unbounded integers: of the intersection, of the union, of the parts of a difference.
-/
import Derived.Test.YtalklenngalfjaaParts
namespace Go.Proofs.Ytalklenngalfjaa

theorem con_sides {r : R} (h : vldB r = true) (x y : Int) : conB r x y = decide (r.x0 ≤ x ∧ x < r.x1 ∧ r.y0 ≤ y ∧ y < r.y1) := by
  rw [Bool.eq_iff_iff, con_iff, emp_no]
  have := (vld_iff r).1 h
  simp only [decide_eq_true_eq]
  omega

theorem con_none {r : R} (h : empB r = true) (x y : Int) : conB r x y = false := by
  rw [con_emp, h]
  simp

theorem full_vld {r : R} (h : empB r = false) : vldB r = true := by
  have := (emp_no r).1 h
  rw [vld_iff]
  omega

theorem con_uni {a b : R} {x y : Int} (h : conB a x y = true ∨ conB b x y = true) : conB (uniR a b) x y = true := by
  cases ha : empB a
  · cases hb : empB b
    · rw [uni_full ha hb, con_iff, emp_no]
      have ha' := (emp_no a).1 ha
      have hb' := (emp_no b).1 hb
      rw [con_iff, con_iff] at h
      simp only [hullR]
      rcases h with h | h <;> omega
    · rw [uni_emp_r ha hb]
      rcases h with h | h
      · exact h
      · rw [con_none hb] at h
        cases h
  · rw [uni_emp_l ha]
    rcases h with h | h
    · rw [con_none ha] at h
      cases h
    · have hb := ((con_iff _ _ _).1 h).1
      rw [can_full hb]
      exact h

theorem con_with {a b : R} {x y : Int} (h : withB a b = true) (ha : conB a x y = true) : conB b x y = true := by
  rw [with_eq, ((con_iff _ _ _).1 ha).1] at h
  rw [con_iff] at ha ⊢
  cases hb : empB b
  · rw [hb] at h
    simp at h
    refine ⟨rfl, ?_⟩
    omega
  · rw [hb] at h
    simp at h

theorem con_int (a b : R) (x y : Int) : conB (intR a b) x y = (conB a x y && conB b x y) := by
  cases ha : empB a
  · cases hb : empB b
    · rw [int_full ha hb]
      have ha' := (emp_no a).1 ha
      have hb' := (emp_no b).1 hb
      rw [con_sides (full_vld ha), con_sides (full_vld hb)]
      cases hc : empB (cutR a b)
      · rw [can_full hc, con_sides (full_vld hc), Bool.eq_iff_iff]
        simp only [Bool.and_eq_true, decide_eq_true_eq]
        simp only [cutR]
        constructor
        · rintro ⟨h0, h1, h2, h3⟩
          exact ⟨⟨by omega, by omega, by omega, by omega⟩, by omega, by omega, by omega, by omega⟩
        · rintro ⟨⟨h0, h1, h2, h3⟩, h4, h5, h6, h7⟩
          exact ⟨by omega, by omega, by omega, by omega⟩
      · rw [can_emp hc, con_none emp_zero]
        have := (emp_yes _).1 hc
        simp only [cutR] at this
        symm
        rw [Bool.eq_false_iff]
        intro h
        simp only [Bool.and_eq_true, decide_eq_true_eq] at h
        refine this ?_
        omega
    · rw [int_emp_r hb, con_none emp_zero, con_none hb, Bool.and_false]
  · rw [int_emp_l ha, con_none emp_zero, con_none ha, Bool.false_and]

/-- how many of the rectangles have the point -/
def cnt (x y : Int) : List R → Int
  | [] => 0
  | r :: l => (if conB r x y = true then 1 else 0) + cnt x y l

theorem cnt_append (x y : Int) (l m : List R) : cnt x y (l ++ m) = cnt x y l + cnt x y m := by
  induction l with
  | nil => simp [cnt]
  | cons r l ih => simp only [List.cons_append, cnt, ih]; omega

theorem cnt_nonneg (x y : Int) (l : List R) : 0 ≤ cnt x y l ∧ cnt x y l ≤ l.length := by
  induction l with
  | nil => simp [cnt]
  | cons r l ih =>
    simp only [cnt, List.length_cons]
    split <;> omega

theorem cnt_full (x y : Int) (l : List R) : cnt x y (fullR l) = cnt x y l := by
  induction l with
  | nil => rfl
  | cons r l ih =>
    cases h : empB r
    · have e : fullR (r :: l) = r :: fullR l := by simp [fullR, h]
      rw [e]
      simp only [cnt, ih]
    · have e : fullR (r :: l) = fullR l := by simp [fullR, h]
      rw [e, ih]
      simp [cnt, con_none h]

theorem cnt_parts (a b : R) (x y : Int) : cnt x y (partsR a b) = if conB a x y = true ∧ conB b x y = false then 1 else 0 := by
  unfold partsR
  cases hi : empB (intR a b)
  · obtain ⟨ha, hb, e⟩ := int_ne hi
    rw [e] at hi ⊢
    have ha' := (emp_no a).1 ha
    have hb' := (emp_no b).1 hb
    have hi' := (emp_no _).1 hi
    simp only [cutR] at hi'
    simp only [Bool.false_eq_true, if_false, cnt, cutR]
    rw [con_sides (full_vld ha), con_sides (full_vld hb)]
    rw [con_sides (r := ⟨a.x0, a.y0, a.x1, max a.y0 b.y0⟩) (by rw [vld_iff]; simp only; omega), con_sides (r := ⟨a.x0, min a.y1 b.y1, a.x1, a.y1⟩) (by rw [vld_iff]; simp only; omega),
      con_sides (r := ⟨a.x0, max a.y0 b.y0, max a.x0 b.x0, min a.y1 b.y1⟩) (by rw [vld_iff]; simp only; omega), con_sides (r := ⟨min a.x1 b.x1, max a.y0 b.y0, a.x1, min a.y1 b.y1⟩) (by rw [vld_iff]; simp only; omega)]
    simp only [decide_eq_true_eq, decide_eq_false_iff_not]
    repeat' split
    all_goals omega
  · have h := con_int a b x y
    rw [con_none hi] at h
    simp only [if_true, cnt]
    cases h1 : conB a x y
    · simp
    · cases h2 : conB b x y
      · simp
      · rw [h1, h2] at h
        cases h

theorem cnt_sub (a b : R) (x y : Int) : cnt x y (subR a b) = if conB a x y = true ∧ conB b x y = false then 1 else 0 := by
  unfold subR
  rw [cnt_full, cnt_parts]

end Go.Proofs.Ytalklenngalfjaa
