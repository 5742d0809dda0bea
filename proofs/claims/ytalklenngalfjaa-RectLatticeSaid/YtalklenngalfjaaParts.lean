/-
  What the parts of a difference are, on unbounded integers: not empty, within the first rectangle, apart from the second and from one another, and complete.
-/
import Derived.Test.YtalklenngalfjaaMore
namespace Go.Proofs.Ytalklenngalfjaa

theorem area_emp {r : R} (h : empB r = true) : areaI r = 0 := by
  unfold areaI
  rw [can_emp h]
  rfl

theorem area_nonneg (r : R) : 0 ≤ areaI r := by
  have := can_bd r
  unfold areaI
  exact Int.mul_nonneg (by omega) (by omega)

theorem area_le (r : R) : areaI r ≤ 1073741824 := by
  have := can_bd r
  unfold areaI
  have h : ((canR r).x1 - (canR r).x0) * ((canR r).y1 - (canR r).y0) ≤ 32768 * 32768 := Int.mul_le_mul (by omega) (by omega) (by omega) (by omega)
  exact h

theorem area_apart {p q : R} (h : empB p = false → empB q = false → empB (cutR p q) = true) : areaI (intR p q) = 0 := by
  refine area_emp ?_
  cases hp : empB p
  · cases hq : empB q
    · rw [int_full hp hq, can_emp (h hp hq)]
      exact emp_zero
    · rw [int_emp_r hq]
      exact emp_zero
  · rw [int_emp_l hp]
    exact emp_zero

/-- the area of a rectangle whose sides do not cross -/
theorem area_sides {r : R} (h0 : -16384 ≤ r.x0 ∧ r.x0 ≤ r.x1 ∧ r.x1 ≤ 16384) (h1 : -16384 ≤ r.y0 ∧ r.y0 ≤ r.y1 ∧ r.y1 ≤ 16384) : areaI r = (r.x1 - r.x0) * (r.y1 - r.y0) := by
  cases h : empB r
  · unfold areaI
    rw [can_full h]
  · rw [area_emp h]
    have := (emp_yes _).1 h
    rcases (by omega : r.x1 = r.x0 ∨ r.y1 = r.y0) with e | e
    · rw [e, Int.sub_self, Int.zero_mul]
    · rw [e, Int.sub_self, Int.mul_zero]

theorem int_ne {a b : R} (h : empB (intR a b) = false) : empB a = false ∧ empB b = false ∧ intR a b = cutR a b := by
  cases ha : empB a
  · cases hb : empB b
    · refine ⟨rfl, rfl, ?_⟩
      rw [int_full ha hb] at h ⊢
      cases hc : empB (cutR a b)
      · exact can_full hc
      · rw [can_emp hc, emp_zero] at h
        cases h
    · rw [int_emp_r hb, emp_zero] at h
      cases h
  · rw [int_emp_l ha, emp_zero] at h
    cases h

def sumA : List R → Int
  | [] => 0
  | r :: l => areaI r + sumA l

theorem sumA_append (l m : List R) : sumA (l ++ m) = sumA l + sumA m := by
  induction l with
  | nil => simp [sumA]
  | cons r l ih => simp only [List.cons_append, sumA, ih]; omega

theorem sumA_nonneg (l : List R) : 0 ≤ sumA l := by
  induction l with
  | nil => simp [sumA]
  | cons r l ih => have := area_nonneg r; simp only [sumA]; omega

theorem sumA_take_le (l : List R) (j : Nat) : sumA (l.take j) ≤ sumA l := by
  have h : sumA l = sumA (l.take j) + sumA (l.drop j) := by rw [← sumA_append, List.take_append_drop]
  have := sumA_nonneg (l.drop j)
  omega

theorem sumA_full (l : List R) : sumA (fullR l) = sumA l := by
  induction l with
  | nil => rfl
  | cons r l ih =>
    cases h : empB r
    · have e : fullR (r :: l) = r :: fullR l := by simp [fullR, h]
      rw [e]
      simp only [sumA, ih]
    · have e : fullR (r :: l) = fullR l := by simp [fullR, h]
      rw [e, ih]
      simp only [sumA, area_emp h, Int.zero_add]

theorem with_mk {p a : R} (h : empB a = false) (h1 : a.x0 ≤ p.x0 ∧ a.y0 ≤ p.y0 ∧ p.x1 ≤ a.x1 ∧ p.y1 ≤ a.y1) : withB p a = true := by
  rw [with_eq, h]
  simp only [Bool.not_false, Bool.true_and, Bool.or_eq_true, Bool.and_eq_true, decide_eq_true_eq]
  exact .inr ⟨⟨⟨h1.1, h1.2.1⟩, h1.2.2.1⟩, h1.2.2.2⟩

/-- what is said of each part, and of each two -/
theorem parts_each {a b p : R} (hp : p ∈ partsR a b) : empB p = false → withB p a = true ∧ areaI (intR p b) = 0 := by
  intro hne
  unfold partsR at hp
  cases hi : empB (intR a b)
  · rw [hi] at hp
    obtain ⟨ha, hb, e⟩ := int_ne hi
    rw [e] at hp hi
    have ha' := (emp_no a).1 ha
    have hb' := (emp_no b).1 hb
    have hi' := (emp_no _).1 hi
    simp only [cutR] at hi'
    simp only [Bool.false_eq_true, if_false, List.mem_cons, List.not_mem_nil, or_false, cutR] at hp
    rcases hp with rfl | rfl | rfl | rfl
    all_goals
      have hn := (emp_no _).1 hne
      simp only at hn
      refine ⟨with_mk ha (by simp only; omega), area_apart fun _ _ => (emp_yes _).2 ?_⟩
      simp only [cutR]
      omega
  · rw [hi] at hp
    simp only [if_true, List.mem_singleton] at hp
    subst hp
    exact ⟨with_mk hne (by omega), area_emp hi⟩

theorem parts_apart (a b : R) : (partsR a b).Pairwise (fun p q => areaI (intR q p) = 0) := by
  unfold partsR
  cases hi : empB (intR a b)
  · obtain ⟨ha, hb, e⟩ := int_ne hi
    rw [e] at hi ⊢
    have ha' := (emp_no a).1 ha
    have hb' := (emp_no b).1 hb
    have hi' := (emp_no _).1 hi
    simp only [cutR] at hi'
    simp only [Bool.false_eq_true, if_false, cutR, List.pairwise_cons, List.mem_cons, List.not_mem_nil, or_false, forall_eq_or_imp, forall_eq, List.Pairwise.nil, and_true, false_implies, implies_true]
    refine ⟨⟨?_, ?_, ?_⟩, ⟨?_, ?_⟩, ?_⟩
    all_goals
      refine area_apart fun h1 h2 => (emp_yes _).2 ?_
      have g1 := (emp_no _).1 h1
      have g2 := (emp_no _).1 h2
      simp only at g1 g2
      simp only [cutR]
      omega
  · simp

theorem parts_sum (a b : R) : areaI (intR a b) + sumA (partsR a b) = areaI a := by
  unfold partsR
  cases hi : empB (intR a b)
  · obtain ⟨ha, hb, e⟩ := int_ne hi
    rw [e] at hi ⊢
    have ha' := (emp_no a).1 ha
    have hb' := (emp_no b).1 hb
    have hi' := (emp_no _).1 hi
    generalize hc : cutR a b = c at *
    have c0 : a.x0 ≤ c.x0 := by rw [← hc]; simp only [cutR]; omega
    have c1 : a.y0 ≤ c.y0 := by rw [← hc]; simp only [cutR]; omega
    have c2 : c.x1 ≤ a.x1 := by rw [← hc]; simp only [cutR]; omega
    have c3 : c.y1 ≤ a.y1 := by rw [← hc]; simp only [cutR]; omega
    simp only [Bool.false_eq_true, if_false, sumA]
    rw [area_sides (r := c) (by omega) (by omega), area_sides (r := a) (by omega) (by omega), area_sides (r := ⟨a.x0, a.y0, a.x1, c.y0⟩) (by simp only; omega) (by simp only; omega), area_sides (r := ⟨a.x0, c.y1, a.x1, a.y1⟩) (by simp only; omega) (by simp only; omega),
      area_sides (r := ⟨a.x0, c.y0, c.x0, c.y1⟩) (by simp only; omega) (by simp only; omega), area_sides (r := ⟨c.x1, c.y0, a.x1, c.y1⟩) (by simp only; omega) (by simp only; omega)]
    simp only
    have e1 : (a.x1 - a.x0) * (a.y1 - a.y0) = (a.x1 - a.x0) * (c.y0 - a.y0) + (a.x1 - a.x0) * (a.y1 - c.y1) + (a.x1 - a.x0) * (c.y1 - c.y0) := by
      rw [← Int.mul_add, ← Int.mul_add]
      congr 1
      omega
    have e2 : (a.x1 - a.x0) * (c.y1 - c.y0) = (c.x0 - a.x0) * (c.y1 - c.y0) + (a.x1 - c.x1) * (c.y1 - c.y0) + (c.x1 - c.x0) * (c.y1 - c.y0) := by
      rw [← Int.add_mul, ← Int.add_mul]
      congr 1
      omega
    omega
  · simp only [if_true, sumA]
    rw [area_emp hi]
    omega

theorem sub_sum (a b : R) : areaI (intR a b) + sumA (subR a b) = areaI a := by
  unfold subR
  rw [sumA_full]
  exact parts_sum a b

theorem sub_each {a b p : R} (hp : p ∈ subR a b) : empB p = false ∧ withB p a = true ∧ areaI (intR p b) = 0 := by
  unfold subR fullR at hp
  obtain ⟨h1, h2⟩ := List.mem_filter.1 hp
  have h3 : empB p = false := by simpa using h2
  exact ⟨h3, parts_each h1 h3⟩

theorem sub_apart {a b : R} {i k : Nat} {p q : R} (hp : (subR a b)[i]? = some p) (hq : (subR a b)[k]? = some q) (h : k < i) : areaI (intR p q) = 0 := by
  have hw : (subR a b).Pairwise (fun p q => areaI (intR q p) = 0) := (parts_apart a b).filter _
  rw [List.pairwise_iff_getElem] at hw
  obtain ⟨li, ei⟩ := List.getElem?_eq_some_iff.1 hp
  obtain ⟨lk, ek⟩ := List.getElem?_eq_some_iff.1 hq
  have := hw k i lk li h
  rw [ei, ek] at this
  exact this

theorem sub_four (a b : R) : (subR a b).length ≤ 4 := by
  refine Nat.le_trans (List.length_filter_le _ _) ?_
  unfold partsR
  split <;> simp

end Go.Proofs.Ytalklenngalfjaa
