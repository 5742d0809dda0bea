/-
  Rectangles mapped between two sizes, without the program.
-/
import Derived.Test.YtnkbejbpkjkgeaaBuf
namespace Go.Proofs.Ytnkbejbpkjkgeaa

theorem ediv_is {n c q : Int} (hc : 0 < c) (h1 : c * q ≤ n) (h2 : n < c * q + c) : n / c = q := by
  apply Int.le_antisymm
  · have : n / c < q + 1 := Int.ediv_lt_of_lt_mul hc (by rw [Int.add_mul, Int.one_mul, Int.mul_comm q c]; exact h2)
    omega
  · exact (Int.le_ediv_iff_mul_le hc).2 (by rw [Int.mul_comm]; exact h1)
theorem ediv_bd (n : Int) {c : Int} (hc : 0 < c) : c * (n / c) ≤ n ∧ n < c * (n / c) + c := by
  have h1 := Int.mul_ediv_add_emod n c
  have h2 := Int.emod_nonneg n (show c ≠ 0 by omega)
  have h3 := Int.emod_lt_of_pos n hc
  omega

/-- a * b / c rounded down, and rounded up -/
def flI (a b c : Int) : Int := a * b / c
def clI (a b c : Int) : Int := -(-a * b / c)
def limI (n : Int) : Int := max (-16384) (min 16384 n)

/-- the reference's way where the product is below zero -/
theorem fl_neg {n c : Int} (hc : 0 < c) : -((-n + c - 1) / c) = n / c := by
  obtain ⟨h1, h2⟩ := ediv_bd (-n + c - 1) hc
  generalize (-n + c - 1) / c = q at *
  symm
  refine ediv_is hc ?_ ?_
  · rw [Int.mul_neg]
    omega
  · rw [Int.mul_neg]
    omega

theorem fl_lt {a b c x : Int} (hc : 0 < c) : flI a b c ≤ x ↔ a * b < (x + 1) * c := by
  unfold flI
  rw [← Int.lt_add_one_iff, Int.ediv_lt_iff_lt_mul hc]
theorem lt_cl {a b c x : Int} (hc : 0 < c) : x < clI a b c ↔ x * c < a * b := by
  unfold clI
  have h : -a * b / c < -x ↔ -a * b < -x * c := Int.ediv_lt_iff_lt_mul hc
  have e1 : -a * b = -(a * b) := Int.neg_mul a b
  have e2 : -x * c = -(x * c) := Int.neg_mul x c
  rw [e1, e2] at h
  rw [e1]
  generalize (-(a * b)) / c = q at *
  generalize a * b = n at *
  generalize x * c = m at *
  omega

def mapR (r : R) (fw fh tw th : Int) : R :=
  if empB r || !sizB fw fh || !sizB tw th then zeroR else canR ⟨limI (flI r.x0 tw fw), limI (flI r.y0 th fh), limI (clI r.x1 tw fw), limI (clI r.y1 th fh)⟩

theorem map_no {r : R} {fw fh tw th : Int} (h : (empB r || !sizB fw fh || !sizB tw th) = true) : mapR r fw fh tw th = zeroR := if_pos h
theorem map_yes {r : R} {fw fh tw th : Int} (h1 : empB r = false) (h2 : sizB fw fh = true) (h3 : sizB tw th = true) : mapR r fw fh tw th = canR ⟨limI (flI r.x0 tw fw), limI (flI r.y0 th fh), limI (clI r.x1 tw fw), limI (clI r.y1 th fh)⟩ := by
  unfold mapR
  rw [h1, h2, h3]
  rfl

theorem fl_self (x : Int) {c : Int} (hc : 0 < c) : flI x c c = x := Int.mul_ediv_cancel x (by omega)
theorem cl_self (x : Int) {c : Int} (hc : 0 < c) : clI x c c = x := by
  unfold clI
  rw [Int.mul_ediv_cancel _ (by omega)]
  omega

/-- between equal sizes -/
theorem map_id (r : R) {a b : Int} (h : sizB a b = true) : mapR r a b a b = canR r := by
  obtain ⟨h1, h2⟩ := siz_iff.1 h
  cases he : empB r
  · rw [map_yes he h h, fl_self _ (by omega), fl_self _ (by omega), cl_self _ (by omega), cl_self _ (by omega)]
    have hb := (emp_no r).1 he
    have e : ∀ n : Int, -16384 ≤ n → n ≤ 16384 → limI n = n := fun n h1 h2 => by unfold limI; omega
    rw [e _ (by omega) (by omega), e _ (by omega) (by omega), e _ (by omega) (by omega), e _ (by omega) (by omega)]
  · rw [map_no (by rw [he]; rfl), can_emp he]

/-- a rectangle that is not empty and lies within the frame -/
def InR (r : R) (a b : Int) : Prop := 0 ≤ r.x0 ∧ r.x0 < r.x1 ∧ r.x1 ≤ a ∧ 0 ≤ r.y0 ∧ r.y0 < r.y1 ∧ r.y1 ≤ b

theorem in_full {r : R} {a b : Int} (h : InR r a b) (ha : a ≤ 256) (hb : b ≤ 256) : empB r = false := by
  rw [emp_no]
  unfold InR at h
  omega

theorem fl_range {a b c n : Int} (hc : 0 < c) (hb : 0 ≤ b) (h0 : 0 ≤ a) (h1 : a ≤ c) (hn : b = n) : 0 ≤ flI a b c ∧ flI a b c ≤ n := by
  subst hn
  constructor
  · unfold flI
    exact Int.ediv_nonneg (Int.mul_nonneg h0 hb) (by omega)
  · rw [fl_lt hc, Int.add_mul, Int.one_mul, Int.mul_comm b c]
    have := Int.mul_le_mul_of_nonneg_right h1 hb
    omega
theorem cl_range {a b c : Int} (hc : 0 < c) (hb : 0 ≤ b) (h0 : 0 ≤ a) (h1 : a ≤ c) : 0 ≤ clI a b c ∧ clI a b c ≤ b := by
  constructor
  · rcases Int.lt_or_le (clI a b c) 0 with h | h
    · have h2 : ¬ (-1 < clI a b c) := by omega
      rw [lt_cl hc] at h2
      have := Int.mul_nonneg h0 hb
      omega
    · exact h
  · rcases Int.lt_or_le b (clI a b c) with h | h
    · rw [lt_cl hc] at h
      have := Int.mul_le_mul_of_nonneg_right h1 hb
      rw [Int.mul_comm b c] at h
      omega
    · exact h
theorem fl_lt_cl {a a' b c : Int} (hc : 0 < c) (hb : 0 < b) (h : a < a') : flI a b c < clI a' b c := by
  rw [lt_cl hc]
  have h1 := (ediv_bd (a * b) hc).1
  have h2 : a * b < a' * b := Int.mul_lt_mul_of_pos_right h hb
  unfold flI
  rw [Int.mul_comm (a * b / c) c]
  omega
theorem fl_mono {a a' b c : Int} (hc : 0 < c) (hb : 0 ≤ b) (h : a ≤ a') : flI a b c ≤ flI a' b c := by
  unfold flI
  exact Int.ediv_le_ediv hc (Int.mul_le_mul_of_nonneg_right h hb)
theorem cl_mono {a a' b c : Int} (hc : 0 < c) (hb : 0 ≤ b) (h : a ≤ a') : clI a b c ≤ clI a' b c := by
  unfold clI
  have : -a' * b / c ≤ -a * b / c := Int.ediv_le_ediv hc (Int.mul_le_mul_of_nonneg_right (by omega) hb)
  omega

/-- the mapped rectangle of a rectangle within the frame -/
theorem map_in {r : R} {fw fh tw th : Int} (hf : sizB fw fh = true) (ht : sizB tw th = true) (h : InR r fw fh) : mapR r fw fh tw th = ⟨flI r.x0 tw fw, flI r.y0 th fh, clI r.x1 tw fw, clI r.y1 th fh⟩ ∧ InR ⟨flI r.x0 tw fw, flI r.y0 th fh, clI r.x1 tw fw, clI r.y1 th fh⟩ tw th := by
  obtain ⟨f1, f2⟩ := siz_iff.1 hf
  obtain ⟨t1, t2⟩ := siz_iff.1 ht
  have hr := h
  obtain ⟨h0, h1, h2, h3, h4, h5⟩ := h
  have a1 := fl_range (a := r.x0) (b := tw) (c := fw) (by omega) (by omega) h0 (by omega) rfl
  have a2 := fl_range (a := r.y0) (b := th) (c := fh) (by omega) (by omega) h3 (by omega) rfl
  have a3 := cl_range (a := r.x1) (b := tw) (c := fw) (by omega) (by omega) (by omega) h2
  have a4 := cl_range (a := r.y1) (b := th) (c := fh) (by omega) (by omega) (by omega) h5
  have b1 := fl_lt_cl (b := tw) (c := fw) (by omega) (by omega) h1
  have b2 := fl_lt_cl (b := th) (c := fh) (by omega) (by omega) h4
  have hin : InR ⟨flI r.x0 tw fw, flI r.y0 th fh, clI r.x1 tw fw, clI r.y1 th fh⟩ tw th := ⟨a1.1, b1, a3.2, a2.1, b2, a4.2⟩
  have e : ∀ n : Int, 0 ≤ n → n ≤ 256 → limI n = n := fun n h1 h2 => by unfold limI; omega
  refine ⟨?_, hin⟩
  rw [map_yes (in_full hr (by omega) (by omega)) hf ht, e _ a1.1 (by omega), e _ a2.1 (by omega), e _ a3.1 (by omega), e _ a4.1 (by omega)]
  exact can_full (in_full hin (by omega) (by omega))

/-- which pixels of the new size the mapped rectangle holds -/
theorem map_holds {r : R} {fw fh tw th : Int} (hf : sizB fw fh = true) (ht : sizB tw th = true) (h : InR r fw fh) (x y : Int) :
    conB (mapR r fw fh tw th) x y = (decide (x * fw < r.x1 * tw) && decide (r.x0 * tw < (x + 1) * fw) && decide (y * fh < r.y1 * th) && decide (r.y0 * th < (y + 1) * fh)) := by
  obtain ⟨f1, f2⟩ := siz_iff.1 hf
  obtain ⟨t1, t2⟩ := siz_iff.1 ht
  obtain ⟨e, hin⟩ := map_in hf ht h
  rw [e, con_emp, in_full hin (by omega) (by omega)]
  simp only [Bool.not_false, Bool.true_and]
  rw [Bool.eq_iff_iff]
  simp only [Bool.and_eq_true, decide_eq_true_eq]
  rw [fl_lt (by omega), fl_lt (by omega), lt_cl (by omega), lt_cl (by omega)]
  constructor
  · rintro ⟨⟨⟨c1, c2⟩, c3⟩, c4⟩
    exact ⟨⟨⟨c2, c1⟩, c4⟩, c3⟩
  · rintro ⟨⟨⟨c1, c2⟩, c3⟩, c4⟩
    exact ⟨⟨⟨c2, c1⟩, c4⟩, c3⟩

theorem same_self (r : R) : sameR r r = true := by simp [sameR]
theorem with_zero (r : R) : withB zeroR r = true := by
  unfold withB
  rw [int_emp_l emp_zero, can_zero]
  exact same_self _
/-- a rectangle within another -/
theorem with_in {a b : R} (ha : empB a = false) (hb : empB b = false) (h : b.x0 ≤ a.x0 ∧ b.y0 ≤ a.y0 ∧ a.x1 ≤ b.x1 ∧ a.y1 ≤ b.y1) : withB a b = true := by
  unfold withB
  have e : cutR a b = a := by
    unfold cutR
    refine R.same ?_ ?_ ?_ ?_ <;> (simp only; omega)
  rw [int_full ha hb, e]
  exact same_self _

/-- the mapped rectangle lies within the new frame -/
theorem map_frame {r : R} {fw fh tw th : Int} (hf : sizB fw fh = true) (ht : sizB tw th = true) (h : InR r fw fh) : withB (mapR r fw fh tw th) ⟨0, 0, tw, th⟩ = true := by
  obtain ⟨t1, t2⟩ := siz_iff.1 ht
  obtain ⟨e, hin⟩ := map_in hf ht h
  rw [e]
  refine with_in (in_full hin (by omega) (by omega)) ?_ ⟨hin.1, hin.2.2.2.1, hin.2.2.1, hin.2.2.2.2.2⟩
  rw [emp_no]
  simp only
  omega

theorem int_in {r p : R} (h : empB (intR r p) = false) : (intR r p).x0 < (intR r p).x1 ∧ (intR r p).y0 < (intR r p).y1 ∧ (canR r).x0 ≤ (intR r p).x0 ∧ (intR r p).x1 ≤ (canR r).x1 ∧ (canR r).y0 ≤ (intR r p).y0 ∧ (intR r p).y1 ≤ (canR r).y1 := by
  unfold intR at h ⊢
  have hc : empB (cutR (canR r) (canR p)) = false := by
    cases he : empB (cutR (canR r) (canR p))
    · rfl
    · rw [can_emp he, emp_zero] at h
      cases h
  rw [can_full hc]
  rw [emp_no] at hc
  simp only [cutR] at hc ⊢
  omega

/-- the part's mapped rectangle lies in that of the whole -/
theorem map_part {r p : R} {fw fh tw th : Int} (hf : sizB fw fh = true) (ht : sizB tw th = true) (h : InR r fw fh) : withB (mapR (intR r p) fw fh tw th) (mapR r fw fh tw th) = true := by
  obtain ⟨f1, f2⟩ := siz_iff.1 hf
  obtain ⟨t1, t2⟩ := siz_iff.1 ht
  cases he : empB (intR r p)
  · obtain ⟨e, hin⟩ := map_in hf ht h
    have hi := int_in he
    rw [can_full (in_full h (by omega) (by omega))] at hi
    have hq : InR (intR r p) fw fh := by
      unfold InR at h ⊢
      omega
    obtain ⟨e2, hin2⟩ := map_in hf ht hq
    rw [e, e2]
    exact with_in (in_full hin2 (by omega) (by omega)) (in_full hin (by omega) (by omega)) ⟨fl_mono (by omega) (by omega) hi.2.2.1, fl_mono (by omega) (by omega) hi.2.2.2.2.1, cl_mono (by omega) (by omega) hi.2.2.2.1, cl_mono (by omega) (by omega) hi.2.2.2.2.2⟩
  · rw [map_no (by rw [he]; rfl)]
    exact with_zero _

/-- a rectangle cut by the frame -/
theorem int_frame {r : R} {a b : Int} (h : empB (intR r ⟨0, 0, a, b⟩) = false) (ha : 1 ≤ a ∧ a ≤ 256) (hb : 1 ≤ b ∧ b ≤ 256) : InR (intR r ⟨0, 0, a, b⟩) a b := by
  have hf : empB (⟨0, 0, a, b⟩ : R) = false := by
    rw [emp_no]
    simp only
    omega
  unfold intR at h ⊢
  rw [can_full hf] at h ⊢
  have hc : empB (cutR (canR r) ⟨0, 0, a, b⟩) = false := by
    cases he : empB (cutR (canR r) ⟨0, 0, a, b⟩)
    · rfl
    · rw [can_emp he, emp_zero] at h
      cases h
  rw [can_full hc]
  rw [emp_no] at hc
  unfold InR
  simp only [cutR] at hc ⊢
  omega

end Go.Proofs.Ytnkbejbpkjkgeaa
