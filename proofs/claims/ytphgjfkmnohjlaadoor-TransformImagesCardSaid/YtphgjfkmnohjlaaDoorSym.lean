/-
  The eight symmetries of an image on unbounded integers: products, inverses, sizes and positions, and the laws that tie them.
-/
import Derived.Lib.Hide
namespace Go.Proofs.YtphgjfkmnohjlaaDoor

/-- a number, or Normal if it is no transform -/
def cl (t : Int) : Int := if 0 ≤ t ∧ t ≤ 7 then t else 0
def vT (t : Int) : Bool := decide (0 ≤ t ∧ t ≤ 7)
/-- the product of two transforms, a first -/
def comp8 (a b : Int) : Int :=
  if a < 4 then (if b < 4 then (a + b) % 4 else 4 + (b - a) % 4) else (if b < 4 then 4 + (a + b) % 4 else (b - a) % 4)
def comp (a b : Int) : Int := comp8 (cl a) (cl b)
def inv8 (t : Int) : Int := if t < 4 then (4 - t) % 4 else t
def inv (t : Int) : Int := inv8 (cl t)
/-- whether width and height are exchanged -/
def odd (t : Int) : Bool := decide (cl t % 2 = 1)
def siW (t w h : Int) : Int := if odd t then h else w
def siH (t w h : Int) : Int := if odd t then w else h
def posX (t w h x y : Int) : Int :=
  if t = 1 then y else if t = 2 then w - 1 - x else if t = 3 then h - 1 - y else if t = 4 then w - 1 - x else if t = 5 then y else if t = 6 then x else if t = 7 then h - 1 - y else x
def posY (t w h x y : Int) : Int :=
  if t = 1 then w - 1 - x else if t = 2 then h - 1 - y else if t = 3 then x else if t = 4 then y else if t = 5 then x else if t = 6 then h - 1 - y else if t = 7 then w - 1 - x else y

theorem cl_in (t : Int) : 0 ≤ cl t ∧ cl t ≤ 7 := by unfold cl; split <;> omega
theorem cl_eq {t : Int} (h0 : 0 ≤ t) (h1 : t ≤ 7) : cl t = t := by simp [cl, h0, h1]
theorem cl_cl (t : Int) : cl (cl t) = cl t := cl_eq (cl_in t).1 (cl_in t).2
theorem cl_zero : cl 0 = 0 := by decide
theorem eight {t : Int} (h : 0 ≤ t ∧ t ≤ 7) : t = 0 ∨ t = 1 ∨ t = 2 ∨ t = 3 ∨ t = 4 ∨ t = 5 ∨ t = 6 ∨ t = 7 := by omega

theorem comp8_in {a b : Int} (_ : 0 ≤ a ∧ a ≤ 7) (_ : 0 ≤ b ∧ b ≤ 7) : 0 ≤ comp8 a b ∧ comp8 a b ≤ 7 := by
  unfold comp8
  split <;> split <;> omega
theorem comp_in (a b : Int) : 0 ≤ comp a b ∧ comp a b ≤ 7 := comp8_in (cl_in a) (cl_in b)
theorem inv8_in {a : Int} (_ : 0 ≤ a ∧ a ≤ 7) : 0 ≤ inv8 a ∧ inv8 a ≤ 7 := by
  unfold inv8
  split <;> omega
theorem inv_in (a : Int) : 0 ≤ inv a ∧ inv a ≤ 7 := inv8_in (cl_in a)
theorem cl_comp (a b : Int) : cl (comp a b) = comp a b := cl_eq (comp_in a b).1 (comp_in a b).2
theorem cl_inv (a : Int) : cl (inv a) = inv a := cl_eq (inv_in a).1 (inv_in a).2
theorem comp_cl (a b : Int) : comp (cl a) (cl b) = comp a b := by unfold comp; rw [cl_cl, cl_cl]
theorem inv_cl (a : Int) : inv (cl a) = inv a := by unfold inv; rw [cl_cl]

theorem comp_assoc (a b c : Int) : comp (comp a b) c = comp a (comp b c) := by
  unfold comp
  have ha := cl_in a
  have hb := cl_in b
  have hc := cl_in c
  rw [cl_eq (comp8_in ha hb).1 (comp8_in ha hb).2, cl_eq (comp8_in hb hc).1 (comp8_in hb hc).2]
  generalize cl a = a at *
  generalize cl b = b at *
  generalize cl c = c at *
  rcases eight ha with rfl | rfl | rfl | rfl | rfl | rfl | rfl | rfl <;> rcases eight hb with rfl | rfl | rfl | rfl | rfl | rfl | rfl | rfl <;> rcases eight hc with rfl | rfl | rfl | rfl | rfl | rfl | rfl | rfl <;> decide
theorem comp_one (a : Int) : comp a 0 = cl a := by
  unfold comp
  rw [cl_zero]
  have ha := cl_in a
  generalize cl a = a at *
  rcases eight ha with rfl | rfl | rfl | rfl | rfl | rfl | rfl | rfl <;> decide
theorem one_comp (a : Int) : comp 0 a = cl a := by
  unfold comp
  rw [cl_zero]
  have ha := cl_in a
  generalize cl a = a at *
  rcases eight ha with rfl | rfl | rfl | rfl | rfl | rfl | rfl | rfl <;> decide
theorem comp_inv (a : Int) : comp a (inv a) = 0 := by
  unfold comp inv
  have ha := cl_in a
  rw [cl_eq (inv8_in ha).1 (inv8_in ha).2]
  generalize cl a = a at *
  rcases eight ha with rfl | rfl | rfl | rfl | rfl | rfl | rfl | rfl <;> decide
theorem inv_comp (a : Int) : comp (inv a) a = 0 := by
  unfold comp inv
  have ha := cl_in a
  rw [cl_eq (inv8_in ha).1 (inv8_in ha).2]
  generalize cl a = a at *
  rcases eight ha with rfl | rfl | rfl | rfl | rfl | rfl | rfl | rfl <;> decide
/-- the inverse is the one number whose product is Normal -/
theorem inv_only {a u : Int} (h : comp a u = 0) : cl u = inv a := by
  unfold comp at h
  unfold inv
  have ha := cl_in a
  have hu := cl_in u
  generalize cl a = a at *
  generalize cl u = u at *
  rcases eight ha with rfl | rfl | rfl | rfl | rfl | rfl | rfl | rfl <;> rcases eight hu with rfl | rfl | rfl | rfl | rfl | rfl | rfl | rfl <;> first | rfl | (revert h; decide)
theorem inv_prod (a b : Int) : inv (comp a b) = comp (inv b) (inv a) := by
  have h : comp (comp a b) (comp (inv b) (inv a)) = 0 := by
    rw [comp_assoc a b, ← comp_assoc b, comp_inv, one_comp, cl_inv, comp_inv]
  rw [← inv_only h, cl_comp]
theorem inv_inv (a : Int) : inv (inv a) = cl a := by
  rw [← inv_only (inv_comp a)]

theorem odd_comp (a b : Int) : odd (comp a b) = (odd a != odd b) := by
  unfold odd
  rw [cl_comp]
  unfold comp
  have ha := cl_in a
  have hb := cl_in b
  generalize cl a = a at *
  generalize cl b = b at *
  rcases eight ha with rfl | rfl | rfl | rfl | rfl | rfl | rfl | rfl <;> rcases eight hb with rfl | rfl | rfl | rfl | rfl | rfl | rfl | rfl <;> decide
theorem odd_inv (a : Int) : odd (inv a) = odd a := by
  unfold odd
  rw [cl_inv]
  unfold inv
  have ha := cl_in a
  generalize cl a = a at *
  rcases eight ha with rfl | rfl | rfl | rfl | rfl | rfl | rfl | rfl <;> decide

theorem si_comp (a b w h : Int) : siW b (siW a w h) (siH a w h) = siW (comp a b) w h ∧ siH b (siW a w h) (siH a w h) = siH (comp a b) w h := by
  unfold siW siH
  rw [odd_comp]
  cases odd a <;> cases odd b <;> simp
theorem si_inv (a w h : Int) : siW (inv a) (siW a w h) (siH a w h) = w ∧ siH (inv a) (siW a w h) (siH a w h) = h := by
  unfold siW siH
  rw [odd_inv]
  cases odd a <;> simp
theorem si_mul (t w h : Int) : siW t w h * siH t w h = w * h := by
  unfold siW siH
  cases odd t
  · simp
  · simp [Int.mul_comm]
theorem si_cl (t w h : Int) : siW (cl t) w h = siW t w h ∧ siH (cl t) w h = siH t w h := by
  unfold siW siH odd
  rw [cl_cl]
  exact ⟨rfl, rfl⟩

theorem pos_cl (t w h x y : Int) : posX (cl t) w h x y = posX t w h x y ∧ posY (cl t) w h x y = posY t w h x y := by
  by_cases ht : 0 ≤ t ∧ t ≤ 7
  · rw [cl_eq ht.1 ht.2]
    exact ⟨rfl, rfl⟩
  · have h0 : cl t = 0 := by simp only [cl, if_neg ht]
    rw [h0]
    have h1 : t ≠ 1 := by omega
    have h2 : t ≠ 2 := by omega
    have h3 : t ≠ 3 := by omega
    have h4 : t ≠ 4 := by omega
    have h5 : t ≠ 5 := by omega
    have h6 : t ≠ 6 := by omega
    have h7 : t ≠ 7 := by omega
    simp [posX, posY, h1, h2, h3, h4, h5, h6, h7]

/-- applying a and then b is applying the product -/
theorem pos_comp (a b w h x y : Int) : posX b (siW a w h) (siH a w h) (posX a w h x y) (posY a w h x y) = posX (comp a b) w h x y ∧ posY b (siW a w h) (siH a w h) (posX a w h x y) (posY a w h x y) = posY (comp a b) w h x y := by
  rw [← (pos_cl a w h x y).1, ← (pos_cl a w h x y).2, ← (si_cl a w h).1, ← (si_cl a w h).2, ← (pos_cl b _ _ _ _).1, ← (pos_cl b _ _ _ _).2]
  unfold comp
  have ha := cl_in a
  have hb := cl_in b
  generalize cl a = a at *
  generalize cl b = b at *
  rcases eight ha with rfl | rfl | rfl | rfl | rfl | rfl | rfl | rfl <;> rcases eight hb with rfl | rfl | rfl | rfl | rfl | rfl | rfl | rfl <;> simp [posX, posY, siW, siH, odd, cl, comp8] <;> omega
theorem pos_inv (a w h x y : Int) : posX (inv a) (siW a w h) (siH a w h) (posX a w h x y) (posY a w h x y) = x ∧ posY (inv a) (siW a w h) (siH a w h) (posX a w h x y) (posY a w h x y) = y := by
  have h0 := pos_comp a (inv a) w h x y
  rw [comp_inv] at h0
  exact h0
/-- a pixel of the image becomes one of the transformed image -/
theorem pos_in (t : Int) {w h x y : Int} (hx : 0 ≤ x ∧ x < w) (hy : 0 ≤ y ∧ y < h) : (0 ≤ posX t w h x y ∧ posX t w h x y < siW t w h) ∧ (0 ≤ posY t w h x y ∧ posY t w h x y < siH t w h) := by
  rw [← (pos_cl t w h x y).1, ← (pos_cl t w h x y).2, ← (si_cl t w h).1, ← (si_cl t w h).2]
  have ht := cl_in t
  generalize cl t = t at *
  rcases eight ht with rfl | rfl | rfl | rfl | rfl | rfl | rfl | rfl <;> simp [posX, posY, siW, siH, odd, cl] <;> omega
theorem si_pos (t : Int) {w h : Int} (hw : 0 < w) (hh : 0 < h) : 0 < siW t w h ∧ 0 < siH t w h := by
  unfold siW siH
  cases odd t <;> simp <;> omega

end Go.Proofs.YtphgjfkmnohjlaaDoor
