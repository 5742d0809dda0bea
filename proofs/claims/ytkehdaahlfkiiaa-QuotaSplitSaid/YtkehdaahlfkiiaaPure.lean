/-
  What package rect computes, on unbounded integers (from the seat of rect).
-/
import Derived.Lib.Hide
namespace Go.Proofs.Ytkehdaahlfkiiaa
structure R where
  x0 : Int
  y0 : Int
  x1 : Int
  y1 : Int

theorem R.same {a b : R} (h0 : a.x0 = b.x0) (h1 : a.y0 = b.y0) (h2 : a.x1 = b.x1) (h3 : a.y1 = b.y1) : a = b := by
  cases a; cases b; simp_all

def zeroR : R := ⟨0, 0, 0, 0⟩
def okC (n : Int) : Bool := decide (-16384 ≤ n ∧ n ≤ 16384)
def vldB (r : R) : Bool := okC r.x0 && okC r.y0 && okC r.x1 && okC r.y1
def empB (r : R) : Bool := !vldB r || decide (r.x1 ≤ r.x0) || decide (r.y1 ≤ r.y0)
def canR (r : R) : R := if empB r then zeroR else r
def areaI (r : R) : Int := ((canR r).x1 - (canR r).x0) * ((canR r).y1 - (canR r).y0)
def conB (r : R) (x y : Int) : Bool := vldB r && decide (r.x0 ≤ x) && decide (x < r.x1) && decide (r.y0 ≤ y) && decide (y < r.y1)
def nearI (n lo hi : Int) : Int := min (max n lo) hi
def cutR (a b : R) : R := ⟨max a.x0 b.x0, max a.y0 b.y0, min a.x1 b.x1, min a.y1 b.y1⟩
def hullR (a b : R) : R := ⟨min a.x0 b.x0, min a.y0 b.y0, max a.x1 b.x1, max a.y1 b.y1⟩
def intR (a b : R) : R := canR (cutR (canR a) (canR b))
def uniR (a b : R) : R := if empB a then canR b else if empB b then a else hullR a b
def sameR (a b : R) : Bool := decide (a.x0 = b.x0) && decide (a.y0 = b.y0) && decide (a.x1 = b.x1) && decide (a.y1 = b.y1)
def withB (a b : R) : Bool := sameR (intR a b) (canR a)
def movI (n d : Int) : Int := n + nearI d (-16384 - n) (16384 - n)
def trR (r : R) (dx dy : Int) : R := if empB r then zeroR else canR ⟨movI r.x0 dx, movI r.y0 dy, movI r.x1 dx, movI r.y1 dy⟩
def clX (r : R) (x : Int) : Int := if empB r then 0 else nearI x r.x0 (r.x1 - 1)
def clY (r : R) (y : Int) : Int := if empB r then 0 else nearI y r.y0 (r.y1 - 1)
/-- the parts of a difference, empty ones among them -/
def partsR (a b : R) : List R := if empB (intR a b) then [a] else
  [⟨a.x0, a.y0, a.x1, (intR a b).y0⟩, ⟨a.x0, (intR a b).y1, a.x1, a.y1⟩, ⟨a.x0, (intR a b).y0, (intR a b).x0, (intR a b).y1⟩, ⟨(intR a b).x1, (intR a b).y0, a.x1, (intR a b).y1⟩]
def fullR (l : List R) : List R := l.filter fun r => !empB r
def subR (a b : R) : List R := fullR (partsR a b)

theorem okC_iff (n : Int) : okC n = true ↔ -16384 ≤ n ∧ n ≤ 16384 := by simp [okC]
theorem okC_no (n : Int) : okC n = false ↔ n < -16384 ∨ 16384 < n := by simp [okC]; omega
theorem okC_near (n : Int) : decide (n = min (max n (-16384)) 16384) = okC n := by
  unfold okC
  rw [Bool.eq_iff_iff]
  simp
  omega

theorem vld_iff (r : R) : vldB r = true ↔ (-16384 ≤ r.x0 ∧ r.x0 ≤ 16384) ∧ (-16384 ≤ r.y0 ∧ r.y0 ≤ 16384) ∧ (-16384 ≤ r.x1 ∧ r.x1 ≤ 16384) ∧ (-16384 ≤ r.y1 ∧ r.y1 ≤ 16384) := by
  simp [vldB, okC_iff, and_assoc]

theorem emp_no (r : R) : empB r = false ↔ -16384 ≤ r.x0 ∧ r.x0 < r.x1 ∧ r.x1 ≤ 16384 ∧ -16384 ≤ r.y0 ∧ r.y0 < r.y1 ∧ r.y1 ≤ 16384 := by
  have h := vld_iff r
  unfold empB
  cases hv : vldB r
  · rw [hv] at h
    simp only [Bool.false_eq_true, false_iff] at h
    simp
    omega
  · rw [hv] at h
    simp only [true_iff] at h
    simp
    omega

theorem emp_yes (r : R) : empB r = true ↔ ¬ (-16384 ≤ r.x0 ∧ r.x0 < r.x1 ∧ r.x1 ≤ 16384 ∧ -16384 ≤ r.y0 ∧ r.y0 < r.y1 ∧ r.y1 ≤ 16384) := by
  rw [← emp_no]
  cases empB r <;> simp

theorem can_emp {r : R} (h : empB r = true) : canR r = zeroR := by simp [canR, h]
theorem can_full {r : R} (h : empB r = false) : canR r = r := by simp [canR, h]
theorem can_bd (r : R) : (-16384 ≤ (canR r).x0 ∧ (canR r).x0 ≤ (canR r).x1 ∧ (canR r).x1 ≤ 16384) ∧ (-16384 ≤ (canR r).y0 ∧ (canR r).y0 ≤ (canR r).y1 ∧ (canR r).y1 ≤ 16384) := by
  cases h : empB r
  · rw [can_full h]
    have := (emp_no r).1 h
    omega
  · rw [can_emp h]
    simp [zeroR]

theorem con_emp (r : R) (x y : Int) : conB r x y = (!empB r && decide (r.x0 ≤ x) && decide (x < r.x1) && decide (r.y0 ≤ y) && decide (y < r.y1)) := by
  rw [Bool.eq_iff_iff]
  unfold conB empB
  cases vldB r
  · simp
  · simp
    omega

theorem con_iff (r : R) (x y : Int) : conB r x y = true ↔ empB r = false ∧ r.x0 ≤ x ∧ x < r.x1 ∧ r.y0 ≤ y ∧ y < r.y1 := by
  rw [con_emp]
  cases empB r <;> simp [and_assoc]

theorem emp_zero : empB zeroR = true := by decide
theorem can_zero : canR zeroR = zeroR := can_emp emp_zero
theorem can_can (r : R) : canR (canR r) = canR r := by
  cases h : empB r
  · rw [can_full h, can_full h]
  · rw [can_emp h, can_zero]

theorem int_emp_l {a b : R} (h : empB a = true) : intR a b = zeroR := by
  have hb := can_bd b
  unfold intR
  rw [can_emp h]
  refine can_emp ((emp_yes _).2 ?_)
  simp only [cutR, zeroR]
  omega

theorem int_emp_r {a b : R} (h : empB b = true) : intR a b = zeroR := by
  have hb := can_bd a
  unfold intR
  rw [can_emp h]
  refine can_emp ((emp_yes _).2 ?_)
  simp only [cutR, zeroR]
  omega

theorem int_full {a b : R} (ha : empB a = false) (hb : empB b = false) : intR a b = canR (cutR a b) := by
  unfold intR
  rw [can_full ha, can_full hb]

theorem uni_emp_l {a b : R} (h : empB a = true) : uniR a b = canR b := by simp [uniR, h]
theorem uni_emp_r {a b : R} (ha : empB a = false) (h : empB b = true) : uniR a b = a := by simp [uniR, ha, h]
theorem uni_full {a b : R} (ha : empB a = false) (hb : empB b = false) : uniR a b = hullR a b := by simp [uniR, ha, hb]

end Go.Proofs.Ytkehdaahlfkiiaa
