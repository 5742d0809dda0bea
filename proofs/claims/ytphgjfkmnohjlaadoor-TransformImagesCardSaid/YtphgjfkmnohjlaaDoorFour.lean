/-
  Four cells at the head of a block: a rectangle in memory, what keeps it.
-/
import Derived.Test.YtphgjfkmnohjlaaDoorPlain
namespace Go.Proofs.YtphgjfkmnohjlaaDoor
open Go.RowKit
/-- four cells at the head of block k -/
def Four (W : World) (k : Nat) (x0 x1 x2 x3 : Value) : Prop := W.cell? ⟨k, 0, none⟩ = some x0 ∧ W.cell? ⟨k, 1, none⟩ = some x1 ∧ W.cell? ⟨k, 2, none⟩ = some x2 ∧ W.cell? ⟨k, 3, none⟩ = some x3 ∧ ∀ i, W.frozen? ⟨k, i, none⟩ = false

def set4 (W : World) (k : Nat) (x0 x1 x2 x3 : Value) : World := (((W.setCell ⟨k, 0, none⟩ x0).setCell ⟨k, 1, none⟩ x1).setCell ⟨k, 2, none⟩ x2).setCell ⟨k, 3, none⟩ x3

theorem Four.keep {W w1 : World} {B k : Nat} {x0 x1 x2 x3 : Value} (h : Four W k x0 x1 x2 x3) (hb : Below B W w1) (hk : k < B) : Four w1 k x0 x1 x2 x3 :=
  ⟨(hb.cell (p := ⟨k, 0, none⟩) hk).trans h.1, (hb.cell (p := ⟨k, 1, none⟩) hk).trans h.2.1, (hb.cell (p := ⟨k, 2, none⟩) hk).trans h.2.2.1, (hb.cell (p := ⟨k, 3, none⟩) hk).trans h.2.2.2.1, fun i => (hb.frozen (p := ⟨k, i, none⟩) hk).trans (h.2.2.2.2 i)⟩

theorem Four.set {W : World} {k : Nat} {x0 x1 x2 x3 y0 y1 y2 y3 : Value} (h : Four W k x0 x1 x2 x3) : Four (set4 W k y0 y1 y2 y3) k y0 y1 y2 y3 := by
  obtain ⟨h0, h1, h2, h3, h4⟩ := h
  unfold Four set4
  simp [go_sem, h0, h1, h2, h3, h4]

theorem Four.far {W : World} {k j : Nat} {x0 x1 x2 x3 y0 y1 y2 y3 : Value} (h : Four W k x0 x1 x2 x3) (hne : k ≠ j) : Four (set4 W j y0 y1 y2 y3) k x0 x1 x2 x3 := by
  obtain ⟨h0, h1, h2, h3, h4⟩ := h
  unfold Four set4
  simp [go_sem, h0, h1, h2, h3, h4]

theorem Four.new (w : World) (x0 x1 x2 x3 : Value) (t : TypeId) : Four (w.alloc (.cells #[x0, x1, x2, x3] t)) w.heap.size x0 x1 x2 x3 := by
  unfold Four
  simp [go_sem]

theorem Four.alloc {w : World} {k : Nat} {x0 x1 x2 x3 : Value} (h : Four w k x0 x1 x2 x3) (hk : k < w.heap.size) (o : Obj) : Four (w.alloc o) k x0 x1 x2 x3 :=
  h.keep ((Below.refl _ _).alloc (Nat.le_refl _) o) hk
theorem Four.drew {w : World} {k : Nat} {x0 x1 x2 x3 : Value} (h : Four w k x0 x1 x2 x3) : Four w.drew k x0 x1 x2 x3 := h

theorem below_four {B k : Nat} {w w1 : World} (h : Below B w w1) (hb : B ≤ k) {x0 x1 x2 x3 : Value} : Below B w (set4 w1 k x0 x1 x2 x3) := below_set4 h hb

theorem set4_size (W : World) (k : Nat) (x0 x1 x2 x3 : Value) : (set4 W k x0 x1 x2 x3).heap.size = W.heap.size := by simp [set4]

end Go.Proofs.YtphgjfkmnohjlaaDoor
