/-
  Rectangles in boxes of a law's own, held while calls make memory.
-/
import Derived.Test.YtalklenngalfjaaOpen
import Derived.Test.YtalklenngalfjaaWith
import Derived.Test.YtalklenngalfjaaRwith
import Derived.Deep.RegionHeld3
namespace Go.Proofs.Ytalklenngalfjaa
open Go.RowKit

/-- the world w, later than w0, holds the rectangle r at the head of block k -/
structure Held1 (w0 w : World) (k : Nat) (r : R) : Prop where
  at1 : At w k r
  below : Below w0.heap.size w0 w

theorem Held1.step {w0 w w' : World} {k : Nat} {r : R} (h : Held1 w0 w k r) (hb : Below w.heap.size w w') : Held1 w0 w' k r :=
  ⟨h.at1.keep hb h.at1.there, h.below.trans (hb.mono h.below.size)⟩

theorem Held1.drew {w0 w : World} {k : Nat} {r : R} (h : Held1 w0 w k r) : Held1 w0 w.drew k r := ⟨h.at1.drew, h.below.drew⟩

theorem Held1.cells {w0 W : World} {k : Nat} {r : R} (h : Held1 w0 W k r) : W.cell? ⟨k, 0, none⟩ = some (.int .i64 r.x0) ∧ W.cell? ⟨k, 1, none⟩ = some (.int .i64 r.y0) ∧ W.cell? ⟨k, 2, none⟩ = some (.int .i64 r.x1) ∧ W.cell? ⟨k, 3, none⟩ = some (.int .i64 r.y1) :=
  ⟨h.at1.1, h.at1.2.1, h.at1.2.2.1, h.at1.2.2.2.1⟩

theorem Held1.new (w : World) (r : R) : Held1 w (w.alloc (.cells #[.int .i64 r.x0, .int .i64 r.y0, .int .i64 r.x1, .int .i64 r.y1] 23)) w.heap.size r :=
  ⟨Four.new w _ _ _ _ _, (Below.refl _ _).alloc (Nat.le_refl _) _⟩

/-- two rectangles -/
structure Held2 (w0 w : World) (k : Nat) (r : R) (j : Nat) (s : R) : Prop where
  at1 : At w k r
  at2 : At w j s
  below : Below w0.heap.size w0 w

theorem Held2.step {w0 w w' : World} {k j : Nat} {r s : R} (h : Held2 w0 w k r j s) (hb : Below w.heap.size w w') : Held2 w0 w' k r j s :=
  ⟨h.at1.keep hb h.at1.there, h.at2.keep hb h.at2.there, h.below.trans (hb.mono h.below.size)⟩

theorem Held2.drew {w0 w : World} {k j : Nat} {r s : R} (h : Held2 w0 w k r j s) : Held2 w0 w.drew k r j s := ⟨h.at1.drew, h.at2.drew, h.below.drew⟩

theorem Held2.cells {w0 W : World} {k j : Nat} {r s : R} (h : Held2 w0 W k r j s) : W.cell? ⟨k, 0, none⟩ = some (.int .i64 r.x0) ∧ W.cell? ⟨k, 1, none⟩ = some (.int .i64 r.y0) ∧ W.cell? ⟨k, 2, none⟩ = some (.int .i64 r.x1) ∧ W.cell? ⟨k, 3, none⟩ = some (.int .i64 r.y1) ∧
    W.cell? ⟨j, 0, none⟩ = some (.int .i64 s.x0) ∧ W.cell? ⟨j, 1, none⟩ = some (.int .i64 s.y0) ∧ W.cell? ⟨j, 2, none⟩ = some (.int .i64 s.x1) ∧ W.cell? ⟨j, 3, none⟩ = some (.int .i64 s.y1) :=
  ⟨h.at1.1, h.at1.2.1, h.at1.2.2.1, h.at1.2.2.2.1, h.at2.1, h.at2.2.1, h.at2.2.2.1, h.at2.2.2.2.1⟩

theorem Held2.new (w : World) (r s : R) : Held2 w ((w.alloc (.cells #[.int .i64 r.x0, .int .i64 r.y0, .int .i64 r.x1, .int .i64 r.y1] 23)).alloc (.cells #[.int .i64 s.x0, .int .i64 s.y0, .int .i64 s.x1, .int .i64 s.y1] 23)) w.heap.size r (w.heap.size + 1) s := by
  refine ⟨Four.alloc (Four.new w _ _ _ _ _) (by simp) _, ?_, ((Below.refl _ _).alloc (Nat.le_refl _) _).alloc (by simp) _⟩
  have := Four.new (w.alloc (.cells #[.int .i64 r.x0, .int .i64 r.y0, .int .i64 r.x1, .int .i64 r.y1] 23)) (.int .i64 s.x0) (.int .i64 s.y0) (.int .i64 s.x1) (.int .i64 s.y1) 23
  rwa [World.size_alloc] at this

end Go.Proofs.Ytalklenngalfjaa
