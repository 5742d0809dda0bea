/-
  Cells of a law's own and of its lists, held while calls make memory, with what the lists hold.
-/
import Derived.Test.YtalklenngalfjaaHold
import Derived.Test.YtalklenngalfjaaParts
import Derived.Test.YtalklenngalfjaaWith
import Derived.Test.YtalklenngalfjaaUni
import Derived.Deep.DeepCutAuto
namespace Go.Proofs.Ytalklenngalfjaa
open Go.RowKit

/-- the world w, later than w0, holds the rectangles a and b in boxes and the list l in v -/
structure HeldS (w0 w : World) (k : Nat) (a : R) (j : Nat) (b : R) (v : Value) (l : List R) : Prop where
  at1 : At w k a
  at2 : At w j b
  list : Rs w v l
  below : Below w0.heap.size w0 w

section
variable {w0 w w' : World} {k j : Nat} {a b : R} {v : Value} {l : List R}

theorem HeldS.step (h : HeldS w0 w k a j b v l) (hb : Below w.heap.size w w') : HeldS w0 w' k a j b v l :=
  ⟨h.at1.keep hb h.at1.there, h.at2.keep hb h.at2.there, h.list.below hb, h.below.trans (hb.mono h.below.size)⟩

theorem HeldS.drew (h : HeldS w0 w k a j b v l) : HeldS w0 w.drew k a j b v l := ⟨h.at1.drew, h.at2.drew, h.list.below (Below.refl _ _).drew, h.below.drew⟩

theorem Rs.at {w : World} {v : Value} {l : List R} {j : Nat} {r : R} (h : Rs w v l) (hj : l[j]? = some r) : ∃ b off c, v = .slice (some ⟨b, off, none⟩) l.length c ∧ c ≤ maxLen ∧
    w.cell? ⟨b, off + j * 4, none⟩ = some (.int .i64 r.x0) ∧ w.cell? ⟨b, off + j * 4 + 1, none⟩ = some (.int .i64 r.y0) ∧ w.cell? ⟨b, off + j * 4 + 2, none⟩ = some (.int .i64 r.x1) ∧ w.cell? ⟨b, off + j * 4 + 3, none⟩ = some (.int .i64 r.y1) := by
  obtain ⟨A, c, hv, _, hm, hc⟩ := h
  obtain ⟨b, off, rfl, _, hcc⟩ := hc (Nat.lt_of_le_of_lt (Nat.zero_le j) (List.getElem?_eq_some_iff.1 hj).1)
  exact ⟨b, off, c, hv, hm, hcc j r hj⟩

theorem Rs.cell {w : World} {bb off n c : Nat} {l : List R} {j : Nat} {r : R} (h : Rs w (.slice (some ⟨bb, off, none⟩) n c) l) (hj : l[j]? = some r) :
    w.cell? ⟨bb, off + j * 4, none⟩ = some (.int .i64 r.x0) ∧ w.cell? ⟨bb, off + j * 4 + 1, none⟩ = some (.int .i64 r.y0) ∧ w.cell? ⟨bb, off + j * 4 + 2, none⟩ = some (.int .i64 r.x1) ∧ w.cell? ⟨bb, off + j * 4 + 3, none⟩ = some (.int .i64 r.y1) := by
  obtain ⟨b', off', c', hv, _, hcc⟩ := h.at hj
  injection hv with e1 e2 e3
  injection e1 with e1
  injection e1 with e1 e4
  subst e1 e4
  exact hcc

theorem At.four {w : World} {k : Nat} {r : R} (h : At w k r) : w.cell? ⟨k, 0, none⟩ = some (.int .i64 r.x0) ∧ w.cell? ⟨k, 1, none⟩ = some (.int .i64 r.y0) ∧ w.cell? ⟨k, 2, none⟩ = some (.int .i64 r.x1) ∧ w.cell? ⟨k, 3, none⟩ = some (.int .i64 r.y1) :=
  ⟨h.1, h.2.1, h.2.2.1, h.2.2.2.1⟩

/-- conjunctions joined, a limb each -/
theorem join4 {p0 p1 p2 p3 q : Prop} (h : p0 ∧ p1 ∧ p2 ∧ p3) (g : q) : p0 ∧ p1 ∧ p2 ∧ p3 ∧ q := ⟨h.1, h.2.1, h.2.2.1, h.2.2.2, g⟩

end
end Go.Proofs.Ytalklenngalfjaa
