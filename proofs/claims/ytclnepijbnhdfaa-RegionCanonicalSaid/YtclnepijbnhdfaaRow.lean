/-
  A cell of a row of one's own turned; rows of different types lie apart.
-/
import Derived.Test.YtclnepijbnhdfaaApp
namespace Go.Proofs.Ytclnepijbnhdfaa
open Go.RowKit

theorem set_append_right' {α : Type} (s t : List α) (i n : Nat) (h : n = s.length) (x : α) : (s ++ t).set (n + i) x = s ++ t.set i x := by
  subst h
  have h := List.set_append_right (s := s) (t := t) (s.length + i) x (by omega)
  rw [h, Nat.add_sub_cancel_left]

theorem flat_set : ∀ (l : List R) (j : Nat) (r : R) (y : Int), l[j]? = some r →
    (flat l).set (j * 4) (.int .i64 y) = flat (l.set j ⟨y, r.y0, r.x1, r.y1⟩) ∧ (flat l).set (j * 4 + 2) (.int .i64 y) = flat (l.set j ⟨r.x0, r.y0, y, r.y1⟩) ∧ (flat l).set (j * 4 + 3) (.int .i64 y) = flat (l.set j ⟨r.x0, r.y0, r.x1, y⟩)
  | [], j, r, y, h => by simp at h
  | q :: l, 0, r, y, h => by
    simp only [List.getElem?_cons_zero, Option.some.injEq] at h
    subst h
    exact ⟨rfl, rfl, rfl⟩
  | q :: l, j + 1, r, y, h => by
    rw [List.getElem?_cons_succ] at h
    obtain ⟨h1, h2, h3⟩ := flat_set l j r y h
    have e : ∀ (q : R) (l : List R), flat (q :: l) = cells4 q ++ flat l := fun _ _ => rfl
    simp only [List.set_cons_succ, e]
    rw [show (j + 1) * 4 = 4 + j * 4 by omega, show 4 + j * 4 + 2 = 4 + (j * 4 + 2) by omega, show 4 + j * 4 + 3 = 4 + (j * 4 + 3) by omega, set_append_right' _ _ _ 4 rfl, set_append_right' _ _ _ 4 rfl, set_append_right' _ _ _ 4 rfl, h1, h2, h3]
    exact ⟨rfl, rfl, rfl⟩

theorem flatE_set : ∀ (l : List E) (j : Nat) (r : E) (a b : Int), l[j]? = some r → ((flatE l).set (j * 3 + 1) (.int .i64 a)).set (j * 3 + 2) (.int .i64 b) = flatE (l.set j ⟨r.x, a, b⟩)
  | [], j, r, a, b, h => by simp at h
  | q :: l, 0, r, a, b, h => by
    simp only [List.getElem?_cons_zero, Option.some.injEq] at h
    subst h
    rfl
  | q :: l, j + 1, r, a, b, h => by
    rw [List.getElem?_cons_succ] at h
    have h1 := flatE_set l j r a b h
    have e : ∀ (q : E) (l : List E), flatE (q :: l) = cells3 q ++ flatE l := fun _ _ => rfl
    simp only [List.set_cons_succ, e]
    rw [show (j + 1) * 3 + 1 = 3 + (j * 3 + 1) by omega, show (j + 1) * 3 + 2 = 3 + (j * 3 + 2) by omega, set_append_right' _ _ _ 3 rfl, set_append_right' _ _ _ 3 rfl, h1]

theorem owns_set {w : World} {base : Nat} {e : TypeId} {size g n cap : Nat} {xs : List Value} (h : w.ownsRow base e size (.slice (some ⟨g, 0, none⟩) n cap) n xs) (j : Nat) (u : Value) :
    (w.setCell ⟨g, j, none⟩ u).ownsRow base e size (.slice (some ⟨g, 0, none⟩) n cap) n (xs.set j u) := (h.stored j u).1

theorem grown_set (w : World) (g j : Nat) (u : Value) : w.grownBy (w.setCell ⟨g, j, none⟩ u) (some g) :=
  ⟨rfl, rfl, rfl, by simp, fun k _ hk => heap_setCell_other w ⟨g, j, none⟩ k u (fun e => hk (by simp [e]))⟩

/-- what is owned elsewhere stays owned behind a store into the row g -/
theorem owns_far {w : World} {base : Nat} {e : TypeId} {size g n : Nat} {v : Value} {xs : List Value} (h : w.ownsRow base e size v n xs) (hg : v.ownBlock ≠ some g) (j : Nat) (u : Value) : (w.setCell ⟨g, j, none⟩ u).ownsRow base e size v n xs :=
  h.kept (grown_set w g j u) (.inr hg)

theorem owns_types {w : World} {base base' : Nat} {e e' : TypeId} {size size' : Nat} {u v : Value} {n n' : Nat} {xs ys : List Value} (hu : w.ownsRow base e size u n xs) (hv : w.ownsRow base' e' size' v n' ys) (hne : e ≠ e') : Apart u v := by
  rcases hu.2 with ⟨rfl, _⟩ | ⟨g, cap, cur, rfl, _, hg, _⟩
  · exact .inl rfl
  · rcases hv.2 with ⟨rfl, _⟩ | ⟨g', cap', cur', rfl, _, hg', _⟩
    · exact .inr (by simp [Value.ownBlock])
    · refine .inr fun e1 => ?_
      obtain rfl : g = g' := by simpa [Value.ownBlock] using e1
      rw [hg] at hg'
      simp at hg'
      exact hne hg'.2

theorem owns_shape {w : World} {base : Nat} {e : TypeId} {size : Nat} {v : Value} {n : Nat} {xs : List Value} (h : w.ownsRow base e size v n xs) (hn : 0 < n) : ∃ g cap, v = .slice (some ⟨g, 0, none⟩) n cap ∧ base ≤ g ∧ g < w.heap.size ∧ n ≤ cap ∧ cap ≤ maxLen := by
  rcases h.2 with ⟨_, h0⟩ | ⟨g, cap, cur, rfl, hb, hg, hnc, hcm, _⟩
  · omega
  · exact ⟨g, cap, rfl, hb, (Array.getElem?_eq_some_iff.1 hg).1, hnc, hcm⟩

/-- the row g has cells, none frozen -/
theorem owns_cells {w : World} {base : Nat} {e : TypeId} {size g n cap : Nat} {xs : List Value} (h : w.ownsRow base e size (.slice (some ⟨g, 0, none⟩) n cap) n xs) : (∀ j u, xs[j]? = some u → w.cell? ⟨g, j, none⟩ = some u) ∧ ∀ j, w.frozen? ⟨g, j, none⟩ = false := by
  refine ⟨fun j u hj => ?_, fun j => h.frozenAt j⟩
  have hlt : j < n * size := by
    have h1 := (List.getElem?_eq_some_iff.1 hj).1
    have h2 := h.1
    omega
  rw [h.cellAt j hlt]
  exact hj

theorem OwnR.set_y1 {w : World} {base g cap n : Nat} {l : List R} (h : w.ownsRow base 32 4 (.slice (some ⟨g, 0, none⟩) n cap) n (flat l)) {j : Nat} {r : R} (hj : l[j]? = some r) (y : Int) :
    (w.setCell ⟨g, j * 4 + 3, none⟩ (.int .i64 y)).ownsRow base 32 4 (.slice (some ⟨g, 0, none⟩) n cap) n (flat (l.set j ⟨r.x0, r.y0, r.x1, y⟩)) := by
  rw [← (flat_set l j r y hj).2.2]
  exact owns_set h _ _

theorem OwnR.set_x1 {w : World} {base g cap n : Nat} {l : List R} (h : w.ownsRow base 32 4 (.slice (some ⟨g, 0, none⟩) n cap) n (flat l)) {j : Nat} {r : R} (hj : l[j]? = some r) (y : Int) :
    (w.setCell ⟨g, j * 4 + 2, none⟩ (.int .i64 y)).ownsRow base 32 4 (.slice (some ⟨g, 0, none⟩) n cap) n (flat (l.set j ⟨r.x0, r.y0, y, r.y1⟩)) := by
  rw [← (flat_set l j r y hj).2.1]
  exact owns_set h _ _

theorem OwnR.set_x0 {w : World} {base g cap n : Nat} {l : List R} (h : w.ownsRow base 32 4 (.slice (some ⟨g, 0, none⟩) n cap) n (flat l)) {j : Nat} {r : R} (hj : l[j]? = some r) (y : Int) :
    (w.setCell ⟨g, j * 4, none⟩ (.int .i64 y)).ownsRow base 32 4 (.slice (some ⟨g, 0, none⟩) n cap) n (flat (l.set j ⟨y, r.y0, r.x1, r.y1⟩)) := by
  rw [← (flat_set l j r y hj).1]
  exact owns_set h _ _

theorem OwnE.set_step {w : World} {base g cap n : Nat} {l : List E} (h : w.ownsRow base 83 3 (.slice (some ⟨g, 0, none⟩) n cap) n (flatE l)) {j : Nat} {r : E} (hj : l[j]? = some r) (a b : Int) :
    ((w.setCell ⟨g, j * 3 + 1, none⟩ (.int .i64 a)).setCell ⟨g, j * 3 + 2, none⟩ (.int .i64 b)).ownsRow base 83 3 (.slice (some ⟨g, 0, none⟩) n cap) n (flatE (l.set j ⟨r.x, a, b⟩)) := by
  rw [← flatE_set l j r a b hj]
  exact owns_set (owns_set h _ _) _ _

/-- the cells of the rectangle j of a row -/
theorem OwnR.cells {w : World} {base g cap n : Nat} {l : List R} (h : w.ownsRow base 32 4 (.slice (some ⟨g, 0, none⟩) n cap) n (flat l)) {j : Nat} {r : R} (hj : l[j]? = some r) :
    (w.cell? ⟨g, j * 4, none⟩ = some (.int .i64 r.x0) ∧ w.cell? ⟨g, j * 4 + 1, none⟩ = some (.int .i64 r.y0) ∧ w.cell? ⟨g, j * 4 + 2, none⟩ = some (.int .i64 r.x1) ∧ w.cell? ⟨g, j * 4 + 3, none⟩ = some (.int .i64 r.y1)) ∧ ∀ i, w.frozen? ⟨g, i, none⟩ = false := by
  obtain ⟨h1, h2⟩ := owns_cells h
  obtain ⟨e0, e1, e2, e3⟩ := flat_at l j r hj
  exact ⟨⟨h1 _ _ e0, h1 _ _ e1, h1 _ _ e2, h1 _ _ e3⟩, h2⟩

theorem OwnE.cells {w : World} {base g cap n : Nat} {l : List E} (h : w.ownsRow base 83 3 (.slice (some ⟨g, 0, none⟩) n cap) n (flatE l)) {j : Nat} {r : E} (hj : l[j]? = some r) :
    (w.cell? ⟨g, j * 3, none⟩ = some (.int .i64 r.x) ∧ w.cell? ⟨g, j * 3 + 1, none⟩ = some (.int .i64 r.a) ∧ w.cell? ⟨g, j * 3 + 2, none⟩ = some (.int .i64 r.b)) ∧ ∀ i, w.frozen? ⟨g, i, none⟩ = false := by
  obtain ⟨h1, h2⟩ := owns_cells h
  obtain ⟨e0, e1, e2⟩ := flatE_at l j r hj
  exact ⟨⟨h1 _ _ e0, h1 _ _ e1, h1 _ _ e2⟩, h2⟩

end Go.Proofs.Ytclnepijbnhdfaa
