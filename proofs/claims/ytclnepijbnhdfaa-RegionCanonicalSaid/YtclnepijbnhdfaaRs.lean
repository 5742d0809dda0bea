/-
  Lists of rectangles in a world: what a slice of rectangles holds, rows of rectangles of a call's own, and append onto them. Types: 22 a slice of rectangles, 32 a rectangle.
-/
import Derived.Test.YtclnepijbnhdfaaPlain
import Derived.Deep.AppendLies
import Derived.Maps.AppendAt
namespace Go.Proofs.Ytclnepijbnhdfaa
open Go.RowKit



theorem rect_info : (Try.prog.info? 32).map (fun i => (i.zero, i.size, i.bytes)) = some (some (.agg #[.int .i64 0, .int .i64 0, .int .i64 0, .int .i64 0]), 4, 32) := by kernel_rfl

def cells4 (r : R) : List Value := [.int .i64 r.x0, .int .i64 r.y0, .int .i64 r.x1, .int .i64 r.y1]

def flat (l : List R) : List Value := l.flatMap cells4

theorem flat_append (l m : List R) : flat (l ++ m) = flat l ++ flat m := List.flatMap_append

theorem flat_length (l : List R) : (flat l).length = l.length * 4 := by
  induction l with
  | nil => rfl
  | cons p l ih => simp only [flat, List.flatMap_cons, List.length_append, List.length_cons] at ih ⊢; rw [ih]; simp [cells4]; omega

theorem flat_at : ∀ (l : List R) (j : Nat) (r : R), l[j]? = some r →
    (flat l)[j * 4]? = some (.int .i64 r.x0) ∧ (flat l)[j * 4 + 1]? = some (.int .i64 r.y0) ∧ (flat l)[j * 4 + 2]? = some (.int .i64 r.x1) ∧ (flat l)[j * 4 + 3]? = some (.int .i64 r.y1)
  | [], j, r, h => by simp at h
  | q :: l, 0, r, h => by
    simp only [List.getElem?_cons_zero, Option.some.injEq] at h
    subst h
    exact ⟨rfl, rfl, rfl, rfl⟩
  | q :: l, j + 1, r, h => by
    rw [List.getElem?_cons_succ] at h
    have ih := flat_at l j r h
    have e : flat (q :: l) = cells4 q ++ flat l := rfl
    have el : (cells4 q).length = 4 := rfl
    rw [e, List.getElem?_append_right (by omega), List.getElem?_append_right (by omega), List.getElem?_append_right (by omega), List.getElem?_append_right (by omega), el, show (j + 1) * 4 - 4 = j * 4 by omega, show (j + 1) * 4 + 1 - 4 = j * 4 + 1 by omega, show (j + 1) * 4 + 2 - 4 = j * 4 + 2 by omega, show (j + 1) * 4 + 3 - 4 = j * 4 + 3 by omega]
    exact ih

/-- the slice value v holds the rectangles l -/
def Rs (w : World) (v : Value) (l : List R) : Prop :=
  ∃ (A : Option Addr) (cap : Nat), v = .slice A l.length cap ∧ l.length ≤ cap ∧ cap ≤ maxLen ∧
    (0 < l.length → ∃ b off, A = some ⟨b, off, none⟩ ∧ b < w.heap.size ∧ ∀ (j : Nat) (r : R), l[j]? = some r →
      w.cell? ⟨b, off + j * 4, none⟩ = some (.int .i64 r.x0) ∧ w.cell? ⟨b, off + j * 4 + 1, none⟩ = some (.int .i64 r.y0) ∧ w.cell? ⟨b, off + j * 4 + 2, none⟩ = some (.int .i64 r.x1) ∧ w.cell? ⟨b, off + j * 4 + 3, none⟩ = some (.int .i64 r.y1))

theorem Rs.below {w w' : World} {v : Value} {l : List R} (h : Rs w v l) (hb : Below w.heap.size w w') : Rs w' v l := by
  obtain ⟨A, cap, hv, h1, h2, h4⟩ := h
  refine ⟨A, cap, hv, h1, h2, fun hn => ?_⟩
  obtain ⟨b, off, hA, hlt, hc⟩ := h4 hn
  refine ⟨b, off, hA, Nat.lt_of_lt_of_le hlt hb.size, fun j t ht => ?_⟩
  rw [hb.cell (p := ⟨b, off + j * 4, none⟩) hlt, hb.cell (p := ⟨b, off + j * 4 + 1, none⟩) hlt, hb.cell (p := ⟨b, off + j * 4 + 2, none⟩) hlt, hb.cell (p := ⟨b, off + j * 4 + 3, none⟩) hlt]
  exact hc j t ht

theorem rs_nil (w : World) : Rs w (.slice none 0 0) [] := ⟨none, 0, rfl, Nat.le_refl _, by simp [maxLen], fun h => by simp at h⟩

theorem Rs.shape {w : World} {v : Value} {l : List R} (h : Rs w v l) : ∃ A cap, v = .slice A l.length cap ∧ l.length ≤ cap ∧ cap ≤ maxLen := by
  obtain ⟨A, cap, hv, h1, h2, _⟩ := h
  exact ⟨A, cap, hv, h1, h2⟩

/-- the value v owns a row of the rectangles l, in a block from base on -/
def OwnR (w : World) (base : Nat) (v : Value) (l : List R) : Prop := w.ownsRow base 32 4 v l.length (flat l)

theorem ownR_nil (w : World) (base : Nat) : OwnR w base (.slice none 0 0) [] := World.ownsRow_nil w base 32 4

section

variable {w w' : World} {base : Nat} {v : Value} {l : List R}

theorem OwnR.rs (h : OwnR w base v l) : Rs w v l := by
  have hall := h
  obtain ⟨_, hc⟩ := h
  rcases hc with ⟨rfl, h0⟩ | ⟨g, cap, cur, rfl, _, hh, hn, hm, _⟩
  · have : l = [] := List.eq_nil_of_length_eq_zero h0
    subst this
    exact rs_nil w
  · refine ⟨_, cap, rfl, hn, hm, fun _ => ⟨g, 0, rfl, ?_, fun j p hj => ?_⟩⟩
    · rcases Nat.lt_or_ge g w.heap.size with hl | hl
      · exact hl
      · rw [Array.getElem?_eq_none hl] at hh; cases hh
    · have hjl := (List.getElem?_eq_some_iff.1 hj).1
      obtain ⟨e0, e1, e2, e3⟩ := flat_at l j p hj
      rw [Nat.zero_add, hall.cellAt (j * 4) (by omega), hall.cellAt (j * 4 + 1) (by omega), hall.cellAt (j * 4 + 2) (by omega), hall.cellAt (j * 4 + 3) (by omega)]
      exact ⟨e0, e1, e2, e3⟩

theorem OwnR.block (h : OwnR w base v l) : ∀ k, v.ownBlock = some k → base ≤ k ∧ k < w.heap.size := World.ownsRow.lt h

theorem OwnR.below (h : OwnR w base v l) (hb : Below w.heap.size w w') : OwnR w' base v l :=
  World.ownsRow.kept (row := none) h ⟨hb.os, hb.tape, hb.output, hb.size, fun k hk _ => hb.block k hk⟩ (by cases v.ownBlock <;> simp)

end

theorem add_at (b off j : Nat) : (⟨b, off, none⟩ : Addr).add j = ⟨b, off + j, none⟩ := by unfold Addr.add; split <;> simp_all

theorem oneCell_flat (l : List R) : ∀ u ∈ flat l, u.oneCell' = true := by
  intro u hu
  obtain ⟨p, hp, hc⟩ := List.mem_flatMap.1 hu
  simp only [cells4, List.mem_cons, List.not_mem_nil, or_false] at hc
  rcases hc with rfl | rfl | rfl | rfl <;> rfl

theorem flat_cells {w : World} {b off : Nat} {l : List R} (h : ∀ (j : Nat) (r : R), l[j]? = some r →
      w.cell? ⟨b, off + j * 4, none⟩ = some (.int .i64 r.x0) ∧ w.cell? ⟨b, off + j * 4 + 1, none⟩ = some (.int .i64 r.y0) ∧ w.cell? ⟨b, off + j * 4 + 2, none⟩ = some (.int .i64 r.x1) ∧ w.cell? ⟨b, off + j * 4 + 3, none⟩ = some (.int .i64 r.y1)) :
    ∀ j u, (flat l)[j]? = some u → w.cell? ((⟨b, off, none⟩ : Addr).add j) = some u := by
  intro j u hu
  have hj : j < l.length * 4 := by
    have := (List.getElem?_eq_some_iff.1 hu).1
    rwa [flat_length] at this
  obtain ⟨p, hp⟩ : ∃ p, l[j / 4]? = some p := ⟨_, List.getElem?_eq_getElem (by omega)⟩
  obtain ⟨e0, e1, e2, e3⟩ := flat_at l _ p hp
  obtain ⟨c0, c1, c2, c3⟩ := h _ p hp
  rw [add_at]
  rcases (by omega : j = j / 4 * 4 ∨ j = j / 4 * 4 + 1 ∨ j = j / 4 * 4 + 2 ∨ j = j / 4 * 4 + 3) with hh | hh | hh | hh
  · rw [hh, e0] at hu; rw [hh, c0, hu]
  · rw [hh, e1] at hu; rw [hh, ← Nat.add_assoc, c1, hu]
  · rw [hh, e2] at hu; rw [hh, ← Nat.add_assoc, c2, hu]
  · rw [hh, e3] at hu; rw [hh, ← Nat.add_assoc, c3, hu]

end Go.Proofs.Ytclnepijbnhdfaa
