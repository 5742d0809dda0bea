/-
  A result's box whose pixels are a row of one's own that grows: what keeps the boxes.
-/
import Derived.Test.YtnkbejbpkjkgeaaOuts
namespace Go.Proofs.Ytnkbejbpkjkgeaa
open Go.RowKit

/-- a row of one's own was appended to, its blocks lie above the boxes -/
theorem Held.grownO {w W W' : World} {l : List (Nat × List Value)} (h : Held w W l) {v : Value} {base : Nat} {L : List Px} (hg : W.grownBy W' v.ownBlock) (ho : OwnP W base v L) (hw : w.heap.size ≤ base) (hl : ∀ p ∈ l, p.1 < base) : Held w W' l := by
  have hk := ho.block
  cases hv : v.ownBlock with
  | none =>
    rw [hv] at hg
    exact h.step ⟨hg.os, hg.tape, hg.output, hg.size, fun k hk => hg.block k hk (by simp)⟩
  | some g =>
    rw [hv] at hg hk
    have := (hk g rfl).1
    exact h.grown hg (by omega) (fun p hp => by have := hl p hp; omega)

/-- a cell below the row's base written -/
theorem OwnP.cell {w : World} {base : Nat} {v : Value} {l : List Px} (h : OwnP w base v l) {k : Nat} (hk : k < base) (i : Nat) (u : Value) : OwnP (w.setCell ⟨k, i, none⟩ u) base v l := ownsRow_setCell_below h (a := ⟨k, i, none⟩) hk u

theorem take_next {l : List Px} {k : Nat} (h : k < l.length) : l.take (k + 1) = l.take k ++ [l.getD k zeroPx] := by
  rw [List.take_add_one, get_of h]
  rfl

/-- the result of a row that has come to its end -/
theorem OwnP.res {w w' : World} {base : Nat} {v : Value} {l : List Px} (h : OwnP w' base v l) (hb : w.heap.size ≤ base) (hn : 0 < l.length) : Res w w' v l := by
  obtain ⟨g, c, hv, h1, h2, h3, h4⟩ := h.rowP hn
  exact .inr ⟨g, c, hv, h1, h2, by omega, h4⟩

end Go.Proofs.Ytnkbejbpkjkgeaa
