/-
  changed, Paste and BlendOver of package buffer.
-/
import Derived.Test.YtnkbejbpkjkgeaaClone
import Derived.Test.YtnkbejbpkjkgeaaClone
namespace Go.Proofs.Ytnkbejbpkjkgeaa
open Go.RowKit

/-- the pixels of a result: none, or a row of the call's own -/
def Res (w w' : World) (v : Value) (l : List Px) : Prop := (l = [] ∧ v = .slice none 0 0) ∨ RowOf w w' v l
theorem Res.pxs {w w' : World} {v : Value} {l : List Px} (h : Res w w' v l) : Pxs w' v l := by
  rcases h with ⟨rfl, rfl⟩ | h
  · exact pxs_nil w'
  · exact h.pxs

/-- a buffer and an error, nothing that was there has turned -/
def Outs (a b : Int) (l : List Px) (er : Int) (w : World) (e : Ending) (w' : World) : Prop := ∃ v, e = .returned (.tuple #[.agg #[.int .i64 a, .int .i64 b, v], .int .i64 er]) ∧ Res w w' v l ∧ Below w.heap.size w w'

theorem grown_set3 (w : World) (k : Nat) (y0 y1 y2 : Value) : w.grownBy (set3 w k y0 y1 y2) (some k) :=
  grown_setCell (grown_setCell (grown_setCell (World.grownBy.refl w _) _ _) _ _) _ _
theorem RowP.far {w : World} {g k : Nat} {l : List Px} (h : RowP w g l) (hne : g ≠ k) (y0 y1 y2 : Value) : RowP (set3 w k y0 y1 y2) g l := h.grown (grown_set3 w k y0 y1 y2) hne

theorem size_lt {w : World} {o : Obj} {g : Nat} (h : (w.alloc o).drew.heap.size ≤ g) : w.heap.size < g := by
  have h2 : (w.alloc o).heap.size ≤ g := h
  rw [World.size_alloc] at h2
  omega

theorem put_len (F : Px → Px → Px) (a : Nat) (l : List Px) (sa sb : Nat) (s : List Px) (x y : Int) : (putL F a l sa sb s x y).length = l.length := tab_len _ _

/-- the boxes of two buffers and of a result -/
abbrev WC (w : World) (a b : Int) (v : Value) (c d : Int) (u : Value) : World := ((w.alloc (.cells #[.int .i64 a, .int .i64 b, v] 24)).alloc (.cells #[.int .i64 c, .int .i64 d, u] 24)).alloc (.cells #[.int .i64 0, .int .i64 0, .slice none 0 0] 24)

theorem heldC (w : World) (a b : Int) (v : Value) (c d : Int) (u : Value) : Held w (WC w a b v c d u) [(w.heap.size + 1 + 1, [.int .i64 0, .int .i64 0, .slice none 0 0]), (w.heap.size + 1, [.int .i64 c, .int .i64 d, u]), (w.heap.size, [.int .i64 a, .int .i64 b, v])] := by
  have h := (heldB w a b v c d u).alloc [.int .i64 0, .int .i64 0, .slice none 0 0] 24
  have e : (WB w a b v c d u).heap.size = w.heap.size + 1 + 1 := by unfold WB; rw [World.size_alloc, World.size_alloc]
  rw [e] at h
  exact h


theorem Res.keep {w w0 w1 w2 : World} {v : Value} {l : List Px} (h : Res w0 w1 v l) (hb : Below w.heap.size w w0) (hk : ∀ g, w0.heap.size ≤ g → RowP w1 g l → RowP w2 g l) : Res w w2 v l := by
  rcases h with h | ⟨g, c, rfl, h1, h2, h3, h4⟩
  · exact .inl h
  · exact .inr ⟨g, c, rfl, h1, h2, Nat.le_trans hb.size h3, hk g h3 h4⟩


end Go.Proofs.Ytnkbejbpkjkgeaa
