/-
  Two new variables that are made beside two calls: what is known of them in whatever order that comes.
-/
import Derived.Test.YtalklenngalfjaaHold
import Derived.Deep.DeepCutAuto
namespace Go.Proofs.Ytalklenngalfjaa
open Go.RowKit

theorem four_next (w : World) (o : Obj) (x0 x1 x2 x3 : Value) (t : TypeId) : Four ((w.alloc o).alloc (.cells #[x0, x1, x2, x3] t)) (w.heap.size + 1) x0 x1 x2 x3 := by
  have := Four.new (w.alloc o) x0 x1 x2 x3 t
  rwa [World.size_alloc] at this

theorem Four.in_ {w : World} {k : Nat} {x0 x1 x2 x3 : Value} (h : Four w k x0 x1 x2 x3) : k < w.heap.size := World.block_lt_of_cell? w _ h.1

/-- what the walk wants to know of an old box, here and behind one new block -/
theorem Four.facts {w : World} {k : Nat} {x0 x1 x2 x3 : Value} (h : Four w k x0 x1 x2 x3) : (w.cell? ⟨k, 0, none⟩ = some x0 ∧ w.cell? ⟨k, 1, none⟩ = some x1 ∧ w.cell? ⟨k, 2, none⟩ = some x2 ∧ w.cell? ⟨k, 3, none⟩ = some x3 ∧ ∀ i, w.frozen? ⟨k, i, none⟩ = false) ∧
    ∀ o, (w.alloc o).cell? ⟨k, 0, none⟩ = some x0 ∧ (w.alloc o).cell? ⟨k, 1, none⟩ = some x1 ∧ (w.alloc o).cell? ⟨k, 2, none⟩ = some x2 ∧ (w.alloc o).cell? ⟨k, 3, none⟩ = some x3 ∧ ∀ i, (w.alloc o).frozen? ⟨k, i, none⟩ = false :=
  ⟨h, fun o => h.alloc h.in_ o⟩

theorem HeldL.set {w0 w : World} {l : List (Addr × Value)} (h : HeldL w0 w l) {g : Nat} (hg : ∀ p ∈ l, p.1.block ≠ g) (hb : w0.heap.size ≤ g) {z0 z1 z2 z3 : Value} (F : Four w g z0 z1 z2 z3) (r : R) :
    HeldL w0 (set4 w g (.int .i64 r.x0) (.int .i64 r.y0) (.int .i64 r.x1) (.int .i64 r.y1)) (l ++ rectC g r) := by
  refine ⟨fun p hp => ?_, below_four h.below hb⟩
  rcases List.mem_append.1 hp with hp | hp
  · obtain ⟨h0, h1, h2⟩ := h.there p hp
    have hne := (hg p hp).symm
    refine ⟨by rw [set4_size]; exact h0, ?_, ?_⟩
    · unfold set4
      rw [World.cell?_setCell_far _ _ _ _ hne, World.cell?_setCell_far _ _ _ _ hne, World.cell?_setCell_far _ _ _ _ hne, World.cell?_setCell_far _ _ _ _ hne]
      exact h1
    · unfold set4
      rw [World.frozen?_setCell, World.frozen?_setCell, World.frozen?_setCell, World.frozen?_setCell]
      exact h2
  · have G := F.set (y0 := .int .i64 r.x0) (y1 := .int .i64 r.y0) (y2 := .int .i64 r.x1) (y3 := .int .i64 r.y1)
    have hl := G.in_
    simp only [rectC, List.mem_cons, List.not_mem_nil, or_false] at hp
    rcases hp with rfl | rfl | rfl | rfl
    · exact ⟨hl, G.1, G.2.2.2.2 _⟩
    · exact ⟨hl, G.2.1, G.2.2.2.2 _⟩
    · exact ⟨hl, G.2.2.1, G.2.2.2.2 _⟩
    · exact ⟨hl, G.2.2.2.1, G.2.2.2.2 _⟩

theorem HeldL.swap {w0 w : World} {l a b : List (Addr × Value)} (h : HeldL w0 w (l ++ a ++ b)) : HeldL w0 w (l ++ b ++ a) :=
  h.of fun p hp => by
    simp only [List.mem_append] at hp ⊢
    rcases hp with (hp | hp) | hp
    · exact .inl (.inl hp)
    · exact .inr hp
    · exact .inl (.inr hp)

/-- no block of them is g -/
theorem ne_low {l : List (Addr × Value)} {g g' : Nat} (h : ∀ p ∈ l, p.1.block < g') (hg : g' ≤ g) : ∀ p ∈ l, p.1.block ≠ g := fun p hp => Nat.ne_of_lt (Nat.lt_of_lt_of_le (h p hp) hg)

theorem ne_rect {l : List (Addr × Value)} {g g' : Nat} {r : R} (h : ∀ p ∈ l, p.1.block ≠ g) (hg : g' ≠ g) : ∀ p ∈ l ++ rectC g' r, p.1.block ≠ g := fun p hp => by
  rcases List.mem_append.1 hp with hp | hp
  · exact h p hp
  · simp only [rectC, List.mem_cons, List.not_mem_nil, or_false] at hp
    rcases hp with rfl | rfl | rfl | rfl <;> exact hg

end Go.Proofs.Ytalklenngalfjaa
