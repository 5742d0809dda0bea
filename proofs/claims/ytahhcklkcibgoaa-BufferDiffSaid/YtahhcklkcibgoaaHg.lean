/-
  Boxes held while an older block is written.
-/
import Derived.Test.YtahhcklkcibgoaaHeld
namespace Go.Proofs.Ytahhcklkcibgoaa
open Go.RowKit

/-- as Held, but block g, which is older, may have been written -/
structure HeldG (g : Nat) (w W : World) (l : List (Nat × List Value)) : Prop where
  cells : ∀ p ∈ l, ∀ i v, p.2[i]? = some v → W.cell? ⟨p.1, i, none⟩ = some v
  free : ∀ p ∈ l, ∀ i, W.frozen? ⟨p.1, i, none⟩ = false
  there : ∀ p ∈ l, p.1 < W.heap.size
  own : ∀ p ∈ l, w.heap.size ≤ p.1
  kept : w.grownBy W (some g)

theorem Held.toG {w W : World} {l : List (Nat × List Value)} (h : Held w W l) (g : Nat) : HeldG g w W l := ⟨h.cells, h.free, h.there, h.own, grown_below h.below _⟩

theorem HeldG.step {g : Nat} {w W W' : World} {l : List (Nat × List Value)} (h : HeldG g w W l) (hb : Below W.heap.size W W') : HeldG g w W' l :=
  ⟨fun p hp i v hv => (hb.cell (p := ⟨p.1, i, none⟩) (h.there p hp)).trans (h.cells p hp i v hv), fun p hp i => (hb.frozen (p := ⟨p.1, i, none⟩) (h.there p hp)).trans (h.free p hp i),
    fun p hp => Nat.lt_of_lt_of_le (h.there p hp) hb.size, h.own, h.kept.trans (grown_below hb _)⟩

theorem HeldG.drew {g : Nat} {w W : World} {l : List (Nat × List Value)} (h : HeldG g w W l) : HeldG g w W.drew l := h.step (Below.refl _ _).drew

theorem HeldG.write {g : Nat} {w W W' : World} {l : List (Nat × List Value)} (h : HeldG g w W l) (hg : W.grownBy W' (some g)) (hl : g < w.heap.size) : HeldG g w W' l :=
  ⟨fun p hp i v hv => (World.cell?_of_block (hg.block p.1 (h.there p hp) (fun e => by have := h.own p hp; have := Option.some.inj e; omega))).trans (h.cells p hp i v hv),
    fun p hp i => (World.frozen?_of_block (a := ⟨p.1, i, none⟩) (hg.block p.1 (h.there p hp) (fun e => by have := h.own p hp; have := Option.some.inj e; omega))).trans (h.free p hp i),
    fun p hp => Nat.lt_of_lt_of_le (h.there p hp) hg.size, h.own, h.kept.trans hg⟩

theorem HeldG.at {g : Nat} {w W : World} {l1 l2 : List (Nat × List Value)} {k : Nat} {vs : List Value} (h : HeldG g w W (l1 ++ (k, vs) :: l2)) : (∀ i v, vs[i]? = some v → W.cell? ⟨k, i, none⟩ = some v) ∧ (∀ i, W.frozen? ⟨k, i, none⟩ = false) ∧ k < W.heap.size ∧ w.heap.size ≤ k := by
  have hm : (k, vs) ∈ l1 ++ (k, vs) :: l2 := by simp
  exact ⟨h.cells _ hm, h.free _ hm, h.there _ hm, h.own _ hm⟩
theorem HeldG.tri {g : Nat} {w W : World} {l1 l2 : List (Nat × List Value)} {k : Nat} {x0 x1 x2 : Value} (h : HeldG g w W (l1 ++ (k, [x0, x1, x2]) :: l2)) : W.cell? ⟨k, 0, none⟩ = some x0 ∧ W.cell? ⟨k, 1, none⟩ = some x1 ∧ W.cell? ⟨k, 2, none⟩ = some x2 ∧ (∀ i, W.frozen? ⟨k, i, none⟩ = false) ∧ k < W.heap.size :=
  ⟨h.at.1 0 _ rfl, h.at.1 1 _ rfl, h.at.1 2 _ rfl, h.at.2.1, h.at.2.2.1⟩
theorem HeldG.four {g : Nat} {w W : World} {l1 l2 : List (Nat × List Value)} {k : Nat} {x0 x1 x2 x3 : Value} (h : HeldG g w W (l1 ++ (k, [x0, x1, x2, x3]) :: l2)) : W.cell? ⟨k, 0, none⟩ = some x0 ∧ W.cell? ⟨k, 1, none⟩ = some x1 ∧ W.cell? ⟨k, 2, none⟩ = some x2 ∧ W.cell? ⟨k, 3, none⟩ = some x3 ∧ (∀ i, W.frozen? ⟨k, i, none⟩ = false) ∧ k < W.heap.size :=
  ⟨h.at.1 0 _ rfl, h.at.1 1 _ rfl, h.at.1 2 _ rfl, h.at.1 3 _ rfl, h.at.2.1, h.at.2.2.1⟩

end Go.Proofs.Ytahhcklkcibgoaa
