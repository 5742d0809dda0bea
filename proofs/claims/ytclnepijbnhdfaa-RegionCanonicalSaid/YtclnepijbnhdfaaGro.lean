/-
  What a step leaves as it was: all blocks but those of a set.
-/
import Derived.Test.YtclnepijbnhdfaaLast
namespace Go.Proofs.Ytclnepijbnhdfaa
open Go.RowKit

/-- from w to w' only blocks of X turned, and new ones came -/
structure GrownIn (X : Nat → Prop) (w w' : World) : Prop where
  os : w'.os = w.os
  tape : w'.tape = w.tape
  output : w'.output = w.output
  size : w.heap.size ≤ w'.heap.size
  block : ∀ k, k < w.heap.size → ¬ X k → w'.heap[k]? = w.heap[k]?

/-- the block of a slice -/
def blk (v : Value) (k : Nat) : Prop := v.ownBlock = some k

theorem GrownIn.refl (X : Nat → Prop) (w : World) : GrownIn X w w := ⟨rfl, rfl, rfl, Nat.le_refl _, fun _ _ _ => rfl⟩

theorem GrownIn.trans {X : Nat → Prop} {w w1 w2 : World} (h : GrownIn X w w1) (k : GrownIn X w1 w2) : GrownIn X w w2 :=
  ⟨k.os.trans h.os, k.tape.trans h.tape, k.output.trans h.output, Nat.le_trans h.size k.size, fun b hb hx => (k.block b (Nat.lt_of_lt_of_le hb h.size) hx).trans (h.block b hb hx)⟩

theorem GrownIn.mono {X Y : Nat → Prop} {w w1 : World} (h : GrownIn X w w1) (hs : ∀ k, k < w.heap.size → X k → Y k) : GrownIn Y w w1 :=
  ⟨h.os, h.tape, h.output, h.size, fun b hb hx => h.block b hb (fun hk => hx (hs b hb hk))⟩

/-- a second step, whose blocks were there only so far as the first set has them -/
theorem GrownIn.step {X Y : Nat → Prop} {w w1 w2 : World} (h : GrownIn X w w1) (k : GrownIn Y w1 w2) (hs : ∀ b, b < w.heap.size → Y b → X b) : GrownIn X w w2 :=
  ⟨k.os.trans h.os, k.tape.trans h.tape, k.output.trans h.output, Nat.le_trans h.size k.size, fun b hb hx => (k.block b (Nat.lt_of_lt_of_le hb h.size) (fun hy => hx (hs b hb hy))).trans (h.block b hb hx)⟩

theorem GrownIn.of_grown {w w1 : World} {row : Option Nat} (h : w.grownBy w1 row) : GrownIn (fun k => row = some k) w w1 :=
  ⟨h.os, h.tape, h.output, h.size, fun b hb hx => h.block b hb (fun e => hx e.symm)⟩

theorem GrownIn.of_own {w w1 : World} {v : Value} (h : w.grownBy w1 v.ownBlock) : GrownIn (blk v) w w1 := GrownIn.of_grown h

theorem GrownIn.of_below {X : Nat → Prop} {w w1 : World} (h : Below w.heap.size w w1) : GrownIn X w w1 := ⟨h.os, h.tape, h.output, h.size, fun b hb _ => h.block b hb⟩

theorem GrownIn.below {X : Nat → Prop} {B : Nat} {w w1 : World} (h : GrownIn X w w1) (hB : B ≤ w.heap.size) (hX : ∀ k, X k → B ≤ k) : Below B w w1 :=
  ⟨h.os, h.tape, h.output, h.size, fun k hk => h.block k (Nat.lt_of_lt_of_le hk hB) (fun hx => by have := hX k hx; omega)⟩

theorem GrownIn.alloc {X : Nat → Prop} {w w1 : World} (h : GrownIn X w w1) (o : Obj) : GrownIn X w (w1.alloc o) := h.trans (GrownIn.of_below ((Below.refl _ w1).alloc (Nat.le_refl _) o))
theorem GrownIn.drew {X : Nat → Prop} {w w1 : World} (h : GrownIn X w w1) : GrownIn X w w1.drew := h.trans (GrownIn.of_below (Below.refl _ w1).drew)

theorem GrownIn.own {X : Nat → Prop} {w w1 : World} (h : GrownIn X w w1) {base : Nat} {e : TypeId} {size : Nat} {v : Value} {n : Nat} {xs : List Value} (ho : w.ownsRow base e size v n xs) (hX : ∀ k, blk v k → ¬ X k) : w1.ownsRow base e size v n xs := by
  refine ⟨ho.1, ?_⟩
  rcases ho.2 with hn | ⟨g, cap, cur, rfl, hb, hgg, rest⟩
  · exact .inl hn
  · refine .inr ⟨g, cap, cur, rfl, hb, ?_, rest⟩
    rw [h.block g (Array.getElem?_eq_some_iff.1 hgg).1 (hX g rfl)]
    exact hgg

theorem GrownIn.cell {X : Nat → Prop} {w w1 : World} (h : GrownIn X w w1) {a : Addr} (hb : a.block < w.heap.size) (hX : ¬ X a.block) : w1.cell? a = w.cell? a := World.cell?_of_block (h.block _ hb hX)
theorem GrownIn.frozen {X : Nat → Prop} {w w1 : World} (h : GrownIn X w w1) {a : Addr} (hb : a.block < w.heap.size) (hX : ¬ X a.block) : w1.frozen? a = w.frozen? a := World.frozen?_of_block (h.block _ hb hX)

theorem GrownIn.es {X : Nat → Prop} {w w1 : World} (h : GrownIn X w w1) {v : Value} {l : List E} (ho : Es w v l) (hX : ∀ k, blk v k → ¬ X k) : Es w1 v l := by
  obtain ⟨A, cap, rfl, h1, h2, h4⟩ := ho
  refine ⟨A, cap, rfl, h1, h2, fun hn => ?_⟩
  obtain ⟨b, off, rfl, hlt, hc⟩ := h4 hn
  have hx := hX b rfl
  refine ⟨b, off, rfl, Nat.lt_of_lt_of_le hlt h.size, fun j t ht => ?_⟩
  rw [h.cell (a := ⟨b, off + j * 3, none⟩) hlt hx, h.cell (a := ⟨b, off + j * 3 + 1, none⟩) hlt hx, h.cell (a := ⟨b, off + j * 3 + 2, none⟩) hlt hx]
  exact hc j t ht

theorem GrownIn.rs {X : Nat → Prop} {w w1 : World} (h : GrownIn X w w1) {v : Value} {l : List R} (ho : Rs w v l) (hX : ∀ k, blk v k → ¬ X k) : Rs w1 v l := by
  obtain ⟨A, cap, rfl, h1, h2, h4⟩ := ho
  refine ⟨A, cap, rfl, h1, h2, fun hn => ?_⟩
  obtain ⟨b, off, rfl, hlt, hc⟩ := h4 hn
  have hx := hX b rfl
  refine ⟨b, off, rfl, Nat.lt_of_lt_of_le hlt h.size, fun j t ht => ?_⟩
  rw [h.cell (a := ⟨b, off + j * 4, none⟩) hlt hx, h.cell (a := ⟨b, off + j * 4 + 1, none⟩) hlt hx, h.cell (a := ⟨b, off + j * 4 + 2, none⟩) hlt hx, h.cell (a := ⟨b, off + j * 4 + 3, none⟩) hlt hx]
  exact hc j t ht

theorem NewOr.grown {w w1 w2 : World} {X : Nat → Prop} {u v : Value} (h : GrownIn X w w1) (hu : ∀ k, k < w.heap.size → blk u k → X k) (hn : NewOr w u v) (k : w1.grownBy w2 v.ownBlock) : GrownIn X w w2 :=
  h.step (GrownIn.of_own k) (fun b hb hv => by
    rcases hn with hn | ⟨g, h1, h2⟩
    · exact hu b hb (by unfold blk at hv ⊢; rw [← hn]; exact hv)
    · unfold blk at hv
      rw [h2] at hv
      cases hv
      omega)

theorem NewOr.sub {w : World} {u v : Value} (hn : NewOr w u v) : ∀ b, b < w.heap.size → blk v b → blk u b := fun b hb hv => by
  rcases hn with hn | ⟨g, h1, h2⟩
  · unfold blk at hv ⊢; rw [← hn]; exact hv
  · unfold blk at hv
    rw [h2] at hv
    cases hv
    omega

theorem GrownIn.draws {X : Nat → Prop} {w w1 : World} (h : GrownIn X w w1) (n : Nat) : GrownIn X w (w1.drewN n) := ⟨h.os, h.tape, h.output, h.size, h.block⟩

/-- what lay apart from a row lies apart from the row that it became -/
theorem NewOr.apart {w : World} {t u v : Value} (hn : NewOr w u v) (h : ∀ k, blk t k → ¬ blk u k) (ht : ∀ k, blk t k → k < w.heap.size) : ∀ k, blk t k → ¬ blk v k := fun k hk hv => by
  rcases hn with hn | ⟨g, h1, h2⟩
  · exact h k hk (by unfold blk at hv ⊢; rw [← hn]; exact hv)
  · unfold blk at hv
    rw [h2] at hv
    cases hv
    have := ht k hk
    omega

theorem own_blk {w : World} {base : Nat} {e : TypeId} {size : Nat} {v : Value} {n : Nat} {xs : List Value} (h : w.ownsRow base e size v n xs) : ∀ k, blk v k → base ≤ k ∧ k < w.heap.size := fun k hk => World.ownsRow.lt h k hk

end Go.Proofs.Ytclnepijbnhdfaa
