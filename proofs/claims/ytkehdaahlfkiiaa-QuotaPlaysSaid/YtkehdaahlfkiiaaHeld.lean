/-
  Boxes held while calls make memory: a list of blocks and of what they hold, for any number of boxes of any size.
-/
import Derived.Test.YtkehdaahlfkiiaaBase
namespace Go.Proofs.Ytkehdaahlfkiiaa
open Go.RowKit

/-- the blocks of l hold what l says, each its own, none frozen; nothing below w's size has turned since w -/
structure Held (w W : World) (l : List (Nat × List Value)) : Prop where
  cells : ∀ p ∈ l, ∀ i v, p.2[i]? = some v → W.cell? ⟨p.1, i, none⟩ = some v
  free : ∀ p ∈ l, ∀ i, W.frozen? ⟨p.1, i, none⟩ = false
  there : ∀ p ∈ l, p.1 < W.heap.size
  own : ∀ p ∈ l, w.heap.size ≤ p.1
  nd : (l.map Prod.fst).Nodup
  below : Below w.heap.size w W

theorem Held.nil (w : World) : Held w w [] := ⟨fun _ h => by simp at h, fun _ h => by simp at h, fun _ h => by simp at h, fun _ h => by simp at h, List.nodup_nil, Below.refl _ _⟩

theorem Held.step {w W W' : World} {l : List (Nat × List Value)} (h : Held w W l) (hb : Below W.heap.size W W') : Held w W' l :=
  ⟨fun p hp i v hv => (hb.cell (p := ⟨p.1, i, none⟩) (h.there p hp)).trans (h.cells p hp i v hv), fun p hp i => (hb.frozen (p := ⟨p.1, i, none⟩) (h.there p hp)).trans (h.free p hp i),
    fun p hp => Nat.lt_of_lt_of_le (h.there p hp) hb.size, h.own, h.nd, Below.next h.below hb⟩

theorem Held.drew {w W : World} {l : List (Nat × List Value)} (h : Held w W l) : Held w W.drew l := h.step (Below.refl _ _).drew
theorem Held.drews {w W : World} {l : List (Nat × List Value)} (h : Held w W l) (n : Nat) : Held w (W.drewN n) l := h.step (below_draws (Below.refl _ _) n)

theorem Held.alloc {w W : World} {l : List (Nat × List Value)} (h : Held w W l) (vs : List Value) (t : TypeId) : Held w (W.alloc (.cells vs.toArray t)) ((W.heap.size, vs) :: l) := by
  have hs := h.step (W' := W.alloc (.cells vs.toArray t)) ((Below.refl _ _).alloc (Nat.le_refl _) _)
  refine ⟨fun p hp i v hv => ?_, fun p hp i => ?_, fun p hp => ?_, fun p hp => ?_, ?_, hs.below⟩
  · rcases List.mem_cons.1 hp with rfl | hp
    · simpa [go_sem] using hv
    · exact hs.cells p hp i v hv
  · rcases List.mem_cons.1 hp with rfl | hp
    · simp [go_sem]
    · exact hs.free p hp i
  · rcases List.mem_cons.1 hp with rfl | hp
    · rw [World.size_alloc]
      exact Nat.lt_succ_self _
    · exact hs.there p hp
  · rcases List.mem_cons.1 hp with rfl | hp
    · exact h.below.size
    · exact h.own p hp
  · rw [List.map_cons, List.nodup_cons]
    refine ⟨fun hm => ?_, h.nd⟩
    obtain ⟨p, hp, he⟩ := List.mem_map.1 hm
    have := h.there p hp
    omega

/-- another object made -/
theorem Held.made {w W : World} {l : List (Nat × List Value)} (h : Held w W l) (o : Obj) : Held w (W.alloc o) l := h.step ((Below.refl _ _).alloc (Nat.le_refl _) o)

theorem grown_below {w w' : World} (hb : Below w.heap.size w w') (row : Option Nat) : w.grownBy w' row := ⟨hb.os, hb.tape, hb.output, hb.size, fun k hk _ => hb.block k hk⟩

/-- one block, none of the boxes, was written; others were made -/
theorem Held.grown {w W W' : World} {l : List (Nat × List Value)} (h : Held w W l) {g : Nat} (hg : W.grownBy W' (some g)) (hb : w.heap.size ≤ g) (hne : ∀ p ∈ l, p.1 ≠ g) : Held w W' l :=
  ⟨fun p hp i v hv => (World.cell?_of_block (hg.block p.1 (h.there p hp) (fun e => hne p hp (Option.some.inj e)))).trans (h.cells p hp i v hv),
    fun p hp i => (World.frozen?_of_block (a := ⟨p.1, i, none⟩) (hg.block p.1 (h.there p hp) (fun e => hne p hp (Option.some.inj e)))).trans (h.free p hp i),
    fun p hp => Nat.lt_of_lt_of_le (h.there p hp) hg.size, h.own, h.nd, h.below.grown hg h.below.size (fun k hk => by injection hk with hk; omega)⟩

/-- a block that is none of the boxes -/
theorem Held.apart {w W : World} {l : List (Nat × List Value)} (h : Held w W l) {g : Nat} (hg : W.heap.size ≤ g) : ∀ p ∈ l, p.1 ≠ g := fun p hp => by
  have := h.there p hp
  omega

theorem Held.sub {w W : World} {l m : List (Nat × List Value)} (h : Held w W l) (hs : m.Sublist l) : Held w W m :=
  ⟨fun p hp => h.cells p (hs.subset hp), fun p hp => h.free p (hs.subset hp), fun p hp => h.there p (hs.subset hp), fun p hp => h.own p (hs.subset hp), h.nd.sublist (hs.map _), h.below⟩

theorem Held.tail {w W : World} {p : Nat × List Value} {l : List (Nat × List Value)} (h : Held w W (p :: l)) : Held w W l := h.sub (List.sublist_cons_self _ _)

section
variable {w W : World} {l1 l2 : List (Nat × List Value)} {k : Nat} {vs : List Value}

theorem Held.ne (h : Held w W (l1 ++ (k, vs) :: l2)) : ∀ p ∈ l1 ++ l2, p.1 ≠ k := by
  intro p hp
  have hn := h.nd
  rw [List.map_append, List.map_cons, List.nodup_append] at hn
  obtain ⟨_, h2, h3⟩ := hn
  rw [List.nodup_cons] at h2
  rcases List.mem_append.1 hp with hp | hp
  · exact h3 p.1 (List.mem_map.2 ⟨p, hp, rfl⟩) k (List.mem_cons_self ..)
  · intro e
    exact h2.1 (List.mem_map.2 ⟨p, hp, e⟩)

theorem Held.at (h : Held w W (l1 ++ (k, vs) :: l2)) : (∀ i v, vs[i]? = some v → W.cell? ⟨k, i, none⟩ = some v) ∧ (∀ i, W.frozen? ⟨k, i, none⟩ = false) ∧ k < W.heap.size ∧ w.heap.size ≤ k := by
  have hm : (k, vs) ∈ l1 ++ (k, vs) :: l2 := by simp
  exact ⟨h.cells _ hm, h.free _ hm, h.there _ hm, h.own _ hm⟩

/-- one cell of a box written -/
theorem Held.cell (h : Held w W (l1 ++ (k, vs) :: l2)) {i : Nat} (hi : i < vs.length) (u : Value) : Held w (W.setCell ⟨k, i, none⟩ u) (l1 ++ (k, vs.set i u) :: l2) := by
  obtain ⟨hc, hf, ht, ho⟩ := h.at
  refine ⟨fun p hp j v hv => ?_, fun p hp j => ?_, fun p hp => ?_, fun p hp => ?_, ?_, h.below.setCell (p := ⟨k, i, none⟩) ho u⟩
  · have hp' : p ∈ l1 ++ l2 ∨ p = (k, vs.set i u) := by
      rcases List.mem_append.1 hp with hp | hp
      · exact .inl (List.mem_append_left _ hp)
      · rcases List.mem_cons.1 hp with rfl | hp
        · exact .inr rfl
        · exact .inl (List.mem_append_right _ hp)
    rcases hp' with hp' | rfl
    · rw [World.cell?_setCell_other _ _ _ _ (fun e => h.ne p hp' (by have := congrArg Addr.block e; simpa using this.symm))]
      exact h.cells p (by rcases List.mem_append.1 hp' with q | q <;> simp [q]) j v hv
    · dsimp only at hv ⊢
      by_cases e : i = j
      · subst e
        rw [List.getElem?_set_self hi] at hv
        injection hv with hv
        subst hv
        exact World.cell?_setCell_same _ _ _ (hc i _ (List.getElem?_eq_getElem hi))
      · rw [List.getElem?_set_ne e] at hv
        rw [World.cell?_setCell_other _ _ _ _ (fun q => e (by have := congrArg Addr.off q; simpa using this))]
        exact hc j v hv
  · rw [World.frozen?_setCell]
    rcases List.mem_append.1 hp with hp | hp
    · exact h.free p (List.mem_append_left _ hp) j
    · rcases List.mem_cons.1 hp with rfl | hp
      · exact hf j
      · exact h.free p (List.mem_append_right _ (List.mem_cons_of_mem _ hp)) j
  · have hz : (W.setCell ⟨k, i, none⟩ u).heap.size = W.heap.size := by simp
    rw [hz]
    rcases List.mem_append.1 hp with hp | hp
    · exact h.there p (List.mem_append_left _ hp)
    · rcases List.mem_cons.1 hp with rfl | hp
      · exact ht
      · exact h.there p (List.mem_append_right _ (List.mem_cons_of_mem _ hp))
  · rcases List.mem_append.1 hp with hp | hp
    · exact h.own p (List.mem_append_left _ hp)
    · rcases List.mem_cons.1 hp with rfl | hp
      · exact ho
      · exact h.own p (List.mem_append_right _ (List.mem_cons_of_mem _ hp))
  · have := h.nd
    rw [List.map_append, List.map_cons] at this ⊢
    exact this

end

section
variable {w W : World} {l1 l2 : List (Nat × List Value)} {k : Nat} {x0 x1 x2 x3 y0 y1 y2 y3 : Value}

theorem Held.one (h : Held w W (l1 ++ (k, [x0]) :: l2)) : W.cell? ⟨k, 0, none⟩ = some x0 ∧ (∀ i, W.frozen? ⟨k, i, none⟩ = false) ∧ k < W.heap.size :=
  ⟨h.at.1 0 _ rfl, h.at.2.1, h.at.2.2.1⟩
theorem Held.two (h : Held w W (l1 ++ (k, [x0, x1]) :: l2)) : W.cell? ⟨k, 0, none⟩ = some x0 ∧ W.cell? ⟨k, 1, none⟩ = some x1 ∧ (∀ i, W.frozen? ⟨k, i, none⟩ = false) ∧ k < W.heap.size :=
  ⟨h.at.1 0 _ rfl, h.at.1 1 _ rfl, h.at.2.1, h.at.2.2.1⟩
theorem Held.tri (h : Held w W (l1 ++ (k, [x0, x1, x2]) :: l2)) : W.cell? ⟨k, 0, none⟩ = some x0 ∧ W.cell? ⟨k, 1, none⟩ = some x1 ∧ W.cell? ⟨k, 2, none⟩ = some x2 ∧ (∀ i, W.frozen? ⟨k, i, none⟩ = false) ∧ k < W.heap.size :=
  ⟨h.at.1 0 _ rfl, h.at.1 1 _ rfl, h.at.1 2 _ rfl, h.at.2.1, h.at.2.2.1⟩
theorem Held.four (h : Held w W (l1 ++ (k, [x0, x1, x2, x3]) :: l2)) : W.cell? ⟨k, 0, none⟩ = some x0 ∧ W.cell? ⟨k, 1, none⟩ = some x1 ∧ W.cell? ⟨k, 2, none⟩ = some x2 ∧ W.cell? ⟨k, 3, none⟩ = some x3 ∧ (∀ i, W.frozen? ⟨k, i, none⟩ = false) ∧ k < W.heap.size :=
  ⟨h.at.1 0 _ rfl, h.at.1 1 _ rfl, h.at.1 2 _ rfl, h.at.1 3 _ rfl, h.at.2.1, h.at.2.2.1⟩

/-- three cells of block k written -/
def set3 (W : World) (k : Nat) (y0 y1 y2 : Value) : World := ((W.setCell ⟨k, 0, none⟩ y0).setCell ⟨k, 1, none⟩ y1).setCell ⟨k, 2, none⟩ y2

theorem Held.set1 (h : Held w W (l1 ++ (k, [x0]) :: l2)) (y0 : Value) : Held w (W.setCell ⟨k, 0, none⟩ y0) (l1 ++ (k, [y0]) :: l2) := h.cell (i := 0) (by simp) y0
theorem Held.set3 (h : Held w W (l1 ++ (k, [x0, x1, x2]) :: l2)) (y0 y1 y2 : Value) : Held w (set3 W k y0 y1 y2) (l1 ++ (k, [y0, y1, y2]) :: l2) :=
  ((h.cell (i := 0) (by simp) y0).cell (i := 1) (by simp) y1).cell (i := 2) (by simp) y2
theorem Held.set4 (h : Held w W (l1 ++ (k, [x0, x1, x2, x3]) :: l2)) (y0 y1 y2 y3 : Value) : Held w (set4 W k y0 y1 y2 y3) (l1 ++ (k, [y0, y1, y2, y3]) :: l2) :=
  (((h.cell (i := 0) (by simp) y0).cell (i := 1) (by simp) y1).cell (i := 2) (by simp) y2).cell (i := 3) (by simp) y3
theorem set3_size (W : World) (k : Nat) (x0 x1 x2 : Value) : (Ytkehdaahlfkiiaa.set3 W k x0 x1 x2).heap.size = W.heap.size := by simp [Ytkehdaahlfkiiaa.set3]
theorem below_set3 {B : Nat} {w1 : World} (h : Below B w w1) (hb : B ≤ k) : Below B w (Ytkehdaahlfkiiaa.set3 w1 k y0 y1 y2) :=
  ((h.setCell (p := ⟨k, 0, none⟩) hb y0).setCell (p := ⟨k, 1, none⟩) hb y1).setCell (p := ⟨k, 2, none⟩) hb y2

end

end Go.Proofs.Ytkehdaahlfkiiaa
