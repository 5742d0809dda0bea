/-
  Things held in memory: each in blocks of its own that are none of the others', in a world that has kept what is older. (Boxes, rows of one's own, objects of the program: all by one relation.)
-/
import Derived.Test.YtkehdaahlfkiiaaHeld
namespace Go.Proofs.Ytkehdaahlfkiiaa
open Go.RowKit

/-- of what is older, the blocks S alone have turned -/
structure Turns (S : Nat → Prop) (w w' : World) : Prop where
  os : w'.os = w.os
  tape : w'.tape = w.tape
  output : w'.output = w.output
  size : w.heap.size ≤ w'.heap.size
  block : ∀ k, k < w.heap.size → ¬ S k → w'.heap[k]? = w.heap[k]?
theorem turns_below {S : Nat → Prop} {w w' : World} (h : Below w.heap.size w w') : Turns S w w' := ⟨h.os, h.tape, h.output, h.size, fun k hk _ => h.block k hk⟩
theorem Turns.grown {w w' : World} {row : Option Nat} (hg : w.grownBy w' row) : Turns (fun k => row = some k) w w' :=
  ⟨hg.os, hg.tape, hg.output, hg.size, fun k hk hS => hg.block k hk (fun e => hS e.symm)⟩
theorem cell_of_block {w w' : World} {k : Nat} (h : w'.heap[k]? = w.heap[k]?) (i : Nat) : w'.cell? ⟨k, i, none⟩ = w.cell? ⟨k, i, none⟩ := by simp [World.cell?, h]
theorem frozen_of_block {w w' : World} {k : Nat} (h : w'.heap[k]? = w.heap[k]?) (i : Nat) : w'.frozen? ⟨k, i, none⟩ = w.frozen? ⟨k, i, none⟩ := by simp [World.frozen?, h]
theorem grown_setCell (w : World) (b i : Nat) (u : Value) : w.grownBy (w.setCell ⟨b, i, none⟩ u) (some b) :=
  ⟨rfl, rfl, rfl, by simp, fun j _ hne => Below.heap_setCell w ⟨b, i, none⟩ u j (fun e => hne (by rw [e]))⟩

/-- a thing in memory: what is said of it, and its blocks -/
structure Ob where
  P : World → Prop
  S : Nat → Prop
/-- it hangs on its own blocks alone -/
def Ob.Keeps (o : Ob) : Prop := ∀ W W' : World, W.heap.size ≤ W'.heap.size → (∀ k, o.S k → W'.heap[k]? = W.heap[k]?) → o.P W → o.P W'

structure HO (w W : World) (l : List Ob) : Prop where
  below : Below w.heap.size w W
  says : ∀ o ∈ l, o.P W
  keeps : ∀ o ∈ l, o.Keeps
  lt : ∀ o ∈ l, ∀ k, o.S k → w.heap.size ≤ k ∧ k < W.heap.size
  pw : l.Pairwise (fun a b => ∀ k, a.S k → ¬ b.S k)

section
variable {w W W' : World} {l l1 l2 : List Ob} {o o' : Ob}
theorem HO.start (hb : Below w.heap.size w W) : HO w W [] := ⟨hb, fun _ h => by simp at h, fun _ h => by simp at h, fun _ h => by simp at h, List.Pairwise.nil⟩
theorem HO.nil (w : World) : HO w w [] := HO.start (Below.refl _ _)
theorem HO.step (h : HO w W l) (hb : Below W.heap.size W W') : HO w W' l :=
  ⟨Below.next h.below hb, fun o ho => h.keeps o ho W W' hb.size (fun k hk => hb.block k (h.lt o ho k hk).2) (h.says o ho), h.keeps, fun o ho k hk => ⟨(h.lt o ho k hk).1, Nat.lt_of_lt_of_le (h.lt o ho k hk).2 hb.size⟩, h.pw⟩
theorem HO.drew (h : HO w W l) : HO w W.drew l := h.step (Below.refl _ _).drew
theorem HO.drews (h : HO w W l) (n : Nat) : HO w (W.drewN n) l := h.step (below_draws (Below.refl _ _) n)
theorem HO.made (h : HO w W l) (x : Obj) : HO w (W.alloc x) l := h.step ((Below.refl _ _).alloc (Nat.le_refl _) x)
theorem HO.sub (h : HO w W l) {m : List Ob} (hs : m.Sublist l) : HO w W m :=
  ⟨h.below, fun o ho => h.says o (hs.subset ho), fun o ho => h.keeps o (hs.subset ho), fun o ho => h.lt o (hs.subset ho), h.pw.sublist hs⟩
theorem HO.tail (h : HO w W (o :: l)) : HO w W l := h.sub (List.sublist_cons_self _ _)
theorem HO.perm (h : HO w W l) {m : List Ob} (hp : m.Perm l) : HO w W m :=
  ⟨h.below, fun o ho => h.says o (hp.mem_iff.1 ho), fun o ho => h.keeps o (hp.mem_iff.1 ho), fun o ho => h.lt o (hp.mem_iff.1 ho), (hp.pairwise_iff (fun hab k hb ha => hab k ha hb)).2 h.pw⟩
theorem HO.swap (h : HO w W (o :: o' :: l)) : HO w W (o' :: o :: l) := h.perm (List.Perm.swap _ _ _)
theorem HO.at (h : HO w W (l1 ++ o :: l2)) : o.P W := h.says o (by simp)
/-- a new thing -/
theorem HO.new (h : HO w W l) (hb : Below W.heap.size W W') (o : Ob) (hp : o.P W') (hk : o.Keeps) (hs : ∀ k, o.S k → W.heap.size ≤ k ∧ k < W'.heap.size) : HO w W' (o :: l) := by
  have h2 := h.step hb
  have hz := h.below.size
  refine ⟨h2.below, fun x hx => ?_, fun x hx => ?_, fun x hx k hk2 => ?_, List.pairwise_cons.2 ⟨fun x hx k hS hx2 => ?_, h2.pw⟩⟩
  · rcases List.mem_cons.1 hx with rfl | hx
    · exact hp
    · exact h2.says x hx
  · rcases List.mem_cons.1 hx with rfl | hx
    · exact hk
    · exact h2.keeps x hx
  · rcases List.mem_cons.1 hx with rfl | hx
    · have := hs k hk2
      omega
    · exact h2.lt x hx k hk2
  · have := hs k hS
    have := (h.lt x hx k hx2).2
    omega
/-- one of the things has turned -/
theorem HO.turn (h : HO w W (l1 ++ o :: l2)) (ht : Turns o.S W W') (o' : Ob) (hp : o'.P W') (hk : o'.Keeps) (hs : ∀ k, o'.S k → o.S k ∨ W.heap.size ≤ k) (hlt : ∀ k, o'.S k → k < W'.heap.size) : HO w W' (l1 ++ o' :: l2) := by
  have hm : o ∈ l1 ++ o :: l2 := by simp
  have hz := h.below.size
  have hpw := h.pw
  rw [List.pairwise_append, List.pairwise_cons] at hpw
  obtain ⟨p1, ⟨p2, p3⟩, p4⟩ := hpw
  have hne : ∀ x ∈ l1 ++ l2, ∀ k, x.S k → ¬ o.S k := fun x hx k hS ho => by
    rcases List.mem_append.1 hx with hx | hx
    · exact p4 x hx o (List.mem_cons_self ..) k hS ho
    · exact p2 x hx k ho hS
  have hsub : ∀ x ∈ l1 ++ l2, x ∈ l1 ++ o :: l2 := fun x hx => by
    rcases List.mem_append.1 hx with hx | hx <;> simp [hx]
  have hway : ∀ x ∈ l1 ++ o' :: l2, x ∈ l1 ++ l2 ∨ x = o' := fun x hx => by
    rcases List.mem_append.1 hx with hx | hx
    · exact .inl (List.mem_append_left _ hx)
    · rcases List.mem_cons.1 hx with rfl | hx
      · exact .inr rfl
      · exact .inl (List.mem_append_right _ hx)
  have hnew : ∀ x ∈ l1 ++ l2, ∀ k, o'.S k → ¬ x.S k := fun x hx k hS hx2 => by
    rcases hs k hS with h2 | h2
    · exact hne x hx k hx2 h2
    · have := (h.lt x (hsub x hx) k hx2).2
      omega
  refine ⟨⟨ht.os.trans h.below.os, ht.tape.trans h.below.tape, ht.output.trans h.below.output, Nat.le_trans hz ht.size, fun k hk => (ht.block k (Nat.lt_of_lt_of_le hk hz) (fun hS => by have := (h.lt o hm k hS).1; omega)).trans (h.below.block k hk)⟩,
    fun x hx => ?_, fun x hx => ?_, fun x hx k hS => ?_, ?_⟩
  · rcases hway x hx with hx | rfl
    · exact h.keeps x (hsub x hx) W W' ht.size (fun k hk => ht.block k (h.lt x (hsub x hx) k hk).2 (hne x hx k hk)) (h.says x (hsub x hx))
    · exact hp
  · rcases hway x hx with hx | rfl
    · exact h.keeps x (hsub x hx)
    · exact hk
  · rcases hway x hx with hx | rfl
    · have := h.lt x (hsub x hx) k hS
      exact ⟨this.1, Nat.lt_of_lt_of_le this.2 ht.size⟩
    · refine ⟨?_, hlt k hS⟩
      rcases hs k hS with h2 | h2
      · exact (h.lt o hm k h2).1
      · omega
  · rw [List.pairwise_append, List.pairwise_cons]
    refine ⟨p1, ⟨fun x hx k hS => hnew x (List.mem_append_right _ hx) k hS, p3⟩, fun x hx y hy k hS => ?_⟩
    rcases List.mem_cons.1 hy with rfl | hy
    · exact fun h2 => hnew x (List.mem_append_left _ hx) k h2 hS
    · exact p4 x hx y (List.mem_cons_of_mem _ hy) k hS

/-- the block k holds the cells vs -/
def boxO (k : Nat) (vs : List Value) : Ob := ⟨fun W => (∀ (i : Nat) v, vs[i]? = some v → W.cell? ⟨k, i, none⟩ = some v) ∧ (∀ i, W.frozen? ⟨k, i, none⟩ = false) ∧ k < W.heap.size, fun j => j = k⟩
theorem boxO_keeps (k : Nat) (vs : List Value) : (boxO k vs).Keeps := fun _ _ hz hb hp =>
  ⟨fun i v hv => (cell_of_block (hb k rfl) i).trans (hp.1 i v hv), fun i => (frozen_of_block (hb k rfl) i).trans (hp.2.1 i), Nat.lt_of_lt_of_le hp.2.2 hz⟩
theorem HO.alloc (h : HO w W l) (vs : List Value) (t : TypeId) : HO w (W.alloc (.cells vs.toArray t)) (boxO W.heap.size vs :: l) := by
  refine h.new ((Below.refl _ _).alloc (Nat.le_refl _) _) _ ⟨fun i v hv => ?_, fun i => ?_, ?_⟩ (boxO_keeps _ _) (fun k hk => ?_)
  · simpa [go_sem] using hv
  · simp [go_sem]
  · simp
  · have hk : k = W.heap.size := hk
    subst hk
    exact ⟨Nat.le_refl _, by simp⟩
theorem HO.cell {k : Nat} {vs : List Value} (h : HO w W (l1 ++ boxO k vs :: l2)) {i : Nat} (hi : i < vs.length) (u : Value) : HO w (W.setCell ⟨k, i, none⟩ u) (l1 ++ boxO k (vs.set i u) :: l2) := by
  obtain ⟨hc, hf, hlt⟩ := h.at
  have hz : (W.setCell ⟨k, i, none⟩ u).heap.size = W.heap.size := by simp
  refine h.turn (W' := W.setCell ⟨k, i, none⟩ u) ⟨rfl, rfl, rfl, by simp, fun j _ hne => Below.heap_setCell W ⟨k, i, none⟩ u j (fun e => hne (show j = k from e))⟩ (boxO k (vs.set i u)) ⟨fun j v hv => ?_, fun j => ?_, by rw [hz]; exact hlt⟩ (boxO_keeps _ _) (fun j hj => .inl hj) (fun j hj => by rw [hz, show j = k from hj]; exact hlt)
  · by_cases e : i = j
    · subst e
      rw [List.getElem?_set_self hi] at hv
      injection hv with hv
      subst hv
      exact World.cell?_setCell_same _ _ _ (hc i _ (List.getElem?_eq_getElem hi))
    · rw [List.getElem?_set_ne e] at hv
      rw [World.cell?_setCell_other _ _ _ _ (fun q => e (by have := congrArg Addr.off q; simpa using this))]
      exact hc j v hv
  · rw [World.frozen?_setCell]
    exact hf j
theorem HO.c {k : Nat} {vs : List Value} (h : HO w W (l1 ++ boxO k vs :: l2)) (i : Nat) {v : Value} (hv : vs[i]? = some v) : W.cell? ⟨k, i, none⟩ = some v := h.at.1 i v hv
theorem HO.f {k : Nat} {vs : List Value} (h : HO w W (l1 ++ boxO k vs :: l2)) : (∀ i, W.frozen? ⟨k, i, none⟩ = false) ∧ k < W.heap.size := ⟨h.at.2.1, h.at.2.2⟩
theorem HO.c1 {k : Nat} {x0 : Value} (h : HO w W (l1 ++ boxO k [x0] :: l2)) : W.cell? ⟨k, 0, none⟩ = some x0 ∧ (∀ i, W.frozen? ⟨k, i, none⟩ = false) ∧ k < W.heap.size := ⟨h.c 0 rfl, h.f⟩
theorem HO.c2 {k : Nat} {x0 x1 : Value} (h : HO w W (l1 ++ boxO k [x0, x1] :: l2)) : W.cell? ⟨k, 0, none⟩ = some x0 ∧ W.cell? ⟨k, 1, none⟩ = some x1 ∧ (∀ i, W.frozen? ⟨k, i, none⟩ = false) ∧ k < W.heap.size := ⟨h.c 0 rfl, h.c 1 rfl, h.f⟩
theorem HO.c3 {k : Nat} {x0 x1 x2 : Value} (h : HO w W (l1 ++ boxO k [x0, x1, x2] :: l2)) : W.cell? ⟨k, 0, none⟩ = some x0 ∧ W.cell? ⟨k, 1, none⟩ = some x1 ∧ W.cell? ⟨k, 2, none⟩ = some x2 ∧ (∀ i, W.frozen? ⟨k, i, none⟩ = false) ∧ k < W.heap.size := ⟨h.c 0 rfl, h.c 1 rfl, h.c 2 rfl, h.f⟩
theorem HO.c6 {k : Nat} {x0 x1 x2 x3 x4 x5 : Value} (h : HO w W (l1 ++ boxO k [x0, x1, x2, x3, x4, x5] :: l2)) :
    W.cell? ⟨k, 0, none⟩ = some x0 ∧ W.cell? ⟨k, 1, none⟩ = some x1 ∧ W.cell? ⟨k, 2, none⟩ = some x2 ∧ W.cell? ⟨k, 3, none⟩ = some x3 ∧ W.cell? ⟨k, 4, none⟩ = some x4 ∧ W.cell? ⟨k, 5, none⟩ = some x5 ∧ (∀ i, W.frozen? ⟨k, i, none⟩ = false) ∧ k < W.heap.size :=
  ⟨h.c 0 rfl, h.c 1 rfl, h.c 2 rfl, h.c 3 rfl, h.c 4 rfl, h.c 5 rfl, h.f⟩
theorem HO.set3 {k : Nat} {x0 x1 x2 : Value} (h : HO w W (l1 ++ boxO k [x0, x1, x2] :: l2)) (y0 y1 y2 : Value) :
    HO w (((W.setCell ⟨k, 0, none⟩ y0).setCell ⟨k, 1, none⟩ y1).setCell ⟨k, 2, none⟩ y2) (l1 ++ boxO k [y0, y1, y2] :: l2) :=
  ((h.cell (i := 0) (by simp) y0).cell (i := 1) (by simp) y1).cell (i := 2) (by simp) y2
theorem HO.set6 {k : Nat} {x0 x1 x2 x3 x4 x5 : Value} (h : HO w W (l1 ++ boxO k [x0, x1, x2, x3, x4, x5] :: l2)) (y0 y1 y2 y3 y4 y5 : Value) :
    HO w ((((((W.setCell ⟨k, 0, none⟩ y0).setCell ⟨k, 1, none⟩ y1).setCell ⟨k, 2, none⟩ y2).setCell ⟨k, 3, none⟩ y3).setCell ⟨k, 4, none⟩ y4).setCell ⟨k, 5, none⟩ y5) (l1 ++ boxO k [y0, y1, y2, y3, y4, y5] :: l2) :=
  (((((h.cell (i := 0) (by simp) y0).cell (i := 1) (by simp) y1).cell (i := 2) (by simp) y2).cell (i := 3) (by simp) y3).cell (i := 4) (by simp) y4).cell (i := 5) (by simp) y5

/-- the value v owns a row of n elements with the cells xs, of the type e -/
def rowO (base : Nat) (e : TypeId) (size : Nat) (v : Value) (n : Nat) (xs : List Value) : Ob := ⟨fun W => W.ownsRow base e size v n xs, fun k => v.ownBlock = some k⟩
theorem rowO_keeps (base : Nat) (e : TypeId) (size : Nat) (v : Value) (n : Nat) (xs : List Value) : (rowO base e size v n xs).Keeps := fun _ _ _ hb hp => by
  refine ⟨hp.1, ?_⟩
  rcases hp.2 with h2 | ⟨g, cap, cur, hv, hg, hc, r⟩
  · exact .inl h2
  · exact .inr ⟨g, cap, cur, hv, hg, (hb g (by rw [hv]; rfl)).trans hc, r⟩
/-- a row has been made -/
theorem HO.row (h : HO w W l) (hb : Below W.heap.size W W') {e : TypeId} {size : Nat} {v : Value} {n : Nat} {xs : List Value} (ho : W'.ownsRow W.heap.size e size v n xs) : HO w W' (rowO W.heap.size e size v n xs :: l) :=
  h.new hb _ ho (rowO_keeps _ _ _ _ _ _) (fun k hk => World.ownsRow.lt ho k hk)
theorem HO.rowB (h : HO w W l) (hb : Below W.heap.size W W') {base : Nat} {e : TypeId} {size : Nat} {v : Value} {n : Nat} {xs : List Value} (ho : W'.ownsRow base e size v n xs) (hs : ∀ k, v.ownBlock = some k → W.heap.size ≤ k) : HO w W' (rowO base e size v n xs :: l) :=
  h.new hb _ ho (rowO_keeps _ _ _ _ _ _) (fun k hk => ⟨hs k hk, (World.ownsRow.lt ho k hk).2⟩)
theorem HO.rowNil (h : HO w W l) (base : Nat) (e : TypeId) (size : Nat) : HO w W (rowO base e size (.slice none 0 0) 0 [] :: l) :=
  h.new (Below.refl _ _) _ (World.ownsRow_nil W base e size) (rowO_keeps _ _ _ _ _ _) (fun k hk => by cases hk)
/-- a row was appended to, or written -/
theorem HO.grow {base : Nat} {e : TypeId} {size : Nat} {v v' : Value} {n n' : Nat} {xs xs' : List Value} (h : HO w W (l1 ++ rowO base e size v n xs :: l2)) (ho : W'.ownsRow base e size v' n' xs') (hg : W.grownBy W' v.ownBlock) (hw : v'.ownBlock = v.ownBlock ∨ v'.ownBlock = some W.heap.size) :
    HO w W' (l1 ++ rowO base e size v' n' xs' :: l2) := by
  refine h.turn (o := rowO base e size v n xs) (Turns.grown hg) (rowO base e size v' n' xs') ho (rowO_keeps _ _ _ _ _ _) (fun k hk => ?_) (fun k hk => (World.ownsRow.lt ho k hk).2)
  have hk : v'.ownBlock = some k := hk
  rcases hw with e2 | e2
  · exact .inl (e2.symm.trans hk)
  · rw [e2] at hk
    injection hk with hk
    exact .inr (Nat.le_of_eq hk)
end

end Go.Proofs.Ytkehdaahlfkiiaa
