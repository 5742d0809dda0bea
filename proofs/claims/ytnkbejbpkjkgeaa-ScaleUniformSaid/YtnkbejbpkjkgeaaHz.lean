/-
  Boxes held beside rows of one's own, while boxes are written; clone of the laws with its row.
-/
import Derived.Test.YtnkbejbpkjkgeaaGrw
import Derived.Test.YtnkbejbpkjkgeaaHx
namespace Go.Proofs.Ytnkbejbpkjkgeaa
open Go.RowKit Mem

/-- a row of one's own that is none of the boxes, or nothing -/
def RowV (w W : World) (l : List (Nat × List Value)) (v : Value) (m : List Px) : Prop :=
  (m = [] ∧ v = .slice none 0 0) ∨ ∃ g c, v = .slice (some ⟨g, 0, none⟩) m.length c ∧ m.length ≤ c ∧ c ≤ maxLen ∧ RowP W g m ∧ w.heap.size ≤ g ∧ ∀ p ∈ l, p.1 ≠ g

theorem RowV.pxs {w W : World} {l : List (Nat × List Value)} {v : Value} {m : List Px} (h : RowV w W l v m) : Pxs W v m := by
  rcases h with ⟨rfl, rfl⟩ | ⟨g, c, rfl, h1, h2, h3, _⟩
  · exact pxs_nil W
  · exact h3.pxs h1 h2

/-- boxes and rows -/
structure HeldZ (w W : World) (l : List (Nat × List Value)) (rs : List (Value × List Px)) : Prop where
  held : Held w W l
  rows : ∀ r ∈ rs, RowV w W l r.1 r.2

section
variable {w W W' : World} {l : List (Nat × List Value)} {rs : List (Value × List Px)}

theorem Held.toZ (h : Held w W l) : HeldZ w W l [] := ⟨h, fun r hr => by simp at hr⟩
theorem HeldZ.below (h : HeldZ w W l rs) : Below w.heap.size w W := h.held.below
theorem HeldZ.step (h : HeldZ w W l rs) (hb : Below W.heap.size W W') : HeldZ w W' l rs :=
  ⟨h.held.step hb, fun r hr => by
    rcases h.rows r hr with e | ⟨g, c, e, h1, h2, h3, h5, h4⟩
    · exact .inl e
    · exact .inr ⟨g, c, e, h1, h2, h3.step hb, h5, h4⟩⟩
theorem HeldZ.drew (h : HeldZ w W l rs) : HeldZ w W.drew l rs := h.step (Below.refl _ _).drew
theorem HeldZ.made (h : HeldZ w W l rs) (o : Obj) : HeldZ w (W.alloc o) l rs := h.step ((Below.refl _ _).alloc (Nat.le_refl _) o)
theorem HeldZ.alloc (h : HeldZ w W l rs) (vs : List Value) (t : TypeId) : HeldZ w (W.alloc (.cells vs.toArray t)) ((W.heap.size, vs) :: l) rs :=
  ⟨h.held.alloc vs t, fun r hr => by
    rcases h.rows r hr with e | ⟨g, c, e, h1, h2, h3, h5, h4⟩
    · exact .inl e
    · refine .inr ⟨g, c, e, h1, h2, h3.step ((Below.refl _ _).alloc (Nat.le_refl _) _), h5, fun p hp => ?_⟩
      rcases List.mem_cons.1 hp with rfl | hp
      · exact fun e => by have := h3.2.2; simp only at e; omega
      · exact h4 p hp⟩
/-- a call that gives a row -/
theorem HeldZ.call (h : HeldZ w W l rs) (hb : Below W.heap.size W W') {v : Value} {m : List Px} (hr : Res W W' v m) : HeldZ w W' l ((v, m) :: rs) :=
  ⟨h.held.step hb, fun r hm => by
    rcases List.mem_cons.1 hm with rfl | hm
    · rcases hr with e | ⟨g, c, e, h1, h2, h3, h4⟩
      · exact .inl e
      · exact .inr ⟨g, c, e, h1, h2, h4, Nat.le_trans h.held.below.size h3, fun p hp => by have := h.held.there p hp; omega⟩
    · exact (h.step hb).rows r hm⟩
theorem HeldZ.perm {l' : List (Nat × List Value)} (h : HeldZ w W l rs) (hp : l.Perm l') : HeldZ w W l' rs :=
  ⟨⟨fun p hm => h.held.cells p (hp.mem_iff.2 hm), fun p hm => h.held.free p (hp.mem_iff.2 hm), fun p hm => h.held.there p (hp.mem_iff.2 hm), fun p hm => h.held.own p (hp.mem_iff.2 hm), (hp.map _).nodup_iff.1 h.held.nd, h.held.below⟩,
    fun r hr => by
      rcases h.rows r hr with e | ⟨g, c, e, h1, h2, h3, h5, h4⟩
      · exact .inl e
      · exact .inr ⟨g, c, e, h1, h2, h3, h5, fun p hm => h4 p (hp.mem_iff.2 hm)⟩⟩
theorem HeldZ.set3 {l1 l2 : List (Nat × List Value)} {k : Nat} {x0 x1 x2 : Value} (h : HeldZ w W (l1 ++ (k, [x0, x1, x2]) :: l2) rs) (y0 y1 y2 : Value) : HeldZ w (set3 W k y0 y1 y2) (l1 ++ (k, [y0, y1, y2]) :: l2) rs :=
  ⟨h.held.set3 y0 y1 y2, fun r hr => by
    rcases h.rows r hr with e | ⟨g, c, e, h1, h2, h3, h5, h4⟩
    · exact .inl e
    · refine .inr ⟨g, c, e, h1, h2, h3.far (fun e => h4 (k, [x0, x1, x2]) (by simp) e.symm) y0 y1 y2, h5, fun p hm => ?_⟩
      rcases List.mem_append.1 hm with hm | hm
      · exact h4 p (List.mem_append_left _ hm)
      · rcases List.mem_cons.1 hm with rfl | hm
        · exact h4 (k, [x0, x1, x2]) (by simp)
        · exact h4 p (List.mem_append_right _ (List.mem_cons_of_mem _ hm))⟩

theorem HeldZ.r0 {v : Value} {m : List Px} (h : HeldZ w W l ((v, m) :: rs)) : RowV w W l v m := h.rows (v, m) (List.mem_cons_self ..)
theorem HeldZ.r1 {v v1 : Value} {m m1 : List Px} (h : HeldZ w W l ((v1, m1) :: (v, m) :: rs)) : RowV w W l v m := h.rows (v, m) (List.mem_cons_of_mem _ (List.mem_cons_self ..))
theorem HeldZ.r3 {v v1 v2 v3 : Value} {m m1 m2 m3 : List Px} (h : HeldZ w W l ((v1, m1) :: (v2, m2) :: (v3, m3) :: (v, m) :: rs)) : RowV w W l v m := h.rows (v, m) (by simp)
theorem HeldZ.only {v : Value} {m : List Px} (h : HeldZ w W l rs) (hv : RowV w W l v m) : HeldZ w W l [(v, m)] := ⟨h.held, fun r hr => by
  obtain rfl := List.mem_singleton.1 hr
  exact hv⟩
/-- a pixel of the row written -/
theorem HeldZ.put {g c : Nat} {m : List Px} {n : Nat} (h : HeldZ w W l [(.slice (some ⟨g, 0, none⟩) n c, m)]) {o : Nat} (ho : o < m.length) (p : Px) : HeldZ w (putP W g (o * 4) 0 p) l [(.slice (some ⟨g, 0, none⟩) n c, m.set o p)] := by
  rcases h.r0 with ⟨rfl, e⟩ | ⟨g', c', e, h1, h2, h3, h5, h4⟩
  · simp at ho
  · injection e with e1 e2 e3
    injection e1 with e1
    injection e1 with e4
    subst e2 e3 e4
    refine ⟨h.held.grown (grown_putP W g (o * 4) 0 p) h5 h4, fun r hr => ?_⟩
    obtain rfl := List.mem_singleton.1 hr
    exact .inr ⟨g, c, by rw [List.length_set], by rw [List.length_set]; exact h1, h2, h3.put (o := o) (j := 0) ho p, h5, h4⟩

end

/-- two boxes that may be made or not, beside others -/
def HeldQ (w W : World) (x y : Option (Nat × List Value)) (l : List (Nat × List Value)) (rs : List (Value × List Px)) : Prop := HeldZ w W (x.toList ++ y.toList ++ l) rs

section
variable {w W W' : World} {l : List (Nat × List Value)} {rs : List (Value × List Px)} {x y : Option (Nat × List Value)} {M N : Nat} {x0 x1 x2 y0 y1 y2 : Value}
theorem HeldQ.newX (h : HeldQ w W none y l rs) (vs : List Value) (t : TypeId) : HeldQ w (W.alloc (.cells vs.toArray t)) (some (W.heap.size, vs)) y l rs := HeldZ.alloc h vs t
theorem HeldQ.newY (h : HeldQ w W x none l rs) (vs : List Value) (t : TypeId) : HeldQ w (W.alloc (.cells vs.toArray t)) x (some (W.heap.size, vs)) l rs := by
  have h1 := HeldZ.alloc h vs t
  refine h1.perm ?_
  have e : (none : Option (Nat × List Value)).toList = [] := rfl
  have e2 : (some (W.heap.size, vs) : Option (Nat × List Value)).toList = [(W.heap.size, vs)] := rfl
  rw [e, e2, List.append_nil, List.append_assoc]
  exact List.perm_middle.symm
theorem HeldQ.step (h : HeldQ w W x y l rs) (hb : Below W.heap.size W W') : HeldQ w W' x y l rs := HeldZ.step h hb
theorem HeldQ.call (h : HeldQ w W x y l rs) (hb : Below W.heap.size W W') {v : Value} {m : List Px} (hr : Res W W' v m) : HeldQ w W' x y l ((v, m) :: rs) := HeldZ.call h hb hr
theorem HeldQ.setX (h : HeldQ w W (some (M, [x0, x1, x2])) y l rs) (z0 z1 z2 : Value) : HeldQ w (set3 W M z0 z1 z2) (some (M, [z0, z1, z2])) y l rs := by
  have e : ∀ p : Nat × List Value, (some p).toList ++ y.toList ++ l = [] ++ p :: (y.toList ++ l) := fun p => rfl
  unfold HeldQ at h ⊢
  rw [e] at h ⊢
  exact h.set3 z0 z1 z2
theorem HeldQ.setY (h : HeldQ w W x (some (M, [x0, x1, x2])) l rs) (z0 z1 z2 : Value) : HeldQ w (set3 W M z0 z1 z2) x (some (M, [z0, z1, z2])) l rs := by
  have e : ∀ p : Nat × List Value, x.toList ++ (some p).toList ++ l = x.toList ++ p :: l := fun p => by rw [List.append_assoc]; rfl
  unfold HeldQ at h ⊢
  rw [e] at h ⊢
  exact h.set3 z0 z1 z2
theorem HeldQ.cX (h : HeldQ w W (some (M, [x0, x1, x2])) y l rs) : W.cell? ⟨M, 0, none⟩ = some x0 ∧ W.cell? ⟨M, 1, none⟩ = some x1 ∧ W.cell? ⟨M, 2, none⟩ = some x2 ∧ (∀ i, W.frozen? ⟨M, i, none⟩ = false) ∧ M < W.heap.size := by
  have e : ∀ p : Nat × List Value, (some p).toList ++ y.toList ++ l = [] ++ p :: (y.toList ++ l) := fun p => rfl
  unfold HeldQ at h
  rw [e] at h
  exact h.held.tri
theorem HeldQ.cY (h : HeldQ w W x (some (M, [x0, x1, x2])) l rs) : W.cell? ⟨M, 0, none⟩ = some x0 ∧ W.cell? ⟨M, 1, none⟩ = some x1 ∧ W.cell? ⟨M, 2, none⟩ = some x2 ∧ (∀ i, W.frozen? ⟨M, i, none⟩ = false) ∧ M < W.heap.size := by
  have e : ∀ p : Nat × List Value, x.toList ++ (some p).toList ++ l = x.toList ++ p :: l := fun p => by rw [List.append_assoc]; rfl
  unfold HeldQ at h
  rw [e] at h
  exact h.held.tri
theorem HeldQ.rest (h : HeldQ w W x y l rs) : Held w W l := h.held.sub (by
  exact List.sublist_append_right _ _)
end

/-- a row of one's own, also an empty one -/
theorem OwnP.resz {w w' : World} {base : Nat} {v : Value} {l : List Px} (h : OwnP w' base v l) (hb : w.heap.size ≤ base) : Res w w' v l := by
  have hall := h
  have hp := h.pxs
  obtain ⟨_, hc⟩ := h
  rcases hc with ⟨rfl, h0⟩ | ⟨g, cap, cur, rfl, hg, hh, hnc, hm, _⟩
  · exact .inl ⟨List.eq_nil_of_length_eq_zero h0, rfl⟩
  · have hlt : g < w'.heap.size := by
      rcases Nat.lt_or_ge g w'.heap.size with hl | hl
      · exact hl
      · rw [Array.getElem?_eq_none hl] at hh; cases hh
    refine .inr ⟨g, cap, rfl, hnc, hm, by omega, fun j p hj => ?_, fun i => hall.frozenAt i, hlt⟩
    obtain ⟨A, c, hv, _, _, hcell⟩ := hp
    injection hv with e1 e2 e3
    subst e1
    obtain ⟨b, off, e, _, hcs⟩ := hcell (Nat.lt_of_le_of_lt (Nat.zero_le _) (List.getElem?_eq_some_iff.1 hj).1)
    injection e with e
    injection e with e0 e1
    subst e0 e1
    exact hcs j p hj

/-- a buffer's value with a row of one's own -/
def GivesZ (a b : Int) (l : List Px) (w : World) (e : Ending) (w' : World) : Prop := ∃ v, e = .returned (.agg #[.int .i64 a, .int .i64 b, v]) ∧ Res w w' v l ∧ Below w.heap.size w w'

end Go.Proofs.Ytnkbejbpkjkgeaa
