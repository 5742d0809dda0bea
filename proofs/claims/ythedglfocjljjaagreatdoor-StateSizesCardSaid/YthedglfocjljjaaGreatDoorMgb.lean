/-
  Things held in memory: each in blocks of its own that are none of the others', in a world that has kept what is older. (Boxes, rows of one's own, objects of the program: all by one relation.)
-/
import Derived.Test.YthedglfocjljjaaGreatDoorMga
import Derived.Deep.AppendLies
import Derived.Maps.AppendAt
import Derived.Laws.AppendOwnNone
import Derived.Laws.MakeOwn
import Derived.Laws.Entries
import Derived.Laws.CopyOwn
namespace Go.Proofs.YthedglfocjljjaaGreatDoor
open Go.RowKit

structure Turns (S : Nat → Prop) (w w' : World) : Prop where
  os : w'.os = w.os
  tape : w'.tape = w.tape
  output : w'.output = w.output
  size : w.heap.size ≤ w'.heap.size
  block : ∀ k, k < w.heap.size → ¬ S k → w'.heap[k]? = w.heap[k]?
theorem turns_below {S : Nat → Prop} {w w' : World} (h : Below w.heap.size w w') : Turns S w w' := ⟨h.os, h.tape, h.output, h.size, fun k hk _ => h.block k hk⟩
theorem Turns.grown {w w' : World} {row : Option Nat} (hg : w.grownBy w' row) : Turns (fun k => row = some k) w w' :=
  ⟨hg.os, hg.tape, hg.output, hg.size, fun k hk hS => hg.block k hk (fun e => hS e.symm)⟩
theorem cell_of_block {w w' : World} {k : Nat} (h : w'.heap[k]? = w.heap[k]?) (i : Nat) : w'.cell? ⟨k, i, none⟩ = w.cell? ⟨k, i, none⟩ := by simp [World.cell?, h]
theorem frozen_of_block {w w' : World} {k : Nat} (h : w'.heap[k]? = w.heap[k]?) (i : Nat) : w'.frozen? ⟨k, i, none⟩ = w.frozen? ⟨k, i, none⟩ := by simp [World.frozen?, h]
theorem grown_cellO (w : World) (b i : Nat) (u : Value) : w.grownBy (w.setCell ⟨b, i, none⟩ u) (some b) :=
  ⟨rfl, rfl, rfl, by simp, fun j _ hne => Below.heap_setCell w ⟨b, i, none⟩ u j (fun e => hne (by rw [e]))⟩

structure Ob where
  P : World → Prop
  S : Nat → Prop
def Ob.Keeps (o : Ob) : Prop := ∀ W W' : World, W.heap.size ≤ W'.heap.size → (∀ k, o.S k → W'.heap[k]? = W.heap[k]?) → o.P W → o.P W'

structure HO (w W : World) (l : List Ob) : Prop where
  below : Below w.heap.size w W
  says : ∀ o ∈ l, o.P W
  keeps : ∀ o ∈ l, o.Keeps
  lt : ∀ o ∈ l, ∀ k, o.S k → w.heap.size ≤ k ∧ k < W.heap.size
  pw : l.Pairwise (fun a b => ∀ k, a.S k → ¬ b.S k)

section
variable {w W W' : World} {l l1 l2 : List Ob} {o o' : Ob}
theorem HO.start (hb : Below w.heap.size w W) : HO w W [] := ⟨hb, fun _ h => by simp at h, fun _ h => by simp at h, fun _ h => by simp at h, List.Pairwise.nil⟩
theorem HO.nil (w : World) : HO w w [] := HO.start (Below.refl _ _)
theorem HO.step (h : HO w W l) (hb : Below W.heap.size W W') : HO w W' l :=
  ⟨Below.next h.below hb, fun o ho => h.keeps o ho W W' hb.size (fun k hk => hb.block k (h.lt o ho k hk).2) (h.says o ho), h.keeps, fun o ho k hk => ⟨(h.lt o ho k hk).1, Nat.lt_of_lt_of_le (h.lt o ho k hk).2 hb.size⟩, h.pw⟩
theorem HO.drew (h : HO w W l) : HO w W.drew l := h.step (Below.refl _ _).drew
theorem HO.drews (h : HO w W l) (n : Nat) : HO w (W.drewN n) l := h.step (below_draws (Below.refl _ _) n)
theorem HO.made (h : HO w W l) (x : Obj) : HO w (W.alloc x) l := h.step ((Below.refl _ _).alloc (Nat.le_refl _) x)
theorem HO.sub (h : HO w W l) {m : List Ob} (hs : m.Sublist l) : HO w W m :=
  ⟨h.below, fun o ho => h.says o (hs.subset ho), fun o ho => h.keeps o (hs.subset ho), fun o ho => h.lt o (hs.subset ho), h.pw.sublist hs⟩
theorem HO.tail (h : HO w W (o :: l)) : HO w W l := h.sub (List.sublist_cons_self _ _)
theorem HO.perm (h : HO w W l) {m : List Ob} (hp : m.Perm l) : HO w W m :=
  ⟨h.below, fun o ho => h.says o (hp.mem_iff.1 ho), fun o ho => h.keeps o (hp.mem_iff.1 ho), fun o ho => h.lt o (hp.mem_iff.1 ho), (hp.pairwise_iff (fun hab k hb ha => hab k ha hb)).2 h.pw⟩
theorem HO.swap (h : HO w W (o :: o' :: l)) : HO w W (o' :: o :: l) := h.perm (List.Perm.swap _ _ _)
theorem HO.at (h : HO w W (l1 ++ o :: l2)) : o.P W := h.says o (by simp)
theorem HO.new (h : HO w W l) (hb : Below W.heap.size W W') (o : Ob) (hp : o.P W') (hk : o.Keeps) (hs : ∀ k, o.S k → W.heap.size ≤ k ∧ k < W'.heap.size) : HO w W' (o :: l) := by
  have h2 := h.step hb
  have hz := h.below.size
  refine ⟨h2.below, fun x hx => ?_, fun x hx => ?_, fun x hx k hk2 => ?_, List.pairwise_cons.2 ⟨fun x hx k hS hx2 => ?_, h2.pw⟩⟩
  · rcases List.mem_cons.1 hx with rfl | hx
    · exact hp
    · exact h2.says x hx
  · rcases List.mem_cons.1 hx with rfl | hx
    · exact hk
    · exact h2.keeps x hx
  · rcases List.mem_cons.1 hx with rfl | hx
    · have := hs k hk2
      omega
    · exact h2.lt x hx k hk2
  · have := hs k hS
    have := (h.lt x hx k hx2).2
    omega
theorem HO.turn (h : HO w W (l1 ++ o :: l2)) (ht : Turns o.S W W') (o' : Ob) (hp : o'.P W') (hk : o'.Keeps) (hs : ∀ k, o'.S k → o.S k ∨ W.heap.size ≤ k) (hlt : ∀ k, o'.S k → k < W'.heap.size) : HO w W' (l1 ++ o' :: l2) := by
  have hm : o ∈ l1 ++ o :: l2 := by simp
  have hz := h.below.size
  have hpw := h.pw
  rw [List.pairwise_append, List.pairwise_cons] at hpw
  obtain ⟨p1, ⟨p2, p3⟩, p4⟩ := hpw
  have hne : ∀ x ∈ l1 ++ l2, ∀ k, x.S k → ¬ o.S k := fun x hx k hS ho => by
    rcases List.mem_append.1 hx with hx | hx
    · exact p4 x hx o (List.mem_cons_self ..) k hS ho
    · exact p2 x hx k ho hS
  have hsub : ∀ x ∈ l1 ++ l2, x ∈ l1 ++ o :: l2 := fun x hx => by
    rcases List.mem_append.1 hx with hx | hx <;> simp [hx]
  have hway : ∀ x ∈ l1 ++ o' :: l2, x ∈ l1 ++ l2 ∨ x = o' := fun x hx => by
    rcases List.mem_append.1 hx with hx | hx
    · exact .inl (List.mem_append_left _ hx)
    · rcases List.mem_cons.1 hx with rfl | hx
      · exact .inr rfl
      · exact .inl (List.mem_append_right _ hx)
  have hnew : ∀ x ∈ l1 ++ l2, ∀ k, o'.S k → ¬ x.S k := fun x hx k hS hx2 => by
    rcases hs k hS with h2 | h2
    · exact hne x hx k hx2 h2
    · have := (h.lt x (hsub x hx) k hx2).2
      omega
  refine ⟨⟨ht.os.trans h.below.os, ht.tape.trans h.below.tape, ht.output.trans h.below.output, Nat.le_trans hz ht.size, fun k hk => (ht.block k (Nat.lt_of_lt_of_le hk hz) (fun hS => by have := (h.lt o hm k hS).1; omega)).trans (h.below.block k hk)⟩,
    fun x hx => ?_, fun x hx => ?_, fun x hx k hS => ?_, ?_⟩
  · rcases hway x hx with hx | rfl
    · exact h.keeps x (hsub x hx) W W' ht.size (fun k hk => ht.block k (h.lt x (hsub x hx) k hk).2 (hne x hx k hk)) (h.says x (hsub x hx))
    · exact hp
  · rcases hway x hx with hx | rfl
    · exact h.keeps x (hsub x hx)
    · exact hk
  · rcases hway x hx with hx | rfl
    · have := h.lt x (hsub x hx) k hS
      exact ⟨this.1, Nat.lt_of_lt_of_le this.2 ht.size⟩
    · refine ⟨?_, hlt k hS⟩
      rcases hs k hS with h2 | h2
      · exact (h.lt o hm k h2).1
      · omega
  · rw [List.pairwise_append, List.pairwise_cons]
    refine ⟨p1, ⟨fun x hx k hS => hnew x (List.mem_append_right _ hx) k hS, p3⟩, fun x hx y hy k hS => ?_⟩
    rcases List.mem_cons.1 hy with rfl | hy
    · exact fun h2 => hnew x (List.mem_append_left _ hx) k h2 hS
    · exact p4 x hx y (List.mem_cons_of_mem _ hy) k hS

def boxO (k : Nat) (vs : List Value) : Ob := ⟨fun W => (∀ (i : Nat) v, vs[i]? = some v → W.cell? ⟨k, i, none⟩ = some v) ∧ (∀ i, W.frozen? ⟨k, i, none⟩ = false) ∧ k < W.heap.size, fun j => j = k⟩
theorem boxO_keeps (k : Nat) (vs : List Value) : (boxO k vs).Keeps := fun _ _ hz hb hp =>
  ⟨fun i v hv => (cell_of_block (hb k rfl) i).trans (hp.1 i v hv), fun i => (frozen_of_block (hb k rfl) i).trans (hp.2.1 i), Nat.lt_of_lt_of_le hp.2.2 hz⟩
theorem HO.alloc (h : HO w W l) (vs : List Value) (t : TypeId) : HO w (W.alloc (.cells vs.toArray t)) (boxO W.heap.size vs :: l) := by
  refine h.new ((Below.refl _ _).alloc (Nat.le_refl _) _) _ ⟨fun i v hv => ?_, fun i => ?_, ?_⟩ (boxO_keeps _ _) (fun k hk => ?_)
  · simpa [go_sem] using hv
  · simp [go_sem]
  · simp
  · have hk : k = W.heap.size := hk
    subst hk
    exact ⟨Nat.le_refl _, by simp⟩
theorem HO.cell {k : Nat} {vs : List Value} (h : HO w W (l1 ++ boxO k vs :: l2)) {i : Nat} (hi : i < vs.length) (u : Value) : HO w (W.setCell ⟨k, i, none⟩ u) (l1 ++ boxO k (vs.set i u) :: l2) := by
  obtain ⟨hc, hf, hlt⟩ := h.at
  have hz : (W.setCell ⟨k, i, none⟩ u).heap.size = W.heap.size := by simp
  refine h.turn (W' := W.setCell ⟨k, i, none⟩ u) ⟨rfl, rfl, rfl, by simp, fun j _ hne => Below.heap_setCell W ⟨k, i, none⟩ u j (fun e => hne (show j = k from e))⟩ (boxO k (vs.set i u)) ⟨fun j v hv => ?_, fun j => ?_, by rw [hz]; exact hlt⟩ (boxO_keeps _ _) (fun j hj => .inl hj) (fun j hj => by rw [hz, show j = k from hj]; exact hlt)
  · by_cases e : i = j
    · subst e
      rw [List.getElem?_set_self hi] at hv
      injection hv with hv
      subst hv
      exact World.cell?_setCell_same _ _ _ (hc i _ (List.getElem?_eq_getElem hi))
    · rw [List.getElem?_set_ne e] at hv
      rw [World.cell?_setCell_other _ _ _ _ (fun q => e (by have := congrArg Addr.off q; simpa using this))]
      exact hc j v hv
  · rw [World.frozen?_setCell]
    exact hf j
theorem HO.c {k : Nat} {vs : List Value} (h : HO w W (l1 ++ boxO k vs :: l2)) (i : Nat) {v : Value} (hv : vs[i]? = some v) : W.cell? ⟨k, i, none⟩ = some v := h.at.1 i v hv
theorem HO.f {k : Nat} {vs : List Value} (h : HO w W (l1 ++ boxO k vs :: l2)) : (∀ i, W.frozen? ⟨k, i, none⟩ = false) ∧ k < W.heap.size := ⟨h.at.2.1, h.at.2.2⟩
theorem HO.c1 {k : Nat} {x0 : Value} (h : HO w W (l1 ++ boxO k [x0] :: l2)) : W.cell? ⟨k, 0, none⟩ = some x0 ∧ (∀ i, W.frozen? ⟨k, i, none⟩ = false) ∧ k < W.heap.size := ⟨h.c 0 rfl, h.f⟩
theorem HO.c2 {k : Nat} {x0 x1 : Value} (h : HO w W (l1 ++ boxO k [x0, x1] :: l2)) : W.cell? ⟨k, 0, none⟩ = some x0 ∧ W.cell? ⟨k, 1, none⟩ = some x1 ∧ (∀ i, W.frozen? ⟨k, i, none⟩ = false) ∧ k < W.heap.size := ⟨h.c 0 rfl, h.c 1 rfl, h.f⟩
theorem HO.c3 {k : Nat} {x0 x1 x2 : Value} (h : HO w W (l1 ++ boxO k [x0, x1, x2] :: l2)) : W.cell? ⟨k, 0, none⟩ = some x0 ∧ W.cell? ⟨k, 1, none⟩ = some x1 ∧ W.cell? ⟨k, 2, none⟩ = some x2 ∧ (∀ i, W.frozen? ⟨k, i, none⟩ = false) ∧ k < W.heap.size := ⟨h.c 0 rfl, h.c 1 rfl, h.c 2 rfl, h.f⟩
theorem HO.c6 {k : Nat} {x0 x1 x2 x3 x4 x5 : Value} (h : HO w W (l1 ++ boxO k [x0, x1, x2, x3, x4, x5] :: l2)) :
    W.cell? ⟨k, 0, none⟩ = some x0 ∧ W.cell? ⟨k, 1, none⟩ = some x1 ∧ W.cell? ⟨k, 2, none⟩ = some x2 ∧ W.cell? ⟨k, 3, none⟩ = some x3 ∧ W.cell? ⟨k, 4, none⟩ = some x4 ∧ W.cell? ⟨k, 5, none⟩ = some x5 ∧ (∀ i, W.frozen? ⟨k, i, none⟩ = false) ∧ k < W.heap.size :=
  ⟨h.c 0 rfl, h.c 1 rfl, h.c 2 rfl, h.c 3 rfl, h.c 4 rfl, h.c 5 rfl, h.f⟩
theorem HO.set3 {k : Nat} {x0 x1 x2 : Value} (h : HO w W (l1 ++ boxO k [x0, x1, x2] :: l2)) (y0 y1 y2 : Value) :
    HO w (((W.setCell ⟨k, 0, none⟩ y0).setCell ⟨k, 1, none⟩ y1).setCell ⟨k, 2, none⟩ y2) (l1 ++ boxO k [y0, y1, y2] :: l2) :=
  ((h.cell (i := 0) (by simp) y0).cell (i := 1) (by simp) y1).cell (i := 2) (by simp) y2
theorem HO.set6 {k : Nat} {x0 x1 x2 x3 x4 x5 : Value} (h : HO w W (l1 ++ boxO k [x0, x1, x2, x3, x4, x5] :: l2)) (y0 y1 y2 y3 y4 y5 : Value) :
    HO w ((((((W.setCell ⟨k, 0, none⟩ y0).setCell ⟨k, 1, none⟩ y1).setCell ⟨k, 2, none⟩ y2).setCell ⟨k, 3, none⟩ y3).setCell ⟨k, 4, none⟩ y4).setCell ⟨k, 5, none⟩ y5) (l1 ++ boxO k [y0, y1, y2, y3, y4, y5] :: l2) :=
  (((((h.cell (i := 0) (by simp) y0).cell (i := 1) (by simp) y1).cell (i := 2) (by simp) y2).cell (i := 3) (by simp) y3).cell (i := 4) (by simp) y4).cell (i := 5) (by simp) y5

def rowO (base : Nat) (e : TypeId) (size : Nat) (v : Value) (n : Nat) (xs : List Value) : Ob := ⟨fun W => W.ownsRow base e size v n xs, fun k => v.ownBlock = some k⟩
theorem rowO_keeps (base : Nat) (e : TypeId) (size : Nat) (v : Value) (n : Nat) (xs : List Value) : (rowO base e size v n xs).Keeps := fun _ _ _ hb hp => by
  refine ⟨hp.1, ?_⟩
  rcases hp.2 with h2 | ⟨g, cap, cur, hv, hg, hc, r⟩
  · exact .inl h2
  · exact .inr ⟨g, cap, cur, hv, hg, (hb g (by rw [hv]; rfl)).trans hc, r⟩
theorem HO.row (h : HO w W l) (hb : Below W.heap.size W W') {e : TypeId} {size : Nat} {v : Value} {n : Nat} {xs : List Value} (ho : W'.ownsRow W.heap.size e size v n xs) : HO w W' (rowO W.heap.size e size v n xs :: l) :=
  h.new hb _ ho (rowO_keeps _ _ _ _ _ _) (fun k hk => World.ownsRow.lt ho k hk)
theorem HO.rowB (h : HO w W l) (hb : Below W.heap.size W W') {base : Nat} {e : TypeId} {size : Nat} {v : Value} {n : Nat} {xs : List Value} (ho : W'.ownsRow base e size v n xs) (hs : ∀ k, v.ownBlock = some k → W.heap.size ≤ k) : HO w W' (rowO base e size v n xs :: l) :=
  h.new hb _ ho (rowO_keeps _ _ _ _ _ _) (fun k hk => ⟨hs k hk, (World.ownsRow.lt ho k hk).2⟩)
theorem HO.rowNil (h : HO w W l) (base : Nat) (e : TypeId) (size : Nat) : HO w W (rowO base e size (.slice none 0 0) 0 [] :: l) :=
  h.new (Below.refl _ _) _ (World.ownsRow_nil W base e size) (rowO_keeps _ _ _ _ _ _) (fun k hk => by cases hk)
theorem HO.grow {base : Nat} {e : TypeId} {size : Nat} {v v' : Value} {n n' : Nat} {xs xs' : List Value} (h : HO w W (l1 ++ rowO base e size v n xs :: l2)) (ho : W'.ownsRow base e size v' n' xs') (hg : W.grownBy W' v.ownBlock) (hw : v'.ownBlock = v.ownBlock ∨ v'.ownBlock = some W.heap.size) :
    HO w W' (l1 ++ rowO base e size v' n' xs' :: l2) := by
  refine h.turn (o := rowO base e size v n xs) (Turns.grown hg) (rowO base e size v' n' xs') ho (rowO_keeps _ _ _ _ _ _) (fun k hk => ?_) (fun k hk => (World.ownsRow.lt ho k hk).2)
  have hk : v'.ownBlock = some k := hk
  rcases hw with e2 | e2
  · exact .inl (e2.symm.trans hk)
  · rw [e2] at hk
    injection hk with hk
    exact .inr (Nat.le_of_eq hk)
end

def GivesP (q : Px) (w : World) (e : Ending) (w' : World) : Prop := e = .returned (.agg #[.int .u8 (q.r : Int), .int .u8 (q.g : Int), .int .u8 (q.b : Int), .int .u8 (q.a : Int)]) ∧ Below w.heap.size w w'

theorem cast_min (a b : Nat) : min (a : Int) (b : Int) = ((min a b : Nat) : Int) := by omega

set_option maxRecDepth 100000 in
set_option maxHeartbeats 1000000 in
theorem clamp_any (p : Px) (w : World) : Calls Tryz.prog 113 #[.agg #[.int .u8 (p.r : Int), .int .u8 (p.g : Int), .int .u8 (p.b : Int), .int .u8 (p.a : Int)]] w (GivesP (clampP p) w) := by
  have h0 : min (p.r : Int) (p.a : Int) = ((clampP p).r : Int) := cast_min _ _
  have h1 : min (p.g : Int) (p.a : Int) = ((clampP p).g : Int) := cast_min _ _
  have h2 : min (p.b : Int) (p.a : Int) = ((clampP p).b : Int) := cast_min _ _
  have h3 : (clampP p).a = p.a := rfl
  unfold GivesP
  rw [h3]
  clear h3
  generalize clampP p = q at *
  go_enter Tryz.func113, Tryz.ntmps113
  go_wp2
  exact bodyPost_ret (v := .agg #[.int .u8 (q.r : Int), .int .u8 (q.g : Int), .int .u8 (q.b : Int), .int .u8 (p.a : Int)]) (by simp [results, Tryz.results113, go_sem]) rfl ⟨rfl, ((Below.refl _ _).alloc (Nat.le_refl _) _).alloc (by simp) _⟩

def sameP (p q : Px) : Bool := decide (p.r = q.r) && decide (p.g = q.g) && decide (p.b = q.b) && decide (p.a = q.a)

theorem same_iff (p q : Px) : sameP p q = true ↔ p = q := by
  constructor
  · intro h
    simp [sameP] at h
    exact px_ext h.1.1.1 h.1.1.2 h.1.2 h.2
  · rintro rfl
    simp [sameP]

set_option maxRecDepth 100000 in
set_option maxHeartbeats 2000000 in
theorem eql_px (r s : Px) (w : World) : (binOp .eql 58 (.agg #[.int .u8 (r.r : Int), .int .u8 (r.g : Int), .int .u8 (r.b : Int), .int .u8 (r.a : Int)]) (.agg #[.int .u8 (s.r : Int), .int .u8 (s.g : Int), .int .u8 (s.b : Int), .int .u8 (s.a : Int)])).run Tryz.prog w = .ok (.bool (sameP r s)) w := by
  have h : ∀ d : Nat, (Op.equalIn (d + 3) 58 (.agg #[.int .u8 (r.r : Int), .int .u8 (r.g : Int), .int .u8 (r.b : Int), .int .u8 (r.a : Int)]) (.agg #[.int .u8 (s.r : Int), .int .u8 (s.g : Int), .int .u8 (s.b : Int), .int .u8 (s.a : Int)])).run Tryz.prog w = .ok (sameP r s) w := fun d => by
    simp [Op.equalIn, run_underlying Tryz.underlying58, run_underlying Tryz.underlying5, go_sem]
    unfold sameP
    by_cases h0 : r.r = s.r <;> by_cases h1 : r.g = s.g <;> by_cases h2 : r.b = s.b <;> by_cases h3 : r.a = s.a <;> simp [h0, h1, h2, h3] <;> omega
  simp only [binOp]
  simp [Op.equal, Op.maxDepth, h 9997]

theorem same_clamp (p : Px) : sameP p (clampP p) = okPx p := by
  rw [Bool.eq_iff_iff, same_iff, ← clamp_eq_iff]
  exact eq_comm

structure HeldC (w W : World) (k : Nat) (p : Px) : Prop where
  c0 : W.cell? ⟨k, 0, none⟩ = some (.int .u8 (p.r : Int))
  c1 : W.cell? ⟨k, 1, none⟩ = some (.int .u8 (p.g : Int))
  c2 : W.cell? ⟨k, 2, none⟩ = some (.int .u8 (p.b : Int))
  c3 : W.cell? ⟨k, 3, none⟩ = some (.int .u8 (p.a : Int))
  below : Below w.heap.size w W
  there : k < W.heap.size

theorem HeldC.step {w W w' : World} {k : Nat} {p : Px} (h : HeldC w W k p) (hb : Below W.heap.size W w') : HeldC w w' k p :=
  ⟨(hb.cell (p := ⟨k, 0, none⟩) h.there).trans h.c0, (hb.cell (p := ⟨k, 1, none⟩) h.there).trans h.c1, (hb.cell (p := ⟨k, 2, none⟩) h.there).trans h.c2, (hb.cell (p := ⟨k, 3, none⟩) h.there).trans h.c3,
    Below.next h.below hb, Nat.lt_of_lt_of_le h.there hb.size⟩
theorem HeldC.drew {w W : World} {k : Nat} {p : Px} (h : HeldC w W k p) : HeldC w W.drew k p := h.step (Below.refl _ _).drew
theorem HeldC.new (w : World) (p : Px) : HeldC w (w.alloc (.cells #[.int .u8 (p.r : Int), .int .u8 (p.g : Int), .int .u8 (p.b : Int), .int .u8 (p.a : Int)] 58)) w.heap.size p :=
  ⟨by simp [go_sem], by simp [go_sem], by simp [go_sem], by simp [go_sem], (Below.refl _ _).alloc (Nat.le_refl _) _, by rw [World.size_alloc]; exact Nat.lt_succ_self _⟩
theorem HeldC.cells {w W : World} {k : Nat} {p : Px} (h : HeldC w W k p) : W.cell? ⟨k, 0, none⟩ = some (.int .u8 (p.r : Int)) ∧ W.cell? ⟨k, 1, none⟩ = some (.int .u8 (p.g : Int)) ∧ W.cell? ⟨k, 2, none⟩ = some (.int .u8 (p.b : Int)) ∧ W.cell? ⟨k, 3, none⟩ = some (.int .u8 (p.a : Int)) := ⟨h.c0, h.c1, h.c2, h.c3⟩

set_option maxRecDepth 100000 in
set_option maxHeartbeats 2000000 in
theorem okpx_any (p : Px) (w : World) : Calls Tryz.prog 100 #[.agg #[.int .u8 (p.r : Int), .int .u8 (p.g : Int), .int .u8 (p.b : Int), .int .u8 (p.a : Int)]] w fun e w' => e = .returned (.bool (okPx p)) ∧ Below w.heap.size w w' := by
  have J := Lib.hid (HeldC.new w p).drew
  have C1 := fun W => Lib.hid (clamp_any p W)
  have hs := same_clamp p
  generalize okPx p = v at *
  generalize clampP p = q at *
  have HE : ∀ W, (binOp .eql 58 (.agg #[.int .u8 (p.r : Int), .int .u8 (p.g : Int), .int .u8 (p.b : Int), .int .u8 (p.a : Int)]) (.agg #[.int .u8 (q.r : Int), .int .u8 (q.g : Int), .int .u8 (q.b : Int), .int .u8 (q.a : Int)])).run Tryz.prog W = .ok (.bool v) W := fun W => by rw [eql_px, hs]
  clear hs
  go_enter Tryz.func100, Tryz.ntmps100
  go_wp2_with fail
  go_region_held3 (fun W => W.cell? ⟨w.heap.size, 0, none⟩ = some (.int .u8 (p.r : Int)) ∧ W.cell? ⟨w.heap.size, 1, none⟩ = some (.int .u8 (p.g : Int)) ∧ W.cell? ⟨w.heap.size, 2, none⟩ = some (.int .u8 (p.b : Int)) ∧ W.cell? ⟨w.heap.size, 3, none⟩ = some (.int .u8 (p.a : Int)))
    (first
      | go_keep
      | exact sk)
    (first
      | (go_at_call 113; (with_reducible refine (C1 _).out.mono ?_); rintro e w1 ⟨rfl, hb⟩; replace J := Lib.hid (J.out.step hb); (try clear sk); have sk := J.out.cells; clear hb)
      | fail)
  all_goals
    go_wp2_with fail
    go_ret
    exact ⟨rfl, J.out.below⟩

def AtP (W : World) (k : Nat) (p : Px) : Prop := Four W k (.int .u8 (p.r : Int)) (.int .u8 (p.g : Int)) (.int .u8 (p.b : Int)) (.int .u8 (p.a : Int))
def setP (W : World) (k : Nat) (p : Px) : World := set4 W k (.int .u8 (p.r : Int)) (.int .u8 (p.g : Int)) (.int .u8 (p.b : Int)) (.int .u8 (p.a : Int))

theorem AtP.cells {W : World} {k : Nat} {p : Px} (h : AtP W k p) : W.cell? ⟨k, 0, none⟩ = some (.int .u8 (p.r : Int)) ∧ W.cell? ⟨k, 1, none⟩ = some (.int .u8 (p.g : Int)) ∧ W.cell? ⟨k, 2, none⟩ = some (.int .u8 (p.b : Int)) ∧ W.cell? ⟨k, 3, none⟩ = some (.int .u8 (p.a : Int)) := ⟨h.1, h.2.1, h.2.2.1, h.2.2.2.1⟩
theorem AtP.keep {W w1 : World} {B k : Nat} {p : Px} (h : AtP W k p) (hb : Below B W w1) (hk : k < B) : AtP w1 k p := Four.keep h hb hk
theorem AtP.set {W : World} {k : Nat} {p : Px} (h : AtP W k p) (q : Px) : AtP (setP W k q) k q := Four.set h
theorem AtP.far {W : World} {k j : Nat} {p : Px} (h : AtP W k p) (q : Px) (hne : k ≠ j) : AtP (setP W j q) k p := Four.far h hne
theorem below_setP {B k : Nat} {w w1 : World} (h : Below B w w1) (hb : B ≤ k) (p : Px) : Below B w (setP w1 k p) := below_four h hb
theorem setP_size (W : World) (k : Nat) (p : Px) : (setP W k p).heap.size = W.heap.size := set4_size ..

structure HeldS (w W : World) (p : Px) (k : Nat) : Prop where
  at0 : AtP W w.heap.size p
  atk : W.cell? ⟨w.heap.size + 1, 0, none⟩ = some (.int .u8 (k : Int))
  at2 : AtP W (w.heap.size + 1 + 1) zeroPx
  below : Below w.heap.size w W
  there : w.heap.size + 1 + 1 < W.heap.size

theorem HeldS.step {w W w' : World} {p : Px} {k : Nat} (h : HeldS w W p k) (hb : Below W.heap.size W w') : HeldS w w' p k := by
  have ht := h.there
  exact ⟨h.at0.keep hb (by omega), (hb.cell (p := ⟨w.heap.size + 1, 0, none⟩) (show w.heap.size + 1 < W.heap.size by omega)).trans h.atk, h.at2.keep hb ht, Below.next h.below hb, Nat.lt_of_lt_of_le ht hb.size⟩
theorem HeldS.set {w W : World} {p : Px} {k : Nat} (h : HeldS w W p k) (q : Px) : HeldS w (setP W w.heap.size q) q k := by
  refine ⟨h.at0.set q, ?_, h.at2.far q (by omega), below_setP h.below (Nat.le_refl _) q, by rw [setP_size]; exact h.there⟩
  have hk := h.atk
  unfold setP set4
  simp [go_sem, hk]
theorem HeldS.new (w : World) (p : Px) (k : Nat) : HeldS w (((w.alloc (.cells #[.int .u8 (p.r : Int), .int .u8 (p.g : Int), .int .u8 (p.b : Int), .int .u8 (p.a : Int)] 58)).alloc (.cells #[.int .u8 (k : Int)] 5)).alloc (.cells #[.int .u8 (zeroPx.r : Int), .int .u8 (zeroPx.g : Int), .int .u8 (zeroPx.b : Int), .int .u8 (zeroPx.a : Int)] 58)) p k := by
  refine ⟨((Four.new w _ _ _ _ _).alloc (by simp) _).alloc (by simp; omega) _, by simp [go_sem], ?_, (((Below.refl _ _).alloc (Nat.le_refl _) _).alloc (by simp) _).alloc (by simp; omega) _, by simp⟩
  have := Four.new ((w.alloc (.cells #[.int .u8 (p.r : Int), .int .u8 (p.g : Int), .int .u8 (p.b : Int), .int .u8 (p.a : Int)] 58)).alloc (.cells #[.int .u8 (k : Int)] 5)) (.int .u8 (zeroPx.r : Int)) (.int .u8 (zeroPx.g : Int)) (.int .u8 (zeroPx.b : Int)) (.int .u8 (zeroPx.a : Int)) 58
  rwa [World.size_alloc, World.size_alloc] at this

theorem add_at (b off j : Nat) : (⟨b, off, none⟩ : Addr).add j = ⟨b, off + j, none⟩ := by unfold Addr.add; split <;> simp_all

def At4 (w : World) (b off j : Nat) (p : Px) : Prop :=
  w.cell? ⟨b, off + j * 4, none⟩ = some (.int .u8 (p.r : Int)) ∧ w.cell? ⟨b, off + j * 4 + 1, none⟩ = some (.int .u8 (p.g : Int)) ∧ w.cell? ⟨b, off + j * 4 + 2, none⟩ = some (.int .u8 (p.b : Int)) ∧ w.cell? ⟨b, off + j * 4 + 3, none⟩ = some (.int .u8 (p.a : Int))

theorem At4.keep {w w1 : World} {B b off j : Nat} {p : Px} (h : At4 w b off j p) (hb : Below B w w1) (hk : b < B) : At4 w1 b off j p :=
  ⟨(hb.cell (p := ⟨b, off + j * 4, none⟩) hk).trans h.1, (hb.cell (p := ⟨b, off + j * 4 + 1, none⟩) hk).trans h.2.1, (hb.cell (p := ⟨b, off + j * 4 + 2, none⟩) hk).trans h.2.2.1, (hb.cell (p := ⟨b, off + j * 4 + 3, none⟩) hk).trans h.2.2.2⟩

def Pxs (w : World) (v : Value) (l : List Px) : Prop :=
  ∃ (A : Option Addr) (cap : Nat), v = .slice A l.length cap ∧ l.length ≤ cap ∧ cap ≤ maxLen ∧
    (0 < l.length → ∃ b off, A = some ⟨b, off, none⟩ ∧ b < w.heap.size ∧ ∀ (j : Nat) (p : Px), l[j]? = some p → At4 w b off j p)

theorem Pxs.below {w w' : World} {v : Value} {l : List Px} (h : Pxs w v l) (hb : Below w.heap.size w w') : Pxs w' v l := by
  obtain ⟨A, cap, hv, h1, h2, h4⟩ := h
  refine ⟨A, cap, hv, h1, h2, fun hn => ?_⟩
  obtain ⟨b, off, hA, hlt, hc⟩ := h4 hn
  exact ⟨b, off, hA, Nat.lt_of_lt_of_le hlt hb.size, fun j t ht => (hc j t ht).keep hb hlt⟩

theorem pxs_nil (w : World) : Pxs w (.slice none 0 0) [] := ⟨none, 0, rfl, Nat.le_refl _, by simp [maxLen], fun h => by simp at h⟩

theorem Pxs.shape {w : World} {v : Value} {l : List Px} (h : Pxs w v l) : ∃ A cap, v = .slice A l.length cap ∧ l.length ≤ cap ∧ cap ≤ maxLen := by
  obtain ⟨A, cap, hv, h1, h2, _⟩ := h
  exact ⟨A, cap, hv, h1, h2⟩

set_option maxRecDepth 100000 in
theorem px_info : (Tryz.prog.info? 58).map (fun i => (i.zero, i.size, i.bytes)) = some (some (.agg #[.int .u8 0, .int .u8 0, .int .u8 0, .int .u8 0]), 4, 4) := by kernel_rfl

theorem info_parts {P : Program} {t : TypeId} {z : Option Value} {s b : Nat} (h : (P.info? t).map (fun i => (i.zero, i.size, i.bytes)) = some (z, s, b)) : ∃ i, P.info? t = some i ∧ i.zero = z ∧ i.size = s ∧ i.bytes = b := by
  cases he : P.info? t with
  | none => rw [he] at h; cases h
  | some i =>
    rw [he] at h
    simp only [Option.map_some, Option.some.injEq, Prod.mk.injEq] at h
    exact ⟨i, rfl, h.1, h.2.1, h.2.2⟩

def cells4 (p : Px) : List Value := [.int .u8 (p.r : Int), .int .u8 (p.g : Int), .int .u8 (p.b : Int), .int .u8 (p.a : Int)]
def flat (l : List Px) : List Value := l.flatMap cells4
theorem flat_append (l m : List Px) : flat (l ++ m) = flat l ++ flat m := List.flatMap_append
theorem flat_length (l : List Px) : (flat l).length = l.length * 4 := by
  induction l with
  | nil => rfl
  | cons p l ih => simp only [flat, List.flatMap_cons, List.length_append, List.length_cons] at ih ⊢; rw [ih]; simp [cells4]; omega

theorem flat_at : ∀ (l : List Px) (j : Nat) (p : Px), l[j]? = some p →
    (flat l)[j * 4]? = some (.int .u8 (p.r : Int)) ∧ (flat l)[j * 4 + 1]? = some (.int .u8 (p.g : Int)) ∧ (flat l)[j * 4 + 2]? = some (.int .u8 (p.b : Int)) ∧ (flat l)[j * 4 + 3]? = some (.int .u8 (p.a : Int))
  | [], j, r, h => by simp at h
  | q :: l, 0, r, h => by
    simp only [List.getElem?_cons_zero, Option.some.injEq] at h
    subst h
    exact ⟨rfl, rfl, rfl, rfl⟩
  | q :: l, j + 1, r, h => by
    rw [List.getElem?_cons_succ] at h
    have ih := flat_at l j r h
    have e : flat (q :: l) = cells4 q ++ flat l := rfl
    have el : (cells4 q).length = 4 := rfl
    rw [e, List.getElem?_append_right (by omega), List.getElem?_append_right (by omega), List.getElem?_append_right (by omega), List.getElem?_append_right (by omega), el, show (j + 1) * 4 - 4 = j * 4 by omega, show (j + 1) * 4 + 1 - 4 = j * 4 + 1 by omega, show (j + 1) * 4 + 2 - 4 = j * 4 + 2 by omega, show (j + 1) * 4 + 3 - 4 = j * 4 + 3 by omega]
    exact ih

theorem oneCell_flat (l : List Px) : ∀ u ∈ flat l, u.oneCell' = true := by
  intro u hu
  obtain ⟨p, hp, hc⟩ := List.mem_flatMap.1 hu
  simp only [cells4, List.mem_cons, List.not_mem_nil, or_false] at hc
  rcases hc with rfl | rfl | rfl | rfl <;> rfl

theorem flat_cells {w : World} {b off : Nat} {l : List Px} (h : ∀ (j : Nat) (p : Px), l[j]? = some p → At4 w b off j p) :
    ∀ j u, (flat l)[j]? = some u → w.cell? ((⟨b, off, none⟩ : Addr).add j) = some u := by
  intro j u hu
  have hj : j < l.length * 4 := by
    have := (List.getElem?_eq_some_iff.1 hu).1
    rwa [flat_length] at this
  obtain ⟨p, hp⟩ : ∃ p, l[j / 4]? = some p := ⟨_, List.getElem?_eq_getElem (by omega)⟩
  obtain ⟨e0, e1, e2, e3⟩ := flat_at l _ p hp
  obtain ⟨c0, c1, c2, c3⟩ := h _ p hp
  rw [add_at]
  rcases (by omega : j = j / 4 * 4 ∨ j = j / 4 * 4 + 1 ∨ j = j / 4 * 4 + 2 ∨ j = j / 4 * 4 + 3) with hh | hh | hh | hh
  · rw [hh, e0] at hu; rw [hh, c0, hu]
  · rw [hh, e1] at hu; rw [hh, ← Nat.add_assoc, c1, hu]
  · rw [hh, e2] at hu; rw [hh, ← Nat.add_assoc, c2, hu]
  · rw [hh, e3] at hu; rw [hh, ← Nat.add_assoc, c3, hu]

def OwnP (w : World) (base : Nat) (v : Value) (l : List Px) : Prop := w.ownsRow base 58 4 v l.length (flat l)

theorem ownP_nil (w : World) (base : Nat) : OwnP w base (.slice none 0 0) [] := World.ownsRow_nil w base 58 4

theorem OwnP.pxs {w : World} {base : Nat} {v : Value} {l : List Px} (h : OwnP w base v l) : Pxs w v l := by
  have hall := h
  obtain ⟨_, hc⟩ := h
  rcases hc with ⟨rfl, h0⟩ | ⟨g, cap, cur, rfl, _, hh, hn, hm, _⟩
  · have : l = [] := List.eq_nil_of_length_eq_zero h0
    subst this
    exact pxs_nil w
  · refine ⟨_, cap, rfl, hn, hm, fun _ => ⟨g, 0, rfl, ?_, fun j p hj => ?_⟩⟩
    · rcases Nat.lt_or_ge g w.heap.size with hl | hl
      · exact hl
      · rw [Array.getElem?_eq_none hl] at hh; cases hh
    · have hjl := (List.getElem?_eq_some_iff.1 hj).1
      obtain ⟨e0, e1, e2, e3⟩ := flat_at l j p hj
      unfold At4
      rw [Nat.zero_add, hall.cellAt (j * 4) (by omega), hall.cellAt (j * 4 + 1) (by omega), hall.cellAt (j * 4 + 2) (by omega), hall.cellAt (j * 4 + 3) (by omega)]
      exact ⟨e0, e1, e2, e3⟩

theorem pxs_one (w : World) (p : Px) : Pxs (w.alloc (.cells #[.int .u8 (p.r : Int), .int .u8 (p.g : Int), .int .u8 (p.b : Int), .int .u8 (p.a : Int)] 58)) (.slice (some ⟨w.heap.size, 0, none⟩) 1 1) [p] := by
  refine ⟨_, 1, rfl, Nat.le_refl _, by simp [maxLen], fun _ => ⟨w.heap.size, 0, rfl, by rw [World.size_alloc]; exact Nat.lt_succ_self _, fun j t ht => ?_⟩⟩
  match j with
  | 0 =>
    obtain rfl : p = t := by simpa using ht
    unfold At4
    simp [go_sem]
  | j + 1 => simp at ht

theorem append_nil_run {P : Program} {w : World} {base : Nat} {t ty e : TypeId} {i : TypeInfo} {size : Nat} (ht : P.underlying t = some (.slice e)) (hi : P.info? e = some i)
    {v : Value} {n : Nat} {xs : List Value} (hown : w.ownsRow base e size v n xs) (c : Nat) : (Builtin.append_ #[t, t] ty #[v, .slice none 0 c]).run P w = .ok v w := by
  rcases hown.2 with ⟨rfl, rfl⟩ | ⟨g, cap, cur, rfl, _, _, hnc, _⟩
  · simp [Builtin.append_, run_underlying ht, sizeOf, typeInfo, hi, Builtin.lenOf, Builtin.firstCells]
  · simp [Builtin.append_, run_underlying ht, sizeOf, typeInfo, hi, Builtin.lenOf, Builtin.firstCells, hnc, storeCells]

set_option maxRecDepth 100000 in
theorem appendP_run {w : World} {base : Nat} {v : Value} {l m : List Px} (hown : OwnP w base v l) {A : Option Addr} {k c : Nat} (hsee : Pxs w (.slice A k c) m) (hb : l.length + m.length ≤ 4000000) (hbase : base ≤ w.heap.size) (ty : TypeId) :
    ∃ v' w', (Builtin.append_ #[40, 40] ty #[v, .slice A k c]).run Tryz.prog w = .ok v' w' ∧ OwnP w' base v' (l ++ m) ∧ w.grownBy w' v.ownBlock ∧ (v'.ownBlock = v.ownBlock ∨ v'.ownBlock = some w.heap.size) := by
  obtain ⟨i, hi, hz, hsz, hby⟩ := info_parts px_info
  obtain ⟨A', c', hv, hc1, hc2, hcells⟩ := hsee
  obtain ⟨e1, e2, e3⟩ := Value.slice.inj hv
  subst e1 e2 e3
  by_cases h0 : m.length = 0
  · have : m = [] := List.eq_nil_of_length_eq_zero h0
    subst this
    cases A with
    | none =>
      have hn := append_nil_run (ty := ty) Tryz.underlying40 hi hown c
      exact ⟨v, w, hn, by rw [List.append_nil]; exact hown, World.grownBy.refl w _, .inl rfl⟩
    | some a =>
      obtain ⟨v', w', hrun, h2, h3, h4, h5⟩ := run_append_own_at (P := Tryz.prog) w base 40 ty 58 i _ 4 4 Tryz.underlying40 hi hz hsz hby rfl (by decide) v l.length (flat l) hown a 0 c [] rfl (by simp) (by simp) (by simp only [maxLen]; simp at hb; omega) (by simp at hb ⊢; omega) hbase
      exact ⟨v', w', hrun, by unfold OwnP; simpa using h2, h3, h5⟩
  · obtain ⟨b, off, rfl, _, hc⟩ := hcells (by omega)
    obtain ⟨v', w', hrun, h2, h3, h4, h5⟩ := run_append_own_at (P := Tryz.prog) w base 40 ty 58 i _ 4 4 Tryz.underlying40 hi hz hsz hby rfl (by decide) v l.length (flat l) hown ⟨b, off, none⟩ m.length c (flat m) (flat_length m) (flat_cells hc) (oneCell_flat m) (by simp only [maxLen]; omega) (by omega) hbase
    exact ⟨v', w', hrun, by unfold OwnP; rw [flat_append, List.length_append]; exact h2, h3, h5⟩

theorem OwnP.alloc {w : World} {base : Nat} {v : Value} {l : List Px} (h : OwnP w base v l) (o : Obj) : OwnP (w.alloc o) base v l := World.ownsRow.alloc h o
theorem OwnP.below {w w' : World} {base : Nat} {v : Value} {l : List Px} (h : OwnP w base v l) (hb : Below w.heap.size w w') : OwnP w' base v l :=
  World.ownsRow.kept (row := none) h (grown_below hb none) (by cases v.ownBlock <;> simp)
theorem OwnP.block {w : World} {base : Nat} {v : Value} {l : List Px} (h : OwnP w base v l) : ∀ k, v.ownBlock = some k → base ≤ k ∧ k < w.heap.size := World.ownsRow.lt h

def RowP (w : World) (g : Nat) (l : List Px) : Prop := (∀ (j : Nat) (p : Px), l[j]? = some p → At4 w g 0 j p) ∧ (∀ i, w.frozen? ⟨g, i, none⟩ = false) ∧ g < w.heap.size

theorem RowP.keep {w w1 : World} {B g : Nat} {l : List Px} (h : RowP w g l) (hb : Below B w w1) (hk : g < B) : RowP w1 g l :=
  ⟨fun j p hj => (h.1 j p hj).keep hb hk, fun i => (hb.frozen (p := ⟨g, i, none⟩) hk).trans (h.2.1 i), Nat.lt_of_lt_of_le h.2.2 hb.size⟩

theorem RowP.step {w w1 : World} {g : Nat} {l : List Px} (h : RowP w g l) (hb : Below w.heap.size w w1) : RowP w1 g l := h.keep hb h.2.2

theorem RowP.grown {w w1 : World} {g k : Nat} {l : List Px} (h : RowP w g l) (hg : w.grownBy w1 (some k)) (hne : g ≠ k) : RowP w1 g l := by
  have hb := hg.block g h.2.2 (fun e => hne (Option.some.inj e))
  have hc : ∀ i, w1.cell? ⟨g, i, none⟩ = w.cell? ⟨g, i, none⟩ := fun i => World.cell?_of_block (a := ⟨g, i, none⟩) hb
  refine ⟨fun j p hj => ?_, fun i => (World.frozen?_of_block (a := ⟨g, i, none⟩) hb).trans (h.2.1 i), Nat.lt_of_lt_of_le h.2.2 hg.size⟩
  obtain ⟨a0, a1, a2, a3⟩ := h.1 j p hj
  exact ⟨(hc _).trans a0, (hc _).trans a1, (hc _).trans a2, (hc _).trans a3⟩

theorem RowP.pxs {w : World} {g : Nat} {l : List Px} (h : RowP w g l) {c : Nat} (hc : l.length ≤ c) (hm : c ≤ maxLen) : Pxs w (.slice (some ⟨g, 0, none⟩) l.length c) l :=
  ⟨_, _, rfl, hc, hm, fun _ => ⟨g, 0, rfl, h.2.2, fun j p hj => h.1 j p hj⟩⟩

theorem OwnP.rowP {w : World} {base : Nat} {v : Value} {l : List Px} (h : OwnP w base v l) (hn : 0 < l.length) :
    ∃ g c, v = .slice (some ⟨g, 0, none⟩) l.length c ∧ l.length ≤ c ∧ c ≤ maxLen ∧ base ≤ g ∧ RowP w g l := by
  have hp := h.pxs
  have hall := h
  obtain ⟨_, hc⟩ := h
  rcases hc with ⟨rfl, h0⟩ | ⟨g, cap, cur, rfl, hb, hh, hnc, hm, _⟩
  · omega
  · refine ⟨g, cap, rfl, hnc, hm, hb, ?_, fun i => hall.frozenAt i, ?_⟩
    · obtain ⟨A, c, hv, _, _, hcell⟩ := hp
      injection hv with e1 e2 e3
      subst e1
      obtain ⟨b, off, e, _, hcs⟩ := hcell hn
      injection e with e
      injection e with e0 e1
      subst e0 e1
      exact hcs
    · rcases Nat.lt_or_ge g w.heap.size with hl | hl
      · exact hl
      · rw [Array.getElem?_eq_none hl] at hh; cases hh

def putP (w : World) (g off j : Nat) (p : Px) : World :=
  (((w.setCell ⟨g, off + j * 4, none⟩ (.int .u8 (p.r : Int))).setCell ⟨g, off + j * 4 + 1, none⟩ (.int .u8 (p.g : Int))).setCell ⟨g, off + j * 4 + 2, none⟩ (.int .u8 (p.b : Int))).setCell ⟨g, off + j * 4 + 3, none⟩ (.int .u8 (p.a : Int))

theorem putP_size (w : World) (g off j : Nat) (p : Px) : (putP w g off j p).heap.size = w.heap.size := by simp [putP]

theorem grown_setCell {w w1 : World} {g : Nat} (h : w.grownBy w1 (some g)) (i : Nat) (v : Value) : w.grownBy (w1.setCell ⟨g, i, none⟩ v) (some g) :=
  h.trans ⟨rfl, rfl, rfl, by simp, fun k _ hne => Below.heap_setCell _ _ _ _ (fun e => hne (by rw [e]))⟩

theorem grown_putP (w : World) (g off j : Nat) (p : Px) : w.grownBy (putP w g off j p) (some g) :=
  grown_setCell (grown_setCell (grown_setCell (grown_setCell (World.grownBy.refl w _) _ _) _ _) _ _) _ _

theorem RowP.put {w : World} {g : Nat} {l : List Px} (h : RowP w g l) {o j : Nat} (hj : o + j < l.length) (p : Px) : RowP (putP w g (o * 4) j p) g (l.set (o + j) p) := by
  refine ⟨fun k q hk => ?_, fun i => ?_, by rw [putP_size]; exact h.2.2⟩
  · obtain ⟨m, hm⟩ : ∃ m, l[o + j]? = some m := ⟨_, List.getElem?_eq_getElem hj⟩
    have e4 : o * 4 + j * 4 = (o + j) * 4 := by omega
    obtain ⟨a0, a1, a2, a3⟩ := h.1 (o + j) m hm
    rw [Nat.zero_add] at a0 a1 a2 a3
    unfold At4 putP
    rw [Nat.zero_add, e4]
    generalize o + j = J at *
    by_cases e : k = J
    · subst e
      rw [List.getElem?_set_self hj] at hk
      simp only [Option.some.injEq] at hk
      subst hk
      simp [go_sem, a0, a1, a2, a3]
    · rw [List.getElem?_set_ne (by omega)] at hk
      obtain ⟨b0, b1, b2, b3⟩ := h.1 k q hk
      rw [Nat.zero_add] at b0 b1 b2 b3
      have n0 : k * 4 ≠ J * 4 := by omega
      have n1 : k * 4 ≠ J * 4 + 1 := by omega
      have n2 : k * 4 ≠ J * 4 + 2 := by omega
      have n3 : k * 4 ≠ J * 4 + 3 := by omega
      have m0 : k * 4 + 1 ≠ J * 4 := by omega
      have m2 : k * 4 + 1 ≠ J * 4 + 2 := by omega
      have m3 : k * 4 + 1 ≠ J * 4 + 3 := by omega
      have u0 : k * 4 + 2 ≠ J * 4 := by omega
      have u1 : k * 4 + 2 ≠ J * 4 + 1 := by omega
      have u3 : k * 4 + 2 ≠ J * 4 + 3 := by omega
      have v0 : k * 4 + 3 ≠ J * 4 := by omega
      have v1 : k * 4 + 3 ≠ J * 4 + 1 := by omega
      have v2 : k * 4 + 3 ≠ J * 4 + 2 := by omega
      simp [go_sem, b0, b1, b2, b3]
  · unfold putP
    simp [go_sem, h.2.1]


def zerosP (n : Nat) : Array Value := madeCells #[.int .u8 0, .int .u8 0, .int .u8 0, .int .u8 0] (n * 4)

set_option maxRecDepth 100000 in
theorem make_run (m n : Nat) (hm : m ≤ n) (hn : n ≤ 65536) (w : World) : (Instr.makeSlice 40 (.int .i64 (m : Int)) (.int .i64 (n : Int))).run Tryz.prog w = .ok (.slice (some ⟨w.heap.size, 0, none⟩) m n) (w.alloc (.cells (zerosP n) 58)) := by
  obtain ⟨i, hi, hz, hs, hb⟩ := info_parts px_info
  have hr := run_make (P := Tryz.prog) w 40 58 i _ Tryz.underlying40 hi hz .i64 .i64 m n (by omega) (by omega) (by rw [hb]; omega) (by omega)
  rw [hs, Int.toNat_natCast, Int.toNat_natCast] at hr
  exact hr

set_option maxRecDepth 100000 in
theorem make_px (n : Nat) (hn : n ≤ 65536) (w : World) : (Instr.makeSlice 40 (.int .i64 (n : Int)) (.int .i64 (n : Int))).run Tryz.prog w = .ok (.slice (some ⟨w.heap.size, 0, none⟩) n n) (w.alloc (.cells (zerosP n) 58)) := make_run n n (Nat.le_refl _) hn w
set_option maxRecDepth 100000 in
theorem make_px0 (n : Nat) (hn : n ≤ 65536) (w : World) : (Instr.makeSlice 40 (.int .i64 0) (.int .i64 (n : Int))).run Tryz.prog w = .ok (.slice (some ⟨w.heap.size, 0, none⟩) 0 n) (w.alloc (.cells (zerosP n) 58)) := make_run 0 n (Nat.zero_le _) hn w

theorem zerosP_at (n j : Nat) (hj : j < n * 4) : (zerosP n)[j]? = some (.int .u8 0) := by
  unfold zerosP madeCells
  have hm : j % 4 < 4 := Nat.mod_lt _ (by omega)
  rw [Array.getElem?_map]
  simp only [Array.getElem?_range, hj, if_true, Option.map_some, Option.some.injEq]
  have : j % 4 = 0 ∨ j % 4 = 1 ∨ j % 4 = 2 ∨ j % 4 = 3 := by omega
  rcases this with e | e | e | e <;> simp [e]

theorem RowP.new (w : World) (n : Nat) : RowP (w.alloc (.cells (zerosP n) 58)) w.heap.size (List.replicate n zeroPx) := by
  refine ⟨fun j p hj => ?_, fun i => by simp [go_sem], by rw [World.size_alloc]; exact Nat.lt_succ_self _⟩
  obtain ⟨hjn, hp⟩ := List.getElem?_eq_some_iff.1 hj
  rw [List.getElem_replicate] at hp
  subst hp
  rw [List.length_replicate] at hjn
  unfold At4
  rw [Nat.zero_add]
  simp only [zeroPx]
  refine ⟨?_, ?_, ?_, ?_⟩ <;> (simp [go_sem]; exact zerosP_at _ _ (by omega))

theorem ownP_made (w : World) (n : Nat) (hn : n ≤ 65536) {base : Nat} (hb : base ≤ w.heap.size) : OwnP (w.alloc (.cells (zerosP n) 58)) base (.slice (some ⟨w.heap.size, 0, none⟩) 0 n) [] :=
  World.ownsRow_made w (zerosP n) n hb (by simp only [maxLen]; omega) (by unfold zerosP; rw [size_madeCells])


theorem RowP.some {w : World} {g : Nat} {l : List Px} (h : RowP w g l) {k : Nat} (hk : k < l.length * 4) : (w.cell? ⟨g, k, none⟩).isSome = true := by
  obtain ⟨p, hp⟩ : ∃ p, l[k / 4]? = Option.some p := ⟨_, List.getElem?_eq_getElem (by omega)⟩
  obtain ⟨a0, a1, a2, a3⟩ := h.1 _ p hp
  rw [Nat.zero_add] at a0 a1 a2 a3
  rcases (by omega : k = k / 4 * 4 ∨ k = k / 4 * 4 + 1 ∨ k = k / 4 * 4 + 2 ∨ k = k / 4 * 4 + 3) with e | e | e | e
  · rw [e, a0]; rfl
  · rw [e, a1]; rfl
  · rw [e, a2]; rfl
  · rw [e, a3]; rfl

end Go.Proofs.YthedglfocjljjaaGreatDoor
