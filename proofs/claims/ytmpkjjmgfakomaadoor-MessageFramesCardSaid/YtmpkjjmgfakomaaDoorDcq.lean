/-
  The state of Decode's loop: with two boxes that may or may not have been made.
-/
import Derived.Test.YtmpkjjmgfakomaaDoorAgn
namespace Go.Proofs.YtmpkjjmgfakomaaDoor
open Go.RowKit Mem Wire

def DQ (w W : World) (x y : Option (Nat × List Value)) (bx : List (Nat × List Value)) (ss : List (Value × List UInt8)) (v : Value) (l : List AgV) : Prop := DS w W (x.toList ++ (y.toList ++ bx)) ss v l
section
variable {w W W' : World} {x y : Option (Nat × List Value)} {bx : List (Nat × List Value)} {ss : List (Value × List UInt8)} {v : Value} {l : List AgV}
theorem DQ.rest (h : DQ w W x y bx ss v l) : DS w W bx ss v l := DS.sub h ((List.sublist_append_right _ _).trans (List.sublist_append_right _ _))
theorem DQ.step (h : DQ w W x y bx ss v l) (hb : Below W.heap.size W W') : DQ w W' x y bx ss v l := DS.step h hb
theorem DQ.drew (h : DQ w W x y bx ss v l) : DQ w W.drew x y bx ss v l := DS.drew h
theorem DQ.seen (h : DQ w W x y bx ss v l) {s2 : List (Value × List UInt8)} (hs : ∀ q ∈ s2, Sees W q.1 q.2) : DQ w W x y bx s2 v l := DS.seen h hs
theorem DQ.newX (h : DQ w W none y bx ss v l) (vs : List Value) (t : TypeId) : DQ w (W.alloc (.cells vs.toArray t)) (some (W.heap.size, vs)) y bx ss v l := DS.alloc h vs t
theorem DQ.newY (h : DQ w W x none bx ss v l) (vs : List Value) (t : TypeId) : DQ w (W.alloc (.cells vs.toArray t)) x (some (W.heap.size, vs)) bx ss v l := by
  cases x with
  | none => exact DS.alloc h vs t
  | some p => exact (DS.alloc h vs t).perm (List.Perm.swap _ _ _)
theorem DQ.setX {M : Nat} {a0 a1 : Value} (h : DQ w W (some (M, [a0, a1])) y bx ss v l) (h0 : nbC a0) (h1 : nbC a1) (y0 y1 : Value) :
    DQ w ((W.setCell ⟨M, 0, none⟩ y0).setCell ⟨M, 1, none⟩ y1) (some (M, [y0, y1])) y bx ss v l :=
  ((show DS w W ([] ++ (M, [a0, a1]) :: (y.toList ++ bx)) ss v l from h).cell (i := 0) rfl h0 y0).cell (i := 1) rfl h1 y1
theorem DQ.setY {N : Nat} {a0 a1 a2 a3 : Value} (h : DQ w W x (some (N, [a0, a1, a2, a3])) bx ss v l) (h0 : nbC a0) (h1 : nbC a1) (h2 : nbC a2) (h3 : nbC a3) (y0 y1 y2 y3 : Value) :
    DQ w ((((W.setCell ⟨N, 0, none⟩ y0).setCell ⟨N, 1, none⟩ y1).setCell ⟨N, 2, none⟩ y2).setCell ⟨N, 3, none⟩ y3) x (some (N, [y0, y1, y2, y3])) bx ss v l :=
  ((((show DS w W (x.toList ++ (N, [a0, a1, a2, a3]) :: bx) ss v l from h).cell (i := 0) rfl h0 y0).cell (i := 1) rfl h1 y1).cell (i := 2) rfl h2 y2).cell (i := 3) rfl h3 y3
theorem DQ.cX {M : Nat} {a0 a1 : Value} (h : DQ w W (some (M, [a0, a1])) y bx ss v l) : W.cell? ⟨M, 0, none⟩ = some a0 ∧ W.cell? ⟨M, 1, none⟩ = some a1 ∧ (∀ i, W.frozen? ⟨M, i, none⟩ = false) ∧ M < W.heap.size :=
  (show Held w W ([] ++ (M, [a0, a1]) :: (y.toList ++ bx)) from DS.held h).two
theorem DQ.cY {N : Nat} {a0 a1 a2 a3 : Value} (h : DQ w W x (some (N, [a0, a1, a2, a3])) bx ss v l) : W.cell? ⟨N, 0, none⟩ = some a0 ∧ W.cell? ⟨N, 1, none⟩ = some a1 ∧ W.cell? ⟨N, 2, none⟩ = some a2 ∧ W.cell? ⟨N, 3, none⟩ = some a3 ∧ (∀ i, W.frozen? ⟨N, i, none⟩ = false) ∧ N < W.heap.size :=
  (show Held w W (x.toList ++ (N, [a0, a1, a2, a3]) :: bx) from DS.held h).four
end

theorem zero_nb1 : nbC (.slice none 0 0) := sli_nb _ _ _

end Go.Proofs.YtmpkjjmgfakomaaDoor
