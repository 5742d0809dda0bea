/-
  Clone of package slices at pixels, clone of the laws: rows of one's own with the pixels of a slice.
-/
import Derived.Test.YtnkbejbpkjkgeaaLine
import Derived.Deep.RegionLaw
namespace Go.Proofs.Ytnkbejbpkjkgeaa
open Go.RowKit

/-- the value is a row of one's own, made since w, with the pixels l -/
def RowOf (w w' : World) (v : Value) (l : List Px) : Prop := ∃ g c, v = .slice (some ⟨g, 0, none⟩) l.length c ∧ l.length ≤ c ∧ c ≤ maxLen ∧ w.heap.size ≤ g ∧ RowP w' g l

theorem RowOf.pxs {w w' : World} {v : Value} {l : List Px} (h : RowOf w w' v l) : Pxs w' v l := by
  obtain ⟨g, c, rfl, h1, h2, _, h3⟩ := h
  exact h3.pxs h1 h2

theorem ownP_empty (w : World) {base : Nat} (hb : base ≤ w.heap.size) : OwnP (w.alloc (.cells #[] 43)) base (.slice (some ⟨w.heap.size, 0, none⟩) 0 0) [] :=
  World.ownsRow_made w #[] 0 hb (Nat.zero_le _) rfl

theorem eql_nil (a : Addr) (n c : Nat) (w : World) : (binOp .eql 22 (.slice (some a) n c) (.slice none 0 0)).run Try.prog w = .ok (.bool false) w := by
  have h : ∀ d : Nat, (Op.equalIn (d + 3) 22 (.slice (some a) n c) (.slice none 0 0)).run Try.prog w = .ok false w := fun d => by
    simp [Op.equalIn, run_underlying Try.underlying22, go_sem]
  simp only [binOp]
  simp [Op.equal, Op.maxDepth, h 9997]

/-- append onto a row of one's own, as one step of a region that draws its order -/
theorem step_appP {ops : Array Oper} {o : Oper} {a : Act} {w : World} {K : Act → World → Prop} {Q : Exit → Act → World → Prop} {E : Prop} (hgd : o.guard = none) (s x : Operand)
    (ho : o.op = .call { callee := .builtin .append, args := #[s, x], argTypes := #[22, 22] })
    {base : Nat} {v : Value} {l m : List Px} (hs : a.eval s = v) (hown : OwnP w base v l) {A : Option Addr} {k c : Nat} (hx : a.eval x = .slice A k c) (hsee : Pxs w (.slice A k c) m)
    (hb : l.length + m.length ≤ 4000000) (hbase : base ≤ w.heap.size)
    (h : ∀ v' w', OwnP w' base v' (l ++ m) → w.grownBy w' v.ownBlock → (v'.ownBlock = v.ownBlock ∨ v'.ownBlock = some w.heap.size) → K (a.put o.dst v') w') :
    if Region.wanted o (yielded ops a.tmps) = true then Oper.wp Try.prog o a w K Q else E := by
  have hw : Region.wanted o (yielded ops a.tmps) = true := by simp [Region.wanted, hgd]
  rw [if_pos hw]
  obtain ⟨v', w', hrun, h2, h3, h4⟩ := appendP_run hown hsee hb hbase o.type
  unfold Oper.wp execOp
  simp only [ho, resolve, invoke, builtin, Sem.run_bind, Sem.run_pure, Result.andThen_ok, List.map_toArray, List.map_cons, List.map_nil, hs, hx, hrun]
  exact h v' w' h2 h3 h4

theorem Pxs.len {w : World} {A : Option Addr} {n c : Nat} {l : List Px} (h : Pxs w (.slice A n c) l) : n = l.length := by
  obtain ⟨A', c', hv, _⟩ := h
  injection hv

/-- a box below the row's base written -/
theorem OwnP.set3 {w : World} {base : Nat} {v : Value} {l : List Px} (h : OwnP w base v l) {k : Nat} (hk : k < base) (y0 y1 y2 : Value) : OwnP (set3 w k y0 y1 y2) base v l :=
  ownsRow_setCell_below (ownsRow_setCell_below (ownsRow_setCell_below h (a := ⟨k, 0, none⟩) hk y0) (a := ⟨k, 1, none⟩) hk y1) (a := ⟨k, 2, none⟩) hk y2

theorem Held.three {w W : World} {l1 l2 : List (Nat × List Value)} {k : Nat} {x0 x1 x2 : Value} (h : Held w W (l1 ++ (k, [x0, x1, x2]) :: l2)) : W.cell? ⟨k, 0, none⟩ = some x0 ∧ W.cell? ⟨k, 1, none⟩ = some x1 ∧ W.cell? ⟨k, 2, none⟩ = some x2 := by
  obtain ⟨a0, a1, a2, _, _⟩ := h.tri
  exact ⟨a0, a1, a2⟩

/-- a buffer's value with these pixels, nothing that was there has turned -/
def GivesB (a b : Int) (l : List Px) (w : World) (e : Ending) (w' : World) : Prop := ∃ v, e = .returned (.agg #[.int .i64 a, .int .i64 b, v]) ∧ Pxs w' v l ∧ Below w.heap.size w w'

end Go.Proofs.Ytnkbejbpkjkgeaa
