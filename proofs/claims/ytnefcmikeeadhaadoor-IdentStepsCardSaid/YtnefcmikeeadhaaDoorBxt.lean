/-
  The program's table beside the reference's, which lies in a box.
-/
import Derived.Test.YtnefcmikeeadhaaDoorRws
import Derived.Test.YtnefcmikeeadhaaDoorStp
import Derived.Test.YtnefcmikeeadhaaDoorOps
namespace Go.Proofs.YtnefcmikeeadhaaDoor
open Go.RowKit

theorem grown_cell (W : World) (b i : Nat) (u : Value) : W.grownBy (W.setCell ⟨b, i, none⟩ u) (some b) := ⟨rfl, rfl, rfl, by rw [World.size_setCell]; exact Nat.le_refl _, fun k _ h => heap_set (a := ⟨b, i, none⟩) (fun e => h (by rw [e])) u⟩
theorem grown_set4 (W : World) (b : Nat) (x0 x1 x2 x3 : Value) : W.grownBy (set4 W b x0 x1 x2 x3) (some b) :=
  (((grown_cell W b 0 x0).trans (grown_cell _ b 1 x1)).trans (grown_cell _ b 2 x2)).trans (grown_cell _ b 3 x3)

theorem TabP.box {base : Nat} {w w' : World} {v : Value} {t : Tb} {c : Nat} (h : TabP base w v t c) {b : Nat} (hg : w.grownBy w' (some b)) {e : TypeId} (hb : TyAt w b e) (he : e ≠ 55) (he2 : e ≠ 64) (hbase : base ≤ b) : TabP base w' v t c := by
  obtain ⟨k, bl, br, V, L, g, rfl, h1, h2, h3, h4⟩ := h
  refine ⟨k, bl, br, V, L, g, rfl, ?_, h2, h3, h4⟩
  have hk := h1.set.ty.lt
  have hkb : k ≠ b := fun q => he (hb.one (q ▸ h1.set.ty))
  have hkk : some k ≠ some b := fun q => hkb (Option.some.inj q)
  have hc := fun i => World.cell?_of_block (a := ⟨k, i, none⟩) (hg.block k hk hkk)
  have hl : some bl ≠ some b := fun q => not_map h1.ml (Option.some.inj q ▸ hb)
  have hr : some br ≠ some b := fun q => not_map h1.mr (Option.some.inj q ▸ hb)
  have h0 : some 0 ≠ some b := fun q => by
    have := Option.some.inj q
    have := h1.b0
    omega
  exact ⟨h1.set.grown hg hkb (fun q => he2 (hb.one q)), (hc 0).trans h1.c0, (hc 1).trans h1.c1, (hc 2).trans h1.c2, (hc 3).trans h1.c3, (hc 4).trans h1.c4, (hc 11).trans h1.c11, h1.ml.grown hg hl, h1.mr.grown hg hr, h1.ne, h1.bl0, h1.br0, Nat.le_trans h1.bs hg.size, h1.b0, h1.tab.block hg.size (hg.block 0 h1.tab.1 h0)⟩

/-- the box of the reference's table -/
structure BoxT (W : World) (b : Nat) (x0 x1 x2 x3 : Value) : Prop where
  ty : TyAt W b 29
  cells : W.cell? ⟨b, 0, none⟩ = some x0 ∧ W.cell? ⟨b, 1, none⟩ = some x1 ∧ W.cell? ⟨b, 2, none⟩ = some x2 ∧ W.cell? ⟨b, 3, none⟩ = some x3
  free : ∀ i, W.frozen? ⟨b, i, none⟩ = false

section
variable {W W' : World} {b : Nat} {x0 x1 x2 x3 : Value}

theorem BoxT.same (h : BoxT W b x0 x1 x2 x3) (hb : W'.heap[b]? = W.heap[b]?) : BoxT W' b x0 x1 x2 x3 :=
  ⟨h.ty.same hb, ⟨(World.cell?_of_block (a := ⟨b, 0, none⟩) hb).trans h.cells.1, (World.cell?_of_block (a := ⟨b, 1, none⟩) hb).trans h.cells.2.1, (World.cell?_of_block (a := ⟨b, 2, none⟩) hb).trans h.cells.2.2.1, (World.cell?_of_block (a := ⟨b, 3, none⟩) hb).trans h.cells.2.2.2⟩,
    fun i => (World.frozen?_of_block (a := ⟨b, i, none⟩) hb).trans (h.free i)⟩
theorem BoxT.below (h : BoxT W b x0 x1 x2 x3) (hb : Below W.heap.size W W') : BoxT W' b x0 x1 x2 x3 := h.same (hb.block b h.ty.lt)
theorem BoxT.turn {base : Nat} (h : BoxT W b x0 x1 x2 x3) (hT : Turn base W W') : BoxT W' b x0 x1 x2 x3 := h.same (hT.oth b 29 h.ty (by decide) (by decide))
theorem BoxT.set (h : BoxT W b x0 x1 x2 x3) (y0 y1 y2 y3 : Value) : BoxT (set4 W b y0 y1 y2 y3) b y0 y1 y2 y3 := by
  obtain ⟨h0, h1, h2, h3, h4⟩ := Four.set (y0 := y0) (y1 := y1) (y2 := y2) (y3 := y3) (show Four W b x0 x1 x2 x3 from ⟨h.cells.1, h.cells.2.1, h.cells.2.2.1, h.cells.2.2.2, h.free⟩)
  exact ⟨h.ty.set4 b y0 y1 y2 y3, ⟨h0, h1, h2, h3⟩, h4⟩
theorem BoxT.new (w : World) (x0 x1 x2 x3 : Value) : BoxT (w.alloc (.cells #[x0, x1, x2, x3] 29)) w.heap.size x0 x1 x2 x3 := by
  obtain ⟨h0, h1, h2, h3, h4⟩ := Four.new w x0 x1 x2 x3 29
  exact ⟨TyAt.made w _ 29, ⟨h0, h1, h2, h3⟩, h4⟩

end

/-- the two tables side by side, behind c calls -/
structure Side (w : World) (v : Value) (b : Nat) (x0 x1 x2 x3 : Value) (t : Tb) (c : Nat) (W : World) : Prop where
  tab : TabP w.heap.size W v t c
  box : BoxT W b x0 x1 x2 x3
  ref : Tabs W (.agg #[x0, x1, x2, x3]) t
  own : w.heap.size ≤ b
  below : Below w.heap.size w W

section
variable {w W W' : World} {v : Value} {b : Nat} {x0 x1 x2 x3 y0 y1 y2 y3 : Value} {t t' : Tb} {c c' : Nat}

theorem Side.step (h : Side w v b x0 x1 x2 x3 t c W) (hb : Below W.heap.size W W') : Side w v b x0 x1 x2 x3 t c W' := ⟨h.tab.below hb, h.box.below hb, h.ref.below hb, h.own, Below.next h.below hb⟩

/-- the reference's new table stored into the box -/
theorem Side.store (h : Side w v b x0 x1 x2 x3 t c W) (hP : TabP w.heap.size W v t' c') (hU : Tabs W (.agg #[y0, y1, y2, y3]) t') : Side w v b y0 y1 y2 y3 t' c' (set4 W b y0 y1 y2 y3) :=
  ⟨hP.box (grown_set4 W b y0 y1 y2 y3) h.box.ty (by decide) (by decide) h.own, h.box.set y0 y1 y2 y3, (hU.set4 h.box.ty (by decide) y0 y1 y2 y3).1, h.own, below_set4 h.below h.own⟩

end

end Go.Proofs.YtnefcmikeeadhaaDoor
