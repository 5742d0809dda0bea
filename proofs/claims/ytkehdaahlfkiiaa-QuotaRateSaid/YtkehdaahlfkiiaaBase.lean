/-
  Four cells at the head of a block, what keeps them, and other words of memory (from the seats of rect and pixel).
-/
import Derived.Test.YtkehdaahlfkiiaaRows
import Derived.Test.YtkehdaahlfkiiaaArit
import Derived.Test.YtkehdaahlfkiiaaPure
import Derived.WalkKit
import Derived.WalkSpells
import Derived.IntWalk
import Derived.Lib.MinMax
import Derived.Lib.Hide
import Derived.Deep.QuietTactic
import Derived.BigQuiet
import Derived.Deep.RegionHeld3
import Derived.Deep.RegionWith
import Derived.Deep.CutRange
import Derived.StillTailTactics
namespace Go.Proofs.Ytkehdaahlfkiiaa
open Go.RowKit

theorem bcell {W w1 : World} (hb : Below W.heap.size W w1) : (∀ b o, b < W.heap.size → w1.cell? ⟨b, o, none⟩ = W.cell? ⟨b, o, none⟩) ∧ (∀ b o, b < W.heap.size → w1.frozen? ⟨b, o, none⟩ = W.frozen? ⟨b, o, none⟩) :=
  ⟨fun b o h => hb.cell (p := ⟨b, o, none⟩) h, fun b o h => hb.frozen (p := ⟨b, o, none⟩) h⟩

theorem below_set4 {B k : Nat} {w w1 : World} (h : Below B w w1) (hb : B ≤ k) {x0 x1 x2 x3 : Value} :
    Below B w ((((w1.setCell ⟨k, 0, none⟩ x0).setCell ⟨k, 1, none⟩ x1).setCell ⟨k, 2, none⟩ x2).setCell ⟨k, 3, none⟩ x3) :=
  (((h.setCell (p := ⟨k, 0, none⟩) hb x0).setCell (p := ⟨k, 1, none⟩) hb x1).setCell (p := ⟨k, 2, none⟩) hb x2).setCell (p := ⟨k, 3, none⟩) hb x3

theorem ret_bool {a b : Bool} (h : a = b) : Ending.returned (.bool a) = .returned (.bool b) := by rw [h]
theorem ret_int {k : IntKind} {a b : Int} (h : a = b) : Ending.returned (.int k a) = .returned (.int k b) := by rw [h]

/-- four cells at the head of block k -/
def Four (W : World) (k : Nat) (x0 x1 x2 x3 : Value) : Prop := W.cell? ⟨k, 0, none⟩ = some x0 ∧ W.cell? ⟨k, 1, none⟩ = some x1 ∧ W.cell? ⟨k, 2, none⟩ = some x2 ∧ W.cell? ⟨k, 3, none⟩ = some x3 ∧ ∀ i, W.frozen? ⟨k, i, none⟩ = false

def set4 (W : World) (k : Nat) (x0 x1 x2 x3 : Value) : World := (((W.setCell ⟨k, 0, none⟩ x0).setCell ⟨k, 1, none⟩ x1).setCell ⟨k, 2, none⟩ x2).setCell ⟨k, 3, none⟩ x3

theorem Four.keep {W w1 : World} {B k : Nat} {x0 x1 x2 x3 : Value} (h : Four W k x0 x1 x2 x3) (hb : Below B W w1) (hk : k < B) : Four w1 k x0 x1 x2 x3 :=
  ⟨(hb.cell (p := ⟨k, 0, none⟩) hk).trans h.1, (hb.cell (p := ⟨k, 1, none⟩) hk).trans h.2.1, (hb.cell (p := ⟨k, 2, none⟩) hk).trans h.2.2.1, (hb.cell (p := ⟨k, 3, none⟩) hk).trans h.2.2.2.1, fun i => (hb.frozen (p := ⟨k, i, none⟩) hk).trans (h.2.2.2.2 i)⟩

theorem Four.set {W : World} {k : Nat} {x0 x1 x2 x3 y0 y1 y2 y3 : Value} (h : Four W k x0 x1 x2 x3) : Four (set4 W k y0 y1 y2 y3) k y0 y1 y2 y3 := by
  obtain ⟨h0, h1, h2, h3, h4⟩ := h
  unfold Four set4
  simp [go_sem, h0, h1, h2, h3, h4]

theorem Four.far {W : World} {k j : Nat} {x0 x1 x2 x3 y0 y1 y2 y3 : Value} (h : Four W k x0 x1 x2 x3) (hne : k ≠ j) : Four (set4 W j y0 y1 y2 y3) k x0 x1 x2 x3 := by
  obtain ⟨h0, h1, h2, h3, h4⟩ := h
  unfold Four set4
  simp [go_sem, h0, h1, h2, h3, h4]

theorem Four.new (w : World) (x0 x1 x2 x3 : Value) (t : TypeId) : Four (w.alloc (.cells #[x0, x1, x2, x3] t)) w.heap.size x0 x1 x2 x3 := by
  unfold Four
  simp [go_sem]

theorem Four.alloc {w : World} {k : Nat} {x0 x1 x2 x3 : Value} (h : Four w k x0 x1 x2 x3) (hk : k < w.heap.size) (o : Obj) : Four (w.alloc o) k x0 x1 x2 x3 :=
  h.keep ((Below.refl _ _).alloc (Nat.le_refl _) o) hk
theorem Four.drew {w : World} {k : Nat} {x0 x1 x2 x3 : Value} (h : Four w k x0 x1 x2 x3) : Four w.drew k x0 x1 x2 x3 := h

theorem below_four {B k : Nat} {w w1 : World} (h : Below B w w1) (hb : B ≤ k) {x0 x1 x2 x3 : Value} : Below B w (set4 w1 k x0 x1 x2 x3) := below_set4 h hb

theorem set4_size (W : World) (k : Nat) (x0 x1 x2 x3 : Value) : (set4 W k x0 x1 x2 x3).heap.size = W.heap.size := by simp [set4]

theorem Below.next {w w1 w2 : World} (h : Below w.heap.size w w1) (hb : Below w1.heap.size w1 w2) : Below w.heap.size w w2 := h.trans (hb.mono h.size)
theorem below_draws {B : Nat} {w w1 : World} (h : Below B w w1) : ∀ n, Below B w (w1.drewN n)
  | 0 => h
  | n + 1 => (below_draws h n).drew
theorem turn {f : FuncId} {args : Array Value} {w : World} {x : Ending} (h : Calls Try.prog f args w fun e w' => e = x ∧ w = w') : Calls Try.prog f args w fun e w' => e = x ∧ w' = w := h.mono fun _ _ ⟨a, b⟩ => ⟨a, b.symm⟩
def leftN (n : Nat) (v : Value) : Nat := n - (intOf v).toNat
/-- a law's answer b, and nothing that was there has turned -/
def Says (b : Bool) (w : World) (e : Ending) (w' : World) : Prop := e = .returned (.bool b) ∧ Below w.heap.size w w'

end Go.Proofs.Ytkehdaahlfkiiaa
