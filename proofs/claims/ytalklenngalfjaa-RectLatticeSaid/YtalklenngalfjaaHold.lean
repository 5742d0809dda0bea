/-
  Cells of a law's own, held while calls make memory: any list of them.
-/
import Derived.Test.YtalklenngalfjaaOpen
import Derived.Test.YtalklenngalfjaaMove
import Derived.Deep.RegionHeld3
namespace Go.Proofs.Ytalklenngalfjaa
open Go.RowKit

/-- what the cells hold, a limb each -/
def Cells (w : World) : List (Addr × Value) → Prop
  | [] => True
  | [p] => w.cell? p.1 = some p.2
  | p :: q :: l => w.cell? p.1 = some p.2 ∧ Cells w (q :: l)

theorem cells_of {w : World} : ∀ {l : List (Addr × Value)}, (∀ p ∈ l, w.cell? p.1 = some p.2) → Cells w l
  | [], _ => trivial
  | [p], h => h p (by simp)
  | p :: q :: l, h => ⟨h p (by simp), cells_of fun x hx => h x (List.mem_cons_of_mem _ hx)⟩

/-- the world w, later than w0, holds the cells l -/
structure HeldL (w0 w : World) (l : List (Addr × Value)) : Prop where
  there : ∀ p ∈ l, p.1.block < w.heap.size ∧ w.cell? p.1 = some p.2 ∧ w.frozen? p.1 = false
  below : Below w0.heap.size w0 w

theorem HeldL.new (w : World) : HeldL w w [] := ⟨by simp, Below.refl _ _⟩

theorem HeldL.step {w0 w w' : World} {l : List (Addr × Value)} (h : HeldL w0 w l) (hb : Below w.heap.size w w') : HeldL w0 w' l :=
  ⟨fun p hp => ⟨Nat.lt_of_lt_of_le (h.there p hp).1 hb.size, (hb.cell (h.there p hp).1).trans (h.there p hp).2.1, (hb.frozen (h.there p hp).1).trans (h.there p hp).2.2⟩, h.below.trans (hb.mono h.below.size)⟩

theorem HeldL.drew {w0 w : World} {l : List (Addr × Value)} (h : HeldL w0 w l) : HeldL w0 w.drew l := ⟨h.there, h.below.drew⟩

theorem HeldL.drewN {w0 w : World} {l : List (Addr × Value)} (h : HeldL w0 w l) (n : Nat) : HeldL w0 (w.drewN n) l := h.step (below_drewN (Below.refl _ _) n)

theorem HeldL.cells {w0 w : World} {l : List (Addr × Value)} (h : HeldL w0 w l) : Cells w l := cells_of fun p hp => (h.there p hp).2.1

theorem HeldL.alloc {w0 w : World} {l : List (Addr × Value)} (h : HeldL w0 w l) (o : Obj) : HeldL w0 (w.alloc o) l := h.step ((Below.refl _ _).alloc (Nat.le_refl _) o)

/-- the cells of a rectangle, of a point, at the head of block k -/
def rectC (k : Nat) (r : R) : List (Addr × Value) := [(⟨k, 0, none⟩, .int .i64 r.x0), (⟨k, 1, none⟩, .int .i64 r.y0), (⟨k, 2, none⟩, .int .i64 r.x1), (⟨k, 3, none⟩, .int .i64 r.y1)]
def pointC (k : Nat) (x y : Int) : List (Addr × Value) := [(⟨k, 0, none⟩, .int .i64 x), (⟨k, 1, none⟩, .int .i64 y)]

theorem HeldL.rect {w0 w : World} {l : List (Addr × Value)} (h : HeldL w0 w l) (r : R) {k : Nat} (hk : w.heap.size = k) : HeldL w0 (w.alloc (.cells #[.int .i64 r.x0, .int .i64 r.y0, .int .i64 r.x1, .int .i64 r.y1] 23)) (l ++ rectC k r) := by
  subst hk
  refine ⟨fun p hp => ?_, (h.alloc _).below⟩
  rcases List.mem_append.1 hp with hp | hp
  · exact (h.alloc _).there p hp
  · have g := Four.new w (.int .i64 r.x0) (.int .i64 r.y0) (.int .i64 r.x1) (.int .i64 r.y1) 23
    simp only [rectC, List.mem_cons, List.not_mem_nil, or_false] at hp
    rcases hp with rfl | rfl | rfl | rfl
    · exact ⟨by simp, g.1, g.2.2.2.2 _⟩
    · exact ⟨by simp, g.2.1, g.2.2.2.2 _⟩
    · exact ⟨by simp, g.2.2.1, g.2.2.2.2 _⟩
    · exact ⟨by simp, g.2.2.2.1, g.2.2.2.2 _⟩

theorem HeldL.point {w0 w : World} {l : List (Addr × Value)} (h : HeldL w0 w l) (x y : Int) {k : Nat} (hk : w.heap.size = k) : HeldL w0 (w.alloc (.cells #[.int .i64 x, .int .i64 y] 38)) (l ++ pointC k x y) := by
  subst hk
  refine ⟨fun p hp => ?_, (h.alloc _).below⟩
  rcases List.mem_append.1 hp with hp | hp
  · exact (h.alloc _).there p hp
  · simp only [pointC, List.mem_cons, List.not_mem_nil, or_false] at hp
    rcases hp with rfl | rfl
    · exact ⟨by simp, by simp [go_sem], by simp [go_sem]⟩
    · exact ⟨by simp, by simp [go_sem], by simp [go_sem]⟩

/-- that none of them is frozen, a limb each -/
def Frees (w : World) : List (Addr × Value) → Prop
  | [] => True
  | [p] => w.frozen? p.1 = false
  | p :: q :: l => w.frozen? p.1 = false ∧ Frees w (q :: l)

theorem frees_of {w : World} : ∀ {l : List (Addr × Value)}, (∀ p ∈ l, w.frozen? p.1 = false) → Frees w l
  | [], _ => trivial
  | [p], h => h p (by simp)
  | p :: q :: l, h => ⟨h p (by simp), frees_of fun x hx => h x (List.mem_cons_of_mem _ hx)⟩

theorem HeldL.frees {w0 w : World} {l : List (Addr × Value)} (h : HeldL w0 w l) : Frees w l := frees_of fun p hp => (h.there p hp).2.2

/-- what the cells hold here and behind one or two new blocks, and that none is frozen -/
def Alls (w : World) : List (Addr × Value) → Prop
  | [] => True
  | p :: l => (w.cell? p.1 = some p.2 ∧ w.frozen? p.1 = false ∧ (∀ o, (w.alloc o).cell? p.1 = some p.2) ∧ (∀ o, (w.alloc o).frozen? p.1 = false) ∧ (∀ o o', ((w.alloc o).alloc o').cell? p.1 = some p.2) ∧ (∀ o o', ((w.alloc o).alloc o').frozen? p.1 = false)) ∧ Alls w l

theorem HeldL.alls {w0 w : World} : ∀ {l : List (Addr × Value)}, HeldL w0 w l → Alls w l
  | [], _ => trivial
  | p :: l, h => by
    have h1 := h.there p (by simp)
    have h2 := fun o => (h.alloc o).there p (by simp)
    have h3 := fun o o' => ((h.alloc o).alloc o').there p (by simp)
    exact ⟨⟨h1.2.1, h1.2.2, fun o => (h2 o).2.1, fun o => (h2 o).2.2, fun o o' => (h3 o o').2.1, fun o o' => (h3 o o').2.2⟩, HeldL.alls ⟨fun q hq => h.there q (List.mem_cons_of_mem _ hq), h.below⟩⟩

theorem HeldL.of {w0 w : World} {l m : List (Addr × Value)} (h : HeldL w0 w l) (hm : ∀ p ∈ m, p ∈ l) : HeldL w0 w m := ⟨fun p hp => h.there p (hm p hp), h.below⟩

end Go.Proofs.Ytalklenngalfjaa
