/-
  Scale of package pixel (from the seat of pixel).
-/
import Derived.Test.YtnkbejbpkjkgeaaPixv
namespace Go.Proofs.Ytnkbejbpkjkgeaa
open Go.RowKit

/-- a pixel in the box k -/
def AtP (W : World) (k : Nat) (p : Px) : Prop := Four W k (.int .u8 (p.r : Int)) (.int .u8 (p.g : Int)) (.int .u8 (p.b : Int)) (.int .u8 (p.a : Int))
/-- box k written with the pixel p -/
def setP (W : World) (k : Nat) (p : Px) : World := set4 W k (.int .u8 (p.r : Int)) (.int .u8 (p.g : Int)) (.int .u8 (p.b : Int)) (.int .u8 (p.a : Int))

theorem AtP.cells {W : World} {k : Nat} {p : Px} (h : AtP W k p) : W.cell? ⟨k, 0, none⟩ = some (.int .u8 (p.r : Int)) ∧ W.cell? ⟨k, 1, none⟩ = some (.int .u8 (p.g : Int)) ∧ W.cell? ⟨k, 2, none⟩ = some (.int .u8 (p.b : Int)) ∧ W.cell? ⟨k, 3, none⟩ = some (.int .u8 (p.a : Int)) := ⟨h.1, h.2.1, h.2.2.1, h.2.2.2.1⟩
theorem AtP.keep {W w1 : World} {B k : Nat} {p : Px} (h : AtP W k p) (hb : Below B W w1) (hk : k < B) : AtP w1 k p := Four.keep h hb hk
theorem AtP.set {W : World} {k : Nat} {p : Px} (h : AtP W k p) (q : Px) : AtP (setP W k q) k q := Four.set h
theorem AtP.far {W : World} {k j : Nat} {p : Px} (h : AtP W k p) (q : Px) (hne : k ≠ j) : AtP (setP W j q) k p := Four.far h hne
theorem below_setP {B k : Nat} {w w1 : World} (h : Below B w w1) (hb : B ≤ k) (p : Px) : Below B w (setP w1 k p) := below_four h hb
theorem setP_size (W : World) (k : Nat) (p : Px) : (setP W k p).heap.size = W.heap.size := set4_size ..

/-- Scale's boxes: the pixel, the factor, the result -/
structure HeldS (w W : World) (p : Px) (k : Nat) : Prop where
  at0 : AtP W w.heap.size p
  atk : W.cell? ⟨w.heap.size + 1, 0, none⟩ = some (.int .u8 (k : Int))
  at2 : AtP W (w.heap.size + 1 + 1) zeroPx
  below : Below w.heap.size w W
  there : w.heap.size + 1 + 1 < W.heap.size

theorem HeldS.step {w W w' : World} {p : Px} {k : Nat} (h : HeldS w W p k) (hb : Below W.heap.size W w') : HeldS w w' p k := by
  have ht := h.there
  exact ⟨h.at0.keep hb (by omega), (hb.cell (p := ⟨w.heap.size + 1, 0, none⟩) (show w.heap.size + 1 < W.heap.size by omega)).trans h.atk, h.at2.keep hb ht, Below.next h.below hb, Nat.lt_of_lt_of_le ht hb.size⟩
theorem HeldS.set {w W : World} {p : Px} {k : Nat} (h : HeldS w W p k) (q : Px) : HeldS w (setP W w.heap.size q) q k := by
  refine ⟨h.at0.set q, ?_, h.at2.far q (by omega), below_setP h.below (Nat.le_refl _) q, by rw [setP_size]; exact h.there⟩
  have hk := h.atk
  unfold setP set4
  simp [go_sem, hk]
theorem HeldS.new (w : World) (p : Px) (k : Nat) : HeldS w (((w.alloc (.cells #[.int .u8 (p.r : Int), .int .u8 (p.g : Int), .int .u8 (p.b : Int), .int .u8 (p.a : Int)] 43)).alloc (.cells #[.int .u8 (k : Int)] 5)).alloc (.cells #[.int .u8 (zeroPx.r : Int), .int .u8 (zeroPx.g : Int), .int .u8 (zeroPx.b : Int), .int .u8 (zeroPx.a : Int)] 43)) p k := by
  refine ⟨((Four.new w _ _ _ _ _).alloc (by simp) _).alloc (by simp; omega) _, by simp [go_sem], ?_, (((Below.refl _ _).alloc (Nat.le_refl _) _).alloc (by simp) _).alloc (by simp; omega) _, by simp⟩
  have := Four.new ((w.alloc (.cells #[.int .u8 (p.r : Int), .int .u8 (p.g : Int), .int .u8 (p.b : Int), .int .u8 (p.a : Int)] 43)).alloc (.cells #[.int .u8 (k : Int)] 5)) (.int .u8 (zeroPx.r : Int)) (.int .u8 (zeroPx.g : Int)) (.int .u8 (zeroPx.b : Int)) (.int .u8 (zeroPx.a : Int)) 43
  rwa [World.size_alloc, World.size_alloc] at this

end Go.Proofs.Ytnkbejbpkjkgeaa
