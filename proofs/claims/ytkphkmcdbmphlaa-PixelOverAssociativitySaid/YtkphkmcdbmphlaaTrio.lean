/-
  The boxes of the law PixelOverAssociativity: three pixels, and two new ones that are made and written in whatever order.
-/
import Derived.Test.YtkphkmcdbmphlaaLawB
namespace Go.Proofs.Ytkphkmcdbmphlaa
open Go.RowKit

theorem bcell3 {W w1 : World} (hb : Below W.heap.size W w1) : (∀ b o, b < W.heap.size → w1.cell? ⟨b, o, none⟩ = W.cell? ⟨b, o, none⟩) ∧ (∀ b o, b < W.heap.size → w1.frozen? ⟨b, o, none⟩ = W.frozen? ⟨b, o, none⟩) :=
  ⟨fun b o h => hb.cell (p := ⟨b, o, none⟩) h, fun b o h => hb.frozen (p := ⟨b, o, none⟩) h⟩

/-- the boxes of three pixels -/
structure HeldT (w W : World) (a b c : Px) : Prop where
  at0 : AtP W (w.heap.size) a
  at1 : AtP W (w.heap.size + 1) b
  at2 : AtP W (w.heap.size + 1 + 1) c
  below : Below w.heap.size w W
  there : w.heap.size + 1 + 1 < W.heap.size

theorem HeldT.step {w W w' : World} {a b c : Px} (h : HeldT w W a b c) (hb : Below W.heap.size W w') : HeldT w w' a b c := by
  have ht := h.there
  exact ⟨h.at0.keep hb (by omega), h.at1.keep hb (by omega), h.at2.keep hb ht, Below.next h.below hb, Nat.lt_of_lt_of_le ht hb.size⟩
theorem HeldT.new (w : World) (a b c : Px) : HeldT w (((w.alloc (.cells #[.int .u8 (a.r : Int), .int .u8 (a.g : Int), .int .u8 (a.b : Int), .int .u8 (a.a : Int)] 23)).alloc (.cells #[.int .u8 (b.r : Int), .int .u8 (b.g : Int), .int .u8 (b.b : Int), .int .u8 (b.a : Int)] 23)).alloc (.cells #[.int .u8 (c.r : Int), .int .u8 (c.g : Int), .int .u8 (c.b : Int), .int .u8 (c.a : Int)] 23)) a b c := by
  refine ⟨((Four.new w _ _ _ _ _).alloc (by simp) _).alloc (by simp; omega) _, ?_, ?_, (((Below.refl _ _).alloc (Nat.le_refl _) _).alloc (by simp) _).alloc (by simp; omega) _, by simp⟩
  · have := (Four.new (w.alloc (.cells #[.int .u8 (a.r : Int), .int .u8 (a.g : Int), .int .u8 (a.b : Int), .int .u8 (a.a : Int)] 23)) (.int .u8 (b.r : Int)) (.int .u8 (b.g : Int)) (.int .u8 (b.b : Int)) (.int .u8 (b.a : Int)) 23).alloc (by simp) (.cells #[.int .u8 (c.r : Int), .int .u8 (c.g : Int), .int .u8 (c.b : Int), .int .u8 (c.a : Int)] 23)
    rwa [World.size_alloc] at this
  · have := Four.new ((w.alloc (.cells #[.int .u8 (a.r : Int), .int .u8 (a.g : Int), .int .u8 (a.b : Int), .int .u8 (a.a : Int)] 23)).alloc (.cells #[.int .u8 (b.r : Int), .int .u8 (b.g : Int), .int .u8 (b.b : Int), .int .u8 (b.a : Int)] 23)) (.int .u8 (c.r : Int)) (.int .u8 (c.g : Int)) (.int .u8 (c.b : Int)) (.int .u8 (c.a : Int)) 23
    rwa [World.size_alloc, World.size_alloc] at this
theorem HeldT.set0 {w W : World} {a b c : Px} (h : HeldT w W a b c) (x : Px) : HeldT w (setP W (w.heap.size) x) x b c :=
  ⟨h.at0.set x, h.at1.far x (by omega), h.at2.far x (by omega), below_setP h.below (by omega) x, by rw [setP_size]; exact h.there⟩
theorem HeldT.set1 {w W : World} {a b c : Px} (h : HeldT w W a b c) (x : Px) : HeldT w (setP W (w.heap.size + 1) x) a x c :=
  ⟨h.at0.far x (by omega), h.at1.set x, h.at2.far x (by omega), below_setP h.below (by omega) x, by rw [setP_size]; exact h.there⟩
theorem HeldT.set2 {w W : World} {a b c : Px} (h : HeldT w W a b c) (x : Px) : HeldT w (setP W (w.heap.size + 1 + 1) x) a b x :=
  ⟨h.at0.far x (by omega), h.at1.far x (by omega), h.at2.set x, below_setP h.below (by omega) x, by rw [setP_size]; exact h.there⟩
theorem HeldT.other {w W : World} {a b c : Px} (h : HeldT w W a b c) {k : Nat} (hk : w.heap.size + 1 + 1 < k) (x : Px) : HeldT w (setP W k x) a b c :=
  ⟨h.at0.far x (by omega), h.at1.far x (by omega), h.at2.far x (by omega), below_setP h.below (by omega) x, by rw [setP_size]; exact h.there⟩

theorem HeldT.drew {w W : World} {a b c : Px} (h : HeldT w W a b c) : HeldT w W.drew a b c := h.step (Below.refl _ _).drew

/-- beside them two new boxes, each where it has been made -/
structure HeldQ (w W : World) (a b c : Px) (X Y : Option (Nat × Px)) : Prop where
  held : HeldT w W a b c
  atX : ∀ e, X = some e → AtP W e.1 e.2 ∧ w.heap.size + 1 + 1 < e.1 ∧ e.1 < W.heap.size
  atY : ∀ e, Y = some e → AtP W e.1 e.2 ∧ w.heap.size + 1 + 1 < e.1 ∧ e.1 < W.heap.size
  ne : ∀ e f, X = some e → Y = some f → e.1 ≠ f.1

section
variable {w W w' : World} {a b c : Px} {X Y : Option (Nat × Px)}

theorem HeldQ.start (h : HeldT w W a b c) : HeldQ w W a b c none none :=
  ⟨h, fun _ he => (by cases he), fun _ he => (by cases he), fun _ _ he => (by cases he)⟩
theorem HeldQ.step (h : HeldQ w W a b c X Y) (hb : Below W.heap.size W w') : HeldQ w w' a b c X Y :=
  ⟨h.held.step hb, fun e he => ⟨(h.atX e he).1.keep hb (h.atX e he).2.2, (h.atX e he).2.1, Nat.lt_of_lt_of_le (h.atX e he).2.2 hb.size⟩,
    fun e he => ⟨(h.atY e he).1.keep hb (h.atY e he).2.2, (h.atY e he).2.1, Nat.lt_of_lt_of_le (h.atY e he).2.2 hb.size⟩, h.ne⟩
theorem HeldQ.drew (h : HeldQ w W a b c X Y) : HeldQ w W.drew a b c X Y := h.step (Below.refl _ _).drew
theorem HeldQ.newX (h : HeldQ w W a b c none Y) : HeldQ w (W.alloc (.cells #[.int .u8 0, .int .u8 0, .int .u8 0, .int .u8 0] 23)) a b c (some (W.heap.size, zeroPx)) Y := by
  have hs := h.step ((Below.refl W.heap.size W).alloc (Nat.le_refl _) (.cells #[.int .u8 0, .int .u8 0, .int .u8 0, .int .u8 0] 23))
  refine ⟨hs.held, fun e he => ?_, hs.atY, fun e f he hf => ?_⟩
  · cases he
    exact ⟨Four.new W _ _ _ _ _, h.held.there, by rw [World.size_alloc]; exact Nat.lt_succ_self _⟩
  · cases he
    exact Nat.ne_of_gt (h.atY f hf).2.2
theorem HeldQ.newY (h : HeldQ w W a b c X none) : HeldQ w (W.alloc (.cells #[.int .u8 0, .int .u8 0, .int .u8 0, .int .u8 0] 23)) a b c X (some (W.heap.size, zeroPx)) := by
  have hs := h.step ((Below.refl W.heap.size W).alloc (Nat.le_refl _) (.cells #[.int .u8 0, .int .u8 0, .int .u8 0, .int .u8 0] 23))
  refine ⟨hs.held, hs.atX, fun e he => ?_, fun e f he hf => ?_⟩
  · cases he
    exact ⟨Four.new W _ _ _ _ _, h.held.there, by rw [World.size_alloc]; exact Nat.lt_succ_self _⟩
  · cases hf
    exact Nat.ne_of_lt (h.atX e he).2.2
theorem HeldQ.setX {k : Nat} {p : Px} (h : HeldQ w W a b c (some (k, p)) Y) (x : Px) : HeldQ w (setP W k x) a b c (some (k, x)) Y := by
  obtain ⟨h0, h1, h2⟩ := h.atX _ rfl
  refine ⟨h.held.other h1 x, fun e he => ?_, fun e he => ?_, fun e f he hf => ?_⟩
  · cases he
    exact ⟨AtP.set h0 x, h1, by rw [setP_size]; exact h2⟩
  · have hy := h.atY e he
    exact ⟨hy.1.far x (h.ne _ e rfl he).symm, hy.2.1, by rw [setP_size]; exact hy.2.2⟩
  · cases he
    exact h.ne (k, p) f rfl hf
theorem HeldQ.setY {k : Nat} {p : Px} (h : HeldQ w W a b c X (some (k, p))) (x : Px) : HeldQ w (setP W k x) a b c X (some (k, x)) := by
  obtain ⟨h0, h1, h2⟩ := h.atY _ rfl
  refine ⟨h.held.other h1 x, fun e he => ?_, fun e he => ?_, fun e f he hf => ?_⟩
  · have hx := h.atX e he
    exact ⟨hx.1.far x (h.ne e _ he rfl), hx.2.1, by rw [setP_size]; exact hx.2.2⟩
  · cases he
    exact ⟨AtP.set h0 x, h1, by rw [setP_size]; exact h2⟩
  · cases hf
    exact h.ne e (k, p) he rfl
theorem HeldQ.cX {k : Nat} {p : Px} (h : HeldQ w W a b c (some (k, p)) Y) : AtP W k p := (h.atX _ rfl).1
theorem HeldQ.cY {k : Nat} {p : Px} (h : HeldQ w W a b c X (some (k, p))) : AtP W k p := (h.atY _ rfl).1
theorem HeldQ.cells (h : HeldQ w W a b c X Y) : (W.cell? ⟨w.heap.size, 0, none⟩ = some (.int .u8 (a.r : Int)) ∧ W.cell? ⟨w.heap.size, 1, none⟩ = some (.int .u8 (a.g : Int)) ∧ W.cell? ⟨w.heap.size, 2, none⟩ = some (.int .u8 (a.b : Int)) ∧ W.cell? ⟨w.heap.size, 3, none⟩ = some (.int .u8 (a.a : Int))) ∧ (W.cell? ⟨w.heap.size + 1, 0, none⟩ = some (.int .u8 (b.r : Int)) ∧ W.cell? ⟨w.heap.size + 1, 1, none⟩ = some (.int .u8 (b.g : Int)) ∧ W.cell? ⟨w.heap.size + 1, 2, none⟩ = some (.int .u8 (b.b : Int)) ∧ W.cell? ⟨w.heap.size + 1, 3, none⟩ = some (.int .u8 (b.a : Int))) ∧ (W.cell? ⟨w.heap.size + 1 + 1, 0, none⟩ = some (.int .u8 (c.r : Int)) ∧ W.cell? ⟨w.heap.size + 1 + 1, 1, none⟩ = some (.int .u8 (c.g : Int)) ∧ W.cell? ⟨w.heap.size + 1 + 1, 2, none⟩ = some (.int .u8 (c.b : Int)) ∧ W.cell? ⟨w.heap.size + 1 + 1, 3, none⟩ = some (.int .u8 (c.a : Int))) := ⟨h.held.at0.cells, h.held.at1.cells, h.held.at2.cells⟩
end

end Go.Proofs.Ytkphkmcdbmphlaa
