/-
  Scale of the reference (from the seat of pixel).
-/
import Derived.Test.YtnkbejbpkjkgeaaScal
namespace Go.Proofs.Ytnkbejbpkjkgeaa
open Go.RowKit

/-- the boxes of a pixel and of a result -/
structure HeldR (w W : World) (p : Px) : Prop where
  at0 : AtP W w.heap.size p
  at2 : AtP W (w.heap.size + 1) zeroPx
  below : Below w.heap.size w W
  there : w.heap.size + 1 < W.heap.size

theorem HeldR.step {w W w' : World} {p : Px} (h : HeldR w W p) (hb : Below W.heap.size W w') : HeldR w w' p := by
  have ht := h.there
  exact ⟨h.at0.keep hb (by omega), h.at2.keep hb ht, Below.next h.below hb, Nat.lt_of_lt_of_le ht hb.size⟩
theorem HeldR.set {w W : World} {p : Px} (h : HeldR w W p) (q : Px) : HeldR w (setP W w.heap.size q) q :=
  ⟨h.at0.set q, h.at2.far q (by omega), below_setP h.below (Nat.le_refl _) q, by rw [setP_size]; exact h.there⟩
theorem HeldR.new (w : World) (p : Px) : HeldR w ((w.alloc (.cells #[.int .u8 (p.r : Int), .int .u8 (p.g : Int), .int .u8 (p.b : Int), .int .u8 (p.a : Int)] 43)).alloc (.cells #[.int .u8 (zeroPx.r : Int), .int .u8 (zeroPx.g : Int), .int .u8 (zeroPx.b : Int), .int .u8 (zeroPx.a : Int)] 43)) p := by
  refine ⟨(Four.new w _ _ _ _ _).alloc (by simp) _, ?_, ((Below.refl _ _).alloc (Nat.le_refl _) _).alloc (by simp) _, by simp⟩
  have := Four.new (w.alloc (.cells #[.int .u8 (p.r : Int), .int .u8 (p.g : Int), .int .u8 (p.b : Int), .int .u8 (p.a : Int)] 43)) (.int .u8 (zeroPx.r : Int)) (.int .u8 (zeroPx.g : Int)) (.int .u8 (zeroPx.b : Int)) (.int .u8 (zeroPx.a : Int)) 43
  rwa [World.size_alloc] at this

end Go.Proofs.Ytnkbejbpkjkgeaa
