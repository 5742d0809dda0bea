/-
  Over of package pixel and of its reference (from the seat of pixel).
-/
import Derived.Test.YtnkbejbpkjkgeaaRsca
namespace Go.Proofs.Ytnkbejbpkjkgeaa
open Go.RowKit

/-- Over's boxes: the two pixels and the result -/
structure HeldOv (w W : World) (s d : Px) : Prop where
  at0 : AtP W w.heap.size s
  at1 : AtP W (w.heap.size + 1) d
  at2 : AtP W (w.heap.size + 1 + 1) zeroPx
  below : Below w.heap.size w W
  there : w.heap.size + 1 + 1 < W.heap.size

theorem HeldOv.step {w W w' : World} {s d : Px} (h : HeldOv w W s d) (hb : Below W.heap.size W w') : HeldOv w w' s d := by
  have ht := h.there
  exact ⟨h.at0.keep hb (by omega), h.at1.keep hb (by omega), h.at2.keep hb ht, Below.next h.below hb, Nat.lt_of_lt_of_le ht hb.size⟩
theorem HeldOv.set0 {w W : World} {s d : Px} (h : HeldOv w W s d) (q : Px) : HeldOv w (setP W w.heap.size q) q d :=
  ⟨h.at0.set q, h.at1.far q (by omega), h.at2.far q (by omega), below_setP h.below (Nat.le_refl _) q, by rw [setP_size]; exact h.there⟩
theorem HeldOv.set1 {w W : World} {s d : Px} (h : HeldOv w W s d) (q : Px) : HeldOv w (setP W (w.heap.size + 1) q) s q :=
  ⟨h.at0.far q (by omega), h.at1.set q, h.at2.far q (by omega), below_setP h.below (by omega) q, by rw [setP_size]; exact h.there⟩
theorem HeldOv.new (w : World) (s d : Px) : HeldOv w (((w.alloc (.cells #[.int .u8 (s.r : Int), .int .u8 (s.g : Int), .int .u8 (s.b : Int), .int .u8 (s.a : Int)] 43)).alloc (.cells #[.int .u8 (d.r : Int), .int .u8 (d.g : Int), .int .u8 (d.b : Int), .int .u8 (d.a : Int)] 43)).alloc (.cells #[.int .u8 (zeroPx.r : Int), .int .u8 (zeroPx.g : Int), .int .u8 (zeroPx.b : Int), .int .u8 (zeroPx.a : Int)] 43)) s d := by
  refine ⟨((Four.new w _ _ _ _ _).alloc (by simp) _).alloc (by simp; omega) _, ?_, ?_, (((Below.refl _ _).alloc (Nat.le_refl _) _).alloc (by simp) _).alloc (by simp; omega) _, by simp⟩
  · have := Four.new (w.alloc (.cells #[.int .u8 (s.r : Int), .int .u8 (s.g : Int), .int .u8 (s.b : Int), .int .u8 (s.a : Int)] 43)) (.int .u8 (d.r : Int)) (.int .u8 (d.g : Int)) (.int .u8 (d.b : Int)) (.int .u8 (d.a : Int)) 43
    rw [World.size_alloc] at this
    exact this.alloc (by simp) _
  · have := Four.new ((w.alloc (.cells #[.int .u8 (s.r : Int), .int .u8 (s.g : Int), .int .u8 (s.b : Int), .int .u8 (s.a : Int)] 43)).alloc (.cells #[.int .u8 (d.r : Int), .int .u8 (d.g : Int), .int .u8 (d.b : Int), .int .u8 (d.a : Int)] 43)) (.int .u8 (zeroPx.r : Int)) (.int .u8 (zeroPx.g : Int)) (.int .u8 (zeroPx.b : Int)) (.int .u8 (zeroPx.a : Int)) 43
    rwa [World.size_alloc, World.size_alloc] at this

end Go.Proofs.Ytnkbejbpkjkgeaa
