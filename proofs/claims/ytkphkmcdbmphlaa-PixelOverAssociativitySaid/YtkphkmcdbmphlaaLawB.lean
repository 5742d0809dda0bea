/-
  The walks of the laws PixelBasics and PixelArithmetic.
-/
import Derived.Test.YtkphkmcdbmphlaaExam
namespace Go.Proofs.Ytkphkmcdbmphlaa
open Go.RowKit

set_option maxRecDepth 100000 in
set_option maxHeartbeats 4000000 in
theorem basics_walk {p : Px} (hp : Byt p) {n : Nat} (hn : n < 4294967296) (w : World) : Calls Try.prog 3 #[.agg #[.int .u8 (p.r : Int), .int .u8 (p.g : Int), .int .u8 (p.b : Int), .int .u8 (p.a : Int)], .int .u32 (n : Int)] w (Says true w) := by
  have J := Lib.hid (HeldC.new w p).drew
  have C9 := fun W => Lib.hid (valid_any p W)
  have C10 := fun W => Lib.hid (rvalid_any p W)
  have C11 := fun W => Lib.hid (clamp_any p W)
  have C12 := fun W => Lib.hid (rclamp_any p W)
  have C13 := fun W => Lib.hid (opaque_any p W)
  have C14 := fun W => Lib.hid (ropaque_any p W)
  have C15 := fun W => Lib.hid (pack_any hp W)
  have C16 := fun W => Lib.hid (rpack_any hp W)
  have C17 := fun W => Lib.hid (unpack_any hn W)
  have C18 := fun W => Lib.hid (runpack_any hn W)
  have C19 := fun W => Lib.hid (example_any W)
  generalize okPx p = v at *
  generalize decide (p.a = 255) = o at *
  generalize clampP p = q at *
  generalize packP p = k at *
  generalize unpackP n = u at *
  clear hp hn
  go_enter Try.func3, Try.ntmps3
  go_wp2_with fail
  go_region_held3 (fun W => W.cell? ⟨w.heap.size, 0, none⟩ = some (.int .u8 (p.r : Int)) ∧ W.cell? ⟨w.heap.size, 1, none⟩ = some (.int .u8 (p.g : Int)) ∧ W.cell? ⟨w.heap.size, 2, none⟩ = some (.int .u8 (p.b : Int)) ∧ W.cell? ⟨w.heap.size, 3, none⟩ = some (.int .u8 (p.a : Int)))
    (first
      | go_keep
      | exact sk)
    (first
      | (go_at_call 9; (with_reducible refine (C9 _).out.mono ?_); rintro e wq ⟨rfl, hb⟩; replace J := Lib.hid (J.out.step hb); (try clear sk); have sk := J.out.cells; clear hb)
      | (go_at_call 10; (with_reducible refine (C10 _).out.mono ?_); rintro e wq ⟨rfl, hb⟩; replace J := Lib.hid (J.out.step hb); (try clear sk); have sk := J.out.cells; clear hb)
      | (go_at_call 11; (with_reducible refine (C11 _).out.mono ?_); rintro e wq ⟨rfl, hb⟩; replace J := Lib.hid (J.out.step hb); (try clear sk); have sk := J.out.cells; clear hb)
      | (go_at_call 12; (with_reducible refine (C12 _).out.mono ?_); rintro e wq ⟨rfl, hb⟩; replace J := Lib.hid (J.out.step hb); (try clear sk); have sk := J.out.cells; clear hb)
      | (go_at_call 13; (with_reducible refine (C13 _).out.mono ?_); rintro e wq ⟨rfl, hb⟩; replace J := Lib.hid (J.out.step hb); (try clear sk); have sk := J.out.cells; clear hb)
      | (go_at_call 14; (with_reducible refine (C14 _).out.mono ?_); rintro e wq ⟨rfl, hb⟩; replace J := Lib.hid (J.out.step hb); (try clear sk); have sk := J.out.cells; clear hb)
      | (go_at_call 15; (with_reducible refine (C15 _).out.mono ?_); rintro e wq ⟨rfl, hb⟩; replace J := Lib.hid (J.out.step hb); (try clear sk); have sk := J.out.cells; clear hb)
      | (go_at_call 16; (with_reducible refine (C16 _).out.mono ?_); rintro e wq ⟨rfl, hb⟩; replace J := Lib.hid (J.out.step hb); (try clear sk); have sk := J.out.cells; clear hb)
      | (go_at_call 17; (with_reducible refine (C17 _).out.mono ?_); rintro e wq ⟨rfl, hb⟩; replace J := Lib.hid (J.out.step hb); (try clear sk); have sk := J.out.cells; clear hb)
      | (go_at_call 18; (with_reducible refine (C18 _).out.mono ?_); rintro e wq ⟨rfl, hb⟩; replace J := Lib.hid (J.out.step hb); (try clear sk); have sk := J.out.cells; clear hb)
      | (go_at_call 19; (with_reducible refine (C19 _).out.mono ?_); rintro e wq ⟨rfl, hb⟩; replace J := Lib.hid (J.out.step hb); (try clear sk); have sk := J.out.cells; clear hb)
      | fail)
  all_goals
    go_wp2_with fail
    go_ret
    exact ⟨rfl, J.out.below⟩

/-- the boxes of two pixels, held while calls make memory -/
structure HeldD (w W : World) (s d : Px) : Prop where
  at0 : AtP W w.heap.size s
  at1 : AtP W (w.heap.size + 1) d
  below : Below w.heap.size w W
  there : w.heap.size + 1 < W.heap.size

theorem HeldD.step {w W w' : World} {s d : Px} (h : HeldD w W s d) (hb : Below W.heap.size W w') : HeldD w w' s d := by
  have ht := h.there
  exact ⟨h.at0.keep hb (by omega), h.at1.keep hb ht, Below.next h.below hb, Nat.lt_of_lt_of_le ht hb.size⟩
theorem HeldD.drew {w W : World} {s d : Px} (h : HeldD w W s d) : HeldD w W.drew s d := h.step (Below.refl _ _).drew
theorem HeldD.new (w : World) (s d : Px) : HeldD w ((w.alloc (.cells #[.int .u8 (s.r : Int), .int .u8 (s.g : Int), .int .u8 (s.b : Int), .int .u8 (s.a : Int)] 23)).alloc (.cells #[.int .u8 (d.r : Int), .int .u8 (d.g : Int), .int .u8 (d.b : Int), .int .u8 (d.a : Int)] 23)) s d := by
  refine ⟨(Four.new w _ _ _ _ _).alloc (by simp) _, ?_, ((Below.refl _ _).alloc (Nat.le_refl _) _).alloc (by simp) _, by simp⟩
  have := Four.new (w.alloc (.cells #[.int .u8 (s.r : Int), .int .u8 (s.g : Int), .int .u8 (s.b : Int), .int .u8 (s.a : Int)] 23)) (.int .u8 (d.r : Int)) (.int .u8 (d.g : Int)) (.int .u8 (d.b : Int)) (.int .u8 (d.a : Int)) 23
  rwa [World.size_alloc] at this
theorem HeldD.cells {w W : World} {s d : Px} (h : HeldD w W s d) : W.cell? ⟨w.heap.size, 0, none⟩ = some (.int .u8 (s.r : Int)) ∧ W.cell? ⟨w.heap.size, 1, none⟩ = some (.int .u8 (s.g : Int)) ∧ W.cell? ⟨w.heap.size, 2, none⟩ = some (.int .u8 (s.b : Int)) ∧ W.cell? ⟨w.heap.size, 3, none⟩ = some (.int .u8 (s.a : Int)) ∧ W.cell? ⟨w.heap.size + 1, 0, none⟩ = some (.int .u8 (d.r : Int)) ∧ W.cell? ⟨w.heap.size + 1, 1, none⟩ = some (.int .u8 (d.g : Int)) ∧ W.cell? ⟨w.heap.size + 1, 2, none⟩ = some (.int .u8 (d.b : Int)) ∧ W.cell? ⟨w.heap.size + 1, 3, none⟩ = some (.int .u8 (d.a : Int)) :=
  ⟨h.at0.1, h.at0.2.1, h.at0.2.2.1, h.at0.2.2.2.1, h.at1.1, h.at1.2.1, h.at1.2.2.1, h.at1.2.2.2.1⟩

set_option maxRecDepth 100000 in
set_option maxHeartbeats 4000000 in
theorem arithmetic_walk {s d : Px} (hs : Byt s) (hd : Byt d) {k : Nat} (hk : k < 256) (w : World) : Calls Try.prog 4 #[.agg #[.int .u8 (s.r : Int), .int .u8 (s.g : Int), .int .u8 (s.b : Int), .int .u8 (s.a : Int)], .agg #[.int .u8 (d.r : Int), .int .u8 (d.g : Int), .int .u8 (d.b : Int), .int .u8 (d.a : Int)], .int .u8 (k : Int)] w (Says true w) := by
  have J := Lib.hid (HeldD.new w s d).drew
  have C20 := fun W => Lib.hid (prem_any hs.1 hs.2.1 hs.2.2.1 hk W)
  have C21 := fun W => Lib.hid (rprem_any hs.1 hs.2.1 hs.2.2.1 hk W)
  have C22 := fun W => Lib.hid (scale_any hs hk W)
  have C23 := fun W => Lib.hid (rscale_any hs hk W)
  have C24 := fun W => Lib.hid (over_any hs hd W)
  have C25 := fun W => Lib.hid (rover_any hs hd W)
  have C19 := fun W => Lib.hid (example_any W)
  generalize premP s.r s.g s.b k = v at *
  generalize scalP s k = q at *
  generalize overP s d = u at *
  clear hs hd hk
  go_enter Try.func4, Try.ntmps4
  go_wp2_with fail
  go_region_held3 (fun W => W.cell? ⟨w.heap.size, 0, none⟩ = some (.int .u8 (s.r : Int)) ∧ W.cell? ⟨w.heap.size, 1, none⟩ = some (.int .u8 (s.g : Int)) ∧ W.cell? ⟨w.heap.size, 2, none⟩ = some (.int .u8 (s.b : Int)) ∧ W.cell? ⟨w.heap.size, 3, none⟩ = some (.int .u8 (s.a : Int)) ∧ W.cell? ⟨w.heap.size + 1, 0, none⟩ = some (.int .u8 (d.r : Int)) ∧ W.cell? ⟨w.heap.size + 1, 1, none⟩ = some (.int .u8 (d.g : Int)) ∧ W.cell? ⟨w.heap.size + 1, 2, none⟩ = some (.int .u8 (d.b : Int)) ∧ W.cell? ⟨w.heap.size + 1, 3, none⟩ = some (.int .u8 (d.a : Int)))
    (first
      | go_keep
      | exact sk)
    (first
      | (go_at_call 20; (with_reducible refine (C20 _).out.mono ?_); rintro e wq ⟨rfl, hb⟩; replace J := Lib.hid (J.out.step hb); (try clear sk); have sk := J.out.cells; clear hb)
      | (go_at_call 21; (with_reducible refine (C21 _).out.mono ?_); rintro e wq ⟨rfl, hb⟩; replace J := Lib.hid (J.out.step hb); (try clear sk); have sk := J.out.cells; clear hb)
      | (go_at_call 22; (with_reducible refine (C22 _).out.mono ?_); rintro e wq ⟨rfl, hb⟩; replace J := Lib.hid (J.out.step hb); (try clear sk); have sk := J.out.cells; clear hb)
      | (go_at_call 23; (with_reducible refine (C23 _).out.mono ?_); rintro e wq ⟨rfl, hb⟩; replace J := Lib.hid (J.out.step hb); (try clear sk); have sk := J.out.cells; clear hb)
      | (go_at_call 24; (with_reducible refine (C24 _).out.mono ?_); rintro e wq ⟨rfl, hb⟩; replace J := Lib.hid (J.out.step hb); (try clear sk); have sk := J.out.cells; clear hb)
      | (go_at_call 25; (with_reducible refine (C25 _).out.mono ?_); rintro e wq ⟨rfl, hb⟩; replace J := Lib.hid (J.out.step hb); (try clear sk); have sk := J.out.cells; clear hb)
      | (go_at_call 19; (with_reducible refine (C19 _).out.mono ?_); rintro e wq ⟨rfl, hb⟩; replace J := Lib.hid (J.out.step hb); (try clear sk); have sk := J.out.cells; clear hb)
      | fail)
  all_goals
    go_wp2_with fail
    go_ret
    exact ⟨rfl, J.out.below⟩

end Go.Proofs.Ytkphkmcdbmphlaa
