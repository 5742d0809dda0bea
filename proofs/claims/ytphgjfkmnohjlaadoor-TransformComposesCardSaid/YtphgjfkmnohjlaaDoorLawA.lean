/-
  The walks of the laws TransformApplies and TransformComposes.
-/
import Derived.Test.YtphgjfkmnohjlaaDoorOpen
namespace Go.Proofs.YtphgjfkmnohjlaaDoor
open Go.RowKit

/-- the box of an image's size with a point and a rectangle, held while calls make memory -/
structure HeldA (w W : World) (a b x y : Int) (r : R) : Prop where
  c0 : W.cell? ⟨w.heap.size, 0, none⟩ = some (.int .i64 a)
  c1 : W.cell? ⟨w.heap.size, 1, none⟩ = some (.int .i64 b)
  c2 : W.cell? ⟨w.heap.size, 2, none⟩ = some (.int .i64 x)
  c3 : W.cell? ⟨w.heap.size, 3, none⟩ = some (.int .i64 y)
  c4 : W.cell? ⟨w.heap.size, 4, none⟩ = some (.int .i64 r.x0)
  c5 : W.cell? ⟨w.heap.size, 5, none⟩ = some (.int .i64 r.y0)
  c6 : W.cell? ⟨w.heap.size, 6, none⟩ = some (.int .i64 r.x1)
  c7 : W.cell? ⟨w.heap.size, 7, none⟩ = some (.int .i64 r.y1)
  below : Below w.heap.size w W
  there : w.heap.size < W.heap.size

theorem HeldA.step {w W w' : World} {a b x y : Int} {r : R} (h : HeldA w W a b x y r) (hb : Below W.heap.size W w') : HeldA w w' a b x y r :=
  ⟨(hb.cell (p := ⟨w.heap.size, 0, none⟩) h.there).trans h.c0, (hb.cell (p := ⟨w.heap.size, 1, none⟩) h.there).trans h.c1, (hb.cell (p := ⟨w.heap.size, 2, none⟩) h.there).trans h.c2, (hb.cell (p := ⟨w.heap.size, 3, none⟩) h.there).trans h.c3,
    (hb.cell (p := ⟨w.heap.size, 4, none⟩) h.there).trans h.c4, (hb.cell (p := ⟨w.heap.size, 5, none⟩) h.there).trans h.c5, (hb.cell (p := ⟨w.heap.size, 6, none⟩) h.there).trans h.c6, (hb.cell (p := ⟨w.heap.size, 7, none⟩) h.there).trans h.c7,
    Below.next h.below hb, Nat.lt_of_lt_of_le h.there hb.size⟩
theorem HeldA.drew {w W : World} {a b x y : Int} {r : R} (h : HeldA w W a b x y r) : HeldA w W.drew a b x y r := h.step (Below.refl _ _).drew
theorem HeldA.new (w : World) (a b x y : Int) (r : R) : HeldA w (w.alloc (.cells #[.int .i64 a, .int .i64 b, .int .i64 x, .int .i64 y, .int .i64 r.x0, .int .i64 r.y0, .int .i64 r.x1, .int .i64 r.y1] 34)) a b x y r :=
  ⟨by simp [go_sem], by simp [go_sem], by simp [go_sem], by simp [go_sem], by simp [go_sem], by simp [go_sem], by simp [go_sem], by simp [go_sem], (Below.refl _ _).alloc (Nat.le_refl _) _, by rw [World.size_alloc]; exact Nat.lt_succ_self _⟩

theorem HeldA.cells {w W : World} {a b x y : Int} {r : R} (h : HeldA w W a b x y r) : W.cell? ⟨w.heap.size, 0, none⟩ = some (.int .i64 a) ∧ W.cell? ⟨w.heap.size, 1, none⟩ = some (.int .i64 b) ∧ W.cell? ⟨w.heap.size, 2, none⟩ = some (.int .i64 x) ∧ W.cell? ⟨w.heap.size, 3, none⟩ = some (.int .i64 y) ∧
    W.cell? ⟨w.heap.size, 4, none⟩ = some (.int .i64 r.x0) ∧ W.cell? ⟨w.heap.size, 5, none⟩ = some (.int .i64 r.y0) ∧ W.cell? ⟨w.heap.size, 6, none⟩ = some (.int .i64 r.x1) ∧ W.cell? ⟨w.heap.size, 7, none⟩ = some (.int .i64 r.y1) :=
  ⟨h.c0, h.c1, h.c2, h.c3, h.c4, h.c5, h.c6, h.c7⟩

/-- .. and the box of a point behind it -/
structure HeldM (w W : World) (a b x y : Int) (r : R) (m : Nat) (u v : Int) : Prop extends HeldA w W a b x y r where
  at2 : Two W m (.int .i64 u) (.int .i64 v)
  there2 : w.heap.size < m ∧ m < W.heap.size

theorem HeldM.step {w W w' : World} {a b x y u v : Int} {r : R} {m : Nat} (h : HeldM w W a b x y r m u v) (hb : Below W.heap.size W w') : HeldM w w' a b x y r m u v :=
  ⟨h.toHeldA.step hb, h.at2.keep hb h.there2.2, h.there2.1, Nat.lt_of_lt_of_le h.there2.2 hb.size⟩
theorem HeldM.drew {w W : World} {a b x y u v : Int} {r : R} {m : Nat} (h : HeldM w W a b x y r m u v) : HeldM w W.drew a b x y r m u v := h.step (Below.refl _ _).drew
theorem HeldA.point {w W : World} {a b x y : Int} {r : R} (h : HeldA w W a b x y r) (u v : Int) : HeldM w (W.alloc (.cells #[.int .i64 u, .int .i64 v] 23)) a b x y r W.heap.size u v :=
  ⟨h.step ((Below.refl _ _).alloc (Nat.le_refl _) _), Two.new _ _ _ _, h.there, by rw [World.size_alloc]; exact Nat.lt_succ_self _⟩

set_option maxRecDepth 100000 in
set_option maxHeartbeats 4000000 in
theorem applies_walk (t a b x y : Int) (r : R) (w : World) (h : Tab w) : Calls Tryd.prog 4 #[.int .i64 t, .agg #[.int .i64 a, .int .i64 b, .int .i64 x, .int .i64 y, .int .i64 r.x0, .int .i64 r.y0, .int .i64 r.x1, .int .i64 r.y1]] w (Says true w) := by
  have HT := Lib.hid h
  clear h
  have C1 := fun W => Lib.hid (apply_any t a b x y W)
  have C2 := fun W => Lib.hid (rapply_any t a b x y W)
  have C3 := fun W => Lib.hid (aprect_any t a b r W)
  have C4 := fun W => Lib.hid (raprect_any t a b r W)
  have C5 := fun W h => Lib.hid (example_any W h)
  generalize apX t a b x y = X at *
  generalize apY t a b x y = Y at *
  generalize apR t a b r = q at *
  have J := Lib.hid (HeldA.new w a b x y r).drew
  have sk := J.out.cells
  go_enter Tryd.func4, Tryd.ntmps4
  go_wp2_with fail
  go_region_held3 (fun W => W.cell? ⟨w.heap.size, 0, none⟩ = some (.int .i64 a) ∧ W.cell? ⟨w.heap.size, 1, none⟩ = some (.int .i64 b) ∧ W.cell? ⟨w.heap.size, 2, none⟩ = some (.int .i64 x) ∧ W.cell? ⟨w.heap.size, 3, none⟩ = some (.int .i64 y) ∧ W.cell? ⟨w.heap.size, 4, none⟩ = some (.int .i64 r.x0) ∧ W.cell? ⟨w.heap.size, 5, none⟩ = some (.int .i64 r.y0) ∧ W.cell? ⟨w.heap.size, 6, none⟩ = some (.int .i64 r.x1) ∧ W.cell? ⟨w.heap.size, 7, none⟩ = some (.int .i64 r.y1))
    (first
      | exact sk
      | go_keep)
    (first
      | (go_at_call 19; (with_reducible refine (C1 _).out.mono ?_); rintro e wq ⟨rfl, hb⟩; replace J := Lib.hid (J.out.step hb); (try clear sk); have sk := J.out.cells; clear hb)
      | (go_at_call 20; (with_reducible refine (C2 _).out.mono ?_); rintro e wq ⟨rfl, hb⟩; replace J := Lib.hid (J.out.step hb); (try clear sk); have sk := J.out.cells; clear hb)
      | (go_at_call 21; (with_reducible refine (C3 _).out.mono ?_); rintro e wq ⟨rfl, hb⟩; replace J := Lib.hid (J.out.step hb); (try clear sk); have sk := J.out.cells; clear hb)
      | (go_at_call 22; (with_reducible refine (C4 _).out.mono ?_); rintro e wq ⟨rfl, hb⟩; replace J := Lib.hid (J.out.step hb); (try clear sk); have sk := J.out.cells; clear hb)
      | (go_at_call 18; (with_reducible refine (C5 _ (HT.out.below J.out.below)).out.mono ?_); rintro e wq ⟨rfl, hb⟩; replace J := Lib.hid (J.out.step hb); (try clear sk); have sk := J.out.cells; clear hb)
      | fail)
  all_goals
    go_wp2_with fail
    go_ret
    exact ⟨rfl, J.out.below⟩

set_option maxRecDepth 100000 in
set_option maxHeartbeats 4000000 in
theorem composes_walk (t s a b x y : Int) (r : R) (w : World) (h : Tab w) : Calls Tryd.prog 7 #[.int .i64 t, .int .i64 s, .agg #[.int .i64 a, .int .i64 b, .int .i64 x, .int .i64 y, .int .i64 r.x0, .int .i64 r.y0, .int .i64 r.x1, .int .i64 r.y1]] w (Says true w) := by
  have HT := Lib.hid h
  clear h
  have C0 := fun W => Lib.hid (inside_any a b x y r W)
  have CE := fun W h => Lib.hid (example_any W h)
  have J := Lib.hid (HeldA.new w a b x y r)
  cases hin : insB a b x y
  · rw [hin] at C0
    clear hin
    go_enter Tryd.func7, Tryd.ntmps7
    go_wp2_with fail
    refine (C0 _).out.mono ?_
    rintro e w1 ⟨rfl, hb⟩
    replace J := Lib.hid (J.out.step hb)
    clear hb
    go_wp2_with fail
    refine (CE _ (HT.out.below J.out.below)).out.mono ?_
    rintro e w2 ⟨rfl, hb⟩
    replace J := Lib.hid (J.out.step hb)
    clear hb
    go_wp2_with fail
    go_ret
    exact ⟨rfl, J.out.below⟩
  · rw [hin] at C0
    have hi := insB_in hin
    have hp := (inB_pix hi).image t
    have hs : inB (siW t a b) (siH t a b) (posX t a b x y) (posY t a b x y) = true := by
      obtain ⟨⟨h1, h2⟩, h3, h4⟩ := hp
      rw [inB_iff]
      omega
    have C1 := fun W => Lib.hid (size_any t a b W)
    have C2 := fun W => Lib.hid (apply_any t a b x y W)
    have C3 := fun W => Lib.hid (apply_any s (siW t a b) (siH t a b) (posX t a b x y) (posY t a b x y) W)
    have C4 := fun W h => Lib.hid (compose_any t s W h)
    have C5 := fun W => Lib.hid (apply_any (comp t s) a b x y W)
    have C6 := fun W h => Lib.hid (invert_any t W h)
    have C7 := fun W => Lib.hid (apply_any (inv t) (siW t a b) (siH t a b) (posX t a b x y) (posY t a b x y) W)
    rw [show apX t a b x y = posX t a b x y by simp [apX, hi], show apY t a b x y = posY t a b x y by simp [apY, hi]] at C2
    rw [show apX s (siW t a b) (siH t a b) (posX t a b x y) (posY t a b x y) = posX (comp t s) a b x y by rw [← (pos_comp t s a b x y).1]; simp [apX, hs], show apY s (siW t a b) (siH t a b) (posX t a b x y) (posY t a b x y) = posY (comp t s) a b x y by rw [← (pos_comp t s a b x y).2]; simp [apY, hs]] at C3
    rw [show apX (comp t s) a b x y = posX (comp t s) a b x y by simp [apX, hi], show apY (comp t s) a b x y = posY (comp t s) a b x y by simp [apY, hi]] at C5
    rw [show apX (inv t) (siW t a b) (siH t a b) (posX t a b x y) (posY t a b x y) = x by simp [apX, hs, (pos_inv t a b x y).1], show apY (inv t) (siW t a b) (siH t a b) (posX t a b x y) (posY t a b x y) = y by simp [apY, hs, (pos_inv t a b x y).2]] at C7
    obtain ⟨⟨⟨g0, g1⟩, g2, g3⟩, _, _⟩ := hp
    clear hin hi hs
    generalize posX (comp t s) a b x y = X2 at *
    generalize posY (comp t s) a b x y = Y2 at *
    generalize posX t a b x y = X at *
    generalize posY t a b x y = Y at *
    generalize siW t a b = sw at *
    generalize siH t a b = sh at *
    generalize comp t s = c at *
    generalize inv t = i at *
    have n0 : ¬ X < 0 := by omega
    have n1 : ¬ sw ≤ X := by omega
    have n2 : ¬ Y < 0 := by omega
    have n3 : ¬ sh ≤ Y := by omega
    clear g0 g1 g2 g3
    go_enter Tryd.func7, Tryd.ntmps7
    go_wp2_with fail
    refine (C0 _).out.mono ?_
    rintro e w1 ⟨rfl, hb⟩
    replace J := Lib.hid (J.out.step hb)
    clear hb
    obtain ⟨o0, o1, o2, o3, o4, o5, o6, o7⟩ := J.out.cells
    go_wp2_with fail
    refine (C1 _).out.mono ?_
    rintro e wq ⟨rfl, rfl⟩
    go_wp2_with fail
    refine (C2 _).out.mono ?_
    rintro e w2 ⟨rfl, hb⟩
    replace J := Lib.hid (J.out.step hb)
    have P := Lib.hid (J.out.point X Y)
    clear hb o0 o1 o2 o3 o4 o5 o6 o7
    obtain ⟨p0, p1, _⟩ := P.out.at2
    go_wp2_with fail
    clear p0 p1
    replace P := Lib.hid P.out.drew
    have hz := P.out.there2
    have sk := And.intro P.out.c0 (And.intro P.out.c1 (And.intro P.out.c2 (And.intro P.out.c3 (And.intro P.out.at2.1 P.out.at2.2.1))))
    go_region_held3 (fun W => W.cell? ⟨w.heap.size, 0, none⟩ = some (.int .i64 a) ∧ W.cell? ⟨w.heap.size, 1, none⟩ = some (.int .i64 b) ∧ W.cell? ⟨w.heap.size, 2, none⟩ = some (.int .i64 x) ∧ W.cell? ⟨w.heap.size, 3, none⟩ = some (.int .i64 y) ∧ W.cell? ⟨w2.heap.size, 0, none⟩ = some (.int .i64 X) ∧ W.cell? ⟨w2.heap.size, 1, none⟩ = some (.int .i64 Y))
      (first
        | exact sk
        | go_keep)
      (first
        | (go_at_call 19; (with_reducible refine (C3 _).out.mono ?_); rintro e wq ⟨rfl, hb⟩; replace P := Lib.hid (P.out.step hb); (try clear sk); have sk := And.intro P.out.c0 (And.intro P.out.c1 (And.intro P.out.c2 (And.intro P.out.c3 (And.intro P.out.at2.1 P.out.at2.2.1)))); clear hb)
        | (go_at_call 14; (with_reducible refine (C4 _ (HT.out.below P.out.below)).out.mono ?_); rintro e wq ⟨rfl, hb⟩; replace P := Lib.hid (P.out.step hb); (try clear sk); have sk := And.intro P.out.c0 (And.intro P.out.c1 (And.intro P.out.c2 (And.intro P.out.c3 (And.intro P.out.at2.1 P.out.at2.2.1)))); clear hb)
        | (go_at_call 19; (with_reducible refine (C5 _).out.mono ?_); rintro e wq ⟨rfl, hb⟩; replace P := Lib.hid (P.out.step hb); (try clear sk); have sk := And.intro P.out.c0 (And.intro P.out.c1 (And.intro P.out.c2 (And.intro P.out.c3 (And.intro P.out.at2.1 P.out.at2.2.1)))); clear hb)
        | (go_at_call 16; (with_reducible refine (C6 _ (HT.out.below P.out.below)).out.mono ?_); rintro e wq ⟨rfl, hb⟩; replace P := Lib.hid (P.out.step hb); (try clear sk); have sk := And.intro P.out.c0 (And.intro P.out.c1 (And.intro P.out.c2 (And.intro P.out.c3 (And.intro P.out.at2.1 P.out.at2.2.1)))); clear hb)
        | (go_at_call 19; (with_reducible refine (C7 _).out.mono ?_); rintro e wq ⟨rfl, hb⟩; replace P := Lib.hid (P.out.step hb); (try clear sk); have sk := And.intro P.out.c0 (And.intro P.out.c1 (And.intro P.out.c2 (And.intro P.out.c3 (And.intro P.out.at2.1 P.out.at2.2.1)))); clear hb)
        | (go_at_call 18; (with_reducible refine (CE _ (HT.out.below P.out.below)).out.mono ?_); rintro e wq ⟨rfl, hb⟩; replace P := Lib.hid (P.out.step hb); (try clear sk); have sk := And.intro P.out.c0 (And.intro P.out.c1 (And.intro P.out.c2 (And.intro P.out.c3 (And.intro P.out.at2.1 P.out.at2.2.1)))); clear hb)
        | fail)
    all_goals
      go_wp2_with fail
      go_ret
      exact ⟨rfl, P.out.below⟩

end Go.Proofs.YtphgjfkmnohjlaaDoor
