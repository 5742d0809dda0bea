/-
  The walks of the laws TransformPixels and TransformImages.
-/
import Derived.Test.YtphgjfkmnohjlaaDoorOpenB
import Derived.Test.YtphgjfkmnohjlaaDoorRpix
namespace Go.Proofs.YtphgjfkmnohjlaaDoor
open Go.RowKit

theorem out_comp (t s a b : Int) (l : List Px) : oW s (oW t a b l) (oH t a b l) (oL t a b l) = oW (comp t s) a b l ∧ oH s (oW t a b l) (oH t a b l) (oL t a b l) = oH (comp t s) a b l ∧ oL s (oW t a b l) (oH t a b l) (oL t a b l) = oL (comp t s) a b l := by
  cases h : vBuf a b l
  · obtain ⟨e0, e1, e2⟩ := zero_out (t := t) h
    obtain ⟨f0, f1, f2⟩ := zero_out (t := comp t s) h
    rw [e0, e1, e2, f0, f1, f2]
    exact zero_out (t := s) (by decide)
  · obtain ⟨e0, e1, e2⟩ := full_out (t := t) h
    obtain ⟨f0, f1, f2⟩ := full_out (t := comp t s) h
    obtain ⟨h0, h1, h2, _⟩ := vBuf_iff.1 h
    rw [e0, e1, e2, f0, f1, f2]
    obtain ⟨g0, g1, g2⟩ := full_out (t := s) (img_valid t h)
    rw [g0, g1, g2]
    exact ⟨(si_comp t s a b).1, (si_comp t s a b).2, img_comp t s (by omega) (by omega) h2⟩

theorem out_inv (t : Int) {a b : Int} {l : List Px} (h : vBuf a b l = true) : oW (inv t) (oW t a b l) (oH t a b l) (oL t a b l) = a ∧ oH (inv t) (oW t a b l) (oH t a b l) (oL t a b l) = b ∧ oL (inv t) (oW t a b l) (oH t a b l) (oL t a b l) = l := by
  obtain ⟨e0, e1, e2⟩ := full_out (t := t) h
  obtain ⟨h0, h1, h2, _⟩ := vBuf_iff.1 h
  rw [e0, e1, e2]
  obtain ⟨g0, g1, g2⟩ := full_out (t := inv t) (img_valid t h)
  rw [g0, g1, g2]
  exact ⟨(si_inv t a b).1, (si_inv t a b).2, img_inv t (by omega) (by omega) h2⟩

theorem out_pos (t : Int) {a b : Int} {l : List Px} : (0 < oW t a b l) ↔ vBuf a b l = true := by
  cases h : vBuf a b l
  · rw [(zero_out (t := t) h).1]
    simp
  · rw [(full_out (t := t) h).1]
    obtain ⟨h0, h1, _, _⟩ := vBuf_iff.1 h
    have := (si_pos t (w := a) (h := b) (by omega) (by omega)).1
    simp [this]

theorem HeldV.cells {w W : World} {a b : Int} {A : Option Addr} {n c : Nat} (h : HeldV w W a b A n c) : W.cell? ⟨w.heap.size, 0, none⟩ = some (.int .i64 a) ∧ W.cell? ⟨w.heap.size, 1, none⟩ = some (.int .i64 b) ∧ W.cell? ⟨w.heap.size, 2, none⟩ = some (.slice A n c) := ⟨h.c0, h.c1, h.c2⟩

set_option maxRecDepth 100000 in
set_option maxHeartbeats 4000000 in
theorem pixels_walk (t : Int) {a b : Int} {u : Value} {l : List Px} {w : World} (hu : Pxs w u l) (h : Tab w) : Calls Tryd.prog 5 #[.int .i64 t, .agg #[.int .i64 a, .int .i64 b, u]] w (Says true w) := by
  have HT := Lib.hid h
  clear h
  have HU := Lib.hid hu
  have C1 := fun W (hW : Pxs W u l) => Lib.hid (pixels_any t a b hW)
  have C2 := fun W (hW : Pxs W u l) => Lib.hid (rpixels_any t a b hW)
  have CE := fun W h => Lib.hid (example_any W h)
  obtain ⟨A, c, rfl, hc, hm⟩ := hu.shape
  clear hu
  generalize l.length = n at *
  have C0 := fun W => Lib.hid (small_any a b A n c W)
  have J := Lib.hid (HeldV.new w a b A n c)
  generalize oW t a b l = ow at *
  generalize oH t a b l = oh at *
  generalize oL t a b l = ol at *
  by_cases hn : n ≤ 400
  · rw [decide_eq_true hn] at C0
    have C3 := fun W A1 c1 A2 c2 (h1 : Pxs W (.slice A1 ol.length c1) ol) (h2 : Pxs W (.slice A2 ol.length c2) ol) => Lib.hid (rsame_true ow oh h1 h2)
    go_enter Tryd.func5, Tryd.ntmps5
    go_wp2_with fail
    refine (C0 _).out.mono ?_
    rintro e w1 ⟨rfl, hb⟩
    replace J := Lib.hid (J.out.step hb)
    clear hb
    go_wp2_with fail
    replace J := Lib.hid (J.out.step (Below.refl _ _).drew)
    have sk := J.out.cells
    go_region_held3 (fun W => W.cell? ⟨w.heap.size, 0, none⟩ = some (.int .i64 a) ∧ W.cell? ⟨w.heap.size, 1, none⟩ = some (.int .i64 b) ∧ W.cell? ⟨w.heap.size, 2, none⟩ = some (.slice A n c))
      (first
        | exact sk
        | go_keep)
      (first
        | (go_at_call 25; (with_reducible refine (C1 _ (HU.out.below J.out.below)).out.mono ?_); rintro e wq ⟨A1, c1, rfl, hp1, hb⟩; replace J := Lib.hid (J.out.step hb); (try clear sk); have sk := J.out.cells; have P1 := Lib.hid hp1; clear hb hp1)
        | (go_at_call 26; (with_reducible refine (C2 _ (HU.out.below J.out.below)).out.mono ?_); rintro e wq ⟨A2, c2, rfl, hp2, hb⟩; replace J := Lib.hid (J.out.step hb); (try clear sk); have sk := J.out.cells; replace P1 := Lib.hid (P1.out.below hb); have P2 := Lib.hid hp2; clear hb hp2)
        | (go_at_call 24; (with_reducible refine (C3 _ _ _ _ _ P1.out P2.out).out.mono ?_); rintro e wq ⟨rfl, hb⟩; replace J := Lib.hid (J.out.step hb); (try clear sk); have sk := J.out.cells; clear hb)
        | (go_at_call 18; (with_reducible refine (CE _ (HT.out.below J.out.below)).out.mono ?_); rintro e wq ⟨rfl, hb⟩; replace J := Lib.hid (J.out.step hb); (try clear sk); have sk := J.out.cells; clear hb)
        | fail)
    all_goals
      go_wp2_with fail
      go_ret
      exact ⟨rfl, J.out.below⟩
  · rw [decide_eq_false hn] at C0
    go_enter Tryd.func5, Tryd.ntmps5
    go_wp2_with fail
    refine (C0 _).out.mono ?_
    rintro e w1 ⟨rfl, hb⟩
    replace J := Lib.hid (J.out.step hb)
    clear hb
    go_wp2_with fail
    refine (CE _ (HT.out.below J.out.below)).out.mono ?_
    rintro e w2 ⟨rfl, hb⟩
    replace J := Lib.hid (J.out.step hb)
    clear hb
    go_wp2_with fail
    go_ret
    exact ⟨rfl, J.out.below⟩

end Go.Proofs.YtphgjfkmnohjlaaDoor
