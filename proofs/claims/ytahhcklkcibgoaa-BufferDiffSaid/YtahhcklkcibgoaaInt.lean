/-
  Intersect of package rect (from the seat of rect).
-/
import Derived.Test.YtahhcklkcibgoaaRect
namespace Go.Proofs.Ytahhcklkcibgoaa
open Go.RowKit

set_option maxHeartbeats 2000000 in
theorem int_any (a b : R) (w : World) : Calls Try.prog 66 #[.agg #[.int .i64 a.x0, .int .i64 a.y0, .int .i64 a.x1, .int .i64 a.y1], .agg #[.int .i64 b.x0, .int .i64 b.y0, .int .i64 b.x1, .int .i64 b.y1]] w fun e w' => e = .returned (.agg #[.int .i64 (intR a b).x0, .int .i64 (intR a b).y0, .int .i64 (intR a b).x1, .int .i64 (intR a b).y1]) ∧ Below w.heap.size w w' := by
  have H0 := Lib.hid ((((Below.refl w.heap.size w).alloc (Nat.le_refl _) (.cells #[.int .i64 a.x0, .int .i64 a.y0, .int .i64 a.x1, .int .i64 a.y1] 44)).alloc (by simp) (.cells #[.int .i64 b.x0, .int .i64 b.y0, .int .i64 b.x1, .int .i64 b.y1] 44)).alloc (by simp; omega) (.cells #[.int .i64 0, .int .i64 0, .int .i64 0, .int .i64 0] 44))
  unfold intR
  have F0 : Four (((w.alloc (.cells #[.int .i64 a.x0, .int .i64 a.y0, .int .i64 a.x1, .int .i64 a.y1] 44)).alloc (.cells #[.int .i64 b.x0, .int .i64 b.y0, .int .i64 b.x1, .int .i64 b.y1] 44)).alloc (.cells #[.int .i64 0, .int .i64 0, .int .i64 0, .int .i64 0] 44)) w.heap.size (.int .i64 a.x0) (.int .i64 a.y0) (.int .i64 a.x1) (.int .i64 a.y1) := ((Four.new w _ _ _ _ _).alloc (by simp) _).alloc (by simp; omega) _
  have F1 : Four (((w.alloc (.cells #[.int .i64 a.x0, .int .i64 a.y0, .int .i64 a.x1, .int .i64 a.y1] 44)).alloc (.cells #[.int .i64 b.x0, .int .i64 b.y0, .int .i64 b.x1, .int .i64 b.y1] 44)).alloc (.cells #[.int .i64 0, .int .i64 0, .int .i64 0, .int .i64 0] 44)) (w.heap.size + 1) (.int .i64 b.x0) (.int .i64 b.y0) (.int .i64 b.x1) (.int .i64 b.y1) := by
    have := Four.new (w.alloc (.cells #[.int .i64 a.x0, .int .i64 a.y0, .int .i64 a.x1, .int .i64 a.y1] 44)) (.int .i64 b.x0) (.int .i64 b.y0) (.int .i64 b.x1) (.int .i64 b.y1) 44
    rw [World.size_alloc] at this
    exact this.alloc (by simp) _
  have F2 : Four (((w.alloc (.cells #[.int .i64 a.x0, .int .i64 a.y0, .int .i64 a.x1, .int .i64 a.y1] 44)).alloc (.cells #[.int .i64 b.x0, .int .i64 b.y0, .int .i64 b.x1, .int .i64 b.y1] 44)).alloc (.cells #[.int .i64 0, .int .i64 0, .int .i64 0, .int .i64 0] 44)) (w.heap.size + 2) (.int .i64 0) (.int .i64 0) (.int .i64 0) (.int .i64 0) := by
    have := Four.new ((w.alloc (.cells #[.int .i64 a.x0, .int .i64 a.y0, .int .i64 a.x1, .int .i64 a.y1] 44)).alloc (.cells #[.int .i64 b.x0, .int .i64 b.y0, .int .i64 b.x1, .int .i64 b.y1] 44)) (.int .i64 0) (.int .i64 0) (.int .i64 0) (.int .i64 0) 44
    rwa [World.size_alloc, World.size_alloc] at this
  have C1 := fun W => Lib.hid (canon_any a W)
  have C2 := fun W => Lib.hid (canon_any b W)
  have C3 := fun W => Lib.hid (canon_any (cutR (canR a) (canR b)) W)
  generalize canR (cutR (canR a) (canR b)) = c at *
  simp only [cutR] at C3
  generalize canR a = a' at *
  generalize canR b = b' at *
  go_enter Try.func66, Try.ntmps66
  go_wp2_with fail
  go_region_with (first
    | (go_at_call 67; with_reducible refine (C1 _).out.mono ?_; rintro e w1 ⟨rfl, hb1⟩; obtain ⟨hc1, hf1⟩ := bcell hb1; have hz1 : w.heap.size + 2 < w1.heap.size := by have := hb1.size; simp at this; omega)
    | (go_at_call 67; with_reducible refine (C2 _).out.mono ?_; rintro e w2 ⟨rfl, hb2⟩; replace hb2 := hb1.trans (hb2.mono hb1.size); clear hc1 hf1 hz1; obtain ⟨hc2, hf2⟩ := bcell hb2; have hz2 : w.heap.size + 2 < w2.heap.size := by have := hb2.size; simp at this; omega))
  all_goals
    have K2 : Hid (Below w.heap.size w w2) := Lib.hid (H0.out.drew.trans (hb2.mono H0.out.drew.size))
    have G0 := (F0.drew.keep hb2 (by simp; omega)).set (y0 := .int .i64 a'.x0) (y1 := .int .i64 a'.y0) (y2 := .int .i64 a'.x1) (y3 := .int .i64 a'.y1)
    have G1 := ((F1.drew.keep hb2 (by simp)).far (y0 := .int .i64 a'.x0) (y1 := .int .i64 a'.y0) (y2 := .int .i64 a'.x1) (y3 := .int .i64 a'.y1) (j := w.heap.size) (by omega)).set (y0 := .int .i64 b'.x0) (y1 := .int .i64 b'.y0) (y2 := .int .i64 b'.x1) (y3 := .int .i64 b'.y1)
    replace G0 := G0.far (y0 := .int .i64 b'.x0) (y1 := .int .i64 b'.y0) (y2 := .int .i64 b'.x1) (y3 := .int .i64 b'.y1) (j := w.heap.size + 1) (by omega)
    have G2 := ((F2.drew.keep hb2 (by simp)).far (y0 := .int .i64 a'.x0) (y1 := .int .i64 a'.y0) (y2 := .int .i64 a'.x1) (y3 := .int .i64 a'.y1) (j := w.heap.size) (by omega)).far (y0 := .int .i64 b'.x0) (y1 := .int .i64 b'.y0) (y2 := .int .i64 b'.x1) (y3 := .int .i64 b'.y1) (j := w.heap.size + 1) (by omega)
    have K3 := below_four (x0 := .int .i64 b'.x0) (x1 := .int .i64 b'.y0) (x2 := .int .i64 b'.x1) (x3 := .int .i64 b'.y1) (k := w.heap.size + 1) (below_four (x0 := .int .i64 a'.x0) (x1 := .int .i64 a'.y0) (x2 := .int .i64 a'.x1) (x3 := .int .i64 a'.y1) K2.out (Nat.le_refl _)) (Nat.le_succ _)
    have hz3 : w.heap.size + 2 < (set4 (set4 w2 w.heap.size (.int .i64 a'.x0) (.int .i64 a'.y0) (.int .i64 a'.x1) (.int .i64 a'.y1)) (w.heap.size + 1) (.int .i64 b'.x0) (.int .i64 b'.y0) (.int .i64 b'.x1) (.int .i64 b'.y1)).heap.size := by rw [set4_size, set4_size]; exact hz2
    change Exit.then _ _ Exit.normal _ (set4 (set4 w2 w.heap.size (.int .i64 a'.x0) (.int .i64 a'.y0) (.int .i64 a'.x1) (.int .i64 a'.y1)) (w.heap.size + 1) (.int .i64 b'.x0) (.int .i64 b'.y0) (.int .i64 b'.x1) (.int .i64 b'.y1))
    generalize set4 (set4 w2 w.heap.size (.int .i64 a'.x0) (.int .i64 a'.y0) (.int .i64 a'.x1) (.int .i64 a'.y1)) (w.heap.size + 1) (.int .i64 b'.x0) (.int .i64 b'.y0) (.int .i64 b'.x1) (.int .i64 b'.y1) = W4 at *
    clear hb1 hb2 hc2 hf2 hz2 K2 F0 F1 F2 H0
    obtain ⟨p0, p1, p2, p3, pf⟩ := G0
    obtain ⟨q0, q1, q2, q3, qf⟩ := G1
    have HG2 := Lib.hid G2
    clear G2
    have K4 := Lib.hid K3
    clear K3
    go_wp2_with fail
    refine (C3 _).out.mono ?_
    rintro e w3 ⟨rfl, hb3⟩
    have K5 := Lib.hid (K4.out.trans (hb3.mono K4.out.size))
    obtain ⟨u0, u1, u2, u3, uf⟩ := HG2.out.keep hb3 hz3
    clear hb3 p0 p1 p2 p3 q0 q1 q2 q3 pf qf
    go_wp2_with fail
    exact bodyPost_ret (v := .agg #[.int .i64 c.x0, .int .i64 c.y0, .int .i64 c.x1, .int .i64 c.y1]) (by simp [results, Try.results66, go_sem, u0, u1, u2, u3]) rfl ⟨rfl, below_set4 K5.out (by omega)⟩

end Go.Proofs.Ytahhcklkcibgoaa
