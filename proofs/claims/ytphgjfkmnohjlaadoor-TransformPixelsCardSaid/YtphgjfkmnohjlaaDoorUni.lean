/-
  Union of package rect and of its reference: what each returns, and that nothing that was there has turned.
-/
import Derived.Test.YtphgjfkmnohjlaaDoorFour
namespace Go.Proofs.YtphgjfkmnohjlaaDoor
open Go.RowKit


set_option maxHeartbeats 2000000 in
theorem uni_any (a b : R) (w : World) : Calls Tryd.prog 42 #[.agg #[.int .i64 a.x0, .int .i64 a.y0, .int .i64 a.x1, .int .i64 a.y1], .agg #[.int .i64 b.x0, .int .i64 b.y0, .int .i64 b.x1, .int .i64 b.y1]] w fun e w' => e = .returned (.agg #[.int .i64 (uniR a b).x0, .int .i64 (uniR a b).y0, .int .i64 (uniR a b).x1, .int .i64 (uniR a b).y1]) ∧ Below w.heap.size w w' := by
  have H0 := Lib.hid ((((Below.refl w.heap.size w).alloc (Nat.le_refl _) (.cells #[.int .i64 a.x0, .int .i64 a.y0, .int .i64 a.x1, .int .i64 a.y1] 32)).alloc (by simp) (.cells #[.int .i64 b.x0, .int .i64 b.y0, .int .i64 b.x1, .int .i64 b.y1] 32)).alloc (by simp; omega) (.cells #[.int .i64 0, .int .i64 0, .int .i64 0, .int .i64 0] 32))
  cases h0 : empB a
  · have C1 := fun W => Lib.hid (empty_any a W)
    rw [h0] at C1
    cases h1 : empB b
    · rw [uni_full h0 h1]
      have C2 := fun W => Lib.hid (empty_any b W)
      rw [h1] at C2
      clear h0 h1
      unfold hullR
      go_enter Tryd.func42, Tryd.ntmps42
      go_wp2_with fail
      refine ((C1 _).out).mono ?_
      rintro e w1 ⟨rfl, hb1⟩
      obtain ⟨hc1, hf1⟩ := bcell hb1
      have hz1 : w.heap.size + 2 < w1.heap.size := by have := hb1.size; simp at this; omega
      have K1 := Lib.hid hb1
      clear hb1
      go_wp2_with fail
      refine ((C2 _).out).mono ?_
      rintro e w2 ⟨rfl, hb2⟩
      replace hb2 := K1.out.trans (hb2.mono K1.out.size)
      clear K1 hc1 hf1 hz1
      obtain ⟨hc2, hf2⟩ := bcell hb2
      have hz2 : w.heap.size + 2 < w2.heap.size := by have := hb2.size; simp at this; omega
      have K2 := Lib.hid hb2
      clear hb2
      go_wp2_with fail
      exact bodyPost_ret (v := .agg #[.int .i64 (min a.x0 b.x0), .int .i64 (min a.y0 b.y0), .int .i64 (max a.x1 b.x1), .int .i64 (max a.y1 b.y1)]) (by simp [results, Tryd.results42, go_sem, hc2]) rfl ⟨rfl, below_set4 (H0.out.trans (K2.out.mono H0.out.size)) (by omega)⟩
    · rw [uni_emp_r h0 h1]
      have C2 := fun W => Lib.hid (empty_any b W)
      rw [h1] at C2
      clear h0 h1
      go_enter Tryd.func42, Tryd.ntmps42
      go_wp2_with fail
      refine ((C1 _).out).mono ?_
      rintro e w1 ⟨rfl, hb1⟩
      obtain ⟨hc1, hf1⟩ := bcell hb1
      have hz1 : w.heap.size + 2 < w1.heap.size := by have := hb1.size; simp at this; omega
      have K1 := Lib.hid hb1
      clear hb1
      go_wp2_with fail
      refine ((C2 _).out).mono ?_
      rintro e w2 ⟨rfl, hb2⟩
      replace hb2 := K1.out.trans (hb2.mono K1.out.size)
      clear K1 hc1 hf1 hz1
      obtain ⟨hc2, hf2⟩ := bcell hb2
      have hz2 : w.heap.size + 2 < w2.heap.size := by have := hb2.size; simp at this; omega
      have K2 := Lib.hid hb2
      clear hb2
      go_wp2_with fail
      exact bodyPost_ret (v := .agg #[.int .i64 a.x0, .int .i64 a.y0, .int .i64 a.x1, .int .i64 a.y1]) (by simp [results, Tryd.results42, go_sem, hc2]) rfl ⟨rfl, below_set4 (H0.out.trans (K2.out.mono H0.out.size)) (by omega)⟩
  · rw [uni_emp_l h0]
    have C1 := fun W => Lib.hid (empty_any a W)
    rw [h0] at C1
    have C2 := fun W => Lib.hid (canon_any b W)
    generalize canR b = c at *
    clear h0
    go_enter Tryd.func42, Tryd.ntmps42
    go_wp2_with fail
    refine ((C1 _).out).mono ?_
    rintro e w1 ⟨rfl, hb1⟩
    obtain ⟨hc1, hf1⟩ := bcell hb1
    have hz1 : w.heap.size + 2 < w1.heap.size := by have := hb1.size; simp at this; omega
    have K1 := Lib.hid hb1
    clear hb1
    go_wp2_with fail
    refine ((C2 _).out).mono ?_
    rintro e w2 ⟨rfl, hb2⟩
    replace hb2 := K1.out.trans (hb2.mono K1.out.size)
    clear K1 hc1 hf1 hz1
    obtain ⟨hc2, hf2⟩ := bcell hb2
    have hz2 : w.heap.size + 2 < w2.heap.size := by have := hb2.size; simp at this; omega
    have K2 := Lib.hid hb2
    clear hb2
    go_wp2_with fail
    exact bodyPost_ret (v := .agg #[.int .i64 c.x0, .int .i64 c.y0, .int .i64 c.x1, .int .i64 c.y1]) (by simp [results, Tryd.results42, go_sem, hc2]) rfl ⟨rfl, below_set4 (H0.out.trans (K2.out.mono H0.out.size)) (by omega)⟩

end Go.Proofs.YtphgjfkmnohjlaaDoor
