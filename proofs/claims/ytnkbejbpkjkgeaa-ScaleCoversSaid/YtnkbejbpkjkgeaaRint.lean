/-
  The reference's Intersect: what each returns, and that nothing that was there has turned.
-/
import Derived.Test.YtnkbejbpkjkgeaaRcan
namespace Go.Proofs.Ytnkbejbpkjkgeaa
open Go.RowKit


set_option maxHeartbeats 2000000 in
theorem rint_any (a b : R) (w : World) : Calls Try.prog 27 #[.agg #[.int .i64 a.x0, .int .i64 a.y0, .int .i64 a.x1, .int .i64 a.y1], .agg #[.int .i64 b.x0, .int .i64 b.y0, .int .i64 b.x1, .int .i64 b.y1]] w fun e w' => e = .returned (.agg #[.int .i64 (intR a b).x0, .int .i64 (intR a b).y0, .int .i64 (intR a b).x1, .int .i64 (intR a b).y1]) ∧ Below w.heap.size w w' := by
  have H0 := Lib.hid ((((Below.refl w.heap.size w).alloc (Nat.le_refl _) (.cells #[.int .i64 a.x0, .int .i64 a.y0, .int .i64 a.x1, .int .i64 a.y1] 34)).alloc (by simp) (.cells #[.int .i64 b.x0, .int .i64 b.y0, .int .i64 b.x1, .int .i64 b.y1] 34)).alloc (by simp; omega) (.cells #[.int .i64 0, .int .i64 0, .int .i64 0, .int .i64 0] 34))
  cases h0 : empB a
  · cases h1 : empB b
    · rw [int_full h0 h1]
      have C1 := fun W => Lib.hid (rempty_any a W)
      have C2 := fun W => Lib.hid (rempty_any b W)
      have C3 := fun W => Lib.hid (rcanon_any (cutR a b) W)
      rw [h0] at C1
      rw [h1] at C2
      generalize canR (cutR a b) = c at *
      simp only [cutR] at C3
      clear h0 h1
      go_enter Try.func27, Try.ntmps27
      go_wp2_with fail
      refine ((C1 _).out).mono ?_
      rintro e w1 ⟨rfl, hb1⟩
      obtain ⟨hc1, hf1⟩ := bcell hb1
      have hz1 : w.heap.size + 2 < w1.heap.size := by have := hb1.size; simp at this; omega
      have K1 := Lib.hid hb1
      clear hb1
      go_wp2_with fail
      refine ((C2 _).out).mono ?_
      rintro e w2 ⟨rfl, hb2⟩
      replace hb2 := K1.out.trans (hb2.mono K1.out.size)
      clear K1 hc1 hf1 hz1
      obtain ⟨hc2, hf2⟩ := bcell hb2
      have hz2 : w.heap.size + 2 < w2.heap.size := by have := hb2.size; simp at this; omega
      have K2 := Lib.hid hb2
      clear hb2
      go_wp2_with fail
      refine ((C3 _).out).mono ?_
      rintro e w3 ⟨rfl, hb3⟩
      replace hb3 := K2.out.trans (hb3.mono K2.out.size)
      clear K2 hc2 hf2 hz2
      obtain ⟨hc3, hf3⟩ := bcell hb3
      have hz3 : w.heap.size + 2 < w3.heap.size := by have := hb3.size; simp at this; omega
      have K3 := Lib.hid hb3
      clear hb3
      go_wp2_with fail
      exact bodyPost_ret (v := .agg #[.int .i64 c.x0, .int .i64 c.y0, .int .i64 c.x1, .int .i64 c.y1]) (by simp [results, Try.results27, go_sem, hc3]) rfl ⟨rfl, below_set4 (H0.out.trans (K3.out.mono H0.out.size)) (by omega)⟩
    · rw [int_emp_r h1]
      have C1 := fun W => Lib.hid (rempty_any a W)
      have C2 := fun W => Lib.hid (rempty_any b W)
      rw [h0] at C1
      rw [h1] at C2
      clear h0 h1
      go_enter Try.func27, Try.ntmps27
      go_wp2_with fail
      refine ((C1 _).out).mono ?_
      rintro e w1 ⟨rfl, hb1⟩
      obtain ⟨hc1, hf1⟩ := bcell hb1
      have hz1 : w.heap.size + 2 < w1.heap.size := by have := hb1.size; simp at this; omega
      have K1 := Lib.hid hb1
      clear hb1
      go_wp2_with fail
      refine ((C2 _).out).mono ?_
      rintro e w2 ⟨rfl, hb2⟩
      replace hb2 := K1.out.trans (hb2.mono K1.out.size)
      clear K1 hc1 hf1 hz1
      obtain ⟨hc2, hf2⟩ := bcell hb2
      have hz2 : w.heap.size + 2 < w2.heap.size := by have := hb2.size; simp at this; omega
      have K2 := Lib.hid hb2
      clear hb2
      go_wp2_with fail
      exact bodyPost_ret (v := .agg #[.int .i64 zeroR.x0, .int .i64 zeroR.y0, .int .i64 zeroR.x1, .int .i64 zeroR.y1]) (by simp [results, Try.results27, go_sem, hc2, zeroR]) rfl ⟨rfl, below_set4 (H0.out.trans (K2.out.mono H0.out.size)) (by omega)⟩
  · rw [int_emp_l h0]
    have C1 := fun W => Lib.hid (rempty_any a W)
    rw [h0] at C1
    clear h0
    go_enter Try.func27, Try.ntmps27
    go_wp2_with fail
    refine ((C1 _).out).mono ?_
    rintro e w1 ⟨rfl, hb1⟩
    obtain ⟨hc1, hf1⟩ := bcell hb1
    have hz1 : w.heap.size + 2 < w1.heap.size := by have := hb1.size; simp at this; omega
    have K1 := Lib.hid hb1
    clear hb1
    go_wp2_with fail
    exact bodyPost_ret (v := .agg #[.int .i64 zeroR.x0, .int .i64 zeroR.y0, .int .i64 zeroR.x1, .int .i64 zeroR.y1]) (by simp [results, Try.results27, go_sem, hc1, zeroR]) rfl ⟨rfl, below_set4 (H0.out.trans (K1.out.mono H0.out.size)) (by omega)⟩

end Go.Proofs.Ytnkbejbpkjkgeaa
