/-
  Within of package rect and of its reference: what each returns, and that nothing that was there has turned.
-/
import Derived.Test.YtnkbejbpkjkgeaaRint
import Derived.Test.YtnkbejbpkjkgeaaMore
namespace Go.Proofs.Ytnkbejbpkjkgeaa
open Go.RowKit


set_option maxHeartbeats 2000000 in
theorem rwith_any (a b : R) (w : World) : Calls Try.prog 29 #[.agg #[.int .i64 a.x0, .int .i64 a.y0, .int .i64 a.x1, .int .i64 a.y1], .agg #[.int .i64 b.x0, .int .i64 b.y0, .int .i64 b.x1, .int .i64 b.y1]] w fun e w' => e = .returned (.bool (withB a b)) ∧ Below w.heap.size w w' := by
  have H0 := Lib.hid (((Below.refl w.heap.size w).alloc (Nat.le_refl _) (.cells #[.int .i64 a.x0, .int .i64 a.y0, .int .i64 a.x1, .int .i64 a.y1] 34)).alloc (by simp) (.cells #[.int .i64 b.x0, .int .i64 b.y0, .int .i64 b.x1, .int .i64 b.y1] 34))
  obtain ⟨v, hv⟩ : ∃ v, withB a b = v := ⟨_, rfl⟩
  rw [hv]
  rw [with_eq] at hv
  have C1 := fun W => Lib.hid (rempty_any a W)
  cases h0 : empB a
  · have C2 := fun W => Lib.hid (rempty_any b W)
    cases h1 : empB b
    · by_cases g0 : b.x0 ≤ a.x0 <;> by_cases g1 : b.y0 ≤ a.y0 <;> by_cases g2 : a.x1 ≤ b.x1 <;> by_cases g3 : a.y1 ≤ b.y1 <;> (rw [h0] at hv C1; rw [h1] at hv C2; simp [g0, g1, g2, g3] at hv; subst hv; clear h0 h1)
      all_goals
        go_enter Try.func29, Try.ntmps29
        go_wp2_with fail
        refine ((C1 _).out).mono ?_
        rintro e w1 ⟨rfl, hb1⟩
        obtain ⟨hc1, hf1⟩ := bcell hb1
        have hz1 : w.heap.size + 1 < w1.heap.size := by have := hb1.size; simp at this; omega
        have K1 := Lib.hid hb1
        clear hb1
        go_wp2_with fail
        refine ((C2 _).out).mono ?_
        rintro e w2 ⟨rfl, hb2⟩
        replace hb2 := K1.out.trans (hb2.mono K1.out.size)
        clear K1 hc1 hf1 hz1
        obtain ⟨hc2, hf2⟩ := bcell hb2
        have hz2 : w.heap.size + 1 < w2.heap.size := by have := hb2.size; simp at this; omega
        have K2 := Lib.hid hb2
        clear hb2
        go_wp2_with fail
        go_ret
        exact ⟨ret_bool (by clear hc2 hf2; simp [*]), H0.out.trans (K2.out.mono H0.out.size)⟩
    · rw [h0] at hv C1
      rw [h1] at hv C2
      simp at hv
      subst hv
      clear h0 h1
      go_enter Try.func29, Try.ntmps29
      go_wp2_with fail
      refine ((C1 _).out).mono ?_
      rintro e w1 ⟨rfl, hb1⟩
      obtain ⟨hc1, hf1⟩ := bcell hb1
      have hz1 : w.heap.size + 1 < w1.heap.size := by have := hb1.size; simp at this; omega
      have K1 := Lib.hid hb1
      clear hb1
      go_wp2_with fail
      refine ((C2 _).out).mono ?_
      rintro e w2 ⟨rfl, hb2⟩
      replace hb2 := K1.out.trans (hb2.mono K1.out.size)
      clear K1 hc1 hf1 hz1
      obtain ⟨hc2, hf2⟩ := bcell hb2
      have hz2 : w.heap.size + 1 < w2.heap.size := by have := hb2.size; simp at this; omega
      have K2 := Lib.hid hb2
      clear hb2
      go_wp2_with fail
      go_ret
      exact ⟨rfl, H0.out.trans (K2.out.mono H0.out.size)⟩
  · rw [h0] at hv C1
    simp at hv
    subst hv
    clear h0
    go_enter Try.func29, Try.ntmps29
    go_wp2_with fail
    refine ((C1 _).out).mono ?_
    rintro e w1 ⟨rfl, hb1⟩
    obtain ⟨hc1, hf1⟩ := bcell hb1
    have hz1 : w.heap.size + 1 < w1.heap.size := by have := hb1.size; simp at this; omega
    have K1 := Lib.hid hb1
    clear hb1
    go_wp2_with fail
    go_ret
    exact ⟨rfl, H0.out.trans (K1.out.mono H0.out.size)⟩

end Go.Proofs.Ytnkbejbpkjkgeaa
