/-
  Within of package rect (from the seat of rect).
-/
import Derived.Test.YtahhcklkcibgoaaInt
namespace Go.Proofs.Ytahhcklkcibgoaa
open Go.RowKit

theorem two4 {W w1 : World} {B k j : Nat} {x0 x1 x2 x3 y0 y1 y2 y3 : Value} (hb : Below B W w1) (hk : k < B) (hj : j < B) (h : Four W k x0 x1 x2 x3) (g : Four W j y0 y1 y2 y3) :
    w1.cell? ⟨k, 0, none⟩ = some x0 ∧ w1.cell? ⟨k, 1, none⟩ = some x1 ∧ w1.cell? ⟨k, 2, none⟩ = some x2 ∧ w1.cell? ⟨k, 3, none⟩ = some x3 ∧ w1.cell? ⟨j, 0, none⟩ = some y0 ∧ w1.cell? ⟨j, 1, none⟩ = some y1 ∧ w1.cell? ⟨j, 2, none⟩ = some y2 ∧ w1.cell? ⟨j, 3, none⟩ = some y3 := by
  obtain ⟨a, b, c, d, _⟩ := h.keep hb hk
  obtain ⟨a', b', c', d', _⟩ := g.keep hb hj
  exact ⟨a, b, c, d, a', b', c', d'⟩
set_option maxHeartbeats 2000000 in
theorem with_any (a b : R) (w : World) : Calls Try.prog 50 #[.agg #[.int .i64 a.x0, .int .i64 a.y0, .int .i64 a.x1, .int .i64 a.y1], .agg #[.int .i64 b.x0, .int .i64 b.y0, .int .i64 b.x1, .int .i64 b.y1]] w fun e w' => e = .returned (.bool (withB a b)) ∧ Below w.heap.size w w' := by
  have H0 := Lib.hid (((Below.refl w.heap.size w).alloc (Nat.le_refl _) (.cells #[.int .i64 a.x0, .int .i64 a.y0, .int .i64 a.x1, .int .i64 a.y1] 44)).alloc (by simp) (.cells #[.int .i64 b.x0, .int .i64 b.y0, .int .i64 b.x1, .int .i64 b.y1] 44))
  have F0 : Four ((w.alloc (.cells #[.int .i64 a.x0, .int .i64 a.y0, .int .i64 a.x1, .int .i64 a.y1] 44)).alloc (.cells #[.int .i64 b.x0, .int .i64 b.y0, .int .i64 b.x1, .int .i64 b.y1] 44)) w.heap.size (.int .i64 a.x0) (.int .i64 a.y0) (.int .i64 a.x1) (.int .i64 a.y1) := (Four.new w _ _ _ _ _).alloc (by simp) _
  have F1 : Four ((w.alloc (.cells #[.int .i64 a.x0, .int .i64 a.y0, .int .i64 a.x1, .int .i64 a.y1] 44)).alloc (.cells #[.int .i64 b.x0, .int .i64 b.y0, .int .i64 b.x1, .int .i64 b.y1] 44)) (w.heap.size + 1) (.int .i64 b.x0) (.int .i64 b.y0) (.int .i64 b.x1) (.int .i64 b.y1) := by
    have := Four.new (w.alloc (.cells #[.int .i64 a.x0, .int .i64 a.y0, .int .i64 a.x1, .int .i64 a.y1] 44)) (.int .i64 b.x0) (.int .i64 b.y0) (.int .i64 b.x1) (.int .i64 b.y1) 44
    rwa [World.size_alloc] at this
  have C1 := fun W => Lib.hid (int_any a b W)
  have C2 := fun W => Lib.hid (canon_any a W)
  obtain ⟨v, hv⟩ : ∃ v, withB a b = v := ⟨_, rfl⟩
  rw [hv]
  unfold withB at hv
  generalize intR a b = c at *
  generalize canR a = d at *
  have hv2 : ((c.x0 == d.x0) && (c.y0 == d.y0) && (c.x1 == d.x1) && (c.y1 == d.y1)) = v := hv
  clear hv
  cases e0 : (c.x0 == d.x0) <;> cases e1 : (c.y0 == d.y0) <;> cases e2 : (c.x1 == d.x1) <;> cases e3 : (c.y1 == d.y1) <;> (rw [e0, e1, e2, e3] at hv2; simp at hv2; subst hv2)
  all_goals
    go_enter Try.func50, Try.ntmps50
    go_wp2_with fail
    go_region_held3 (fun W => W.cell? ⟨w.heap.size, 0, none⟩ = some (.int .i64 a.x0) ∧ W.cell? ⟨w.heap.size, 1, none⟩ = some (.int .i64 a.y0) ∧ W.cell? ⟨w.heap.size, 2, none⟩ = some (.int .i64 a.x1) ∧ W.cell? ⟨w.heap.size, 3, none⟩ = some (.int .i64 a.y1) ∧ W.cell? ⟨w.heap.size + 1, 0, none⟩ = some (.int .i64 b.x0) ∧ W.cell? ⟨w.heap.size + 1, 1, none⟩ = some (.int .i64 b.y0) ∧ W.cell? ⟨w.heap.size + 1, 2, none⟩ = some (.int .i64 b.x1) ∧ W.cell? ⟨w.heap.size + 1, 3, none⟩ = some (.int .i64 b.y1))
      (first
        | go_keep
        | exact sk1
        | exact sk2)
      (first
        | (go_at_call 66; with_reducible refine (C1 _).out.mono ?_; rintro e w1 ⟨rfl, hb1⟩; have sk1 := two4 hb1 (by simp; omega) (by simp) F0.drew F1.drew)
        | (go_at_call 67; with_reducible refine (C2 _).out.mono ?_; rintro e w2 ⟨rfl, hb2⟩; replace hb2 := hb1.trans (hb2.mono hb1.size); have sk2 := two4 hb2 (by simp; omega) (by simp) F0.drew F1.drew))
    all_goals
      have K2 : Hid (Below w.heap.size w w2) := Lib.hid (H0.out.drew.trans (hb2.mono H0.out.drew.size))
      clear hb1 hb2 sk1 sk2
      go_wp2_with fail
      go_ret
      exact ⟨rfl, K2.out⟩

end Go.Proofs.Ytahhcklkcibgoaa
