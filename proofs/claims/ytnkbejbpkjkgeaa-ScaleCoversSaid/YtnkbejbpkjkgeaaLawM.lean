/-
  The walk of the law ScaleMaps.
-/
import Derived.Test.YtnkbejbpkjkgeaaExm
namespace Go.Proofs.Ytnkbejbpkjkgeaa
open Go.RowKit Mem

set_option maxHeartbeats 2000000 in
theorem eql_rect_self (r : R) (W : World) : (binOp .eql 34 (.agg #[.int .i64 r.x0, .int .i64 r.y0, .int .i64 r.x1, .int .i64 r.y1]) (.agg #[.int .i64 r.x0, .int .i64 r.y0, .int .i64 r.x1, .int .i64 r.y1])).run Try.prog W = .ok (.bool true) W := by
  have h : ∀ d : Nat, (Op.equalIn (d + 3) 34 (.agg #[.int .i64 r.x0, .int .i64 r.y0, .int .i64 r.x1, .int .i64 r.y1]) (.agg #[.int .i64 r.x0, .int .i64 r.y0, .int .i64 r.x1, .int .i64 r.y1])).run Try.prog W = .ok true W := fun d => by
    simp [Op.equalIn, run_underlying Try.underlying34, run_underlying Try.underlying3, go_sem]
  simp only [binOp]
  simp [Op.equal, Op.maxDepth, h 9997]

set_option maxRecDepth 100000 in
set_option maxHeartbeats 4000000 in
theorem maps_walk (r : R) (fw fh tw th : Int) (w : World) : Calls Try.prog 6 #[.agg #[.int .i64 r.x0, .int .i64 r.y0, .int .i64 r.x1, .int .i64 r.y1], .agg #[.int .i64 fw, .int .i64 fh, .int .i64 tw, .int .i64 th]] w (Says true w) := by
  have J := Lib.hid (show Held w ((w.alloc (.cells #[.int .i64 r.x0, .int .i64 r.y0, .int .i64 r.x1, .int .i64 r.y1] 34)).alloc (.cells #[.int .i64 fw, .int .i64 fh, .int .i64 tw, .int .i64 th] 36)) [(w.heap.size + 1, [.int .i64 fw, .int .i64 fh, .int .i64 tw, .int .i64 th]), (w.heap.size, [.int .i64 r.x0, .int .i64 r.y0, .int .i64 r.x1, .int .i64 r.y1])] from by
    have h := ((Held.nil w).alloc [.int .i64 r.x0, .int .i64 r.y0, .int .i64 r.x1, .int .i64 r.y1] 34).alloc [.int .i64 fw, .int .i64 fh, .int .i64 tw, .int .i64 th] 36
    rw [World.size_alloc] at h
    exact h)
  have C12 := fun W => Lib.hid (example_any W)
  have C1 := fun W => Lib.hid (map_any r fw fh tw th W)
  have C2 := fun W => Lib.hid (rmap_any r fw fh tw th W)
  generalize mapR r fw fh tw th = Z at *
  have E1 := fun W => eql_rect_self Z W
  go_enter Try.func6, Try.ntmps6
  go_wp2_with fail
  replace J := Lib.hid J.out.drew
  have sk := And.intro (four4 (J.out.four (l1 := [_]))) (four4 (J.out.four (l1 := [])))
  go_region_held3 (fun W => (W.cell? ⟨w.heap.size, 0, none⟩ = some (.int .i64 r.x0) ∧ W.cell? ⟨w.heap.size, 1, none⟩ = some (.int .i64 r.y0) ∧ W.cell? ⟨w.heap.size, 2, none⟩ = some (.int .i64 r.x1) ∧ W.cell? ⟨w.heap.size, 3, none⟩ = some (.int .i64 r.y1)) ∧ (W.cell? ⟨w.heap.size + 1, 0, none⟩ = some (.int .i64 fw) ∧ W.cell? ⟨w.heap.size + 1, 1, none⟩ = some (.int .i64 fh) ∧ W.cell? ⟨w.heap.size + 1, 2, none⟩ = some (.int .i64 tw) ∧ W.cell? ⟨w.heap.size + 1, 3, none⟩ = some (.int .i64 th)))
    (first
      | exact sk
      | go_keep)
    (first
      | (go_at_call 22; (with_reducible refine (C1 _).out.mono ?_); rintro e x1 ⟨rfl, hb⟩; replace J := Lib.hid (J.out.step hb); clear hb sk; have sk := And.intro (four4 (J.out.four (l1 := [_]))) (four4 (J.out.four (l1 := []))))
      | (go_at_call 23; (with_reducible refine (C2 _).out.mono ?_); rintro e x2 ⟨rfl, hb⟩; replace J := Lib.hid (J.out.step hb); clear hb sk; have sk := And.intro (four4 (J.out.four (l1 := [_]))) (four4 (J.out.four (l1 := []))))
      | (go_at_call 12; (with_reducible refine (C12 _).out.mono ?_); rintro e x3 ⟨rfl, hb⟩; replace J := Lib.hid (J.out.step hb); clear hb sk; have sk := And.intro (four4 (J.out.four (l1 := [_]))) (four4 (J.out.four (l1 := []))))
      | fail)
  all_goals
    go_wp2_with fail
    go_ret
    exact ⟨rfl, J.out.below⟩

end Go.Proofs.Ytnkbejbpkjkgeaa
