/-
  RectCombines: for all rectangles, Within, Intersect, Union and Subtract answer as the reference does: the law returns true and leaves its arguments as they were. No condition.
-/
import Derived.Test.YtalklenngalfjaaHeld
namespace Go.Proofs.Ytalklenngalfjaa
open Go.ChangeShapes Go.WideShapes Go.ChangeAt Go.RowKit

set_option maxRecDepth 100000 in
set_option maxHeartbeats 4000000 in
theorem combines_walk (a b : R) (w : World) : Calls Try.prog 4 #[.agg #[.int .i64 a.x0, .int .i64 a.y0, .int .i64 a.x1, .int .i64 a.y1], .agg #[.int .i64 b.x0, .int .i64 b.y0, .int .i64 b.x1, .int .i64 b.y1]] w (Says true w) := by
  have HH := Lib.hid (Held2.new w a b).drew
  have n1 : w.heap.size ≠ w.heap.size + 1 := by omega
  go_enter Try.func4, Try.ntmps4
  go_wp2_with fail
  go_region_held3 (fun W => W.cell? ⟨w.heap.size, 0, none⟩ = some (.int .i64 a.x0) ∧ W.cell? ⟨w.heap.size, 1, none⟩ = some (.int .i64 a.y0) ∧ W.cell? ⟨w.heap.size, 2, none⟩ = some (.int .i64 a.x1) ∧ W.cell? ⟨w.heap.size, 3, none⟩ = some (.int .i64 a.y1) ∧ W.cell? ⟨w.heap.size + 1, 0, none⟩ = some (.int .i64 b.x0) ∧ W.cell? ⟨w.heap.size + 1, 1, none⟩ = some (.int .i64 b.y0) ∧ W.cell? ⟨w.heap.size + 1, 2, none⟩ = some (.int .i64 b.x1) ∧ W.cell? ⟨w.heap.size + 1, 3, none⟩ = some (.int .i64 b.y1))
    (first
      | go_keep
      | exact sk)
    (first
      | (go_at_call 22; (with_reducible refine (with_any a b _).mono ?_); rintro e wq ⟨rfl, hbq⟩; replace HH := Lib.hid (HH.out.step hbq); (try clear sk); have sk := HH.out.cells; clear hbq)
      | (go_at_call 23; (with_reducible refine (rwith_any a b _).mono ?_); rintro e wq ⟨rfl, hbq⟩; replace HH := Lib.hid (HH.out.step hbq); (try clear sk); have sk := HH.out.cells; clear hbq)
      | (go_at_call 24; (with_reducible refine (int_any a b _).mono ?_); rintro e wq ⟨rfl, hbq⟩; replace HH := Lib.hid (HH.out.step hbq); (try clear sk); have sk := HH.out.cells; clear hbq)
      | (go_at_call 25; (with_reducible refine (rint_any a b _).mono ?_); rintro e wq ⟨rfl, hbq⟩; replace HH := Lib.hid (HH.out.step hbq); (try clear sk); have sk := HH.out.cells; clear hbq)
      | (go_at_call 26; (with_reducible refine (uni_any a b _).mono ?_); rintro e wq ⟨rfl, hbq⟩; replace HH := Lib.hid (HH.out.step hbq); (try clear sk); have sk := HH.out.cells; clear hbq)
      | (go_at_call 27; (with_reducible refine (runi_any a b _).mono ?_); rintro e wq ⟨rfl, hbq⟩; replace HH := Lib.hid (HH.out.step hbq); (try clear sk); have sk := HH.out.cells; clear hbq)
      | (go_at_call 21; (with_reducible refine (example_any _).mono ?_); rintro e wq ⟨rfl, hbq⟩; replace HH := Lib.hid (HH.out.step hbq); (try clear sk); have sk := HH.out.cells; clear hbq)
      | (go_at_call 29; (with_reducible refine (sub_any a b _).mono ?_); rintro e wq ⟨v1, rfl, ho1, hbq⟩; replace HH := Lib.hid (HH.out.step hbq); (try clear sk); have sk := HH.out.cells; have RL := Lib.hid ho1.rs; clear ho1; clear hbq)
      | (go_at_call 30; (with_reducible refine (rsub_any a b _).mono ?_); rintro e wq ⟨v2, rfl, ho2, hbq⟩; replace HH := Lib.hid (HH.out.step hbq); (try clear sk); have sk := HH.out.cells; have RM := Lib.hid ho2; replace RL := Lib.hid (RL.out.below hbq); clear ho2; clear hbq)
      | (go_at_call 28; (with_reducible refine (same_true RL.out RM.out).mono ?_); rintro e wq ⟨rfl, hbq⟩; replace HH := Lib.hid (HH.out.step hbq); (try clear sk); have sk := HH.out.cells; clear RL RM; clear hbq)
      | fail)
  all_goals
    go_wp2_with fail
    go_ret
    exact ⟨rfl, HH.out.below⟩

set_option maxRecDepth 100000 in
theorem combines_lifted (os : Os) (started : os.Started) (H : Type) (enc : TypeId × Value → H) :
    ReturnsInHanded {} Try.checked os 4 .any (Rows.rectCombinesSpec.pre6 enc Try.prog Try.f4 Rows.rectCombinesRow.domain false) (Rows.rectCombinesSpec.post enc Try.prog Try.f4 false true false false) := by
  refine returnsInHanded_of_change (C := Try.checked) own started (by kernel_rfl) Try.func4
    (ChangeSpec.witness6 (enc := enc) (C := Try.checked) false ⟨#[], #[.agg #[.int .i64 0, .int .i64 0, .int .i64 0, .int .i64 0], .agg #[.int .i64 0, .int .i64 0, .int .i64 0, .int .i64 0]], []⟩ 8 (by kernel_rfl) (by kernel_rfl) (by kernel_rfl) (by kernel_rfl)) ?_
  intro W base args ds gs before hval0 hW _ _
  have hval : ∀ (j : Nat) t v, Try.f4.params[j]? = some t → args[j]? = some v → Value.okWide Try.prog W .any base t v := hval0
  have hW' := hW
  obtain ⟨p, q, hA0, hV, rfl, _, _⟩ := hW
  have hA : DataW.TrodAll enc Try.prog W 0 (fun _ => true) true Try.f4.params.toList args.toList ds p := hA0
  rw [Try.params4] at hA hval
  obtain ⟨v0, vs0, d0, ds0, p0, q0, hargs, rfl, rfl, h0, r0⟩ := trodAll_cons hA
  obtain ⟨v1, vs1, d1, ds1, p1, q1, rfl, rfl, rfl, h1, r1⟩ := trodAll_cons r0
  obtain ⟨rfl, rfl, rfl⟩ := trodAll_nil r1
  obtain rfl : args = #[v0, v1] := by cases args; simp_all
  obtain ⟨rfl, rfl⟩ := trodVars_none hV
  clear hA0 hval0
  simp only [List.append_nil] at hW'
  have hlt0 : ∀ x ∈ p0, x.block < W.heap.size := fun x hx => hW'.lt x (by simp [hx])
  have k0 := h0
  have hlt1 : ∀ x ∈ p1, x.block < W.heap.size := fun x hx => hW'.lt x (by simp [hx])
  have k1 := h1
  obtain ⟨a0, rfl⟩ := open_rect (hval 0 23 v0 rfl rfl) h0
  obtain ⟨a1, rfl⟩ := open_rect (hval 1 23 v1 rfl rfl) h1
  refine (combines_walk a0 a1 _).mono fun e W' ⟨he, hg⟩ => ?_
  subst he
  exact ⟨_, rfl, _, _, _, [], _, [], hW', trodAll_cons_mk (shut_bool Try.underlying4 _) trodAll_mk0,
    (trodAll_cons_mk (Below.trod laidOut (by kernel_rfl) (of_decide_eq_true (by kernel_rfl)) k0 hg hlt0) (trodAll_cons_mk (Below.trod laidOut (by kernel_rfl) (of_decide_eq_true (by kernel_rfl)) k1 hg hlt1) trodAll_mk0)), rfl, hg.frame _, fun h => by cases h⟩

theorem combines_holds : Rows.RectCombinesSaid :=
  OpenClaim.holds_of_wide 4 Try.f4 rfl rfl rfl rfl rfl rfl rfl ⟨rfl, rfl, rfl, rfl, rfl⟩ rfl rfl rfl rfl rfl (by kernel_rfl) Try.func4 (by kernel_rfl)
    (of_decide_eq_true (by kernel_rfl)) (by unfold Func.isWrapper; first | (rw [if_pos (by decide +kernel)]; kernel_rfl) | (rw [if_neg (by decide +kernel)]; exact ⟨rfl, rfl⟩))
    (fun os started H enc _ => combines_lifted os started H enc)

end Go.Proofs.Ytalklenngalfjaa
