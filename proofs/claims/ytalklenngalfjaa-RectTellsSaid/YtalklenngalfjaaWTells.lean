/-
  RectTells: for every rectangle and point, Valid, Empty, Canonical, Area and Contains answer as the reference does: the law returns true and leaves its arguments as they were. No condition.
-/
import Derived.Test.YtalklenngalfjaaHeld
namespace Go.Proofs.Ytalklenngalfjaa
open Go.ChangeShapes Go.WideShapes Go.ChangeAt Go.RowKit

set_option maxRecDepth 100000 in
set_option maxHeartbeats 4000000 in
theorem tells_walk (r : R) (x y : Int) (w : World) : Calls Try.prog 3 #[.agg #[.int .i64 r.x0, .int .i64 r.y0, .int .i64 r.x1, .int .i64 r.y1], .int .i64 x, .int .i64 y] w (Says true w) := by
  have HH := Lib.hid (Held1.new w r).drew
  go_enter Try.func3, Try.ntmps3
  go_wp2_with fail
  go_region_held3 (fun W => W.cell? ⟨w.heap.size, 0, none⟩ = some (.int .i64 r.x0) ∧ W.cell? ⟨w.heap.size, 1, none⟩ = some (.int .i64 r.y0) ∧ W.cell? ⟨w.heap.size, 2, none⟩ = some (.int .i64 r.x1) ∧ W.cell? ⟨w.heap.size, 3, none⟩ = some (.int .i64 r.y1))
    (first
      | go_keep
      | exact sk)
    (first
      | (go_at_call 11; (with_reducible refine (valid_any r _).mono ?_); rintro e wq ⟨rfl, hbq⟩; replace HH := Lib.hid (HH.out.step hbq); (try clear sk); have sk := HH.out.cells; clear hbq)
      | (go_at_call 12; (with_reducible refine (rvalid_any r _).mono ?_); rintro e wq ⟨rfl, hbq⟩; replace HH := Lib.hid (HH.out.step hbq); (try clear sk); have sk := HH.out.cells; clear hbq)
      | (go_at_call 13; (with_reducible refine (empty_any r _).mono ?_); rintro e wq ⟨rfl, hbq⟩; replace HH := Lib.hid (HH.out.step hbq); (try clear sk); have sk := HH.out.cells; clear hbq)
      | (go_at_call 14; (with_reducible refine (rempty_any r _).mono ?_); rintro e wq ⟨rfl, hbq⟩; replace HH := Lib.hid (HH.out.step hbq); (try clear sk); have sk := HH.out.cells; clear hbq)
      | (go_at_call 15; (with_reducible refine (canon_any r _).mono ?_); rintro e wq ⟨rfl, hbq⟩; replace HH := Lib.hid (HH.out.step hbq); (try clear sk); have sk := HH.out.cells; clear hbq)
      | (go_at_call 16; (with_reducible refine (rcanon_any r _).mono ?_); rintro e wq ⟨rfl, hbq⟩; replace HH := Lib.hid (HH.out.step hbq); (try clear sk); have sk := HH.out.cells; clear hbq)
      | (go_at_call 17; (with_reducible refine (area_any r _).mono ?_); rintro e wq ⟨rfl, hbq⟩; replace HH := Lib.hid (HH.out.step hbq); (try clear sk); have sk := HH.out.cells; clear hbq)
      | (go_at_call 18; (with_reducible refine (rarea_any r _).mono ?_); rintro e wq ⟨rfl, hbq⟩; replace HH := Lib.hid (HH.out.step hbq); (try clear sk); have sk := HH.out.cells; clear hbq)
      | (go_at_call 19; (with_reducible refine (contains_any r x y _).mono ?_); rintro e wq ⟨rfl, hbq⟩; replace HH := Lib.hid (HH.out.step hbq); (try clear sk); have sk := HH.out.cells; clear hbq)
      | (go_at_call 20; (with_reducible refine (rcontains_any r x y _).mono ?_); rintro e wq ⟨rfl, hbq⟩; replace HH := Lib.hid (HH.out.step hbq); (try clear sk); have sk := HH.out.cells; clear hbq)
      | (go_at_call 21; (with_reducible refine (example_any _).mono ?_); rintro e wq ⟨rfl, hbq⟩; replace HH := Lib.hid (HH.out.step hbq); (try clear sk); have sk := HH.out.cells; clear hbq)
      | fail)
  all_goals
    go_wp2_with fail
    go_ret
    exact ⟨rfl, HH.out.below⟩

set_option maxRecDepth 100000 in
theorem tells_lifted (os : Os) (started : os.Started) (H : Type) (enc : TypeId × Value → H) :
    ReturnsInHanded {} Try.checked os 3 .any (Rows.rectTellsSpec.pre6 enc Try.prog Try.f3 Rows.rectTellsRow.domain false) (Rows.rectTellsSpec.post enc Try.prog Try.f3 false true false false) := by
  refine returnsInHanded_of_change (C := Try.checked) own started (by kernel_rfl) Try.func3
    (ChangeSpec.witness6 (enc := enc) (C := Try.checked) false ⟨#[], #[.agg #[.int .i64 0, .int .i64 0, .int .i64 0, .int .i64 0], .int .i64 0, .int .i64 0], []⟩ 8 (by kernel_rfl) (by kernel_rfl) (by kernel_rfl) (by kernel_rfl)) ?_
  intro W base args ds gs before hval0 hW _ _
  have hval : ∀ (j : Nat) t v, Try.f3.params[j]? = some t → args[j]? = some v → Value.okWide Try.prog W .any base t v := hval0
  have hW' := hW
  obtain ⟨p, q, hA0, hV, rfl, _, _⟩ := hW
  have hA : DataW.TrodAll enc Try.prog W 0 (fun _ => true) true Try.f3.params.toList args.toList ds p := hA0
  rw [Try.params3] at hA hval
  obtain ⟨v0, vs0, d0, ds0, p0, q0, hargs, rfl, rfl, h0, r0⟩ := trodAll_cons hA
  obtain ⟨v1, vs1, d1, ds1, p1, q1, rfl, rfl, rfl, h1, r1⟩ := trodAll_cons r0
  obtain ⟨v2, vs2, d2, ds2, p2, q2, rfl, rfl, rfl, h2, r2⟩ := trodAll_cons r1
  obtain ⟨rfl, rfl, rfl⟩ := trodAll_nil r2
  obtain rfl : args = #[v0, v1, v2] := by cases args; simp_all
  obtain ⟨rfl, rfl⟩ := trodVars_none hV
  clear hA0 hval0
  simp only [List.append_nil] at hW'
  have hlt0 : ∀ x ∈ p0, x.block < W.heap.size := fun x hx => hW'.lt x (by simp [hx])
  have k0 := h0
  have hlt1 : ∀ x ∈ p1, x.block < W.heap.size := fun x hx => hW'.lt x (by simp [hx])
  have k1 := h1
  have hlt2 : ∀ x ∈ p2, x.block < W.heap.size := fun x hx => hW'.lt x (by simp [hx])
  have k2 := h2
  obtain ⟨a0, rfl⟩ := open_rect (hval 0 23 v0 rfl rfl) h0
  obtain ⟨m1, rfl, _, _, w1⟩ := open_int Try.underlying3 (hval 1 3 v1 rfl rfl) h1
  obtain ⟨m2, rfl, _, _, w2⟩ := open_int Try.underlying3 (hval 2 3 v2 rfl rfl) h2
  refine (tells_walk a0 m1 m2 _).mono fun e W' ⟨he, hg⟩ => ?_
  subst he
  exact ⟨_, rfl, _, _, _, [], _, [], hW', trodAll_cons_mk (shut_bool Try.underlying4 _) trodAll_mk0,
    (trodAll_cons_mk (Below.trod laidOut (by kernel_rfl) (of_decide_eq_true (by kernel_rfl)) k0 hg hlt0) (trodAll_cons_mk (Below.trod laidOut (by kernel_rfl) (of_decide_eq_true (by kernel_rfl)) k1 hg hlt1) (trodAll_cons_mk (Below.trod laidOut (by kernel_rfl) (of_decide_eq_true (by kernel_rfl)) k2 hg hlt2) trodAll_mk0))), rfl, hg.frame _, fun h => by cases h⟩

theorem tells_holds : Rows.RectTellsSaid :=
  OpenClaim.holds_of_wide 3 Try.f3 rfl rfl rfl rfl rfl rfl rfl ⟨rfl, rfl, rfl, rfl, rfl⟩ rfl rfl rfl rfl rfl (by kernel_rfl) Try.func3 (by kernel_rfl)
    (of_decide_eq_true (by kernel_rfl)) (by unfold Func.isWrapper; first | (rw [if_pos (by decide +kernel)]; kernel_rfl) | (rw [if_neg (by decide +kernel)]; exact ⟨rfl, rfl⟩))
    (fun os started H enc _ => tells_lifted os started H enc)

end Go.Proofs.Ytalklenngalfjaa
