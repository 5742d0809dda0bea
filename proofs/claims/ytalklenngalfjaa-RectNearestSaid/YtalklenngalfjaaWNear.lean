/-
  RectNearest: for every rectangle, pixel of it and point from -2*MaxCoord to 2*MaxCoord, Clamp answers a pixel that no other is nearer than, in either coordinate: the law returns true and leaves its arguments as they were. No condition.
-/
import Derived.Test.YtalklenngalfjaaHold
namespace Go.Proofs.Ytalklenngalfjaa
open Go.ChangeShapes Go.WideShapes Go.ChangeAt Go.RowKit

theorem near_in {r : R} (h : empB r = false) (x y : Int) : conB r (clX r x) (clY r y) = true := by
  have e0 : clX r x = nearI x r.x0 (r.x1 - 1) := by simp [clX, h]
  have e1 : clY r y = nearI y r.y0 (r.y1 - 1) := by simp [clY, h]
  rw [con_iff, e0, e1]
  have := (emp_no r).1 h
  refine ⟨h, ?_⟩
  unfold nearI
  omega

theorem near_x {r : R} {px py : Int} (h : conB r px py = true) (x : Int) : max (clX r x - x) (x - clX r x) ≤ max (px - x) (x - px) := by
  obtain ⟨h0, h1, h2, _⟩ := (con_iff _ _ _).1 h
  have e0 : clX r x = nearI x r.x0 (r.x1 - 1) := by simp [clX, h0]
  rw [e0]
  have := (emp_no r).1 h0
  unfold nearI
  omega

theorem near_y {r : R} {px py : Int} (h : conB r px py = true) (y : Int) : max (clY r y - y) (y - clY r y) ≤ max (py - y) (y - py) := by
  obtain ⟨h0, _, _, h1, h2⟩ := (con_iff _ _ _).1 h
  have e0 : clY r y = nearI y r.y0 (r.y1 - 1) := by simp [clY, h0]
  rw [e0]
  have := (emp_no r).1 h0
  unfold nearI
  omega

theorem con_bd {r : R} {x y : Int} (h : conB r x y = true) : (-65536 ≤ x ∧ x ≤ 65536) ∧ (-65536 ≤ y ∧ y ≤ 65536) := by
  obtain ⟨h0, h1⟩ := (con_iff _ _ _).1 h
  have := (emp_no r).1 h0
  omega

set_option maxRecDepth 100000 in
set_option maxHeartbeats 4000000 in
theorem near_walk (r : R) (x y px py : Int) (w : World) : Calls Try.prog 10 #[.agg #[.int .i64 r.x0, .int .i64 r.y0, .int .i64 r.x1, .int .i64 r.y1], .agg #[.int .i64 x, .int .i64 y], .agg #[.int .i64 px, .int .i64 py]] w (Says true w) := by
  have HH := Lib.hid ((((HeldL.new w).rect r rfl).point x y (k := w.heap.size + 1) (by simp)).point px py (k := w.heap.size + 1 + 1) (by simp))
  simp only [rectC, pointC, List.nil_append, List.cons_append] at HH
  have C1 := fun W => Lib.hid (empty_any r W)
  cases h0 : empB r
  · rw [h0] at C1
    have C2 := fun W => Lib.hid (contains_any r px py W)
    cases h1 : conB r px py
    · rw [h1] at C2
      clear h0 h1
      go_enter Try.func10, Try.ntmps10
      go_wp2_with fail
      obtain ⟨r0, r1, r2, r3, q0, q1, p0, p1⟩ := id HH.out.cells
      change World.cell? _ _ = _ at p1
      go_quiet (fail)
      replace HH := Lib.hid (HH.out.drewN nq)
      clear r0 r1 r2 r3 q0 q1 p0 p1
      obtain ⟨r0, r1, r2, r3, q0, q1, p0, p1⟩ := id HH.out.cells
      change World.cell? _ _ = _ at p1
      go_wp2_with fail
      refine ((C1 _).out).mono ?_
      rintro e wq ⟨rfl, hbq⟩
      replace HH := Lib.hid (HH.out.step hbq)
      clear hbq
      clear r0 r1 r2 r3 q0 q1 p0 p1
      obtain ⟨r0, r1, r2, r3, q0, q1, p0, p1⟩ := id HH.out.cells
      change World.cell? _ _ = _ at p1
      go_wp2_with fail
      refine ((C2 _).out).mono ?_
      rintro e wq ⟨rfl, hbq⟩
      replace HH := Lib.hid (HH.out.step hbq)
      clear hbq
      clear r0 r1 r2 r3 q0 q1 p0 p1
      obtain ⟨r0, r1, r2, r3, q0, q1, p0, p1⟩ := id HH.out.cells
      change World.cell? _ _ = _ at p1
      go_wp2_with fail
      refine (example_any _).mono ?_
      rintro e wq ⟨rfl, hbq⟩
      replace HH := Lib.hid (HH.out.step hbq)
      clear hbq
      go_wp2_with fail
      go_ret
      exact ⟨rfl, HH.out.below⟩
    · rw [h1] at C2
      by_cases g0 : x < -32768
      · clear h0 h1
        go_enter Try.func10, Try.ntmps10
        go_wp2_with fail
        obtain ⟨r0, r1, r2, r3, q0, q1, p0, p1⟩ := id HH.out.cells
        change World.cell? _ _ = _ at p1
        go_quiet (fail)
        replace HH := Lib.hid (HH.out.drewN nq)
        clear r0 r1 r2 r3 q0 q1 p0 p1
        obtain ⟨r0, r1, r2, r3, q0, q1, p0, p1⟩ := id HH.out.cells
        change World.cell? _ _ = _ at p1
        go_wp2_with fail
        refine ((C1 _).out).mono ?_
        rintro e wq ⟨rfl, hbq⟩
        replace HH := Lib.hid (HH.out.step hbq)
        clear hbq
        clear r0 r1 r2 r3 q0 q1 p0 p1
        obtain ⟨r0, r1, r2, r3, q0, q1, p0, p1⟩ := id HH.out.cells
        change World.cell? _ _ = _ at p1
        go_wp2_with fail
        refine ((C2 _).out).mono ?_
        rintro e wq ⟨rfl, hbq⟩
        replace HH := Lib.hid (HH.out.step hbq)
        clear hbq
        clear r0 r1 r2 r3 q0 q1 p0 p1
        obtain ⟨r0, r1, r2, r3, q0, q1, p0, p1⟩ := id HH.out.cells
        change World.cell? _ _ = _ at p1
        go_wp2_with fail
        refine (example_any _).mono ?_
        rintro e wq ⟨rfl, hbq⟩
        replace HH := Lib.hid (HH.out.step hbq)
        clear hbq
        go_wp2_with fail
        go_ret
        exact ⟨rfl, HH.out.below⟩
      · by_cases g1 : 32768 < x
        · clear h0 h1
          go_enter Try.func10, Try.ntmps10
          go_wp2_with fail
          obtain ⟨r0, r1, r2, r3, q0, q1, p0, p1⟩ := id HH.out.cells
          change World.cell? _ _ = _ at p1
          go_quiet (fail)
          replace HH := Lib.hid (HH.out.drewN nq)
          clear r0 r1 r2 r3 q0 q1 p0 p1
          obtain ⟨r0, r1, r2, r3, q0, q1, p0, p1⟩ := id HH.out.cells
          change World.cell? _ _ = _ at p1
          go_wp2_with fail
          refine ((C1 _).out).mono ?_
          rintro e wq ⟨rfl, hbq⟩
          replace HH := Lib.hid (HH.out.step hbq)
          clear hbq
          clear r0 r1 r2 r3 q0 q1 p0 p1
          obtain ⟨r0, r1, r2, r3, q0, q1, p0, p1⟩ := id HH.out.cells
          change World.cell? _ _ = _ at p1
          go_wp2_with fail
          refine ((C2 _).out).mono ?_
          rintro e wq ⟨rfl, hbq⟩
          replace HH := Lib.hid (HH.out.step hbq)
          clear hbq
          clear r0 r1 r2 r3 q0 q1 p0 p1
          obtain ⟨r0, r1, r2, r3, q0, q1, p0, p1⟩ := id HH.out.cells
          change World.cell? _ _ = _ at p1
          go_wp2_with fail
          refine (example_any _).mono ?_
          rintro e wq ⟨rfl, hbq⟩
          replace HH := Lib.hid (HH.out.step hbq)
          clear hbq
          go_wp2_with fail
          go_ret
          exact ⟨rfl, HH.out.below⟩
        · by_cases g2 : y < -32768
          · clear h0 h1
            go_enter Try.func10, Try.ntmps10
            go_wp2_with fail
            obtain ⟨r0, r1, r2, r3, q0, q1, p0, p1⟩ := id HH.out.cells
            change World.cell? _ _ = _ at p1
            go_quiet (fail)
            replace HH := Lib.hid (HH.out.drewN nq)
            clear r0 r1 r2 r3 q0 q1 p0 p1
            obtain ⟨r0, r1, r2, r3, q0, q1, p0, p1⟩ := id HH.out.cells
            change World.cell? _ _ = _ at p1
            go_wp2_with fail
            refine ((C1 _).out).mono ?_
            rintro e wq ⟨rfl, hbq⟩
            replace HH := Lib.hid (HH.out.step hbq)
            clear hbq
            clear r0 r1 r2 r3 q0 q1 p0 p1
            obtain ⟨r0, r1, r2, r3, q0, q1, p0, p1⟩ := id HH.out.cells
            change World.cell? _ _ = _ at p1
            go_wp2_with fail
            refine ((C2 _).out).mono ?_
            rintro e wq ⟨rfl, hbq⟩
            replace HH := Lib.hid (HH.out.step hbq)
            clear hbq
            clear r0 r1 r2 r3 q0 q1 p0 p1
            obtain ⟨r0, r1, r2, r3, q0, q1, p0, p1⟩ := id HH.out.cells
            change World.cell? _ _ = _ at p1
            go_wp2_with fail
            refine (example_any _).mono ?_
            rintro e wq ⟨rfl, hbq⟩
            replace HH := Lib.hid (HH.out.step hbq)
            clear hbq
            go_wp2_with fail
            go_ret
            exact ⟨rfl, HH.out.below⟩
          · by_cases g3 : 32768 < y
            · clear h0 h1
              go_enter Try.func10, Try.ntmps10
              go_wp2_with fail
              obtain ⟨r0, r1, r2, r3, q0, q1, p0, p1⟩ := id HH.out.cells
              change World.cell? _ _ = _ at p1
              go_quiet (fail)
              replace HH := Lib.hid (HH.out.drewN nq)
              clear r0 r1 r2 r3 q0 q1 p0 p1
              obtain ⟨r0, r1, r2, r3, q0, q1, p0, p1⟩ := id HH.out.cells
              change World.cell? _ _ = _ at p1
              go_wp2_with fail
              refine ((C1 _).out).mono ?_
              rintro e wq ⟨rfl, hbq⟩
              replace HH := Lib.hid (HH.out.step hbq)
              clear hbq
              clear r0 r1 r2 r3 q0 q1 p0 p1
              obtain ⟨r0, r1, r2, r3, q0, q1, p0, p1⟩ := id HH.out.cells
              change World.cell? _ _ = _ at p1
              go_wp2_with fail
              refine ((C2 _).out).mono ?_
              rintro e wq ⟨rfl, hbq⟩
              replace HH := Lib.hid (HH.out.step hbq)
              clear hbq
              clear r0 r1 r2 r3 q0 q1 p0 p1
              obtain ⟨r0, r1, r2, r3, q0, q1, p0, p1⟩ := id HH.out.cells
              change World.cell? _ _ = _ at p1
              go_wp2_with fail
              refine (example_any _).mono ?_
              rintro e wq ⟨rfl, hbq⟩
              replace HH := Lib.hid (HH.out.step hbq)
              clear hbq
              go_wp2_with fail
              go_ret
              exact ⟨rfl, HH.out.below⟩
            · have hin := near_in h0 x y
              obtain ⟨b0, b1⟩ := con_bd hin
              obtain ⟨b2, b3⟩ := con_bd h1
              have d0 := near_x h1 x
              have d1 := near_y h1 y
              have C3 := fun W => Lib.hid (clamp_any r x y W)
              have C4 := fun W => Lib.hid (contains_any r (clX r x) (clY r y) W)
              have D0 := fun W => Lib.hid (dist_any (clX r x) x b0 (by omega) W)
              have D1 := fun W => Lib.hid (dist_any px x b2 (by omega) W)
              have D2 := fun W => Lib.hid (dist_any (clY r y) y b1 (by omega) W)
              have D3 := fun W => Lib.hid (dist_any py y b3 (by omega) W)
              rw [hin] at C4
              generalize max (clX r x - x) (x - clX r x) = m0 at *
              generalize max (clY r y - y) (y - clY r y) = m1 at *
              generalize max (px - x) (x - px) = m2 at *
              generalize max (py - y) (y - py) = m3 at *
              generalize clX r x = cx at *
              generalize clY r y = cy at *
              clear h0 h1 hin b0 b1 b2 b3
              go_enter Try.func10, Try.ntmps10
              go_wp2_with fail
              obtain ⟨r0, r1, r2, r3, q0, q1, p0, p1⟩ := id HH.out.cells
              change World.cell? _ _ = _ at p1
              go_quiet (fail)
              replace HH := Lib.hid (HH.out.drewN nq)
              clear r0 r1 r2 r3 q0 q1 p0 p1
              obtain ⟨r0, r1, r2, r3, q0, q1, p0, p1⟩ := id HH.out.cells
              change World.cell? _ _ = _ at p1
              go_wp2_with fail
              refine ((C1 _).out).mono ?_
              rintro e wq ⟨rfl, hbq⟩
              replace HH := Lib.hid (HH.out.step hbq)
              clear hbq
              clear r0 r1 r2 r3 q0 q1 p0 p1
              obtain ⟨r0, r1, r2, r3, q0, q1, p0, p1⟩ := id HH.out.cells
              change World.cell? _ _ = _ at p1
              go_wp2_with fail
              refine ((C2 _).out).mono ?_
              rintro e wq ⟨rfl, hbq⟩
              replace HH := Lib.hid (HH.out.step hbq)
              clear hbq
              clear r0 r1 r2 r3 q0 q1 p0 p1
              obtain ⟨r0, r1, r2, r3, q0, q1, p0, p1⟩ := id HH.out.cells
              change World.cell? _ _ = _ at p1
              go_wp2_with fail
              refine ((C3 _).out).mono ?_
              rintro e wq ⟨rfl, hbq⟩
              replace HH := Lib.hid (HH.out.step hbq)
              clear hbq
              clear r0 r1 r2 r3 q0 q1 p0 p1
              replace HH := Lib.hid HH.out.drew
              have sk := HH.out.cells
              dsimp only [Cells] at sk
              go_wp2_with fail
              go_region_held3 (fun W => W.cell? ⟨w.heap.size, 0, none⟩ = some (.int .i64 r.x0) ∧ W.cell? ⟨w.heap.size, 1, none⟩ = some (.int .i64 r.y0) ∧ W.cell? ⟨w.heap.size, 2, none⟩ = some (.int .i64 r.x1) ∧ W.cell? ⟨w.heap.size, 3, none⟩ = some (.int .i64 r.y1) ∧ W.cell? ⟨w.heap.size + 1, 0, none⟩ = some (.int .i64 x) ∧ W.cell? ⟨w.heap.size + 1, 1, none⟩ = some (.int .i64 y) ∧ W.cell? ⟨w.heap.size + 1 + 1, 0, none⟩ = some (.int .i64 px) ∧ W.cell? ⟨w.heap.size + 1 + 1, 1, none⟩ = some (.int .i64 py))
                (first
                  | go_keep
                  | exact sk)
                (first
                  | (go_at_call 19; (with_reducible refine ((C4 _).out).mono ?_); rintro e wq ⟨rfl, hbq⟩; replace HH := Lib.hid (HH.out.step hbq); (try clear sk); have sk := HH.out.cells; dsimp only [Cells] at sk; clear hbq)
                  | (go_at_call 36; (with_reducible refine ((D0 _).out).mono ?_); rintro e wq ⟨rfl, rfl⟩)
                  | (go_at_call 36; (with_reducible refine ((D1 _).out).mono ?_); rintro e wq ⟨rfl, rfl⟩)
                  | (go_at_call 36; (with_reducible refine ((D2 _).out).mono ?_); rintro e wq ⟨rfl, rfl⟩)
                  | (go_at_call 36; (with_reducible refine ((D3 _).out).mono ?_); rintro e wq ⟨rfl, rfl⟩)
                  | (go_at_call 21; (with_reducible refine (example_any _).mono ?_); rintro e wq ⟨rfl, hbq⟩; replace HH := Lib.hid (HH.out.step hbq); (try clear sk); have sk := HH.out.cells; dsimp only [Cells] at sk; clear hbq)
                  | fail)
              all_goals
                go_wp2_with fail
                go_ret
                exact ⟨rfl, HH.out.below⟩
  · rw [h0] at C1
    clear h0
    go_enter Try.func10, Try.ntmps10
    go_wp2_with fail
    obtain ⟨r0, r1, r2, r3, q0, q1, p0, p1⟩ := id HH.out.cells
    change World.cell? _ _ = _ at p1
    go_quiet (fail)
    replace HH := Lib.hid (HH.out.drewN nq)
    clear r0 r1 r2 r3 q0 q1 p0 p1
    obtain ⟨r0, r1, r2, r3, q0, q1, p0, p1⟩ := id HH.out.cells
    change World.cell? _ _ = _ at p1
    go_wp2_with fail
    refine ((C1 _).out).mono ?_
    rintro e wq ⟨rfl, hbq⟩
    replace HH := Lib.hid (HH.out.step hbq)
    clear hbq
    clear r0 r1 r2 r3 q0 q1 p0 p1
    obtain ⟨r0, r1, r2, r3, q0, q1, p0, p1⟩ := id HH.out.cells
    change World.cell? _ _ = _ at p1
    go_wp2_with fail
    refine (example_any _).mono ?_
    rintro e wq ⟨rfl, hbq⟩
    replace HH := Lib.hid (HH.out.step hbq)
    clear hbq
    go_wp2_with fail
    go_ret
    exact ⟨rfl, HH.out.below⟩

set_option maxRecDepth 100000 in
theorem nearest_lifted (os : Os) (started : os.Started) (H : Type) (enc : TypeId × Value → H) :
    ReturnsInHanded {} Try.checked os 10 .any (Rows.rectNearestSpec.pre6 enc Try.prog Try.f10 Rows.rectNearestRow.domain false) (Rows.rectNearestSpec.post enc Try.prog Try.f10 false true false false) := by
  refine returnsInHanded_of_change (C := Try.checked) own started (by kernel_rfl) Try.func10
    (ChangeSpec.witness6 (enc := enc) (C := Try.checked) false ⟨#[], #[.agg #[.int .i64 0, .int .i64 0, .int .i64 0, .int .i64 0], .agg #[.int .i64 0, .int .i64 0], .agg #[.int .i64 0, .int .i64 0]], []⟩ 8 (by kernel_rfl) (by kernel_rfl) (by kernel_rfl) (by kernel_rfl)) ?_
  intro W base args ds gs before hval0 hW _ _
  have hval : ∀ (j : Nat) t v, Try.f10.params[j]? = some t → args[j]? = some v → Value.okWide Try.prog W .any base t v := hval0
  have hW' := hW
  obtain ⟨p, q, hA0, hV, rfl, _, _⟩ := hW
  have hA : DataW.TrodAll enc Try.prog W 0 (fun _ => true) true Try.f10.params.toList args.toList ds p := hA0
  rw [Try.params10] at hA hval
  obtain ⟨v0, vs0, d0, ds0, p0, q0, hargs, rfl, rfl, h0, r0⟩ := trodAll_cons hA
  obtain ⟨v1, vs1, d1, ds1, p1, q1, rfl, rfl, rfl, h1, r1⟩ := trodAll_cons r0
  obtain ⟨v2, vs2, d2, ds2, p2, q2, rfl, rfl, rfl, h2, r2⟩ := trodAll_cons r1
  obtain ⟨rfl, rfl, rfl⟩ := trodAll_nil r2
  obtain rfl : args = #[v0, v1, v2] := by cases args; simp_all
  obtain ⟨rfl, rfl⟩ := trodVars_none hV
  clear hA0 hval0
  simp only [List.append_nil] at hW'
  have hlt0 : ∀ x ∈ p0, x.block < W.heap.size := fun x hx => hW'.lt x (by simp [hx])
  have k0 := h0
  have hlt1 : ∀ x ∈ p1, x.block < W.heap.size := fun x hx => hW'.lt x (by simp [hx])
  have k1 := h1
  have hlt2 : ∀ x ∈ p2, x.block < W.heap.size := fun x hx => hW'.lt x (by simp [hx])
  have k2 := h2
  obtain ⟨a0, rfl⟩ := open_rect (hval 0 23 v0 rfl rfl) h0
  obtain ⟨x1, y1, rfl⟩ := open_point (hval 1 38 v1 rfl rfl) h1
  obtain ⟨x2, y2, rfl⟩ := open_point (hval 2 38 v2 rfl rfl) h2
  refine (near_walk a0 x1 y1 x2 y2 _).mono fun e W' ⟨he, hg⟩ => ?_
  subst he
  exact ⟨_, rfl, _, _, _, [], _, [], hW', trodAll_cons_mk (shut_bool Try.underlying4 _) trodAll_mk0,
    (trodAll_cons_mk (Below.trod laidOut (by kernel_rfl) (of_decide_eq_true (by kernel_rfl)) k0 hg hlt0) (trodAll_cons_mk (Below.trod laidOut (by kernel_rfl) (of_decide_eq_true (by kernel_rfl)) k1 hg hlt1) (trodAll_cons_mk (Below.trod laidOut (by kernel_rfl) (of_decide_eq_true (by kernel_rfl)) k2 hg hlt2) trodAll_mk0))), rfl, hg.frame _, fun h => by cases h⟩

theorem nearest_holds : Rows.RectNearestSaid :=
  OpenClaim.holds_of_wide 10 Try.f10 rfl rfl rfl rfl rfl rfl rfl ⟨rfl, rfl, rfl, rfl, rfl⟩ rfl rfl rfl rfl rfl (by kernel_rfl) Try.func10 (by kernel_rfl)
    (of_decide_eq_true (by kernel_rfl)) (by unfold Func.isWrapper; first | (rw [if_pos (by decide +kernel)]; kernel_rfl) | (rw [if_neg (by decide +kernel)]; exact ⟨rfl, rfl⟩))
    (fun os started H enc _ => nearest_lifted os started H enc)

end Go.Proofs.Ytalklenngalfjaa
