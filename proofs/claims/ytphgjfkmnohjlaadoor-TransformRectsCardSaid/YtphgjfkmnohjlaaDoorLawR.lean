/-
  The walk of the law TransformRects: the image of a rectangle has its area, lies in the transformed image and has the images of its pixels.
-/
import Derived.Test.YtphgjfkmnohjlaaDoorLawA
import Derived.Test.YtphgjfkmnohjlaaDoorRwith
namespace Go.Proofs.YtphgjfkmnohjlaaDoor
open Go.RowKit

/-- the image of a rectangle in an image -/
theorem map_dims {t a b : Int} {i : R} (ht : 0 ≤ t ∧ t ≤ 7) (hx : 0 ≤ i.x0 ∧ i.x0 < i.x1 ∧ i.x1 ≤ a) (hy : 0 ≤ i.y0 ∧ i.y0 < i.y1 ∧ i.y1 ≤ b) :
    (0 ≤ (mapR t a b i).x0 ∧ (mapR t a b i).x0 < (mapR t a b i).x1 ∧ (mapR t a b i).x1 ≤ siW t a b) ∧ (0 ≤ (mapR t a b i).y0 ∧ (mapR t a b i).y0 < (mapR t a b i).y1 ∧ (mapR t a b i).y1 ≤ siH t a b) ∧
    (((mapR t a b i).x1 - (mapR t a b i).x0 = i.x1 - i.x0 ∧ (mapR t a b i).y1 - (mapR t a b i).y0 = i.y1 - i.y0) ∨ ((mapR t a b i).x1 - (mapR t a b i).x0 = i.y1 - i.y0 ∧ (mapR t a b i).y1 - (mapR t a b i).y0 = i.x1 - i.x0)) ∧
    ∀ x y : Int, (((mapR t a b i).x0 ≤ posX t a b x y ∧ posX t a b x y < (mapR t a b i).x1) ∧ ((mapR t a b i).y0 ≤ posY t a b x y ∧ posY t a b x y < (mapR t a b i).y1)) ↔ ((i.x0 ≤ x ∧ x < i.x1) ∧ (i.y0 ≤ y ∧ y < i.y1)) := by
  obtain ⟨x0, y0, x1, y1⟩ := i
  simp only at hx hy ⊢
  rcases eight ht with rfl | rfl | rfl | rfl | rfl | rfl | rfl | rfl
  all_goals
    simp [mapR, cornR, posX, posY, siW, siH, odd, cl]
    refine ⟨by omega, by omega, by omega, fun x y => ?_⟩
    constructor
    · intro h; omega
    · intro h; omega

theorem map_cl (t a b : Int) (i : R) : mapR (cl t) a b i = mapR t a b i := by
  unfold mapR
  rw [(pos_cl t a b _ _).1, (pos_cl t a b _ _).2, (pos_cl t a b _ _).1, (pos_cl t a b _ _).2]

/-- what is left of a rectangle -/
theorem cut_in {a b : Int} {r : R} (h : empB (cutI a b r) = false) : (0 ≤ (cutI a b r).x0 ∧ (cutI a b r).x0 < (cutI a b r).x1 ∧ (cutI a b r).x1 ≤ a) ∧ (0 ≤ (cutI a b r).y0 ∧ (cutI a b r).y0 < (cutI a b r).y1 ∧ (cutI a b r).y1 ≤ b) := by
  obtain ⟨⟨h0, h1⟩, _⟩ := cut_pix h
  obtain ⟨⟨⟨h2, h3⟩, h4, h5⟩, _⟩ := (cut_pix h).2
  obtain ⟨e0, e1, e2, e3, e4, e5⟩ := (emp_no _).1 h
  omega

theorem con_cut {a b x y : Int} {r : R} (hi : inB a b x y = true) : conB (cutI a b r) x y = conB r x y := by
  rw [inB_iff] at hi
  have hb : empB ⟨0, 0, a, b⟩ = false := (emp_no _).2 (by simp only; omega)
  cases ha : empB r
  · unfold cutI
    rw [int_full ha hb, Bool.eq_iff_iff, con_iff, con_iff]
    have hr := (emp_no _).1 ha
    cases hc : empB (cutR r ⟨0, 0, a, b⟩)
    · rw [can_full hc]
      have hi2 := (emp_no _).1 hc
      simp only [cutR] at hi2 ⊢
      constructor
      · rintro ⟨_, h⟩
        exact ⟨ha, by omega⟩
      · rintro ⟨_, h⟩
        exact ⟨hc, by omega⟩
    · rw [can_emp hc]
      have hi2 := (emp_yes _).1 hc
      simp only [cutR] at hi2
      constructor
      · rintro ⟨h, _⟩
        rw [emp_zero] at h
        cases h
      · rintro ⟨_, h⟩
        exfalso
        omega
  · unfold cutI
    rw [int_emp_l ha, Bool.eq_iff_iff, con_iff, con_iff, ha, emp_zero]
    simp

theorem area_full {r : R} (h : empB r = false) : areaI r = (r.x1 - r.x0) * (r.y1 - r.y0) := by
  unfold areaI
  rw [can_full h]

/-- what the law says of the image of a rectangle -/
theorem rect_law {a b x y : Int} (t : Int) (r : R) (hi : inB a b x y = true) :
    areaI (apR t a b r) = areaI (cutI a b r) ∧ withB (apR t a b r) ⟨0, 0, siW t a b, siH t a b⟩ = true ∧ conB (apR t a b r) (posX t a b x y) (posY t a b x y) = conB r x y := by
  rw [← con_cut hi]
  cases he : empB (cutI a b r)
  · have e0 : apR t a b r = mapR t a b (cutI a b r) := by simp [apR, he]
    have hc := cut_in he
    obtain ⟨hi1, _⟩ := inB_iff.1 hi
    generalize cutI a b r = i at *
    have hd := map_dims (t := cl t) (cl_in t) hc.1 hc.2
    rw [map_cl, (si_cl t a b).1, (si_cl t a b).2] at hd
    obtain ⟨d0, d1, d2, d3⟩ := hd
    have d4 := d3 x y
    rw [(pos_cl t a b x y).1, (pos_cl t a b x y).2] at d4
    have hsz : siW t a b ≤ 16384 ∧ siH t a b ≤ 16384 := by
      unfold siW siH
      cases odd t <;> simp <;> omega
    rw [e0]
    have hm : empB (mapR t a b i) = false := (emp_no _).2 (by omega)
    refine ⟨?_, ?_, ?_⟩
    · rw [area_full hm, area_full he]
      rcases d2 with ⟨e1, e2⟩ | ⟨e1, e2⟩
      · rw [e1, e2]
      · rw [e1, e2, Int.mul_comm]
    · rw [with_eq, hm, (emp_no ⟨0, 0, siW t a b, siH t a b⟩).2 (by simp only; omega)]
      simp only [Bool.false_or, Bool.not_false, Bool.true_and, Bool.and_eq_true, decide_eq_true_eq]
      omega
    · rw [Bool.eq_iff_iff, con_iff, con_iff]
      constructor
      · rintro ⟨_, h⟩
        have := d4.1 (by omega)
        exact ⟨he, by omega⟩
      · rintro ⟨_, h⟩
        have := d4.2 (by omega)
        exact ⟨hm, by omega⟩
  · have e0 : apR t a b r = zeroR := by simp [apR, he]
    rw [e0]
    refine ⟨?_, ?_, ?_⟩
    · unfold areaI
      rw [can_emp he, can_zero]
    · rw [with_eq, emp_zero, Bool.true_or]
    · rw [Bool.eq_iff_iff, con_iff, con_iff, he, emp_zero]
      simp

/-- the boxes of the law: what it asks, a rectangle, a point -/
structure HeldN (w W : World) (a b x y : Int) (r : R) (g : Nat) (q : R) (m : Nat) (u v : Int) : Prop extends HeldA w W a b x y r where
  at2 : Four W g (.int .i64 q.x0) (.int .i64 q.y0) (.int .i64 q.x1) (.int .i64 q.y1)
  at3 : Two W m (.int .i64 u) (.int .i64 v)
  there2 : g < W.heap.size ∧ m < W.heap.size

theorem HeldN.step {w W w' : World} {a b x y u v : Int} {r q : R} {g m : Nat} (h : HeldN w W a b x y r g q m u v) (hb : Below W.heap.size W w') : HeldN w w' a b x y r g q m u v :=
  ⟨h.toHeldA.step hb, h.at2.keep hb h.there2.1, h.at3.keep hb h.there2.2, Nat.lt_of_lt_of_le h.there2.1 hb.size, Nat.lt_of_lt_of_le h.there2.2 hb.size⟩
theorem HeldN.drew {w W : World} {a b x y u v : Int} {r q : R} {g m : Nat} (h : HeldN w W a b x y r g q m u v) : HeldN w W.drew a b x y r g q m u v := h.step (Below.refl _ _).drew
theorem HeldN.cells {w W : World} {a b x y u v : Int} {r q : R} {g m : Nat} (h : HeldN w W a b x y r g q m u v) :
    W.cell? ⟨w.heap.size, 0, none⟩ = some (.int .i64 a) ∧ W.cell? ⟨w.heap.size, 1, none⟩ = some (.int .i64 b) ∧ W.cell? ⟨w.heap.size, 2, none⟩ = some (.int .i64 x) ∧ W.cell? ⟨w.heap.size, 3, none⟩ = some (.int .i64 y) ∧
    W.cell? ⟨w.heap.size, 4, none⟩ = some (.int .i64 r.x0) ∧ W.cell? ⟨w.heap.size, 5, none⟩ = some (.int .i64 r.y0) ∧ W.cell? ⟨w.heap.size, 6, none⟩ = some (.int .i64 r.x1) ∧ W.cell? ⟨w.heap.size, 7, none⟩ = some (.int .i64 r.y1) ∧
    W.cell? ⟨g, 0, none⟩ = some (.int .i64 q.x0) ∧ W.cell? ⟨g, 1, none⟩ = some (.int .i64 q.y0) ∧ W.cell? ⟨g, 2, none⟩ = some (.int .i64 q.x1) ∧ W.cell? ⟨g, 3, none⟩ = some (.int .i64 q.y1) ∧
    W.cell? ⟨m, 0, none⟩ = some (.int .i64 u) ∧ W.cell? ⟨m, 1, none⟩ = some (.int .i64 v) :=
  ⟨h.c0, h.c1, h.c2, h.c3, h.c4, h.c5, h.c6, h.c7, h.at2.1, h.at2.2.1, h.at2.2.2.1, h.at2.2.2.2.1, h.at3.1, h.at3.2.1⟩

/-- .. and the rectangle alone -/
structure HeldQ (w W : World) (a b x y : Int) (r : R) (g : Nat) (q : R) : Prop extends HeldA w W a b x y r where
  at2 : Four W g (.int .i64 q.x0) (.int .i64 q.y0) (.int .i64 q.x1) (.int .i64 q.y1)
  there2 : g < W.heap.size

theorem HeldQ.step {w W w' : World} {a b x y : Int} {r q : R} {g : Nat} (h : HeldQ w W a b x y r g q) (hb : Below W.heap.size W w') : HeldQ w w' a b x y r g q :=
  ⟨h.toHeldA.step hb, h.at2.keep hb h.there2, Nat.lt_of_lt_of_le h.there2 hb.size⟩
theorem HeldA.rect {w W : World} {a b x y : Int} {r : R} (h : HeldA w W a b x y r) (q : R) : HeldQ w (W.alloc (.cells #[.int .i64 q.x0, .int .i64 q.y0, .int .i64 q.x1, .int .i64 q.y1] 32)) a b x y r W.heap.size q :=
  ⟨h.step ((Below.refl _ _).alloc (Nat.le_refl _) _), Four.new _ _ _ _ _ _, by rw [World.size_alloc]; exact Nat.lt_succ_self _⟩
theorem HeldQ.point {w W : World} {a b x y : Int} {r q : R} {g : Nat} (h : HeldQ w W a b x y r g q) (u v : Int) : HeldN w (W.alloc (.cells #[.int .i64 u, .int .i64 v] 23)) a b x y r g q W.heap.size u v := by
  have h1 := h.step ((Below.refl _ _).alloc (Nat.le_refl _) (.cells #[.int .i64 u, .int .i64 v] 23))
  exact ⟨h1.toHeldA, h1.at2, Two.new _ _ _ _, h1.there2, by rw [World.size_alloc]; exact Nat.lt_succ_self _⟩

set_option maxRecDepth 100000 in
set_option maxHeartbeats 4000000 in
theorem rects_walk (t a b x y : Int) (r : R) (w : World) (h : Tab w) : Calls Tryd.prog 8 #[.int .i64 t, .agg #[.int .i64 a, .int .i64 b, .int .i64 x, .int .i64 y, .int .i64 r.x0, .int .i64 r.y0, .int .i64 r.x1, .int .i64 r.y1]] w (Says true w) := by
  have HT := Lib.hid h
  clear h
  have C0 := fun W => Lib.hid (inside_any a b x y r W)
  have CE := fun W h => Lib.hid (example_any W h)
  have J := Lib.hid (HeldA.new w a b x y r)
  cases hin : insB a b x y
  · rw [hin] at C0
    clear hin
    go_enter Tryd.func8, Tryd.ntmps8
    go_wp2_with fail
    refine (C0 _).out.mono ?_
    rintro e w1 ⟨rfl, hb⟩
    replace J := Lib.hid (J.out.step hb)
    clear hb
    go_wp2_with fail
    refine (CE _ (HT.out.below J.out.below)).out.mono ?_
    rintro e w2 ⟨rfl, hb⟩
    replace J := Lib.hid (J.out.step hb)
    clear hb
    go_wp2_with fail
    go_ret
    exact ⟨rfl, J.out.below⟩
  · rw [hin] at C0
    have hi := insB_in hin
    obtain ⟨l1, l2, l3⟩ := rect_law t r hi
    have C1 := fun W => Lib.hid (size_any t a b W)
    have C2 := fun W => Lib.hid (aprect_any t a b r W)
    have C3 := fun W => Lib.hid (apply_any t a b x y W)
    have C4 := fun W => Lib.hid (rarea_any (apR t a b r) W)
    have C5 : ∀ W, Hid (Calls Tryd.prog 30 #[.agg #[.int .i64 r.x0, .int .i64 r.y0, .int .i64 r.x1, .int .i64 r.y1], .agg #[.int .i64 0, .int .i64 0, .int .i64 a, .int .i64 b]] W fun e w' => e = .returned (.agg #[.int .i64 (cutI a b r).x0, .int .i64 (cutI a b r).y0, .int .i64 (cutI a b r).x1, .int .i64 (cutI a b r).y1]) ∧ Below W.heap.size W w') := fun W => Lib.hid (rint_any r ⟨0, 0, a, b⟩ W)
    have C6 := fun W => Lib.hid (rarea_any (cutI a b r) W)
    have C7 : ∀ W, Hid (Calls Tryd.prog 31 #[.agg #[.int .i64 (apR t a b r).x0, .int .i64 (apR t a b r).y0, .int .i64 (apR t a b r).x1, .int .i64 (apR t a b r).y1], .agg #[.int .i64 0, .int .i64 0, .int .i64 (siW t a b), .int .i64 (siH t a b)]] W fun e w' => e = .returned (.bool (withB (apR t a b r) ⟨0, 0, siW t a b, siH t a b⟩)) ∧ Below W.heap.size W w') := fun W => Lib.hid (rwith_any (apR t a b r) ⟨0, 0, siW t a b, siH t a b⟩ W)
    have C8 := fun W => Lib.hid (rcontains_any (apR t a b r) (posX t a b x y) (posY t a b x y) W)
    have C9 := fun W => Lib.hid (rcontains_any r x y W)
    rw [show apX t a b x y = posX t a b x y by simp [apX, hi], show apY t a b x y = posY t a b x y by simp [apY, hi]] at C3
    rw [l1] at C4
    rw [l2] at C7
    rw [l3] at C8
    clear l1 l2 l3 hin hi
    generalize conB r x y = cv at *
    generalize areaI (cutI a b r) = ar at *
    generalize cutI a b r = i at *
    generalize apR t a b r = q at *
    generalize posX t a b x y = X at *
    generalize posY t a b x y = Y at *
    generalize siW t a b = sw at *
    generalize siH t a b = sh at *
    have hcv : (cv == cv) = true := beq_self_eq_true cv
    go_enter Tryd.func8, Tryd.ntmps8
    go_wp2_with fail
    refine (C0 _).out.mono ?_
    rintro e w1 ⟨rfl, hb⟩
    replace J := Lib.hid (J.out.step hb)
    clear hb
    obtain ⟨o0, o1, o2, o3, o4, o5, o6, o7⟩ := J.out.cells
    go_wp2_with fail
    refine (C1 _).out.mono ?_
    rintro e wq ⟨rfl, rfl⟩
    go_wp2_with fail
    refine (C2 _).out.mono ?_
    rintro e w2 ⟨rfl, hb⟩
    replace J := Lib.hid (J.out.step hb)
    have P := Lib.hid (J.out.rect q)
    have hz : w.heap.size < w2.heap.size := J.out.there
    clear hb o0 o1 o2 o3 o4 o5 o6 o7
    obtain ⟨o0, o1, o2, o3, o4, o5, o6, o7⟩ := P.out.cells
    go_wp2_with fail
    refine (C3 _).out.mono ?_
    rintro e w3 ⟨rfl, hb⟩
    replace P := Lib.hid (P.out.step hb)
    have N := Lib.hid (P.out.point X Y)
    clear hb o0 o1 o2 o3 o4 o5 o6 o7 J
    go_wp2_with fail
    clear P
    replace N := Lib.hid N.out.drew
    have sk := N.out.cells
    go_region_held3 (fun W => W.cell? ⟨w.heap.size, 0, none⟩ = some (.int .i64 a) ∧ W.cell? ⟨w.heap.size, 1, none⟩ = some (.int .i64 b) ∧ W.cell? ⟨w.heap.size, 2, none⟩ = some (.int .i64 x) ∧ W.cell? ⟨w.heap.size, 3, none⟩ = some (.int .i64 y) ∧ W.cell? ⟨w.heap.size, 4, none⟩ = some (.int .i64 r.x0) ∧ W.cell? ⟨w.heap.size, 5, none⟩ = some (.int .i64 r.y0) ∧ W.cell? ⟨w.heap.size, 6, none⟩ = some (.int .i64 r.x1) ∧ W.cell? ⟨w.heap.size, 7, none⟩ = some (.int .i64 r.y1) ∧ W.cell? ⟨w2.heap.size, 0, none⟩ = some (.int .i64 q.x0) ∧ W.cell? ⟨w2.heap.size, 1, none⟩ = some (.int .i64 q.y0) ∧ W.cell? ⟨w2.heap.size, 2, none⟩ = some (.int .i64 q.x1) ∧ W.cell? ⟨w2.heap.size, 3, none⟩ = some (.int .i64 q.y1) ∧ W.cell? ⟨w3.heap.size, 0, none⟩ = some (.int .i64 X) ∧ W.cell? ⟨w3.heap.size, 1, none⟩ = some (.int .i64 Y))
      (first
        | exact sk
        | go_keep)
      (first
        | (go_at_call 29; (with_reducible refine (C4 _).out.mono ?_); rintro e wq ⟨rfl, hb⟩; replace N := Lib.hid (N.out.step hb); (try clear sk); have sk := N.out.cells; clear hb)
        | (go_at_call 30; (with_reducible refine (C5 _).out.mono ?_); rintro e wq ⟨rfl, hb⟩; replace N := Lib.hid (N.out.step hb); (try clear sk); have sk := N.out.cells; clear hb)
        | (go_at_call 29; (with_reducible refine (C6 _).out.mono ?_); rintro e wq ⟨rfl, hb⟩; replace N := Lib.hid (N.out.step hb); (try clear sk); have sk := N.out.cells; clear hb)
        | (go_at_call 31; (with_reducible refine (C7 _).out.mono ?_); rintro e wq ⟨rfl, hb⟩; replace N := Lib.hid (N.out.step hb); (try clear sk); have sk := N.out.cells; clear hb)
        | (go_at_call 32; (with_reducible refine (C8 _).out.mono ?_); rintro e wq ⟨rfl, hb⟩; replace N := Lib.hid (N.out.step hb); (try clear sk); have sk := N.out.cells; clear hb)
        | (go_at_call 32; (with_reducible refine (C9 _).out.mono ?_); rintro e wq ⟨rfl, hb⟩; replace N := Lib.hid (N.out.step hb); (try clear sk); have sk := N.out.cells; clear hb)
        | (go_at_call 18; (with_reducible refine (CE _ (HT.out.below N.out.below)).out.mono ?_); rintro e wq ⟨rfl, hb⟩; replace N := Lib.hid (N.out.step hb); (try clear sk); have sk := N.out.cells; clear hb)
        | fail)
    all_goals
      go_wp2_with fail
      go_ret
      exact ⟨rfl, N.out.below⟩

end Go.Proofs.YtphgjfkmnohjlaaDoor
