/-
  ApplyRect of package transform: the rectangle of the positions.
-/
import Derived.Test.YtphgjfkmnohjlaaDoorAppl
import Derived.Test.YtphgjfkmnohjlaaDoorInt
import Derived.Test.YtphgjfkmnohjlaaDoorUni
import Derived.Deep.RegionWith
namespace Go.Proofs.YtphgjfkmnohjlaaDoor
open Go.RowKit

/-- the part of a rectangle that lies in the image -/
def cutI (a b : Int) (r : R) : R := intR r ⟨0, 0, a, b⟩
/-- the rectangle of the positions of two opposite corners -/
def cornR (x0 y0 x1 y1 : Int) : R := ⟨min x0 x1, min y0 y1, max x0 x1 + 1, max y0 y1 + 1⟩
def mapR (t a b : Int) (i : R) : R := cornR (posX t a b i.x0 i.y0) (posY t a b i.x0 i.y0) (posX t a b (i.x1 - 1) (i.y1 - 1)) (posY t a b (i.x1 - 1) (i.y1 - 1))
def apR (t a b : Int) (r : R) : R := if empB (cutI a b r) then zeroR else mapR t a b (cutI a b r)

theorem emp_image (a b : Int) : empB ⟨0, 0, a, b⟩ = !szB a b := by
  cases h : szB a b
  · have h0 : ¬ ((1 ≤ a ∧ a ≤ 16384) ∧ (1 ≤ b ∧ b ≤ 16384)) := of_decide_eq_false h
    rw [Bool.not_false, emp_yes]
    simp only
    omega
  · have h0 : (1 ≤ a ∧ a ≤ 16384) ∧ (1 ≤ b ∧ b ≤ 16384) := of_decide_eq_true h
    rw [Bool.not_true, emp_no]
    simp only
    omega

theorem cut_no {a b : Int} (r : R) (h : szB a b = false) : empB (cutI a b r) = true := by
  unfold cutI
  rw [int_emp_r (by rw [emp_image, h]; rfl)]
  exact emp_zero

/-- what is left of a rectangle has its corners in the image -/
theorem cut_pix {a b : Int} {r : R} (h : empB (cutI a b r) = false) : Pix a b (cutI a b r).x0 (cutI a b r).y0 ∧ Pix a b ((cutI a b r).x1 - 1) ((cutI a b r).y1 - 1) := by
  have hb : empB ⟨0, 0, a, b⟩ = false := by
    cases hh : empB ⟨0, 0, a, b⟩
    · rfl
    · unfold cutI at h
      rw [int_emp_r hh, emp_zero] at h
      cases h
  have ha : empB r = false := by
    cases hh : empB r
    · rfl
    · unfold cutI at h
      rw [int_emp_l hh, emp_zero] at h
      cases h
  have hs := (emp_no _).1 hb
  have hr := (emp_no _).1 ha
  unfold cutI at h ⊢
  rw [int_full ha hb] at h ⊢
  cases hc : empB (cutR r ⟨0, 0, a, b⟩)
  · rw [can_full hc] at h ⊢
    have hi := (emp_no _).1 h
    unfold Pix
    simp only [cutR] at hs hr hi ⊢
    omega
  · rw [can_emp hc, emp_zero] at h
    cases h

theorem corn_uni {x0 y0 x1 y1 : Int} (h0 : (0 ≤ x0 ∧ x0 < 16384) ∧ (0 ≤ y0 ∧ y0 < 16384)) (h1 : (0 ≤ x1 ∧ x1 < 16384) ∧ (0 ≤ y1 ∧ y1 < 16384)) : uniR ⟨x0, y0, x0 + 1, y0 + 1⟩ ⟨x1, y1, x1 + 1, y1 + 1⟩ = cornR x0 y0 x1 y1 := by
  rw [uni_full ((emp_no _).2 (by simp only; omega)) ((emp_no _).2 (by simp only; omega))]
  refine R.same rfl rfl ?_ ?_
  · simp only [hullR, cornR]; omega
  · simp only [hullR, cornR]; omega

/-- the world behind the boxes of a rectangle and of a result -/
abbrev RR (w : World) (r : R) : World := (w.alloc (.cells #[.int .i64 r.x0, .int .i64 r.y0, .int .i64 r.x1, .int .i64 r.y1] 32)).alloc (.cells #[.int .i64 0, .int .i64 0, .int .i64 0, .int .i64 0] 32)

/-- the boxes of a rectangle and of a result, held while calls make memory -/
structure HeldR (w W : World) (r : R) : Prop where
  at1 : Four W w.heap.size (.int .i64 r.x0) (.int .i64 r.y0) (.int .i64 r.x1) (.int .i64 r.y1)
  at2 : Four W (w.heap.size + 1) (.int .i64 0) (.int .i64 0) (.int .i64 0) (.int .i64 0)
  below : Below w.heap.size w W
  there : w.heap.size + 1 < W.heap.size

theorem HeldR.step {w W w' : World} {r : R} (h : HeldR w W r) (hb : Below W.heap.size W w') : HeldR w w' r :=
  ⟨h.at1.keep hb (by have := h.there; omega), h.at2.keep hb h.there, Below.next h.below hb, Nat.lt_of_lt_of_le h.there hb.size⟩
theorem HeldR.drew {w W : World} {r : R} (h : HeldR w W r) : HeldR w W.drew r := ⟨h.at1, h.at2, h.below.drew, h.there⟩
theorem HeldR.new (w : World) (r : R) : HeldR w (RR w r) r := by
  have T1 := Four.new (w.alloc (.cells #[.int .i64 r.x0, .int .i64 r.y0, .int .i64 r.x1, .int .i64 r.y1] 32)) (.int .i64 0) (.int .i64 0) (.int .i64 0) (.int .i64 0) 32
  rw [World.size_alloc] at T1
  exact ⟨(Four.new w _ _ _ _ _).alloc (by rw [World.size_alloc]; exact Nat.lt_succ_self _) _, T1,
    ((Below.refl w.heap.size w).alloc (Nat.le_refl _) _).alloc (Nat.le_of_lt (by rw [World.size_alloc]; exact Nat.lt_succ_self _)) _, by simp [RR]⟩
theorem HeldR.set {w W : World} {r : R} (h : HeldR w W r) (i : R) : HeldR w (set4 W w.heap.size (.int .i64 i.x0) (.int .i64 i.y0) (.int .i64 i.x1) (.int .i64 i.y1)) i :=
  ⟨h.at1.set, h.at2.far (by omega), below_four h.below (Nat.le_refl _), by rw [set4_size]; exact h.there⟩

set_option maxRecDepth 100000 in
set_option maxHeartbeats 4000000 in
theorem aprect_any (t a b : Int) (r : R) (w : World) : Calls Tryd.prog 21 #[.int .i64 t, .int .i64 a, .int .i64 b, .agg #[.int .i64 r.x0, .int .i64 r.y0, .int .i64 r.x1, .int .i64 r.y1]] w fun e w' => e = .returned (.agg #[.int .i64 (apR t a b r).x0, .int .i64 (apR t a b r).y0, .int .i64 (apR t a b r).x1, .int .i64 (apR t a b r).y1]) ∧ Below w.heap.size w w' := by
  have C1 := fun W => Lib.hid (image_any a b W)
  have C2 : ∀ W, Hid (Calls Tryd.prog 40 #[.agg #[.int .i64 r.x0, .int .i64 r.y0, .int .i64 r.x1, .int .i64 r.y1], .agg #[.int .i64 0, .int .i64 0, .int .i64 a, .int .i64 b]] W fun e w' => e = .returned (.agg #[.int .i64 (cutI a b r).x0, .int .i64 (cutI a b r).y0, .int .i64 (cutI a b r).x1, .int .i64 (cutI a b r).y1]) ∧ Below W.heap.size W w') := fun W => Lib.hid (int_any r ⟨0, 0, a, b⟩ W)
  have C3 := fun W => Lib.hid (empty_any (cutI a b r) W)
  have J := Lib.hid (HeldR.new w r)
  obtain ⟨o0, o1, o2, o3, of⟩ := J.out.drew.at1
  cases he : empB (cutI a b r)
  · rw [he] at C3
    have e0 : apR t a b r = mapR t a b (cutI a b r) := by simp [apR, he]
    rw [e0]
    have hp := cut_pix he
    have C4 := fun W => Lib.hid (position_any t a b _ _ hp.1 W)
    have C5 := fun W => Lib.hid (position_any t a b _ _ hp.2 W)
    have h1 := hp.1.image t
    have h2 := hp.2.image t
    have g0 : (0 ≤ posX t a b (cutI a b r).x0 (cutI a b r).y0 ∧ posX t a b (cutI a b r).x0 (cutI a b r).y0 < 16384) ∧ (0 ≤ posY t a b (cutI a b r).x0 (cutI a b r).y0 ∧ posY t a b (cutI a b r).x0 (cutI a b r).y0 < 16384) := by
      obtain ⟨⟨h3, h4⟩, h5, h6⟩ := h1
      omega
    have g1 : (0 ≤ posX t a b ((cutI a b r).x1 - 1) ((cutI a b r).y1 - 1) ∧ posX t a b ((cutI a b r).x1 - 1) ((cutI a b r).y1 - 1) < 16384) ∧ (0 ≤ posY t a b ((cutI a b r).x1 - 1) ((cutI a b r).y1 - 1) ∧ posY t a b ((cutI a b r).x1 - 1) ((cutI a b r).y1 - 1) < 16384) := by
      obtain ⟨⟨h3, h4⟩, h5, h6⟩ := h2
      omega
    have b0 : (1 ≤ (cutI a b r).x1 ∧ (cutI a b r).x1 ≤ 16384) ∧ (1 ≤ (cutI a b r).y1 ∧ (cutI a b r).y1 ≤ 16384) := by
      obtain ⟨⟨h3, h4⟩, h5, h6⟩ := hp.2
      omega
    unfold mapR
    clear h1 h2 hp e0 he
    generalize cutI a b r = i at *
    generalize posX t a b i.x0 i.y0 = X0 at *
    generalize posY t a b i.x0 i.y0 = Y0 at *
    generalize posX t a b (i.x1 - 1) (i.y1 - 1) = X1 at *
    generalize posY t a b (i.x1 - 1) (i.y1 - 1) = Y1 at *
    have C6 := fun W => Lib.hid (square_any _ _ g0.1 g0.2 W)
    have C7 := fun W => Lib.hid (square_any _ _ g1.1 g1.2 W)
    have C8 := fun W => Lib.hid (uni_any ⟨X0, Y0, X0 + 1, Y0 + 1⟩ ⟨X1, Y1, X1 + 1, Y1 + 1⟩ W)
    rw [corn_uni g0 g1] at C8
    dsimp only at C8
    clear g0 g1
    have t0 : IntKind.i64.wrap (i.x1 - 1) = i.x1 - 1 := IntWalk.i64_in _ (by omega)
    have t1 : IntKind.i64.wrap (i.y1 - 1) = i.y1 - 1 := IntWalk.i64_in _ (by omega)
    obtain ⟨⟨b1, b2⟩, b3, b4⟩ := b0
    generalize cornR X0 Y0 X1 Y1 = c at *
    go_enter Tryd.func21, Tryd.ntmps21
    go_wp2_with fail
    go_region_with (first
      | (go_at_call 37; (with_reducible refine (C1 _).out.mono ?_); rintro e w1 ⟨rfl, hb⟩; replace J := Lib.hid (J.out.drew.step hb); clear hb o0 o1 o2 o3 of; obtain ⟨o0, o1, o2, o3, of⟩ := J.out.at1)
      | (go_at_call 40; (with_reducible refine (C2 _).out.mono ?_); rintro e w2 ⟨rfl, hb⟩; replace J := Lib.hid (J.out.step hb); clear hb o0 o1 o2 o3 of; obtain ⟨o0, o1, o2, o3, of⟩ := J.out.at1))
    all_goals
      replace J := Lib.hid (J.out.set i)
      have hz := J.out.there
      change Exit.then _ _ Exit.normal _ (set4 w2 w.heap.size (.int .i64 i.x0) (.int .i64 i.y0) (.int .i64 i.x1) (.int .i64 i.y1))
      generalize set4 w2 w.heap.size (.int .i64 i.x0) (.int .i64 i.y0) (.int .i64 i.x1) (.int .i64 i.y1) = W4 at *
      clear o0 o1 o2 o3 of
      obtain ⟨o0, o1, o2, o3, of⟩ := J.out.at1
      go_wp2_with fail
      refine (C3 _).out.mono ?_
      rintro e w3 ⟨rfl, hb⟩
      replace J := Lib.hid (J.out.step hb)
      clear hb o0 o1 o2 o3 of
      obtain ⟨o0, o1, o2, o3, of⟩ := J.out.at1
      go_wp2_with fail
      refine (C4 _).out.mono ?_
      rintro e w4 ⟨rfl, hb⟩
      replace J := Lib.hid (J.out.step hb)
      have P := Lib.hid (HeldP.new J.out.below X0 Y0)
      have J2 := Lib.hid (J.out.step ((Below.refl _ _).alloc (Nat.le_refl _) (.cells #[.int .i64 X0, .int .i64 Y0] 23)))
      have hz4 : w.heap.size < w4.heap.size := by have := J.out.there; omega
      clear hb o0 o1 o2 o3 of
      obtain ⟨o0, o1, o2, o3, of⟩ := J.out.at1
      go_wp2_with fail
      refine (C5 _).out.mono ?_
      rintro e w5 ⟨rfl, hb⟩
      replace J2 := Lib.hid (J2.out.step hb)
      replace P := Lib.hid (P.out.step hb)
      have hz7 : w4.heap.size < w5.heap.size := P.out.there
      have Q := Lib.hid (HeldP.new J2.out.below X1 Y1)
      have J3 := Lib.hid (J2.out.step ((Below.refl _ _).alloc (Nat.le_refl _) (.cells #[.int .i64 X1, .int .i64 Y1] 23)))
      replace P := Lib.hid (P.out.step ((Below.refl _ _).alloc (Nat.le_refl _) (.cells #[.int .i64 X1, .int .i64 Y1] 23)))
      have hz5 : w.heap.size < w5.heap.size := by have := J2.out.there; omega
      have hz6 : w.heap.size + 1 < w5.heap.size := by have := J2.out.there; omega
      clear hb o0 o1 o2 o3 of
      obtain ⟨o0, o1, o2, o3, of⟩ := J3.out.drew.at2
      go_wp2_with fail
      replace J3 := Lib.hid J3.out.drew
      replace P := Lib.hid P.out.drew
      replace Q := Lib.hid Q.out.drew
      obtain ⟨p0, p1⟩ := P.out.cells
      obtain ⟨q0, q1⟩ := Q.out.cells
      go_region_with (first
        | (go_at_call 43; (with_reducible refine (C6 _).out.mono ?_); rintro e w6 ⟨rfl, hb⟩; replace J3 := Lib.hid (J3.out.step hb); replace P := Lib.hid (P.out.step hb); replace Q := Lib.hid (Q.out.step hb); clear hb p0 p1 q0 q1 o0 o1 o2 o3 of; obtain ⟨p0, p1⟩ := P.out.cells; obtain ⟨q0, q1⟩ := Q.out.cells; obtain ⟨o0, o1, o2, o3, of⟩ := J3.out.at2)
        | (go_at_call 43; (with_reducible refine (C7 _).out.mono ?_); rintro e w7 ⟨rfl, hb⟩; replace J3 := Lib.hid (J3.out.step hb); replace P := Lib.hid (P.out.step hb); replace Q := Lib.hid (Q.out.step hb); clear hb p0 p1 q0 q1 o0 o1 o2 o3 of; obtain ⟨p0, p1⟩ := P.out.cells; obtain ⟨q0, q1⟩ := Q.out.cells; obtain ⟨o0, o1, o2, o3, of⟩ := J3.out.at2)
        | (go_at_call 42; (with_reducible refine (C8 _).out.mono ?_); rintro e w8 ⟨rfl, hb⟩; replace J3 := Lib.hid (J3.out.step hb); clear hb p0 p1 q0 q1 o0 o1 o2 o3 of; obtain ⟨o0, o1, o2, o3, of⟩ := J3.out.at2))
      all_goals
        go_wp2_with fail
        refine bodyPost_ret (v := .agg #[.int .i64 c.x0, .int .i64 c.y0, .int .i64 c.x1, .int .i64 c.y1]) (by simp [results, Tryd.results21, go_sem, o0, o1, o2, o3]) rfl ⟨rfl, ?_⟩
        exact below_set4 J3.out.below (Nat.le_succ _)
  · rw [he] at C3
    have e0 : apR t a b r = zeroR := by simp [apR, he]
    rw [e0]
    clear he e0
    generalize cutI a b r = i at *
    go_enter Tryd.func21, Tryd.ntmps21
    go_wp2_with fail
    go_region_with (first
      | (go_at_call 37; (with_reducible refine (C1 _).out.mono ?_); rintro e w1 ⟨rfl, hb⟩; replace J := Lib.hid (J.out.drew.step hb); clear hb o0 o1 o2 o3 of; obtain ⟨o0, o1, o2, o3, of⟩ := J.out.at1)
      | (go_at_call 40; (with_reducible refine (C2 _).out.mono ?_); rintro e w2 ⟨rfl, hb⟩; replace J := Lib.hid (J.out.step hb); clear hb o0 o1 o2 o3 of; obtain ⟨o0, o1, o2, o3, of⟩ := J.out.at1))
    all_goals
      replace J := Lib.hid (J.out.set i)
      have hz := J.out.there
      change Exit.then _ _ Exit.normal _ (set4 w2 w.heap.size (.int .i64 i.x0) (.int .i64 i.y0) (.int .i64 i.x1) (.int .i64 i.y1))
      generalize set4 w2 w.heap.size (.int .i64 i.x0) (.int .i64 i.y0) (.int .i64 i.x1) (.int .i64 i.y1) = W4 at *
      clear o0 o1 o2 o3 of
      obtain ⟨o0, o1, o2, o3, of⟩ := J.out.at1
      go_wp2_with fail
      refine (C3 _).out.mono ?_
      rintro e w3 ⟨rfl, hb⟩
      replace J := Lib.hid (J.out.step hb)
      clear hb o0 o1 o2 o3 of
      obtain ⟨o0, o1, o2, o3, of⟩ := J.out.at2
      go_wp2_with fail
      refine bodyPost_ret (v := .agg #[.int .i64 zeroR.x0, .int .i64 zeroR.y0, .int .i64 zeroR.x1, .int .i64 zeroR.y1]) (by simp [results, Tryd.results21, go_sem, o0, o1, o2, o3, zeroR]) rfl ⟨rfl, ?_⟩
      exact below_set4 J.out.below (Nat.le_succ _)

end Go.Proofs.YtphgjfkmnohjlaaDoor
