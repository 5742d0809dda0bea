/-
  ApplyRect of the reference: the same rectangle.
-/
import Derived.Test.YtphgjfkmnohjlaaDoorArect
import Derived.Test.YtphgjfkmnohjlaaDoorRint
import Derived.Deep.CutRange
namespace Go.Proofs.YtphgjfkmnohjlaaDoor
open Go.RowKit

/-- the boxes of a result and of what is left of a rectangle, held while calls make memory -/
structure HeldB (w W : World) (g : Nat) (i : R) : Prop where
  at2 : Four W (w.heap.size + 1) (.int .i64 0) (.int .i64 0) (.int .i64 0) (.int .i64 0)
  at3 : Four W g (.int .i64 i.x0) (.int .i64 i.y0) (.int .i64 i.x1) (.int .i64 i.y1)
  below : Below w.heap.size w W
  there : w.heap.size + 1 < g ∧ g < W.heap.size

theorem HeldB.step {w W w' : World} {g : Nat} {i : R} (h : HeldB w W g i) (hb : Below W.heap.size W w') : HeldB w w' g i :=
  ⟨h.at2.keep hb (by have := h.there; omega), h.at3.keep hb h.there.2, Below.next h.below hb, h.there.1, Nat.lt_of_lt_of_le h.there.2 hb.size⟩
theorem HeldB.drew {w W : World} {g : Nat} {i : R} (h : HeldB w W g i) : HeldB w W.drew g i := ⟨h.at2, h.at3, h.below.drew, h.there⟩
theorem HeldR.cut {w W : World} {r : R} (h : HeldR w W r) (i : R) : HeldB w (W.alloc (.cells #[.int .i64 i.x0, .int .i64 i.y0, .int .i64 i.x1, .int .i64 i.y1] 32)) W.heap.size i :=
  ⟨h.at2.alloc h.there _, Four.new _ _ _ _ _ _, Below.next h.below ((Below.refl _ _).alloc (Nat.le_refl _) _), h.there, by rw [World.size_alloc]; exact Nat.lt_succ_self _⟩

/-- .. and the box of a point -/
structure HeldC (w W : World) (g : Nat) (i : R) (m : Nat) (x y : Int) : Prop extends HeldB w W g i where
  at4 : Two W m (.int .i64 x) (.int .i64 y)
  there4 : g < m ∧ m < W.heap.size

theorem HeldC.step {w W w' : World} {g m : Nat} {i : R} {x y : Int} (h : HeldC w W g i m x y) (hb : Below W.heap.size W w') : HeldC w w' g i m x y :=
  ⟨h.toHeldB.step hb, h.at4.keep hb h.there4.2, h.there4.1, Nat.lt_of_lt_of_le h.there4.2 hb.size⟩
theorem HeldC.drew {w W : World} {g m : Nat} {i : R} {x y : Int} (h : HeldC w W g i m x y) : HeldC w W.drew g i m x y := ⟨h.toHeldB.drew, h.at4.drew 1, h.there4⟩
theorem HeldB.point {w W : World} {g : Nat} {i : R} (h : HeldB w W g i) (x y : Int) : HeldC w (W.alloc (.cells #[.int .i64 x, .int .i64 y] 23)) g i W.heap.size x y :=
  ⟨h.step ((Below.refl _ _).alloc (Nat.le_refl _) _), Two.new _ _ _ _, h.there.2, by rw [World.size_alloc]; exact Nat.lt_succ_self _⟩
theorem HeldC.set {w W : World} {g m : Nat} {i : R} {x y : Int} (h : HeldC w W g i m x y) (u v : Int) : HeldC w (set2 W m (.int .i64 u) (.int .i64 v)) g i m u v := by
  have h0 := h.there
  have h1 := h.there4
  have hs := set2_size W m (.int .i64 u) (.int .i64 v)
  refine ⟨⟨?_, ?_, below_set2 h.below (by omega), h0.1, by omega⟩, h.at4.set, h1.1, by omega⟩
  · obtain ⟨a0, a1, a2, a3, a4⟩ := h.at2
    unfold Four set2
    have : w.heap.size + 1 ≠ m := by omega
    simp [go_sem, a0, a1, a2, a3, a4]
  · obtain ⟨a0, a1, a2, a3, a4⟩ := h.at3
    unfold Four set2
    have : g ≠ m := by omega
    simp [go_sem, a0, a1, a2, a3, a4]

/-- .. and of a second one -/
structure HeldD (w W : World) (g : Nat) (i : R) (m : Nat) (x y : Int) (n : Nat) (u v : Int) : Prop extends HeldC w W g i m x y where
  at5 : Two W n (.int .i64 u) (.int .i64 v)
  there5 : m < n ∧ n < W.heap.size

theorem HeldD.step {w W w' : World} {g m n : Nat} {i : R} {x y u v : Int} (h : HeldD w W g i m x y n u v) (hb : Below W.heap.size W w') : HeldD w w' g i m x y n u v :=
  ⟨h.toHeldC.step hb, h.at5.keep hb h.there5.2, h.there5.1, Nat.lt_of_lt_of_le h.there5.2 hb.size⟩
theorem HeldD.drew {w W : World} {g m n : Nat} {i : R} {x y u v : Int} (h : HeldD w W g i m x y n u v) : HeldD w W.drew g i m x y n u v := ⟨h.toHeldC.drew, h.at5.drew 1, h.there5⟩
theorem HeldC.point {w W : World} {g m : Nat} {i : R} {x y : Int} (h : HeldC w W g i m x y) (u v : Int) : HeldD w (W.alloc (.cells #[.int .i64 u, .int .i64 v] 23)) g i m x y W.heap.size u v :=
  ⟨h.step ((Below.refl _ _).alloc (Nat.le_refl _) _), Two.new _ _ _ _, h.there4.2, by rw [World.size_alloc]; exact Nat.lt_succ_self _⟩
theorem HeldD.set {w W : World} {g m n : Nat} {i : R} {x y u v : Int} (h : HeldD w W g i m x y n u v) (u' v' : Int) : HeldD w (set2 W n (.int .i64 u') (.int .i64 v')) g i m x y n u' v' := by
  have h0 := h.there
  have h1 := h.there4
  have h2 := h.there5
  have hs := set2_size W n (.int .i64 u') (.int .i64 v')
  refine ⟨⟨⟨?_, ?_, below_set2 h.below (by omega), h0.1, by omega⟩, h.at4.far (by omega), h1.1, by omega⟩, h.at5.set, h2.1, by omega⟩
  · obtain ⟨a0, a1, a2, a3, a4⟩ := h.at2
    unfold Four set2
    have : w.heap.size + 1 ≠ n := by omega
    simp [go_sem, a0, a1, a2, a3, a4]
  · obtain ⟨a0, a1, a2, a3, a4⟩ := h.at3
    unfold Four set2
    have : g ≠ n := by omega
    simp [go_sem, a0, a1, a2, a3, a4]

set_option maxRecDepth 100000 in
set_option maxHeartbeats 4000000 in
theorem raprect_any (t a b : Int) (r : R) (w : World) : Calls Tryd.prog 22 #[.int .i64 t, .int .i64 a, .int .i64 b, .agg #[.int .i64 r.x0, .int .i64 r.y0, .int .i64 r.x1, .int .i64 r.y1]] w fun e w' => e = .returned (.agg #[.int .i64 (apR t a b r).x0, .int .i64 (apR t a b r).y0, .int .i64 (apR t a b r).x1, .int .i64 (apR t a b r).y1]) ∧ Below w.heap.size w w' := by
  have C0 := fun W => Lib.hid (sized_any a b W)
  have C1 : ∀ W, Hid (Calls Tryd.prog 30 #[.agg #[.int .i64 r.x0, .int .i64 r.y0, .int .i64 r.x1, .int .i64 r.y1], .agg #[.int .i64 0, .int .i64 0, .int .i64 a, .int .i64 b]] W fun e w' => e = .returned (.agg #[.int .i64 (cutI a b r).x0, .int .i64 (cutI a b r).y0, .int .i64 (cutI a b r).x1, .int .i64 (cutI a b r).y1]) ∧ Below W.heap.size W w') := fun W => Lib.hid (rint_any r ⟨0, 0, a, b⟩ W)
  have C2 := fun W => Lib.hid (rclean_any t W)
  have C3 := fun W => Lib.hid (rempty_any (cutI a b r) W)
  have J := Lib.hid (HeldR.new w r)
  cases hs : szB a b
  · have e0 : apR t a b r = zeroR := by simp [apR, cut_no r hs]
    rw [e0]
    rw [hs] at C0
    clear e0 hs
    go_enter Tryd.func22, Tryd.ntmps22
    go_wp2_with fail
    refine (C0 _).out.mono ?_
    rintro e wq ⟨rfl, rfl⟩
    go_wp2_with fail
    refine bodyPost_ret (v := .agg #[.int .i64 zeroR.x0, .int .i64 zeroR.y0, .int .i64 zeroR.x1, .int .i64 zeroR.y1]) (by simp [results, Tryd.results22, go_sem, zeroR]) rfl ⟨rfl, ?_⟩
    exact J.out.below
  · rw [hs] at C0
    clear hs
    cases he : empB (cutI a b r)
    · rw [he] at C3
      have e0 : apR t a b r = mapR t a b (cutI a b r) := by simp [apR, he]
      rw [e0]
      have hp := cut_pix he
      have C4 := fun W => Lib.hid (place_any (cl t) a b _ _ (cl_in t) hp.1 W)
      have C5 := fun W => Lib.hid (place_any (cl t) a b _ _ (cl_in t) hp.2 W)
      rw [(pos_cl t a b _ _).1, (pos_cl t a b _ _).2] at C4 C5
      have h1 := hp.1.image t
      have h2 := hp.2.image t
      have g0 : (0 ≤ posX t a b (cutI a b r).x0 (cutI a b r).y0 ∧ posX t a b (cutI a b r).x0 (cutI a b r).y0 < 16384) ∧ (0 ≤ posY t a b (cutI a b r).x0 (cutI a b r).y0 ∧ posY t a b (cutI a b r).x0 (cutI a b r).y0 < 16384) := by
        obtain ⟨⟨h3, h4⟩, h5, h6⟩ := h1
        omega
      have g1 : (0 ≤ posX t a b ((cutI a b r).x1 - 1) ((cutI a b r).y1 - 1) ∧ posX t a b ((cutI a b r).x1 - 1) ((cutI a b r).y1 - 1) < 16384) ∧ (0 ≤ posY t a b ((cutI a b r).x1 - 1) ((cutI a b r).y1 - 1) ∧ posY t a b ((cutI a b r).x1 - 1) ((cutI a b r).y1 - 1) < 16384) := by
        obtain ⟨⟨h3, h4⟩, h5, h6⟩ := h2
        omega
      have b0 : (1 ≤ (cutI a b r).x1 ∧ (cutI a b r).x1 ≤ 16384) ∧ (1 ≤ (cutI a b r).y1 ∧ (cutI a b r).y1 ≤ 16384) := by
        obtain ⟨⟨h3, h4⟩, h5, h6⟩ := hp.2
        omega
      unfold mapR
      clear h1 h2 hp e0 he
      generalize cutI a b r = i at *
      generalize cl t = c at *
      generalize posX t a b i.x0 i.y0 = X0 at *
      generalize posY t a b i.x0 i.y0 = Y0 at *
      generalize posX t a b (i.x1 - 1) (i.y1 - 1) = X1 at *
      generalize posY t a b (i.x1 - 1) (i.y1 - 1) = Y1 at *
      have t0 : IntKind.i64.wrap (i.x1 - 1) = i.x1 - 1 := IntWalk.i64_in _ (by omega)
      have t1 : IntKind.i64.wrap (i.y1 - 1) = i.y1 - 1 := IntWalk.i64_in _ (by omega)
      have t2 : -2 ≤ max X0 X1 ∧ max X0 X1 ≤ 16384 := by omega
      have t3 : -2 ≤ max Y0 Y1 ∧ max Y0 Y1 ≤ 16384 := by omega
      have t4 : IntKind.i64.wrap (max X0 X1 + 1) = max X0 X1 + 1 := IntWalk.i64_in _ (by omega)
      have t5 : IntKind.i64.wrap (max Y0 Y1 + 1) = max Y0 Y1 + 1 := IntWalk.i64_in _ (by omega)
      obtain ⟨⟨b1, b2⟩, b3, b4⟩ := b0
      obtain ⟨t2, t6⟩ := t2
      obtain ⟨t3, t7⟩ := t3
      clear g0 g1
      unfold cornR
      dsimp only
      go_enter Tryd.func22, Tryd.ntmps22
      go_wp2_with fail
      refine (C0 _).out.mono ?_
      rintro e wq ⟨rfl, rfl⟩
      go_wp2_with fail
      refine (C1 _).out.mono ?_
      rintro e w1 ⟨rfl, hb⟩
      replace J := Lib.hid (J.out.step hb)
      have J1 := Lib.hid (J.out.cut i)
      obtain ⟨o0, o1, o2, o3, of⟩ := J1.out.at3
      clear hb
      go_wp2_with fail
      refine (C3 _).out.mono ?_
      rintro e w2 ⟨rfl, hb⟩
      replace J1 := Lib.hid (J1.out.step hb)
      clear hb o0 o1 o2 o3 of
      generalize w1.heap.size = g at *
      go_upto_region 6 with fail
      go_cut [10] from 25 to 69 (fun s10 wx => ∃ M : Nat, s10 = .pointer (some ⟨M, 0, none⟩) ∧ Hid (HeldC w wx g i M X0 Y0))
      case first =>
        have n1 : g ≠ w2.heap.size := Nat.ne_of_lt J1.out.there.2
        have n2 : w2.heap.size ≠ g := Nat.ne_of_gt J1.out.there.2
        have sj := And.intro J1.out.drew.at3.1 J1.out.drew.at3.2.1
        have sa := And.intro (J1.out.point 0 0).drew.at3.1 (J1.out.point 0 0).drew.at3.2.1
        go_region_held3 (fun W => W.cell? ⟨g, 0, none⟩ = some (.int .i64 i.x0) ∧ W.cell? ⟨g, 1, none⟩ = some (.int .i64 i.y0))
          (first
            | go_keep
            | exact sk
            | exact ss
            | exact sj
            | exact sa)
          (first
            | (go_at_call 34; (with_reducible refine (C2 _).out.mono ?_); rintro e wq ⟨rfl, rfl⟩)
            | (go_at_call 35; (with_reducible refine (C4 (w2.alloc _).drew).out.mono ?_); rintro e w4 ⟨rfl, hb⟩; have P0 := ((J1.out.point 0 0).drew.step hb); obtain ⟨p0, p1, pf⟩ := P0.at4; have sk := And.intro P0.at3.1 P0.at3.2.1; have P1 := P0.set X0 Y0; have ss := And.intro P1.at3.1 P1.at3.2.1; have P := Lib.hid P1; clear hb P0 P1)
            | (go_at_call 35; (with_reducible refine (C4 w2.drew).out.mono ?_); rintro e w4 ⟨rfl, hb⟩; have P0 := (J1.out.drew.step hb); have sk := And.intro P0.at3.1 P0.at3.2.1; have P := Lib.hid (P0.point X0 Y0); clear hb P0)
            | fail)
        all_goals
          clear n1 n2 sj sa sk
          (try clear p0 p1 pf ss)
          go_wp2_with fail
          go_meet
          exact ⟨_, rfl, P⟩
      case rest =>
        obtain ⟨M, rfl, J⟩ := hcut
        clear J1
        go_upto_region 7 with fail
        go_cut [11] from 35 to 69 (fun s11 wx => ∃ N : Nat, s11 = .pointer (some ⟨N, 0, none⟩) ∧ Hid (HeldD w wx g i M X0 Y0 N X1 Y1))
        case first =>
          have n1 : g ≠ wc.heap.size := Nat.ne_of_lt J.out.there.2
          have n2 : wc.heap.size ≠ g := Nat.ne_of_gt J.out.there.2
          have sj := And.intro J.out.drew.at3.2.2.1 J.out.drew.at3.2.2.2.1
          have sa := And.intro (J.out.point 0 0).drew.at3.2.2.1 (J.out.point 0 0).drew.at3.2.2.2.1
          go_region_held3 (fun W => W.cell? ⟨g, 2, none⟩ = some (.int .i64 i.x1) ∧ W.cell? ⟨g, 3, none⟩ = some (.int .i64 i.y1))
            (first
              | go_keep
              | exact sk
              | exact ss
              | exact sj
              | exact sa)
            (first
              | (go_at_call 34; (with_reducible refine (C2 _).out.mono ?_); rintro e wq ⟨rfl, rfl⟩)
              | (go_at_call 35; (with_reducible refine (C5 (wc.alloc _).drew).out.mono ?_); rintro e w4 ⟨rfl, hb⟩; have P0 := ((J.out.point 0 0).drew.step hb); obtain ⟨p0, p1, pf⟩ := P0.at5; have sk := And.intro P0.at3.2.2.1 P0.at3.2.2.2.1; have P1 := P0.set X1 Y1; have ss := And.intro P1.at3.2.2.1 P1.at3.2.2.2.1; have P := Lib.hid P1; clear hb P0 P1)
              | (go_at_call 35; (with_reducible refine (C5 wc.drew).out.mono ?_); rintro e w4 ⟨rfl, hb⟩; have P0 := (J.out.drew.step hb); have sk := And.intro P0.at3.2.2.1 P0.at3.2.2.2.1; have P := Lib.hid (P0.point X1 Y1); clear hb P0)
              | fail)
          all_goals
            clear n1 n2 sj sa sk
            (try clear p0 p1 pf ss)
            go_wp2_with fail
            go_meet
            exact ⟨_, rfl, P⟩
        case rest =>
          obtain ⟨N, rfl, J2⟩ := hcut
          obtain ⟨o0, o1, o2, o3, of⟩ := J2.out.at2
          obtain ⟨p0, p1, pf⟩ := J2.out.at4
          obtain ⟨q0, q1, qf⟩ := J2.out.at5
          go_wp2_with fail
          refine bodyPost_ret (v := .agg #[.int .i64 (min X0 X1), .int .i64 (min Y0 Y1), .int .i64 (max X0 X1 + 1), .int .i64 (max Y0 Y1 + 1)]) (by simp [results, Tryd.results22, go_sem, o0, o1, o2, o3]) rfl ⟨rfl, ?_⟩
          exact below_set4 J2.out.below (Nat.le_succ _)
    · rw [he] at C3
      have e0 : apR t a b r = zeroR := by simp [apR, he]
      rw [e0]
      clear he e0
      generalize cutI a b r = i at *
      go_enter Tryd.func22, Tryd.ntmps22
      go_wp2_with fail
      refine (C0 _).out.mono ?_
      rintro e wq ⟨rfl, rfl⟩
      go_wp2_with fail
      refine (C1 _).out.mono ?_
      rintro e w1 ⟨rfl, hb⟩
      replace J := Lib.hid (J.out.step hb)
      have J1 := Lib.hid (J.out.cut i)
      obtain ⟨o0, o1, o2, o3, of⟩ := J1.out.at3
      clear hb
      go_wp2_with fail
      refine (C3 _).out.mono ?_
      rintro e w2 ⟨rfl, hb⟩
      replace J1 := Lib.hid (J1.out.step hb)
      clear hb o0 o1 o2 o3 of
      obtain ⟨o0, o1, o2, o3, of⟩ := J1.out.at2
      go_wp2_with fail
      refine bodyPost_ret (v := .agg #[.int .i64 zeroR.x0, .int .i64 zeroR.y0, .int .i64 zeroR.x1, .int .i64 zeroR.y1]) (by simp [results, Tryd.results22, go_sem, o0, o1, o2, o3, zeroR]) rfl ⟨rfl, ?_⟩
      exact below_set4 J1.out.below (Nat.le_succ _)

end Go.Proofs.YtphgjfkmnohjlaaDoor
