/-
  MapRect of package scale.
-/
import Derived.Test.YtnkbejbpkjkgeaaRmap
import Derived.Test.YtnkbejbpkjkgeaaSpn
import Derived.Lib.MinMax
import Derived.Deep.CutRange
namespace Go.Proofs.Ytnkbejbpkjkgeaa
open Go.RowKit

theorem emp_out {r : R} (h : ¬ (-16384 ≤ r.x0 ∧ r.x0 < r.x1 ∧ r.x1 ≤ 16384 ∧ -16384 ≤ r.y0 ∧ r.y0 < r.y1 ∧ r.y1 ≤ 16384)) : empB r = true := by
  cases he : empB r
  · exact absurd ((emp_no r).1 he) h
  · rfl

theorem heldE (w : World) (r : R) : Held w (w.alloc (.cells #[.int .i64 r.x0, .int .i64 r.y0, .int .i64 r.x1, .int .i64 r.y1] 34)) [(w.heap.size, [.int .i64 r.x0, .int .i64 r.y0, .int .i64 r.x1, .int .i64 r.y1])] := (Held.nil w).alloc [.int .i64 r.x0, .int .i64 r.y0, .int .i64 r.x1, .int .i64 r.y1] 34


set_option maxRecDepth 100000 in
set_option maxHeartbeats 4000000 in
theorem mempty_any (r : R) (w : World) : Calls Try.prog 42 #[.agg #[.int .i64 r.x0, .int .i64 r.y0, .int .i64 r.x1, .int .i64 r.y1]] w fun e w' => e = .returned (.bool (empB r)) ∧ Below w.heap.size w w' := by
  by_cases h1 : min r.x0 r.y0 < -16384
  · have b1 : decide (min r.x0 r.y0 < -16384) = true := decide_eq_true h1
    rw [emp_out (by omega)]
    have J := Lib.hid (heldE w r)
    obtain ⟨d0, d1, d2, d3, df, dt⟩ := J.out.four (l1 := [])
    go_enter Try.func42, Try.ntmps42
    go_wp2_with fail
    go_ret
    exact ⟨rfl, J.out.below⟩
  · have b1 : decide (min r.x0 r.y0 < -16384) = false := decide_eq_false h1
    by_cases h2 : 16384 < max r.x1 r.y1
    · have b2 : decide (16384 < max r.x1 r.y1) = true := decide_eq_true h2
      rw [emp_out (by omega)]
      have J := Lib.hid (heldE w r)
      obtain ⟨d0, d1, d2, d3, df, dt⟩ := J.out.four (l1 := [])
      go_enter Try.func42, Try.ntmps42
      go_wp2_with fail
      go_ret
      exact ⟨rfl, J.out.below⟩
    · have b2 : decide (16384 < max r.x1 r.y1) = false := decide_eq_false h2
      by_cases h3 : r.x1 ≤ r.x0
      · have b3 : decide (r.x1 ≤ r.x0) = true := decide_eq_true h3
        rw [emp_out (by omega)]
        have J := Lib.hid (heldE w r)
        obtain ⟨d0, d1, d2, d3, df, dt⟩ := J.out.four (l1 := [])
        go_enter Try.func42, Try.ntmps42
        go_wp2_with fail
        go_ret
        exact ⟨rfl, J.out.below⟩
      · have b3 : decide (r.x1 ≤ r.x0) = false := decide_eq_false h3
        by_cases h4 : r.y1 ≤ r.y0
        · have b4 : decide (r.y1 ≤ r.y0) = true := decide_eq_true h4
          rw [emp_out (by omega)]
          have J := Lib.hid (heldE w r)
          obtain ⟨d0, d1, d2, d3, df, dt⟩ := J.out.four (l1 := [])
          go_enter Try.func42, Try.ntmps42
          go_wp2_with fail
          go_ret
          exact ⟨rfl, J.out.below⟩
        · have b4 : decide (r.y1 ≤ r.y0) = false := decide_eq_false h4
          rw [(emp_no r).2 (by omega)]
          have J := Lib.hid (heldE w r)
          obtain ⟨d0, d1, d2, d3, df, dt⟩ := J.out.four (l1 := [])
          go_enter Try.func42, Try.ntmps42
          go_wp2_with fail
          go_ret
          exact ⟨rfl, J.out.below⟩

/-- quotients that are cut off, and rounded down -/
theorem tdiv_down {n c : Int} (hc : 0 < c) : (n.tmod c < 0 → n.tdiv c - 1 = n / c) ∧ (¬ n.tmod c < 0 → n.tdiv c = n / c) := by
  have h1 := Int.mul_tdiv_add_tmod n c
  have h2 := Int.tmod_lt_of_pos n hc
  have h3 : -c < n.tmod c := by
    have := Int.tmod_lt_of_pos (-n) hc
    rw [Int.neg_tmod] at this
    omega
  generalize n.tdiv c = q at *
  generalize n.tmod c = r at *
  constructor
  · intro h
    symm
    refine ediv_is hc ?_ ?_
    · rw [Int.mul_sub, Int.mul_one]; omega
    · rw [Int.mul_sub, Int.mul_one]; omega
  · intro h
    symm
    exact ediv_is hc (by omega) (by omega)

theorem lim_of (n : Int) : min (max n (-16384)) 16384 = limI n := by unfold limI; omega

set_option maxRecDepth 100000 in
set_option maxHeartbeats 2000000 in
theorem mfloor_any {a b c : Int} (ha : -16384 ≤ a ∧ a ≤ 16384) (hb : 1 ≤ b ∧ b ≤ 256) (hc : 1 ≤ c ∧ c ≤ 256) (w : World) : Calls Try.prog 44 #[.int .i64 a, .int .i64 c, .int .i64 b] w fun e w' => e = .returned (.int .i64 (limI (flI a b c))) ∧ w = w' := by
  have h1 : a * b ≤ 16384 * 256 := by
    rcases Int.lt_or_le a 0 with h | h
    · have := Int.mul_nonneg (show 0 ≤ -a by omega) (show 0 ≤ b by omega)
      rw [Int.neg_mul] at this
      omega
    · exact Int.mul_le_mul (by omega) (by omega) (by omega) (by omega)
  have h2 : -(16384 * 256) ≤ a * b := by
    rcases Int.lt_or_le a 0 with h | h
    · have := Int.mul_le_mul (a := -a) (b := b) (c := 16384) (d := 256) (by omega) (by omega) (by omega) (by omega)
      rw [Int.neg_mul] at this
      omega
    · have := Int.mul_nonneg h (show 0 ≤ b by omega)
      omega
  unfold flI
  obtain ⟨N, hN⟩ : ∃ z : Int, a * b = z := ⟨_, rfl⟩
  rw [hN] at h1 h2 ⊢
  have E := Lib.hid (show wrap64 (a * b) = N ∧ IntKind.i64.wrap (a * b) = N from by rw [hN]; exact ⟨IntWalk.wrap64_in _ (by omega), IntWalk.i64_in _ (by omega)⟩)
  have c0 : c ≠ 0 := by omega
  obtain ⟨t1, t2⟩ := tdiv_down (n := N) (show 0 < c by omega)
  have hqd := ediv_bd N (show 0 < c by omega)
  have hqb : -(16384 * 256) ≤ N / c ∧ N / c ≤ 16384 * 256 := by
    constructor
    · exact (Int.le_ediv_iff_mul_le (by omega)).2 (by
        have := Int.mul_le_mul_of_nonneg_left (show 1 ≤ c by omega) (show (0 : Int) ≤ 16384 * 256 by omega)
        omega)
    · rcases Int.lt_or_le N 0 with h | h
      · have := Int.ediv_lt_of_lt_mul (a := N) (b := 1) (c := c) (by omega) (by omega)
        omega
      · exact Int.le_trans (Int.ediv_le_self _ h) h1
  obtain ⟨Q, hQ⟩ : ∃ z : Int, N.tdiv c = z := ⟨_, rfl⟩
  obtain ⟨Z, hZ⟩ : ∃ z : Int, N.tmod c = z := ⟨_, rfl⟩
  have hZb : -1000 < Z ∧ Z < 1000 := by
    have g2 := Int.tmod_lt_of_pos N (show 0 < c by omega)
    have g3 := Int.tmod_lt_of_pos (-N) (show 0 < c by omega)
    rw [Int.neg_tmod] at g3
    omega
  rw [hQ, hZ] at t1 t2
  by_cases hneg : Z < 0
  · have hq := t1 hneg
    have b1 : decide (Z < 0) = true := decide_eq_true hneg
    have F := Lib.hid (show wrap64 (N.tdiv c) = Q ∧ IntKind.i64.wrap (N.tdiv c) = Q ∧ wrap64 (N.tmod c) = Z ∧ IntKind.i64.wrap (N.tmod c) = Z ∧ wrap64 (Q - 1) = N / c ∧ IntKind.i64.wrap (Q - 1) = N / c from by
      rw [hQ, hZ, hq]
      exact ⟨IntWalk.wrap64_in _ (by omega), IntWalk.i64_in _ (by omega), IntWalk.wrap64_in _ (by omega), IntWalk.i64_in _ (by omega), IntWalk.wrap64_in _ (by omega), IntWalk.i64_in _ (by omega)⟩)
    rw [← lim_of]
    generalize N / c = D at *
    clear t1 t2 hq hqd hqb hQ hZb h1 h2 hN ha hb hc
    obtain ⟨e1, e2⟩ := E.out
    obtain ⟨f1, f2, f3, f4, f5, f6⟩ := F.out
    go_enter Try.func44, Try.ntmps44
    go_wp2_with fail
    go_ret
    exact ⟨rfl, rfl⟩
  · have hq := t2 hneg
    have b1 : decide (Z < 0) = false := decide_eq_false hneg
    have F := Lib.hid (show wrap64 (N.tdiv c) = N / c ∧ IntKind.i64.wrap (N.tdiv c) = N / c ∧ wrap64 (N.tmod c) = Z ∧ IntKind.i64.wrap (N.tmod c) = Z from by
      rw [hQ, hZ, ← hq]
      exact ⟨IntWalk.wrap64_in _ (by omega), IntWalk.i64_in _ (by omega), IntWalk.wrap64_in _ (by omega), IntWalk.i64_in _ (by omega)⟩)
    rw [← lim_of]
    generalize N / c = D at *
    clear t1 t2 hq hqd hqb hQ hZb h1 h2 hN ha hb hc
    obtain ⟨e1, e2⟩ := E.out
    obtain ⟨f1, f2, f3, f4⟩ := F.out
    go_enter Try.func44, Try.ntmps44
    go_wp2_with fail
    go_ret
    exact ⟨rfl, rfl⟩

theorem lim_neg (n : Int) : -limI n = limI (-n) := by unfold limI; omega
theorem lim_bd (n : Int) : -16384 ≤ limI n ∧ limI n ≤ 16384 := by unfold limI; omega

set_option maxRecDepth 100000 in
set_option maxHeartbeats 4000000 in
theorem map_full {r : R} {fw fh tw th : Int} (h1 : empB r = false) (h2 : sizB fw fh = true) (h3 : sizB tw th = true) (w : World) : Calls Try.prog 22 #[.agg #[.int .i64 r.x0, .int .i64 r.y0, .int .i64 r.x1, .int .i64 r.y1], .int .i64 fw, .int .i64 fh, .int .i64 tw, .int .i64 th] w fun e w' => e = .returned (.agg #[.int .i64 (mapR r fw fh tw th).x0, .int .i64 (mapR r fw fh tw th).y0, .int .i64 (mapR r fw fh tw th).x1, .int .i64 (mapR r fw fh tw th).y1]) ∧ Below w.heap.size w w' := by
  have J := Lib.hid (heldM w r)
  have CE := fun W => Lib.hid (mempty_any r W)
  rw [h1] at CE
  have CS := fun W => Lib.hid (vsize10_any fw fh W)
  rw [h2] at CS
  have CT := fun W => Lib.hid (vsize10_any tw th W)
  rw [h3] at CT
  rw [map_yes h1 h2 h3]
  obtain ⟨b1, b2⟩ := siz_iff.1 h2
  obtain ⟨b3, b4⟩ := siz_iff.1 h3
  have hr := (emp_no r).1 h1
  obtain ⟨X, hX⟩ : ∃ z : Int, -r.x1 = z := ⟨_, rfl⟩
  obtain ⟨Y, hY⟩ : ∃ z : Int, -r.y1 = z := ⟨_, rfl⟩
  have D1 := fun W => Lib.hid (mfloor_any (a := r.x0) (b := tw) (c := fw) (by omega) b3 b1 W)
  have D2 := fun W => Lib.hid (mfloor_any (a := r.y0) (b := th) (c := fh) (by omega) b4 b2 W)
  have D3 := fun W => Lib.hid (mfloor_any (a := X) (b := tw) (c := fw) (by omega) b3 b1 W)
  have D4 := fun W => Lib.hid (mfloor_any (a := Y) (b := th) (c := fh) (by omega) b4 b2 W)
  have e3 : -limI (flI X tw fw) = limI (clI r.x1 tw fw) := by rw [lim_neg, ← hX]; rfl
  have e4 : -limI (flI Y th fh) = limI (clI r.y1 th fh) := by rw [lim_neg, ← hY]; rfl
  have q3 := lim_bd (flI X tw fw)
  have q4 := lim_bd (flI Y th fh)
  have F := Lib.hid (show IntKind.i64.wrap (-r.x1) = X ∧ IntKind.i64.wrap (-r.y1) = Y ∧ IntKind.i64.wrap (-limI (flI X tw fw)) = limI (clI r.x1 tw fw) ∧ IntKind.i64.wrap (-limI (flI Y th fh)) = limI (clI r.y1 th fh) from by
    refine ⟨?_, ?_, ?_, ?_⟩
    · rw [hX]; exact IntWalk.i64_in _ (by omega)
    · rw [hY]; exact IntWalk.i64_in _ (by omega)
    · rw [← e3]; exact IntWalk.i64_in _ (by omega)
    · rw [← e4]; exact IntWalk.i64_in _ (by omega))
  have CZ := fun W => Lib.hid (mempty_any ⟨limI (flI r.x0 tw fw), limI (flI r.y0 th fh), limI (clI r.x1 tw fw), limI (clI r.y1 th fh)⟩ W)
  clear e3 e4 q3 q4 hX hY b1 b2 b3 b4 hr h1 h2 h3
  obtain ⟨Z, hZ⟩ : ∃ Z : R, (⟨limI (flI r.x0 tw fw), limI (flI r.y0 th fh), limI (clI r.x1 tw fw), limI (clI r.y1 th fh)⟩ : R) = Z := ⟨_, rfl⟩
  rw [hZ] at CZ ⊢
  have z0 : limI (flI r.x0 tw fw) = Z.x0 := by rw [← hZ]
  have z1 : limI (flI r.y0 th fh) = Z.y0 := by rw [← hZ]
  have z2 : limI (clI r.x1 tw fw) = Z.x1 := by rw [← hZ]
  have z3 : limI (clI r.y1 th fh) = Z.y1 := by rw [← hZ]
  rw [z0] at D1
  rw [z1] at D2
  rw [z2, z3] at F
  clear z0 z1 z2 z3 hZ
  generalize limI (flI X tw fw) = G2 at *
  generalize limI (flI Y th fh) = G3 at *
  go_enter Try.func22, Try.ntmps22
  go_wp2_with fail
  refine (CE _).out.mono ?_
  rintro e w1 ⟨rfl, hb⟩
  replace J := Lib.hid (J.out.step hb)
  clear hb CE
  go_wp2_with fail
  refine (CS _).out.mono ?_
  rintro e u9 ⟨rfl, rfl⟩
  go_wp2_with fail
  refine (CT _).out.mono ?_
  rintro e u9 ⟨rfl, rfl⟩
  go_upto_region 3 with fail
  clear CS CT
  go_cut [11] from 27 to 51 (fun s11 wx => ∃ M : Nat, s11 = .pointer (some ⟨M, 0, none⟩) ∧ Hid (Held w wx ((M, [.int .i64 Z.x0, .int .i64 Z.y0, .int .i64 Z.x1, .int .i64 Z.y1]) :: [(w.heap.size + 1, [.int .i64 0, .int .i64 0, .int .i64 0, .int .i64 0]), (w.heap.size, [.int .i64 r.x0, .int .i64 r.y0, .int .i64 r.x1, .int .i64 r.y1])])))
  case first =>
    have sk := four4 (J.out.drew.four (l1 := [_]))
    have sj := fun o => four4 ((J.out.made o).drew.four (l1 := [_]))
    obtain ⟨f1, f2, f3, f4⟩ := F.out
    go_region_held3 (fun W => W.cell? ⟨w.heap.size, 0, none⟩ = some (.int .i64 r.x0) ∧ W.cell? ⟨w.heap.size, 1, none⟩ = some (.int .i64 r.y0) ∧ W.cell? ⟨w.heap.size, 2, none⟩ = some (.int .i64 r.x1) ∧ W.cell? ⟨w.heap.size, 3, none⟩ = some (.int .i64 r.y1))
      (first
        | exact sk
        | exact sj _
        | go_keep)
      (first
        | (go_at_call 44; (with_reducible refine (D1 _).out.mono ?_); rintro e wq ⟨rfl, rfl⟩)
        | (go_at_call 44; (with_reducible refine (D2 _).out.mono ?_); rintro e wq ⟨rfl, rfl⟩)
        | (go_at_call 44; (with_reducible refine (D3 _).out.mono ?_); rintro e wq ⟨rfl, rfl⟩)
        | (go_at_call 44; (with_reducible refine (D4 _).out.mono ?_); rintro e wq ⟨rfl, rfl⟩)
        | fail)
    all_goals
      clear f1 f2 f3 f4
      go_wp2_with fail
      go_meet
      exact ⟨_, rfl, Lib.hid (J.out.alloc [.int .i64 Z.x0, .int .i64 Z.y0, .int .i64 Z.x1, .int .i64 Z.y1] 34).drew⟩
  case rest =>
    obtain ⟨M, rfl, HW⟩ := hcut
    clear J D1 D2 D3 D4 F
    obtain ⟨m0, m1, m2, m3, mf, mt⟩ := HW.out.four (l1 := [])
    go_wp2_with fail
    refine (CZ _).out.mono ?_
    rintro e w5 ⟨rfl, hb⟩
    replace HW := Lib.hid (HW.out.step hb)
    clear hb m0 m1 m2 m3 mf mt
    obtain ⟨m0, m1, m2, m3, mf, mt⟩ := HW.out.four (l1 := [])
    obtain ⟨z0, z1, z2, z3, zf, zt⟩ := HW.out.four (l1 := [_])
    cases he : empB Z
    · have K := Lib.hid (below_set4 HW.out.below (Nat.le_succ w.heap.size) (x0 := .int .i64 Z.x0) (x1 := .int .i64 Z.y0) (x2 := .int .i64 Z.x1) (x3 := .int .i64 Z.y1))
      clear HW
      go_wp2_with fail
      exact bodyPost_ret (v := .agg #[.int .i64 Z.x0, .int .i64 Z.y0, .int .i64 Z.x1, .int .i64 Z.y1]) (by simp [results, Try.results22, go_sem, z0, z1, z2, z3]) rfl ⟨by rw [can_full he], K.out⟩
    · have K := Lib.hid (below_set4 HW.out.below (Nat.le_succ w.heap.size) (x0 := .int .i64 0) (x1 := .int .i64 0) (x2 := .int .i64 0) (x3 := .int .i64 0))
      clear HW
      go_wp2_with fail
      exact bodyPost_ret (v := .agg #[.int .i64 0, .int .i64 0, .int .i64 0, .int .i64 0]) (by simp [results, Try.results22, go_sem, z0, z1, z2, z3]) rfl ⟨by rw [can_emp he]; rfl, K.out⟩

set_option maxRecDepth 100000 in
set_option maxHeartbeats 4000000 in
theorem map_empty {r : R} {fw fh tw th : Int} (h1 : empB r = true) (w : World) : Calls Try.prog 22 #[.agg #[.int .i64 r.x0, .int .i64 r.y0, .int .i64 r.x1, .int .i64 r.y1], .int .i64 fw, .int .i64 fh, .int .i64 tw, .int .i64 th] w fun e w' => e = .returned (.agg #[.int .i64 (mapR r fw fh tw th).x0, .int .i64 (mapR r fw fh tw th).y0, .int .i64 (mapR r fw fh tw th).x1, .int .i64 (mapR r fw fh tw th).y1]) ∧ Below w.heap.size w w' := by
  have J := Lib.hid (heldM w r)
  have CE := fun W => Lib.hid (mempty_any r W)
  rw [h1] at CE
  have CS := fun W => Lib.hid (vsize10_any fw fh W)
  have CT := fun W => Lib.hid (vsize10_any tw th W)
  skip
  rw [map_no (by rw [h1]; simp)]
  go_enter Try.func22, Try.ntmps22
  go_wp2_with fail
  refine (CE _).out.mono ?_
  rintro e w1 ⟨rfl, hb⟩
  replace J := Lib.hid (J.out.step hb)
  clear hb
  obtain ⟨z0, z1, z2, z3, zf, zt⟩ := J.out.four (l1 := [])
  have K := Lib.hid (below_set4 J.out.below (Nat.le_succ w.heap.size) (x0 := .int .i64 0) (x1 := .int .i64 0) (x2 := .int .i64 0) (x3 := .int .i64 0))
  go_wp2_with fail
  exact bodyPost_ret (v := .agg #[.int .i64 0, .int .i64 0, .int .i64 0, .int .i64 0]) (by simp [results, Try.results22, go_sem, z0, z1, z2, z3]) rfl ⟨rfl, K.out⟩

set_option maxRecDepth 100000 in
set_option maxHeartbeats 4000000 in
theorem map_from {r : R} {fw fh tw th : Int} (h1 : empB r = false) (h2 : sizB fw fh = false) (w : World) : Calls Try.prog 22 #[.agg #[.int .i64 r.x0, .int .i64 r.y0, .int .i64 r.x1, .int .i64 r.y1], .int .i64 fw, .int .i64 fh, .int .i64 tw, .int .i64 th] w fun e w' => e = .returned (.agg #[.int .i64 (mapR r fw fh tw th).x0, .int .i64 (mapR r fw fh tw th).y0, .int .i64 (mapR r fw fh tw th).x1, .int .i64 (mapR r fw fh tw th).y1]) ∧ Below w.heap.size w w' := by
  have J := Lib.hid (heldM w r)
  have CE := fun W => Lib.hid (mempty_any r W)
  rw [h1] at CE
  have CS := fun W => Lib.hid (vsize10_any fw fh W)
  have CT := fun W => Lib.hid (vsize10_any tw th W)
  rw [h2] at CS
  rw [map_no (by (rw [h1]; rw [h2]); simp)]
  go_enter Try.func22, Try.ntmps22
  go_wp2_with fail
  refine (CE _).out.mono ?_
  rintro e w1 ⟨rfl, hb⟩
  replace J := Lib.hid (J.out.step hb)
  clear hb
  go_wp2_with fail
  refine (CS _).out.mono ?_
  rintro e u9 ⟨rfl, rfl⟩
  obtain ⟨z0, z1, z2, z3, zf, zt⟩ := J.out.four (l1 := [])
  have K := Lib.hid (below_set4 J.out.below (Nat.le_succ w.heap.size) (x0 := .int .i64 0) (x1 := .int .i64 0) (x2 := .int .i64 0) (x3 := .int .i64 0))
  go_wp2_with fail
  exact bodyPost_ret (v := .agg #[.int .i64 0, .int .i64 0, .int .i64 0, .int .i64 0]) (by simp [results, Try.results22, go_sem, z0, z1, z2, z3]) rfl ⟨rfl, K.out⟩

set_option maxRecDepth 100000 in
set_option maxHeartbeats 4000000 in
theorem map_to {r : R} {fw fh tw th : Int} (h1 : empB r = false) (h2 : sizB fw fh = true) (h3 : sizB tw th = false) (w : World) : Calls Try.prog 22 #[.agg #[.int .i64 r.x0, .int .i64 r.y0, .int .i64 r.x1, .int .i64 r.y1], .int .i64 fw, .int .i64 fh, .int .i64 tw, .int .i64 th] w fun e w' => e = .returned (.agg #[.int .i64 (mapR r fw fh tw th).x0, .int .i64 (mapR r fw fh tw th).y0, .int .i64 (mapR r fw fh tw th).x1, .int .i64 (mapR r fw fh tw th).y1]) ∧ Below w.heap.size w w' := by
  have J := Lib.hid (heldM w r)
  have CE := fun W => Lib.hid (mempty_any r W)
  rw [h1] at CE
  have CS := fun W => Lib.hid (vsize10_any fw fh W)
  have CT := fun W => Lib.hid (vsize10_any tw th W)
  (rw [h2] at CS; rw [h3] at CT)
  rw [map_no (by (rw [h1]; rw [h2]; rw [h3]); simp)]
  go_enter Try.func22, Try.ntmps22
  go_wp2_with fail
  refine (CE _).out.mono ?_
  rintro e w1 ⟨rfl, hb⟩
  replace J := Lib.hid (J.out.step hb)
  clear hb
  go_wp2_with fail
  refine (CS _).out.mono ?_
  rintro e u9 ⟨rfl, rfl⟩
  go_wp2_with fail
  refine (CT _).out.mono ?_
  rintro e u9 ⟨rfl, rfl⟩
  obtain ⟨z0, z1, z2, z3, zf, zt⟩ := J.out.four (l1 := [])
  have K := Lib.hid (below_set4 J.out.below (Nat.le_succ w.heap.size) (x0 := .int .i64 0) (x1 := .int .i64 0) (x2 := .int .i64 0) (x3 := .int .i64 0))
  go_wp2_with fail
  exact bodyPost_ret (v := .agg #[.int .i64 0, .int .i64 0, .int .i64 0, .int .i64 0]) (by simp [results, Try.results22, go_sem, z0, z1, z2, z3]) rfl ⟨rfl, K.out⟩

theorem map_any (r : R) (fw fh tw th : Int) (w : World) : Calls Try.prog 22 #[.agg #[.int .i64 r.x0, .int .i64 r.y0, .int .i64 r.x1, .int .i64 r.y1], .int .i64 fw, .int .i64 fh, .int .i64 tw, .int .i64 th] w fun e w' => e = .returned (.agg #[.int .i64 (mapR r fw fh tw th).x0, .int .i64 (mapR r fw fh tw th).y0, .int .i64 (mapR r fw fh tw th).x1, .int .i64 (mapR r fw fh tw th).y1]) ∧ Below w.heap.size w w' := by
  cases h1 : empB r
  · cases h2 : sizB fw fh
    · exact map_from h1 h2 w
    · cases h3 : sizB tw th
      · exact map_to h1 h2 h3 w
      · exact map_full h1 h2 h3 w
  · exact map_empty h1 w

end Go.Proofs.Ytnkbejbpkjkgeaa
