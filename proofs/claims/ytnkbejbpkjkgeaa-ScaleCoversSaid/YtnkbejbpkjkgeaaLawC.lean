/-
  The walk of the law ScaleCovers.
-/
import Derived.Test.YtnkbejbpkjkgeaaLawM
import Derived.Test.YtnkbejbpkjkgeaaRwith
namespace Go.Proofs.Ytnkbejbpkjkgeaa
open Go.RowKit Mem

theorem heldV (w : World) (r p : R) (a b c d : Int) : Held w (((w.alloc (.cells #[.int .i64 r.x0, .int .i64 r.y0, .int .i64 r.x1, .int .i64 r.y1] 34)).alloc (.cells #[.int .i64 p.x0, .int .i64 p.y0, .int .i64 p.x1, .int .i64 p.y1] 34)).alloc (.cells #[.int .i64 a, .int .i64 b, .int .i64 c, .int .i64 d] 36)) [(w.heap.size + 1 + 1, [.int .i64 a, .int .i64 b, .int .i64 c, .int .i64 d]), (w.heap.size + 1, [.int .i64 p.x0, .int .i64 p.y0, .int .i64 p.x1, .int .i64 p.y1]), (w.heap.size, [.int .i64 r.x0, .int .i64 r.y0, .int .i64 r.x1, .int .i64 r.y1])] := by
  have h := (((Held.nil w).alloc [.int .i64 r.x0, .int .i64 r.y0, .int .i64 r.x1, .int .i64 r.y1] 34).alloc [.int .i64 p.x0, .int .i64 p.y0, .int .i64 p.x1, .int .i64 p.y1] 34).alloc [.int .i64 a, .int .i64 b, .int .i64 c, .int .i64 d] 36
  rw [World.size_alloc, World.size_alloc] at h
  exact h
theorem prod_small {a b : Int} (ha : 0 ≤ a ∧ a ≤ 300) (hb : 0 ≤ b ∧ b ≤ 300) : wrap64 (a * b) = a * b ∧ IntKind.i64.wrap (a * b) = a * b := by
  have h1 : a * b ≤ 300 * 300 := Int.mul_le_mul ha.2 hb.2 hb.1 (by omega)
  have h2 : 0 ≤ a * b := Int.mul_nonneg ha.1 hb.1
  exact ⟨IntWalk.wrap64_in _ (by omega), IntWalk.i64_in _ (by omega)⟩

set_option maxRecDepth 100000 in
set_option maxHeartbeats 8000000 in
theorem covers_walk (r0 p : R) (fw fh tw th : Int) (w : World) : Calls Try.prog 10 #[.agg #[.int .i64 r0.x0, .int .i64 r0.y0, .int .i64 r0.x1, .int .i64 r0.y1], .agg #[.int .i64 p.x0, .int .i64 p.y0, .int .i64 p.x1, .int .i64 p.y1], .agg #[.int .i64 fw, .int .i64 fh, .int .i64 tw, .int .i64 th]] w (Says true w) := by
  have J := Lib.hid (heldV w r0 p fw fh tw th)
  have C12 := fun W => Lib.hid (example_any W)
  by_cases g0 : fw < 1
  · have b1 : decide (fw < 1) = true := decide_eq_true g0
    go_enter Try.func10, Try.ntmps10
    go_wp2_with fail
    refine (C12 _).out.mono ?_
    rintro e wq ⟨rfl, hb⟩
    replace J := Lib.hid (J.out.step hb)
    clear hb
    go_wp2_with fail
    go_ret
    exact ⟨rfl, J.out.below⟩
  · have b1 : decide (fw < 1) = false := decide_eq_false g0
    by_cases g1 : 12 < fw
    · have b2 : decide (12 < fw) = true := decide_eq_true g1
      go_enter Try.func10, Try.ntmps10
      go_wp2_with fail
      refine (C12 _).out.mono ?_
      rintro e wq ⟨rfl, hb⟩
      replace J := Lib.hid (J.out.step hb)
      clear hb
      go_wp2_with fail
      go_ret
      exact ⟨rfl, J.out.below⟩
    · have b2 : decide (12 < fw) = false := decide_eq_false g1
      by_cases g2 : fh < 1
      · have b3 : decide (fh < 1) = true := decide_eq_true g2
        go_enter Try.func10, Try.ntmps10
        go_wp2_with fail
        refine (C12 _).out.mono ?_
        rintro e wq ⟨rfl, hb⟩
        replace J := Lib.hid (J.out.step hb)
        clear hb
        go_wp2_with fail
        go_ret
        exact ⟨rfl, J.out.below⟩
      · have b3 : decide (fh < 1) = false := decide_eq_false g2
        by_cases g3 : 12 < fh
        · have b4 : decide (12 < fh) = true := decide_eq_true g3
          go_enter Try.func10, Try.ntmps10
          go_wp2_with fail
          refine (C12 _).out.mono ?_
          rintro e wq ⟨rfl, hb⟩
          replace J := Lib.hid (J.out.step hb)
          clear hb
          go_wp2_with fail
          go_ret
          exact ⟨rfl, J.out.below⟩
        · have b4 : decide (12 < fh) = false := decide_eq_false g3
          by_cases g4 : tw < 1
          · have b5 : decide (tw < 1) = true := decide_eq_true g4
            go_enter Try.func10, Try.ntmps10
            go_wp2_with fail
            refine (C12 _).out.mono ?_
            rintro e wq ⟨rfl, hb⟩
            replace J := Lib.hid (J.out.step hb)
            clear hb
            go_wp2_with fail
            go_ret
            exact ⟨rfl, J.out.below⟩
          · have b5 : decide (tw < 1) = false := decide_eq_false g4
            by_cases g5 : 12 < tw
            · have b6 : decide (12 < tw) = true := decide_eq_true g5
              go_enter Try.func10, Try.ntmps10
              go_wp2_with fail
              refine (C12 _).out.mono ?_
              rintro e wq ⟨rfl, hb⟩
              replace J := Lib.hid (J.out.step hb)
              clear hb
              go_wp2_with fail
              go_ret
              exact ⟨rfl, J.out.below⟩
            · have b6 : decide (12 < tw) = false := decide_eq_false g5
              by_cases g6 : th < 1
              · have b7 : decide (th < 1) = true := decide_eq_true g6
                go_enter Try.func10, Try.ntmps10
                go_wp2_with fail
                refine (C12 _).out.mono ?_
                rintro e wq ⟨rfl, hb⟩
                replace J := Lib.hid (J.out.step hb)
                clear hb
                go_wp2_with fail
                go_ret
                exact ⟨rfl, J.out.below⟩
              · have b7 : decide (th < 1) = false := decide_eq_false g6
                by_cases g7 : 12 < th
                · have b8 : decide (12 < th) = true := decide_eq_true g7
                  go_enter Try.func10, Try.ntmps10
                  go_wp2_with fail
                  refine (C12 _).out.mono ?_
                  rintro e wq ⟨rfl, hb⟩
                  replace J := Lib.hid (J.out.step hb)
                  clear hb
                  go_wp2_with fail
                  go_ret
                  exact ⟨rfl, J.out.below⟩
                · have b8 : decide (12 < th) = false := decide_eq_false g7
                  have hF : sizB fw fh = true := siz_iff.2 ⟨by omega, by omega⟩
                  have hT : sizB tw th = true := siz_iff.2 ⟨by omega, by omega⟩
                  obtain ⟨r, hr⟩ : ∃ r, intR r0 ⟨0, 0, fw, fh⟩ = r := ⟨_, rfl⟩
                  have C27 : ∀ W, Hid (Calls Try.prog 27 #[.agg #[.int .i64 r0.x0, .int .i64 r0.y0, .int .i64 r0.x1, .int .i64 r0.y1], .agg #[.int .i64 0, .int .i64 0, .int .i64 fw, .int .i64 fh]] W fun e w' => e = .returned (.agg #[.int .i64 r.x0, .int .i64 r.y0, .int .i64 r.x1, .int .i64 r.y1]) ∧ Below W.heap.size W w') := fun W => Lib.hid (by
                    have h := rint_any r0 ⟨0, 0, fw, fh⟩ W
                    rw [hr] at h
                    exact h)
                  have C28 := fun W => Lib.hid (rempty_any r W)
                  have hin : empB r = false → InR r fw fh := fun he => by
                    have h := int_frame (r := r0) (a := fw) (b := fh) (by rw [hr]; exact he) (by omega) (by omega)
                    rw [hr] at h
                    exact h
                  replace hin := Lib.hid hin
                  clear hr
                  cases he : empB r
                  · rw [he] at C28
                    have hin2 := hin.out he
                    clear he hin
                    have M1 := fun W => Lib.hid (map_any r fw fh tw th W)
                    have M2 := fun W => Lib.hid (map_any (intR r p) fw fh tw th W)
                    have N1 := fun W => Lib.hid (rint_any r p W)
                    have Q1 := fun W => Lib.hid (rwith_any (mapR (intR r p) fw fh tw th) (mapR r fw fh tw th) W)
                    rw [map_part hF hT hin2] at Q1
                    have Q2 : ∀ W, Hid (Calls Try.prog 29 #[.agg #[.int .i64 (mapR r fw fh tw th).x0, .int .i64 (mapR r fw fh tw th).y0, .int .i64 (mapR r fw fh tw th).x1, .int .i64 (mapR r fw fh tw th).y1], .agg #[.int .i64 0, .int .i64 0, .int .i64 tw, .int .i64 th]] W fun e w' => e = .returned (.bool true) ∧ Below W.heap.size W w') := fun W => Lib.hid (by
                      have h := rwith_any (mapR r fw fh tw th) ⟨0, 0, tw, th⟩ W
                      rw [map_frame hF hT hin2] at h
                      exact h)
                    have K1 := fun x y => Lib.hid (map_holds hF hT hin2 x y)
                    have C30 := fun x y W => Lib.hid (rcontains_any (mapR r fw fh tw th) x y W)
                    generalize mapR (intR r p) fw fh tw th = mp at *
                    generalize intR r p = rp at *
                    generalize mapR r fw fh tw th = m at *
                    have hbd : 0 ≤ r.x0 ∧ r.x0 ≤ 12 ∧ 0 ≤ r.x1 ∧ r.x1 ≤ 12 ∧ 0 ≤ r.y0 ∧ r.y0 ≤ 12 ∧ 0 ≤ r.y1 ∧ r.y1 ≤ 12 := by
                      obtain ⟨i1, i2, i3, i4, i5, i6⟩ := hin2
                      omega
                    clear hin2 hF hT
                    go_enter Try.func10, Try.ntmps10
                    go_wp2_with fail
                    refine (C27 _).out.mono ?_
                    rintro e wq ⟨rfl, hb⟩
                    replace J := Lib.hid (J.out.step hb)
                    clear hb
                    obtain ⟨z0, z1, z2, z3, _, zt⟩ := J.out.four (l1 := [_, _])
                    obtain ⟨y0, y1, y2, y3, _, yt⟩ := J.out.four (l1 := [])
                    have JS := Lib.hid (J.out.set4 (l1 := [_, _]) (.int .i64 r.x0) (.int .i64 r.y0) (.int .i64 r.x1) (.int .i64 r.y1))
                    go_wp2_with fail
                    replace J := JS
                    clear JS
                    clear z0 z1 z2 z3 zt y0 y1 y2 y3 yt
                    generalize hW2 : set4 wq w.heap.size (.int .i64 r.x0) (.int .i64 r.y0) (.int .i64 r.x1) (.int .i64 r.y1) = wz at *
                    unfold set4 at hW2
                    rw [hW2]
                    clear hW2
                    refine (C28 _).out.mono ?_
                    rintro e wq ⟨rfl, hb⟩
                    replace J := Lib.hid (J.out.step hb)
                    clear hb
                    obtain ⟨z0, z1, z2, z3, _, zt⟩ := J.out.four (l1 := [_, _])
                    obtain ⟨y0, y1, y2, y3, _, yt⟩ := J.out.four (l1 := [])
                    go_wp2_with fail
                    refine (M1 _).out.mono ?_
                    rintro e wq ⟨rfl, hb⟩
                    replace J := Lib.hid (J.out.step hb)
                    clear hb
                    clear z0 z1 z2 z3 zt y0 y1 y2 y3 yt
                    go_upto_region 7 with fail
                    replace J := Lib.hid (J.out.alloc [.int .i64 m.x0, .int .i64 m.y0, .int .i64 m.x1, .int .i64 m.y1] 34)
                    generalize wq.alloc (.cells #[.int .i64 m.x0, .int .i64 m.y0, .int .i64 m.x1, .int .i64 m.y1] 34) = u1 at *
                    generalize wq.heap.size = k1 at *
                    clear C27 C28 M1
                    replace J := Lib.hid J.out.drew
                    have sk := And.intro (four4 (J.out.four (l1 := [_, _, _]))) (And.intro (four4 (J.out.four (l1 := [_, _]))) (And.intro (four4 (J.out.four (l1 := [_]))) (four4 (J.out.four (l1 := [])))))
                    go_region_held3 (fun W => (W.cell? ⟨w.heap.size, 0, none⟩ = some (.int .i64 r.x0) ∧ W.cell? ⟨w.heap.size, 1, none⟩ = some (.int .i64 r.y0) ∧ W.cell? ⟨w.heap.size, 2, none⟩ = some (.int .i64 r.x1) ∧ W.cell? ⟨w.heap.size, 3, none⟩ = some (.int .i64 r.y1)) ∧ (W.cell? ⟨w.heap.size + 1, 0, none⟩ = some (.int .i64 p.x0) ∧ W.cell? ⟨w.heap.size + 1, 1, none⟩ = some (.int .i64 p.y0) ∧ W.cell? ⟨w.heap.size + 1, 2, none⟩ = some (.int .i64 p.x1) ∧ W.cell? ⟨w.heap.size + 1, 3, none⟩ = some (.int .i64 p.y1)) ∧ (W.cell? ⟨w.heap.size + 1 + 1, 0, none⟩ = some (.int .i64 fw) ∧ W.cell? ⟨w.heap.size + 1 + 1, 1, none⟩ = some (.int .i64 fh) ∧ W.cell? ⟨w.heap.size + 1 + 1, 2, none⟩ = some (.int .i64 tw) ∧ W.cell? ⟨w.heap.size + 1 + 1, 3, none⟩ = some (.int .i64 th)) ∧ (W.cell? ⟨k1, 0, none⟩ = some (.int .i64 m.x0) ∧ W.cell? ⟨k1, 1, none⟩ = some (.int .i64 m.y0) ∧ W.cell? ⟨k1, 2, none⟩ = some (.int .i64 m.x1) ∧ W.cell? ⟨k1, 3, none⟩ = some (.int .i64 m.y1)))
                      (first
                        | exact sk
                        | go_keep)
                      (first
                        | (go_at_call 27; (with_reducible refine (N1 _).out.mono ?_); rintro e x1 ⟨rfl, hb⟩; replace J := Lib.hid (J.out.step hb); clear hb sk; have sk := And.intro (four4 (J.out.four (l1 := [_, _, _]))) (And.intro (four4 (J.out.four (l1 := [_, _]))) (And.intro (four4 (J.out.four (l1 := [_]))) (four4 (J.out.four (l1 := []))))))
                        | (go_at_call 22; (with_reducible refine (M2 _).out.mono ?_); rintro e x2 ⟨rfl, hb⟩; replace J := Lib.hid (J.out.step hb); clear hb sk; have sk := And.intro (four4 (J.out.four (l1 := [_, _, _]))) (And.intro (four4 (J.out.four (l1 := [_, _]))) (And.intro (four4 (J.out.four (l1 := [_]))) (four4 (J.out.four (l1 := []))))))
                        | (go_at_call 29; (with_reducible refine (Q1 _).out.mono ?_); rintro e x3 ⟨rfl, hb⟩; replace J := Lib.hid (J.out.step hb); clear hb sk; have sk := And.intro (four4 (J.out.four (l1 := [_, _, _]))) (And.intro (four4 (J.out.four (l1 := [_, _]))) (And.intro (four4 (J.out.four (l1 := [_]))) (four4 (J.out.four (l1 := []))))))
                        | fail)
                    all_goals
                      clear sk N1 M2 Q1
                      go_wp2_with fail
                      obtain ⟨fw, rfl⟩ : ∃ k : Nat, fw = k := ⟨fw.toNat, by omega⟩
                      obtain ⟨fh, rfl⟩ : ∃ k : Nat, fh = k := ⟨fh.toNat, by omega⟩
                      obtain ⟨tw, rfl⟩ : ∃ k : Nat, tw = k := ⟨tw.toNat, by omega⟩
                      obtain ⟨th, rfl⟩ : ∃ k : Nat, th = k := ⟨th.toNat, by omega⟩
                      have hn : (1 ≤ fw ∧ fw ≤ 12) ∧ (1 ≤ fh ∧ fh ≤ 12) ∧ (1 ≤ tw ∧ tw ≤ 12) ∧ (1 ≤ th ∧ th ≤ 12) := by omega
                      clear g0 g1 g2 g3 g4 g5 g6 g7 b1 b2 b3 b4 b5 b6 b7 b8
                      go_loopw [8] (fun s8 wr => ∃ y : Nat, y ≤ th ∧ s8 = .int .i64 (y : Int) ∧ Hid (Held w wr [(k1, [.int .i64 m.x0, .int .i64 m.y0, .int .i64 m.x1, .int .i64 m.y1]), (w.heap.size + 1 + 1, [.int .i64 (fw : Int), .int .i64 (fh : Int), .int .i64 (tw : Int), .int .i64 (th : Int)]), (w.heap.size + 1, [.int .i64 p.x0, .int .i64 p.y0, .int .i64 p.x1, .int .i64 p.y1]), (w.heap.size, [.int .i64 r.x0, .int .i64 r.y0, .int .i64 r.x1, .int .i64 r.y1])])) (fun s8 _ => leftN th s8)
                      case atStart => exact ⟨0, Nat.zero_le _, rfl, J⟩
                      case round =>
                        clear J
                        obtain ⟨y, hy, rfl, J⟩ := hrel
                        obtain ⟨wu, rfl⟩ : ∃ z, z = wr := ⟨_, rfl⟩
                        obtain ⟨y0, y1, y2, y3, _, yt⟩ := J.out.four (l1 := [_])
                        by_cases hlt : y < th
                        · have q1 : (y : Int) < th := by omega
                          go_wp2_with fail
                          clear y0 y1 y2 y3 yt
                          go_loopw [9] (fun s9 wr => ∃ x : Nat, x ≤ tw ∧ s9 = .int .i64 (x : Int) ∧ Hid (Held w wr [(k1, [.int .i64 m.x0, .int .i64 m.y0, .int .i64 m.x1, .int .i64 m.y1]), (w.heap.size + 1 + 1, [.int .i64 (fw : Int), .int .i64 (fh : Int), .int .i64 (tw : Int), .int .i64 (th : Int)]), (w.heap.size + 1, [.int .i64 p.x0, .int .i64 p.y0, .int .i64 p.x1, .int .i64 p.y1]), (w.heap.size, [.int .i64 r.x0, .int .i64 r.y0, .int .i64 r.x1, .int .i64 r.y1])])) (fun s9 _ => leftN tw s9)
                          case atStart => exact ⟨0, Nat.zero_le _, rfl, J⟩
                          case round =>
                            clear J
                            obtain ⟨x, hx, rfl, J⟩ := hrel
                            by_cases hxl : x < tw
                            · have q2 : (x : Int) < tw := by omega
                              have D := C30 (x : Int) (y : Int)
                              have hK := (K1 (x : Int) (y : Int)).out
                              obtain ⟨X1, hX1⟩ : ∃ z : Int, (x : Int) + 1 = z := ⟨_, rfl⟩
                              obtain ⟨Y1, hY1⟩ : ∃ z : Int, (y : Int) + 1 = z := ⟨_, rfl⟩
                              rw [hX1, hY1] at hK
                              have s1 := Lib.hid (prod_small (a := (x : Int)) (b := (fw : Int)) (by omega) (by omega))
                              have s2 := Lib.hid (prod_small (a := r.x1) (b := (tw : Int)) (by omega) (by omega))
                              have s3 := Lib.hid (prod_small (a := X1) (b := (fw : Int)) (by omega) (by omega))
                              have s4 := Lib.hid (prod_small (a := r.x0) (b := (tw : Int)) (by omega) (by omega))
                              have s5 := Lib.hid (prod_small (a := (y : Int)) (b := (fh : Int)) (by omega) (by omega))
                              have s6 := Lib.hid (prod_small (a := r.y1) (b := (th : Int)) (by omega) (by omega))
                              have s7 := Lib.hid (prod_small (a := Y1) (b := (fh : Int)) (by omega) (by omega))
                              have s8 := Lib.hid (prod_small (a := r.y0) (b := (th : Int)) (by omega) (by omega))
                              have a1 := Lib.hid (show wrap64 ((x : Int) + 1) = X1 ∧ IntKind.i64.wrap ((x : Int) + 1) = X1 from by rw [hX1]; exact ⟨IntWalk.wrap64_in _ (by omega), IntWalk.i64_in _ (by omega)⟩)
                              have a3 := Lib.hid (show wrap64 ((y : Int) + 1) = Y1 ∧ IntKind.i64.wrap ((y : Int) + 1) = Y1 from by rw [hY1]; exact ⟨IntWalk.wrap64_in _ (by omega), IntWalk.i64_in _ (by omega)⟩)
                              obtain ⟨P1, hP1⟩ : ∃ z : Int, (x : Int) * (fw : Int) = z := ⟨_, rfl⟩
                              obtain ⟨P2, hP2⟩ : ∃ z : Int, r.x1 * (tw : Int) = z := ⟨_, rfl⟩
                              obtain ⟨P3, hP3⟩ : ∃ z : Int, X1 * (fw : Int) = z := ⟨_, rfl⟩
                              obtain ⟨P4, hP4⟩ : ∃ z : Int, r.x0 * (tw : Int) = z := ⟨_, rfl⟩
                              obtain ⟨P5, hP5⟩ : ∃ z : Int, (y : Int) * (fh : Int) = z := ⟨_, rfl⟩
                              obtain ⟨P6, hP6⟩ : ∃ z : Int, r.y1 * (th : Int) = z := ⟨_, rfl⟩
                              obtain ⟨P7, hP7⟩ : ∃ z : Int, Y1 * (fh : Int) = z := ⟨_, rfl⟩
                              obtain ⟨P8, hP8⟩ : ∃ z : Int, r.y0 * (th : Int) = z := ⟨_, rfl⟩
                              have u3 := Lib.hid (show wrap64 (((x : Int) + 1) * (fw : Int)) = P3 ∧ IntKind.i64.wrap (((x : Int) + 1) * (fw : Int)) = P3 from by rw [hX1]; exact ⟨s3.out.1.trans hP3, s3.out.2.trans hP3⟩)
                              have u7 := Lib.hid (show wrap64 (((y : Int) + 1) * (fh : Int)) = P7 ∧ IntKind.i64.wrap (((y : Int) + 1) * (fh : Int)) = P7 from by rw [hY1]; exact ⟨s7.out.1.trans hP7, s7.out.2.trans hP7⟩)
                              rw [hP1, hP2, hP3, hP4, hP5, hP6, hP7, hP8] at hK
                              have A := Lib.hid (And.intro (s1.out.1.trans hP1) (And.intro (s2.out.1.trans hP2) (And.intro (s3.out.1.trans hP3) (And.intro (s4.out.1.trans hP4) (And.intro (s5.out.1.trans hP5) (And.intro (s6.out.1.trans hP6) (And.intro (s7.out.1.trans hP7) (s8.out.1.trans hP8))))))))
                              have B := Lib.hid (And.intro (s1.out.2.trans hP1) (And.intro (s2.out.2.trans hP2) (And.intro (s3.out.2.trans hP3) (And.intro (s4.out.2.trans hP4) (And.intro (s5.out.2.trans hP5) (And.intro (s6.out.2.trans hP6) (And.intro (s7.out.2.trans hP7) (s8.out.2.trans hP8))))))))
                              have U := Lib.hid (And.intro a1.out (And.intro a3.out (And.intro u3.out u7.out)))
                              clear s1 s2 s3 s4 s5 s6 s7 s8 u3 u7 a1 a3 hP1 hP2 hP3 hP4 hP5 hP6 hP7 hP8 hX1 hY1
                              obtain ⟨res, hres⟩ : ∃ res, conB m (x : Int) (y : Int) = res := ⟨_, rfl⟩
                              rw [hres] at D hK
                              clear hres
                              obtain ⟨d1, hd1⟩ : ∃ c, decide (P1 < P2) = c := ⟨_, rfl⟩
                              obtain ⟨d2, hd2⟩ : ∃ c, decide (P4 < P3) = c := ⟨_, rfl⟩
                              obtain ⟨d3, hd3⟩ : ∃ c, decide (P5 < P6) = c := ⟨_, rfl⟩
                              obtain ⟨d4, hd4⟩ : ∃ c, decide (P8 < P7) = c := ⟨_, rfl⟩
                              rw [hd1, hd2, hd3, hd4] at hK
                              have i1 := dec_prop hd1
                              have i2 := dec_prop hd2
                              have i3 := dec_prop hd3
                              have i4 := dec_prop hd4
                              obtain ⟨z0, z1, z2, z3, _, zt⟩ := J.out.four (l1 := [_, _, _])
                              obtain ⟨y0, y1, y2, y3, _, yt⟩ := J.out.four (l1 := [_])
                              obtain ⟨m0, m1, m2, m3, _, mt⟩ := J.out.four (l1 := [])
                              cases d1
                              · obtain rfl : res = false := hK
                                simp only [Bool.false_eq_true, if_false] at i1 i2 i3 i4
                                obtain ⟨A1, A2, A3, A4, A5, A6, A7, A8⟩ := A.out
                                obtain ⟨B1, B2, B3, B4, B5, B6, B7, B8⟩ := B.out
                                obtain ⟨⟨U1, U2⟩, ⟨U3, U4⟩, ⟨U5, U6⟩, U7, U8⟩ := U.out
                                go_wp2_with fail
                                refine (D _).out.mono ?_
                                rintro e wq ⟨rfl, hb⟩
                                replace J := Lib.hid (J.out.step hb)
                                clear hb A1 A2 A3 A4 A5 A6 A7 A8 B1 B2 B3 B4 B5 B6 B7 B8 U1 U2 U3 U4 U5 U6 U7 U8
                                clear z0 z1 z2 z3 zt y0 y1 y2 y3 yt m0 m1 m2 m3 mt
                                go_wp2_with fail
                                go_roundw
                                case rel => exact ⟨x + 1, by omega, by go_num, J⟩
                                case measure =>
                                  unfold leftN
                                  simp [intOf]
                                  omega
                              · cases d2
                                · obtain rfl : res = false := hK
                                  simp only [Bool.false_eq_true, if_true, if_false] at i1 i2 i3 i4
                                  obtain ⟨A1, A2, A3, A4, A5, A6, A7, A8⟩ := A.out
                                  obtain ⟨B1, B2, B3, B4, B5, B6, B7, B8⟩ := B.out
                                  obtain ⟨⟨U1, U2⟩, ⟨U3, U4⟩, ⟨U5, U6⟩, U7, U8⟩ := U.out
                                  go_wp2_with fail
                                  refine (D _).out.mono ?_
                                  rintro e wq ⟨rfl, hb⟩
                                  replace J := Lib.hid (J.out.step hb)
                                  clear hb A1 A2 A3 A4 A5 A6 A7 A8 B1 B2 B3 B4 B5 B6 B7 B8 U1 U2 U3 U4 U5 U6 U7 U8
                                  clear z0 z1 z2 z3 zt y0 y1 y2 y3 yt m0 m1 m2 m3 mt
                                  go_wp2_with fail
                                  go_roundw
                                  case rel => exact ⟨x + 1, by omega, by go_num, J⟩
                                  case measure =>
                                    unfold leftN
                                    simp [intOf]
                                    omega
                                · cases d3
                                  · obtain rfl : res = false := hK
                                    simp only [Bool.false_eq_true, if_true, if_false] at i1 i2 i3 i4
                                    obtain ⟨A1, A2, A3, A4, A5, A6, A7, A8⟩ := A.out
                                    obtain ⟨B1, B2, B3, B4, B5, B6, B7, B8⟩ := B.out
                                    obtain ⟨⟨U1, U2⟩, ⟨U3, U4⟩, ⟨U5, U6⟩, U7, U8⟩ := U.out
                                    go_wp2_with fail
                                    refine (D _).out.mono ?_
                                    rintro e wq ⟨rfl, hb⟩
                                    replace J := Lib.hid (J.out.step hb)
                                    clear hb A1 A2 A3 A4 A5 A6 A7 A8 B1 B2 B3 B4 B5 B6 B7 B8 U1 U2 U3 U4 U5 U6 U7 U8
                                    clear z0 z1 z2 z3 zt y0 y1 y2 y3 yt m0 m1 m2 m3 mt
                                    go_wp2_with fail
                                    go_roundw
                                    case rel => exact ⟨x + 1, by omega, by go_num, J⟩
                                    case measure =>
                                      unfold leftN
                                      simp [intOf]
                                      omega
                                  · cases d4
                                    · obtain rfl : res = false := hK
                                      simp only [Bool.false_eq_true, if_true, if_false] at i1 i2 i3 i4
                                      obtain ⟨A1, A2, A3, A4, A5, A6, A7, A8⟩ := A.out
                                      obtain ⟨B1, B2, B3, B4, B5, B6, B7, B8⟩ := B.out
                                      obtain ⟨⟨U1, U2⟩, ⟨U3, U4⟩, ⟨U5, U6⟩, U7, U8⟩ := U.out
                                      go_wp2_with fail
                                      refine (D _).out.mono ?_
                                      rintro e wq ⟨rfl, hb⟩
                                      replace J := Lib.hid (J.out.step hb)
                                      clear hb A1 A2 A3 A4 A5 A6 A7 A8 B1 B2 B3 B4 B5 B6 B7 B8 U1 U2 U3 U4 U5 U6 U7 U8
                                      clear z0 z1 z2 z3 zt y0 y1 y2 y3 yt m0 m1 m2 m3 mt
                                      go_wp2_with fail
                                      go_roundw
                                      case rel => exact ⟨x + 1, by omega, by go_num, J⟩
                                      case measure =>
                                        unfold leftN
                                        simp [intOf]
                                        omega
                                    · obtain rfl : res = true := hK
                                      simp only [if_true] at i1 i2 i3 i4
                                      obtain ⟨A1, A2, A3, A4, A5, A6, A7, A8⟩ := A.out
                                      obtain ⟨B1, B2, B3, B4, B5, B6, B7, B8⟩ := B.out
                                      obtain ⟨⟨U1, U2⟩, ⟨U3, U4⟩, ⟨U5, U6⟩, U7, U8⟩ := U.out
                                      go_wp2_with fail
                                      refine (D _).out.mono ?_
                                      rintro e wq ⟨rfl, hb⟩
                                      replace J := Lib.hid (J.out.step hb)
                                      clear hb A1 A2 A3 A4 A5 A6 A7 A8 B1 B2 B3 B4 B5 B6 B7 B8 U1 U2 U3 U4 U5 U6 U7 U8
                                      clear z0 z1 z2 z3 zt y0 y1 y2 y3 yt m0 m1 m2 m3 mt
                                      go_wp2_with fail
                                      go_roundw
                                      case rel => exact ⟨x + 1, by omega, by go_num, J⟩
                                      case measure =>
                                        unfold leftN
                                        simp [intOf]
                                        omega
                            · obtain rfl : tw = x := by omega
                              have q2 : ¬ (tw : Int) < tw := by omega
                              obtain ⟨y0, y1, y2, y3, _, yt⟩ := J.out.four (l1 := [_])
                              go_wp2_with fail
                              go_roundw
                              case rel => exact ⟨y + 1, by omega, by go_num, J⟩
                              case measure =>
                                unfold leftN
                                simp [intOf]
                                omega
                        · obtain rfl : th = y := by omega
                          have q1 : ¬ (th : Int) < th := by omega
                          obtain ⟨m0, m1, m2, m3, _, mt⟩ := J.out.four (l1 := [])
                          go_wp2_with fail
                          refine (Q2 _).out.mono ?_
                          rintro e wq ⟨rfl, hb⟩
                          replace J := Lib.hid (J.out.step hb)
                          clear hb
                          go_wp2_with fail
                          refine (C12 _).out.mono ?_
                          rintro e wq ⟨rfl, hb⟩
                          replace J := Lib.hid (J.out.step hb)
                          clear hb
                          go_wp2_with fail
                          go_ret
                          exact ⟨rfl, J.out.below⟩
                  · rw [he] at C28
                    clear he hin hF hT
                    go_enter Try.func10, Try.ntmps10
                    go_wp2_with fail
                    refine (C27 _).out.mono ?_
                    rintro e wq ⟨rfl, hb⟩
                    replace J := Lib.hid (J.out.step hb)
                    clear hb
                    obtain ⟨z0, z1, z2, z3, _, zt⟩ := J.out.four (l1 := [_, _])
                    obtain ⟨y0, y1, y2, y3, _, yt⟩ := J.out.four (l1 := [])
                    have JS := Lib.hid (J.out.set4 (l1 := [_, _]) (.int .i64 r.x0) (.int .i64 r.y0) (.int .i64 r.x1) (.int .i64 r.y1))
                    go_wp2_with fail
                    replace J := JS
                    clear JS
                    clear z0 z1 z2 z3 zt y0 y1 y2 y3 yt
                    generalize hW2 : set4 wq w.heap.size (.int .i64 r.x0) (.int .i64 r.y0) (.int .i64 r.x1) (.int .i64 r.y1) = wz at *
                    unfold set4 at hW2
                    rw [hW2]
                    clear hW2
                    refine (C28 _).out.mono ?_
                    rintro e wq ⟨rfl, hb⟩
                    replace J := Lib.hid (J.out.step hb)
                    clear hb
                    go_wp2_with fail
                    refine (C12 _).out.mono ?_
                    rintro e wq ⟨rfl, hb⟩
                    replace J := Lib.hid (J.out.step hb)
                    clear hb
                    go_wp2_with fail
                    go_ret
                    exact ⟨rfl, J.out.below⟩

end Go.Proofs.Ytnkbejbpkjkgeaa
