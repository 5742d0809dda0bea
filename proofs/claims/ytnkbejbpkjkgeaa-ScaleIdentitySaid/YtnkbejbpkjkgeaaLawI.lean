/-
  The walk of the law ScaleIdentity.
-/
import Derived.Test.YtnkbejbpkjkgeaaLawM
namespace Go.Proofs.Ytnkbejbpkjkgeaa
open Go.RowKit Mem

set_option maxRecDepth 100000 in
set_option maxHeartbeats 8000000 in
theorem ident_walk (a b : Int) (r : R) {v : Value} {l : List Px} {w : World} (h : Pxs w v l) (hlb : ∀ z ∈ l, Byt z) : Calls Try.prog 8 #[.agg #[.int .i64 a, .int .i64 b, v], .agg #[.int .i64 r.x0, .int .i64 r.y0, .int .i64 r.x1, .int .i64 r.y1]] w (Says true w) := by
  obtain ⟨A, n, rfl, _⟩ := h.shape
  have J := Lib.hid (show HeldX w ((w.alloc (.cells #[.int .i64 a, .int .i64 b, .slice A l.length n] 24)).alloc (.cells #[.int .i64 r.x0, .int .i64 r.y0, .int .i64 r.x1, .int .i64 r.y1] 34)) [(w.heap.size + 1, [.int .i64 r.x0, .int .i64 r.y0, .int .i64 r.x1, .int .i64 r.y1]), (w.heap.size, [.int .i64 a, .int .i64 b, .slice A l.length n])] (fun V => Pxs V (.slice A l.length n) l ∧ True) from by
    have h := (((Held.nil w).toX.addP h).alloc [.int .i64 a, .int .i64 b, .slice A l.length n] 24).alloc [.int .i64 r.x0, .int .i64 r.y0, .int .i64 r.x1, .int .i64 r.y1] 34
    rw [World.size_alloc] at h
    exact h)
  have C12 := fun W => Lib.hid (example_any W)
  have C11 := fun W => Lib.hid (lsmall_any a b 1 1 A l.length n W)
  have C24 := fun W (h : Pxs W (.slice A l.length n) l) => Lib.hid (rvalid10_any a b h)
  cases hs : smB l.length 1 1
  · rw [hs] at C11
    generalize l.length = m at *
    clear hs h hlb C24
    go_enter Try.func8, Try.ntmps8
    go_wp2_with fail
    refine (C11 _).out.mono ?_
    rintro e wq ⟨rfl, hb⟩
    replace J := Lib.hid (J.out.step hb)
    clear hb
    go_wp2_with fail
    refine (C12 _).out.mono ?_
    rintro e wq ⟨rfl, hb⟩
    replace J := Lib.hid (J.out.step hb)
    clear hb
    go_wp2_with fail
    go_ret
    exact ⟨rfl, J.out.below⟩
  · rw [hs] at C11
    clear hs
    cases hvb : vBuf a b l
    · rw [hvb] at C24
      generalize l.length = m at *
      clear h hlb hvb
      go_enter Try.func8, Try.ntmps8
      go_wp2_with fail
      refine (C11 _).out.mono ?_
      rintro e wq ⟨rfl, hb⟩
      replace J := Lib.hid (J.out.step hb)
      clear hb
      obtain ⟨z0, z1, z2, _, zt⟩ := J.out.held.tri (l1 := [_])
      go_wp2_with fail
      refine (C24 _ J.out.fact.1).out.mono ?_
      rintro e wq ⟨rfl, hb⟩
      replace J := Lib.hid (J.out.step hb)
      clear hb
      clear z0 z1 z2 zt
      go_wp2_with fail
      refine (C12 _).out.mono ?_
      rintro e wq ⟨rfl, hb⟩
      replace J := Lib.hid (J.out.step hb)
      clear hb
      go_wp2_with fail
      go_ret
      exact ⟨rfl, J.out.below⟩
    · rw [hvb] at C24
      obtain ⟨a, b, rfl, rfl, hv⟩ := vld_of hvb
      have hv1 := hv.a1
      have hv2 := hv.a2
      have hv3 := hv.b1
      have hv4 := hv.b2
      have D1 := fun W v (h : Pxs W v l) => Lib.hid (show Calls Try.prog 13 #[.agg #[.int .i64 (a : Int), .int .i64 (b : Int), v], .int .i64 (a : Int), .int .i64 (b : Int)] W (OutB a b l 0 W) from by
        have g := (near_good (p := a) (q := b) h hv hlb ⟨hv1, hv2⟩ ⟨hv3, hv4⟩).mono fun _ _ => outB
        rw [near_id hv] at g
        exact g)
      have D2 := fun W v (h : Pxs W v l) => Lib.hid (show Calls Try.prog 16 #[.agg #[.int .i64 (a : Int), .int .i64 (b : Int), v], .int .i64 (a : Int), .int .i64 (b : Int)] W (OutB a b l 0 W) from by
        have g := (box_good (p := a) (q := b) h hv hlb ⟨hv1, hv2⟩ ⟨hv3, hv4⟩).mono fun _ _ => outB
        rw [box_id hv] at g
        exact g)
      have D3 := fun W v (h : Pxs W v l) => Lib.hid (show Calls Try.prog 18 #[.agg #[.int .i64 (a : Int), .int .i64 (b : Int), v], .int .i64 1] W (OutB a b l 0 W) from by
        have g := (shrink_good (k := 1) (p := a) (q := b) h hv hlb (Nat.le_refl _) (Nat.mul_one _) (Nat.mul_one _)).mono fun _ _ => outB
        rw [box_id hv] at g
        exact g)
      have D4 := fun W v (h : Pxs W v l) => Lib.hid (show Calls Try.prog 20 #[.agg #[.int .i64 (a : Int), .int .i64 (b : Int), v], .int .i64 1] W (OutB a b l 0 W) from by
        have g := (enl_good (k := 1) (p := a) (q := b) h hv hlb (Nat.le_refl _) (Nat.mul_one _) (Nat.mul_one _) hv2 hv4).mono fun _ _ => outB
        rw [enl_one hv] at g
        exact g)
      have M1 := fun W => Lib.hid (map_any r a b a b W)
      rw [map_id r (siz_iff.2 ⟨by omega, by omega⟩)] at M1
      have M2 := fun W => Lib.hid (rcanon_any r W)
      have CS := fun W v u h h2 => Lib.hid (lsame_self (oa := (a : Int)) (ob := (b : Int)) (O := l) (w := W) (v := v) (u := u) h h2)
      generalize canR r = Z at *
      have E1 := fun W => eql_rect_self Z W
      generalize l.length = m at *
      unfold OutB at D1 D2 D3 D4
      clear h hlb hv hv1 hv2 hv3 hv4 hvb
      generalize (a : Int) = za at *
      generalize (b : Int) = zb at *
      go_enter Try.func8, Try.ntmps8
      go_wp2_with fail
      refine (C11 _).out.mono ?_
      rintro e wq ⟨rfl, hb⟩
      replace J := Lib.hid (J.out.step hb)
      clear hb
      obtain ⟨z0, z1, z2, _, zt⟩ := J.out.held.tri (l1 := [_])
      go_wp2_with fail
      refine (C24 _ J.out.fact.1).out.mono ?_
      rintro e wq ⟨rfl, hb⟩
      replace J := Lib.hid (J.out.step hb)
      clear hb
      clear z0 z1 z2 zt
      obtain ⟨z0, z1, z2, _, zt⟩ := J.out.held.tri (l1 := [_])
      go_wp2_with fail
      clear z0 z1 z2 zt
      refine (D1 _ _ J.out.fact.1).out.mono ?_
      rintro e w1 ⟨A1, n1, c1, rfl, hp, hb⟩
      replace J := Lib.hid ((J.out.step hb).addP hp)
      clear hb hp
      obtain ⟨z0, z1, z2, _, zt⟩ := J.out.held.tri (l1 := [_])
      go_wp2_with fail
      clear z0 z1 z2 zt
      replace J := Lib.hid (J.out.alloc [.int .i64 za, .int .i64 zb, .slice A1 n1 c1] 24)
      generalize w1.alloc (.cells #[.int .i64 za, .int .i64 zb, .slice A1 n1 c1] 24) = u1 at *
      generalize w1.heap.size = k1 at *
      refine (D2 _ _ J.out.fact.2.1).out.mono ?_
      rintro e w2 ⟨A2, n2, c2, rfl, hp, hb⟩
      replace J := Lib.hid ((J.out.step hb).addP hp)
      clear hb hp
      obtain ⟨z0, z1, z2, _, zt⟩ := J.out.held.tri (l1 := [_, _])
      go_wp2_with fail
      clear z0 z1 z2 zt
      replace J := Lib.hid (J.out.alloc [.int .i64 za, .int .i64 zb, .slice A2 n2 c2] 24)
      generalize w2.alloc (.cells #[.int .i64 za, .int .i64 zb, .slice A2 n2 c2] 24) = u2 at *
      generalize w2.heap.size = k2 at *
      refine (D3 _ _ J.out.fact.2.2.1).out.mono ?_
      rintro e w3 ⟨A3, n3, c3, rfl, hp, hb⟩
      replace J := Lib.hid ((J.out.step hb).addP hp)
      clear hb hp
      obtain ⟨z0, z1, z2, _, zt⟩ := J.out.held.tri (l1 := [_, _, _])
      go_wp2_with fail
      clear z0 z1 z2 zt
      replace J := Lib.hid (J.out.alloc [.int .i64 za, .int .i64 zb, .slice A3 n3 c3] 24)
      generalize w3.alloc (.cells #[.int .i64 za, .int .i64 zb, .slice A3 n3 c3] 24) = u3 at *
      generalize w3.heap.size = k3 at *
      refine (D4 _ _ J.out.fact.2.2.2.1).out.mono ?_
      rintro e w4 ⟨A4, n4, c4, rfl, hp, hb⟩
      replace J := Lib.hid ((J.out.step hb).addP hp)
      clear hb hp
      go_wp2_with fail
      replace J := Lib.hid (J.out.alloc [.int .i64 za, .int .i64 zb, .slice A4 n4 c4] 24)
      generalize w4.alloc (.cells #[.int .i64 za, .int .i64 zb, .slice A4 n4 c4] 24) = u4 at *
      generalize w4.heap.size = k4 at *
      clear D1 D2 D3 D4
      replace J := Lib.hid J.out.drew
      have sk := And.intro (J.out.held.three (l1 := [_, _, _, _, _])) (And.intro (four4 (J.out.held.four (l1 := [_, _, _, _]))) (And.intro (J.out.held.three (l1 := [_, _, _])) (And.intro (J.out.held.three (l1 := [_, _])) (And.intro (J.out.held.three (l1 := [_])) (J.out.held.three (l1 := []))))))
      go_region_held3 (fun W => (W.cell? ⟨w.heap.size, 0, none⟩ = some (.int .i64 za) ∧ W.cell? ⟨w.heap.size, 1, none⟩ = some (.int .i64 zb) ∧ W.cell? ⟨w.heap.size, 2, none⟩ = some (.slice A m n)) ∧ (W.cell? ⟨w.heap.size + 1, 0, none⟩ = some (.int .i64 r.x0) ∧ W.cell? ⟨w.heap.size + 1, 1, none⟩ = some (.int .i64 r.y0) ∧ W.cell? ⟨w.heap.size + 1, 2, none⟩ = some (.int .i64 r.x1) ∧ W.cell? ⟨w.heap.size + 1, 3, none⟩ = some (.int .i64 r.y1)) ∧ (W.cell? ⟨k1, 0, none⟩ = some (.int .i64 za) ∧ W.cell? ⟨k1, 1, none⟩ = some (.int .i64 zb) ∧ W.cell? ⟨k1, 2, none⟩ = some (.slice A1 n1 c1)) ∧ (W.cell? ⟨k2, 0, none⟩ = some (.int .i64 za) ∧ W.cell? ⟨k2, 1, none⟩ = some (.int .i64 zb) ∧ W.cell? ⟨k2, 2, none⟩ = some (.slice A2 n2 c2)) ∧ (W.cell? ⟨k3, 0, none⟩ = some (.int .i64 za) ∧ W.cell? ⟨k3, 1, none⟩ = some (.int .i64 zb) ∧ W.cell? ⟨k3, 2, none⟩ = some (.slice A3 n3 c3)) ∧ (W.cell? ⟨k4, 0, none⟩ = some (.int .i64 za) ∧ W.cell? ⟨k4, 1, none⟩ = some (.int .i64 zb) ∧ W.cell? ⟨k4, 2, none⟩ = some (.slice A4 n4 c4)))
        (first
          | exact sk
          | go_keep)
        (first
          | (go_at_call 15; (with_reducible refine (CS _ _ _ J.out.fact.2.2.2.1 J.out.fact.2.2.2.2.1).out.mono ?_); rintro e x1 ⟨rfl, hb⟩; replace J := Lib.hid (J.out.step hb); clear hb sk; have sk := And.intro (J.out.held.three (l1 := [_, _, _, _, _])) (And.intro (four4 (J.out.held.four (l1 := [_, _, _, _]))) (And.intro (J.out.held.three (l1 := [_, _, _])) (And.intro (J.out.held.three (l1 := [_, _])) (And.intro (J.out.held.three (l1 := [_])) (J.out.held.three (l1 := [])))))))
          | (go_at_call 15; (with_reducible refine (CS _ _ _ J.out.fact.2.2.1 J.out.fact.2.2.2.2.1).out.mono ?_); rintro e x2 ⟨rfl, hb⟩; replace J := Lib.hid (J.out.step hb); clear hb sk; have sk := And.intro (J.out.held.three (l1 := [_, _, _, _, _])) (And.intro (four4 (J.out.held.four (l1 := [_, _, _, _]))) (And.intro (J.out.held.three (l1 := [_, _, _])) (And.intro (J.out.held.three (l1 := [_, _])) (And.intro (J.out.held.three (l1 := [_])) (J.out.held.three (l1 := [])))))))
          | (go_at_call 15; (with_reducible refine (CS _ _ _ J.out.fact.2.1 J.out.fact.2.2.2.2.1).out.mono ?_); rintro e x3 ⟨rfl, hb⟩; replace J := Lib.hid (J.out.step hb); clear hb sk; have sk := And.intro (J.out.held.three (l1 := [_, _, _, _, _])) (And.intro (four4 (J.out.held.four (l1 := [_, _, _, _]))) (And.intro (J.out.held.three (l1 := [_, _, _])) (And.intro (J.out.held.three (l1 := [_, _])) (And.intro (J.out.held.three (l1 := [_])) (J.out.held.three (l1 := [])))))))
          | (go_at_call 15; (with_reducible refine (CS _ _ _ J.out.fact.1 J.out.fact.2.2.2.2.1).out.mono ?_); rintro e x4 ⟨rfl, hb⟩; replace J := Lib.hid (J.out.step hb); clear hb sk; have sk := And.intro (J.out.held.three (l1 := [_, _, _, _, _])) (And.intro (four4 (J.out.held.four (l1 := [_, _, _, _]))) (And.intro (J.out.held.three (l1 := [_, _, _])) (And.intro (J.out.held.three (l1 := [_, _])) (And.intro (J.out.held.three (l1 := [_])) (J.out.held.three (l1 := [])))))))
          | (go_at_call 22; (with_reducible refine (M1 _).out.mono ?_); rintro e x5 ⟨rfl, hb⟩; replace J := Lib.hid (J.out.step hb); clear hb sk; have sk := And.intro (J.out.held.three (l1 := [_, _, _, _, _])) (And.intro (four4 (J.out.held.four (l1 := [_, _, _, _]))) (And.intro (J.out.held.three (l1 := [_, _, _])) (And.intro (J.out.held.three (l1 := [_, _])) (And.intro (J.out.held.three (l1 := [_])) (J.out.held.three (l1 := [])))))))
          | (go_at_call 25; (with_reducible refine (M2 _).out.mono ?_); rintro e x6 ⟨rfl, hb⟩; replace J := Lib.hid (J.out.step hb); clear hb sk; have sk := And.intro (J.out.held.three (l1 := [_, _, _, _, _])) (And.intro (four4 (J.out.held.four (l1 := [_, _, _, _]))) (And.intro (J.out.held.three (l1 := [_, _, _])) (And.intro (J.out.held.three (l1 := [_, _])) (And.intro (J.out.held.three (l1 := [_])) (J.out.held.three (l1 := [])))))))
          | (go_at_call 12; (with_reducible refine (C12 _).out.mono ?_); rintro e x7 ⟨rfl, hb⟩; replace J := Lib.hid (J.out.step hb); clear hb sk; have sk := And.intro (J.out.held.three (l1 := [_, _, _, _, _])) (And.intro (four4 (J.out.held.four (l1 := [_, _, _, _]))) (And.intro (J.out.held.three (l1 := [_, _, _])) (And.intro (J.out.held.three (l1 := [_, _])) (And.intro (J.out.held.three (l1 := [_])) (J.out.held.three (l1 := [])))))))
          | fail)
      all_goals
        go_wp2_with fail
        go_ret
        exact ⟨rfl, J.out.below⟩

end Go.Proofs.Ytnkbejbpkjkgeaa
