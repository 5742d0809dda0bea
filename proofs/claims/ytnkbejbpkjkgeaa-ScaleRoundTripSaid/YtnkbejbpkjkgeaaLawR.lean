/-
  The walk of the law ScaleRoundTrip.
-/
import Derived.Test.YtnkbejbpkjkgeaaExm
namespace Go.Proofs.Ytnkbejbpkjkgeaa
open Go.RowKit Mem

set_option maxRecDepth 100000 in
set_option maxHeartbeats 8000000 in
theorem trip_walk (a b k : Int) {v : Value} {l : List Px} {w : World} (h : Pxs w v l) (hlb : ∀ z ∈ l, Byt z) : Calls Try.prog 7 #[.agg #[.int .i64 a, .int .i64 b, v], .int .i64 k] w (Says true w) := by
  obtain ⟨A, n, rfl, _⟩ := h.shape
  have J := Lib.hid (((Held.nil w).toX.addP h).alloc [.int .i64 a, .int .i64 b, .slice A l.length n] 24)
  have C12 := fun W => Lib.hid (example_any W)
  have C11 := fun W => Lib.hid (lsmall_any a b 1 1 A l.length n W)
  have C24 := fun W (h : Pxs W (.slice A l.length n) l) => Lib.hid (rvalid10_any a b h)
  cases hs : smB l.length 1 1
  · rw [hs] at C11
    generalize l.length = m at *
    clear hs h hlb C24
    go_enter Try.func7, Try.ntmps7
    go_wp2_with fail
    refine (C11 _).out.mono ?_
    rintro e wq ⟨rfl, hb⟩
    replace J := Lib.hid (J.out.step hb)
    clear hb
    go_wp2_with fail
    refine (C12 _).out.mono ?_
    rintro e wq ⟨rfl, hb⟩
    replace J := Lib.hid (J.out.step hb)
    clear hb
    go_wp2_with fail
    go_ret
    exact ⟨rfl, J.out.below⟩
  · rw [hs] at C11
    clear hs
    cases hvb : vBuf a b l
    · rw [hvb] at C24
      generalize l.length = m at *
      clear h hlb hvb
      go_enter Try.func7, Try.ntmps7
      go_wp2_with fail
      refine (C11 _).out.mono ?_
      rintro e wq ⟨rfl, hb⟩
      replace J := Lib.hid (J.out.step hb)
      clear hb
      obtain ⟨z0, z1, z2, _, zt⟩ := J.out.held.tri (l1 := [])
      go_wp2_with fail
      refine (C24 _ J.out.fact.1).out.mono ?_
      rintro e wq ⟨rfl, hb⟩
      replace J := Lib.hid (J.out.step hb)
      clear hb
      clear z0 z1 z2 zt
      go_wp2_with fail
      refine (C12 _).out.mono ?_
      rintro e wq ⟨rfl, hb⟩
      replace J := Lib.hid (J.out.step hb)
      clear hb
      go_wp2_with fail
      go_ret
      exact ⟨rfl, J.out.below⟩
    · rw [hvb] at C24
      obtain ⟨a, b, rfl, rfl, hv⟩ := vld_of hvb
      clear hvb
      have hv1 := hv.a1
      have hv2 := hv.a2
      have hv3 := hv.b1
      have hv4 := hv.b2
      by_cases hk1 : k < 1
      · have b1 : decide (k < 1) = true := decide_eq_true hk1
        generalize l.length = m at *
        clear h hlb hv hv1 hv2 hv3 hv4
        go_enter Try.func7, Try.ntmps7
        go_wp2_with fail
        refine (C11 _).out.mono ?_
        rintro e wq ⟨rfl, hb⟩
        replace J := Lib.hid (J.out.step hb)
        clear hb
        obtain ⟨z0, z1, z2, _, zt⟩ := J.out.held.tri (l1 := [])
        go_wp2_with fail
        refine (C24 _ J.out.fact.1).out.mono ?_
        rintro e wq ⟨rfl, hb⟩
        replace J := Lib.hid (J.out.step hb)
        clear hb
        clear z0 z1 z2 zt
        obtain ⟨z0, z1, z2, _, zt⟩ := J.out.held.tri (l1 := [])
        go_wp2_with fail
        refine (C12 _).out.mono ?_
        rintro e wq ⟨rfl, hb⟩
        replace J := Lib.hid (J.out.step hb)
        clear hb
        go_wp2_with fail
        go_ret
        exact ⟨rfl, J.out.below⟩
      · have b1 : decide (k < 1) = false := decide_eq_false hk1
        by_cases hk2 : 4 < k
        · have b2 : decide (4 < k) = true := decide_eq_true hk2
          generalize l.length = m at *
          clear h hlb hv hv1 hv2 hv3 hv4
          go_enter Try.func7, Try.ntmps7
          go_wp2_with fail
          refine (C11 _).out.mono ?_
          rintro e wq ⟨rfl, hb⟩
          replace J := Lib.hid (J.out.step hb)
          clear hb
          obtain ⟨z0, z1, z2, _, zt⟩ := J.out.held.tri (l1 := [])
          go_wp2_with fail
          refine (C24 _ J.out.fact.1).out.mono ?_
          rintro e wq ⟨rfl, hb⟩
          replace J := Lib.hid (J.out.step hb)
          clear hb
          clear z0 z1 z2 zt
          obtain ⟨z0, z1, z2, _, zt⟩ := J.out.held.tri (l1 := [])
          go_wp2_with fail
          refine (C12 _).out.mono ?_
          rintro e wq ⟨rfl, hb⟩
          replace J := Lib.hid (J.out.step hb)
          clear hb
          go_wp2_with fail
          go_ret
          exact ⟨rfl, J.out.below⟩
        · have b2 : decide (4 < k) = false := decide_eq_false hk2
          obtain ⟨k, rfl⟩ : ∃ K : Nat, k = K := ⟨k.toNat, by omega⟩
          have hK : 1 ≤ k := by omega
          obtain ⟨p, hp⟩ : ∃ p, a * k = p := ⟨_, rfl⟩
          obtain ⟨q, hq⟩ : ∃ q, b * k = q := ⟨_, rfl⟩
          have m1 : p ≤ 65536 := by rw [← hp]; exact mul_small hv2 (by omega)
          have m2 : q ≤ 65536 := by rw [← hq]; exact mul_small hv4 (by omega)
          have E := Lib.hid (show wrap64 ((a : Int) * (k : Int)) = (p : Int) ∧ wrap64 ((b : Int) * (k : Int)) = (q : Int) ∧ IntKind.i64.wrap ((a : Int) * (k : Int)) = (p : Int) ∧ IntKind.i64.wrap ((b : Int) * (k : Int)) = (q : Int) from by
            rw [← Int.natCast_mul, ← Int.natCast_mul, hp, hq]
            exact ⟨IntWalk.wrap64_in _ (by omega), IntWalk.wrap64_in _ (by omega), IntWalk.i64_in _ (by omega), IntWalk.i64_in _ (by omega)⟩)
          by_cases hp2 : (256 : Int) < p
          · have b3 : decide ((256 : Int) < p) = true := decide_eq_true hp2
            generalize l.length = m at *
            clear h hlb hv hv1 hv2 hv3 hv4 hp hq m1 m2 hK
            generalize (a : Int) = za at *
            generalize (b : Int) = zb at *
            generalize (k : Int) = zk at *
            generalize (p : Int) = zp at *
            obtain ⟨e1, e2, e3, e4⟩ := E.out
            go_enter Try.func7, Try.ntmps7
            go_wp2_with fail
            refine (C11 _).out.mono ?_
            rintro e wq ⟨rfl, hb⟩
            replace J := Lib.hid (J.out.step hb)
            clear hb
            obtain ⟨z0, z1, z2, _, zt⟩ := J.out.held.tri (l1 := [])
            go_wp2_with fail
            refine (C24 _ J.out.fact.1).out.mono ?_
            rintro e wq ⟨rfl, hb⟩
            replace J := Lib.hid (J.out.step hb)
            clear hb
            clear z0 z1 z2 zt
            obtain ⟨z0, z1, z2, _, zt⟩ := J.out.held.tri (l1 := [])
            go_wp2_with fail
            refine (C12 _).out.mono ?_
            rintro e wq ⟨rfl, hb⟩
            replace J := Lib.hid (J.out.step hb)
            clear hb
            go_wp2_with fail
            go_ret
            exact ⟨rfl, J.out.below⟩
          · have b3 : decide ((256 : Int) < p) = false := decide_eq_false hp2
            by_cases hq2 : (256 : Int) < q
            · have b4 : decide ((256 : Int) < q) = true := decide_eq_true hq2
              generalize l.length = m at *
              clear h hlb hv hv1 hv2 hv3 hv4 hp hq m1 m2 hK
              generalize (a : Int) = za at *
              generalize (b : Int) = zb at *
              generalize (k : Int) = zk at *
              generalize (p : Int) = zp at *
              generalize (q : Int) = zq at *
              obtain ⟨e1, e2, e3, e4⟩ := E.out
              go_enter Try.func7, Try.ntmps7
              go_wp2_with fail
              refine (C11 _).out.mono ?_
              rintro e wq ⟨rfl, hb⟩
              replace J := Lib.hid (J.out.step hb)
              clear hb
              obtain ⟨z0, z1, z2, _, zt⟩ := J.out.held.tri (l1 := [])
              go_wp2_with fail
              refine (C24 _ J.out.fact.1).out.mono ?_
              rintro e wq ⟨rfl, hb⟩
              replace J := Lib.hid (J.out.step hb)
              clear hb
              clear z0 z1 z2 zt
              obtain ⟨z0, z1, z2, _, zt⟩ := J.out.held.tri (l1 := [])
              go_wp2_with fail
              refine (C12 _).out.mono ?_
              rintro e wq ⟨rfl, hb⟩
              replace J := Lib.hid (J.out.step hb)
              clear hb
              go_wp2_with fail
              go_ret
              exact ⟨rfl, J.out.below⟩
            · have b4 : decide ((256 : Int) < q) = false := decide_eq_false hq2
              have vE := enl_vld hv hK (by omega) (by omega)
              rw [hp, hq] at vE
              have bE := enl_byt (a := a) (b := b) (k := k) hlb
              have D1 := fun W v (h : Pxs W v l) => Lib.hid ((enl_good h hv hlb hK hp hq (by omega) (by omega)).mono fun _ _ => outB)
              have D2 := fun W v (h : Pxs W v (enlL a b l k)) => Lib.hid (show Calls Try.prog 18 #[.agg #[.int .i64 (p : Int), .int .i64 (q : Int), v], .int .i64 (k : Int)] W (OutB a b l 0 W) from by
                have g := (shrink_good h vE bE hK hp hq).mono fun _ _ => outB
                rw [← hp, ← hq, box_back hv hK, hp, hq] at g
                exact g)
              have D3 := fun W v (h : Pxs W v (enlL a b l k)) => Lib.hid (show Calls Try.prog 13 #[.agg #[.int .i64 (p : Int), .int .i64 (q : Int), v], .int .i64 (a : Int), .int .i64 (b : Int)] W (OutB a b l 0 W) from by
                have g := (near_good (p := a) (q := b) h vE bE ⟨hv1, hv2⟩ ⟨hv3, hv4⟩).mono fun _ _ => outB
                rw [← hp, ← hq, near_back hv hK, hp, hq] at g
                exact g)
              have D4 := fun W v (h : Pxs W v (enlL a b l k)) => Lib.hid (show Calls Try.prog 16 #[.agg #[.int .i64 (p : Int), .int .i64 (q : Int), v], .int .i64 (a : Int), .int .i64 (b : Int)] W (OutB a b l 0 W) from by
                have g := (box_good (p := a) (q := b) h vE bE ⟨hv1, hv2⟩ ⟨hv3, hv4⟩).mono fun _ _ => outB
                rw [← hp, ← hq, box_back hv hK, hp, hq] at g
                exact g)
              have hp1 : 1 ≤ p := by rw [← hp]; exact pos_mul hv1 hK
              have hq1 : 1 ≤ q := by rw [← hq]; exact pos_mul hv3 hK
              have D5 := fun W v (h : Pxs W v l) => Lib.hid (show Calls Try.prog 13 #[.agg #[.int .i64 (a : Int), .int .i64 (b : Int), v], .int .i64 (p : Int), .int .i64 (q : Int)] W (OutB p q (enlL a b l k) 0 W) from by
                have g := (near_good (p := p) (q := q) h hv hlb ⟨hp1, by omega⟩ ⟨hq1, by omega⟩).mono fun _ _ => outB
                rw [← hp, ← hq, near_enl hv hK, hp, hq] at g
                exact g)
              have D6 := fun W v (h : Pxs W v l) => Lib.hid (show Calls Try.prog 16 #[.agg #[.int .i64 (a : Int), .int .i64 (b : Int), v], .int .i64 (p : Int), .int .i64 (q : Int)] W (OutB p q (enlL a b l k) 0 W) from by
                have g := (box_good (p := p) (q := q) h hv hlb ⟨hp1, by omega⟩ ⟨hq1, by omega⟩).mono fun _ _ => outB
                rw [← hp, ← hq, box_enl hv hK, hp, hq] at g
                exact g)
              have CS := fun W v u h h2 => Lib.hid (lsame_self (oa := (a : Int)) (ob := (b : Int)) (O := l) (w := W) (v := v) (u := u) h h2)
              have CT := fun W v u h h2 => Lib.hid (lsame_self (oa := (p : Int)) (ob := (q : Int)) (O := enlL a b l k) (w := W) (v := v) (u := u) h h2)
              generalize enlL a b l k = X at *
              generalize l.length = m at *
              unfold OutB at D1 D2 D3 D4 D5 D6
              clear h hlb hv hv1 hv2 hv3 hv4 hp hq m1 m2 hK vE bE hp1 hq1
              generalize (a : Int) = za at *
              generalize (b : Int) = zb at *
              generalize (k : Int) = zk at *
              generalize (p : Int) = zp at *
              generalize (q : Int) = zq at *
              obtain ⟨e1, e2, e3, e4⟩ := E.out
              go_enter Try.func7, Try.ntmps7
              go_wp2_with fail
              refine (C11 _).out.mono ?_
              rintro e wq ⟨rfl, hb⟩
              replace J := Lib.hid (J.out.step hb)
              clear hb
              obtain ⟨z0, z1, z2, _, zt⟩ := J.out.held.tri (l1 := [])
              go_wp2_with fail
              refine (C24 _ J.out.fact.1).out.mono ?_
              rintro e wq ⟨rfl, hb⟩
              replace J := Lib.hid (J.out.step hb)
              clear hb
              clear z0 z1 z2 zt
              obtain ⟨z0, z1, z2, _, zt⟩ := J.out.held.tri (l1 := [])
              go_wp2_with fail
              clear z0 z1 z2 zt
              refine (D1 _ _ J.out.fact.1).out.mono ?_
              rintro e w1 ⟨A1, n1, c1, rfl, hp, hb⟩
              replace J := Lib.hid ((J.out.step hb).addP hp)
              clear hb hp
              go_wp2_with fail
              replace J := Lib.hid (J.out.alloc [.int .i64 zp, .int .i64 zq, .slice A1 n1 c1] 24)
              generalize w1.alloc (.cells #[.int .i64 zp, .int .i64 zq, .slice A1 n1 c1] 24) = u1 at *
              generalize w1.heap.size = k1 at *
              refine (D2 _ _ J.out.fact.1).out.mono ?_
              rintro e w2 ⟨A2, n2, c2, rfl, hp, hb⟩
              replace J := Lib.hid ((J.out.step hb).addP hp)
              clear hb hp
              obtain ⟨z0, z1, z2, _, zt⟩ := J.out.held.tri (l1 := [])
              obtain ⟨y0, y1, y2, _, yt⟩ := J.out.held.tri (l1 := [_])
              go_wp2_with fail
              clear z0 z1 z2 zt y0 y1 y2 yt
              replace J := Lib.hid (J.out.alloc [.int .i64 za, .int .i64 zb, .slice A2 n2 c2] 24)
              generalize w2.alloc (.cells #[.int .i64 za, .int .i64 zb, .slice A2 n2 c2] 24) = u2 at *
              generalize w2.heap.size = k2 at *
              refine (CS _ _ _ J.out.fact.1 J.out.fact.2.2.1).out.mono ?_
              rintro e wq ⟨rfl, hb⟩
              replace J := Lib.hid (J.out.step hb)
              clear hb
              obtain ⟨z0, z1, z2, _, zt⟩ := J.out.held.tri (l1 := [_])
              obtain ⟨y0, y1, y2, _, yt⟩ := J.out.held.tri (l1 := [_, _])
              go_wp2_with fail
              clear z0 z1 z2 zt y0 y1 y2 yt
              refine (D3 _ _ J.out.fact.2.1).out.mono ?_
              rintro e w3 ⟨A3, n3, c3, rfl, hp, hb⟩
              replace J := Lib.hid ((J.out.step hb).addP hp)
              clear hb hp
              obtain ⟨z0, z1, z2, _, zt⟩ := J.out.held.tri (l1 := [_])
              obtain ⟨y0, y1, y2, _, yt⟩ := J.out.held.tri (l1 := [_, _])
              go_wp2_with fail
              clear z0 z1 z2 zt y0 y1 y2 yt
              replace J := Lib.hid (J.out.alloc [.int .i64 za, .int .i64 zb, .slice A3 n3 c3] 24)
              generalize w3.alloc (.cells #[.int .i64 za, .int .i64 zb, .slice A3 n3 c3] 24) = u3 at *
              generalize w3.heap.size = k3 at *
              refine (D4 _ _ J.out.fact.2.2.1).out.mono ?_
              rintro e w4 ⟨A4, n4, c4, rfl, hp, hb⟩
              replace J := Lib.hid ((J.out.step hb).addP hp)
              clear hb hp
              obtain ⟨z0, z1, z2, _, zt⟩ := J.out.held.tri (l1 := [_, _])
              obtain ⟨y0, y1, y2, _, yt⟩ := J.out.held.tri (l1 := [_, _, _])
              go_wp2_with fail
              clear z0 z1 z2 zt y0 y1 y2 yt
              replace J := Lib.hid (J.out.alloc [.int .i64 za, .int .i64 zb, .slice A4 n4 c4] 24)
              generalize w4.alloc (.cells #[.int .i64 za, .int .i64 zb, .slice A4 n4 c4] 24) = u4 at *
              generalize w4.heap.size = k4 at *
              refine (D5 _ _ J.out.fact.2.2.2.2.1).out.mono ?_
              rintro e w5 ⟨A5, n5, c5, rfl, hp, hb⟩
              replace J := Lib.hid ((J.out.step hb).addP hp)
              clear hb hp
              obtain ⟨z0, z1, z2, _, zt⟩ := J.out.held.tri (l1 := [_, _, _])
              obtain ⟨y0, y1, y2, _, yt⟩ := J.out.held.tri (l1 := [_, _, _, _])
              go_wp2_with fail
              clear z0 z1 z2 zt y0 y1 y2 yt
              replace J := Lib.hid (J.out.alloc [.int .i64 zp, .int .i64 zq, .slice A5 n5 c5] 24)
              generalize w5.alloc (.cells #[.int .i64 zp, .int .i64 zq, .slice A5 n5 c5] 24) = u5 at *
              generalize w5.heap.size = k5 at *
              refine (D6 _ _ J.out.fact.2.2.2.2.2.1).out.mono ?_
              rintro e w6 ⟨A6, n6, c6, rfl, hp, hb⟩
              replace J := Lib.hid ((J.out.step hb).addP hp)
              clear hb hp
              obtain ⟨z0, z1, z2, _, zt⟩ := J.out.held.tri (l1 := [_, _])
              obtain ⟨y0, y1, y2, _, yt⟩ := J.out.held.tri (l1 := [_, _, _, _, _])
              go_wp2_with fail
              clear z0 z1 z2 zt y0 y1 y2 yt
              replace J := Lib.hid (J.out.alloc [.int .i64 zp, .int .i64 zq, .slice A6 n6 c6] 24)
              generalize w6.alloc (.cells #[.int .i64 zp, .int .i64 zq, .slice A6 n6 c6] 24) = u6 at *
              generalize w6.heap.size = k6 at *
              clear D1 D2 D3 D4 D5 D6
              refine (CS _ _ _ J.out.fact.2.2.2.1 J.out.fact.2.2.2.2.2.2.1).out.mono ?_
              rintro e wq ⟨rfl, hb⟩
              replace J := Lib.hid (J.out.step hb)
              clear hb
              obtain ⟨z0, z1, z2, _, zt⟩ := J.out.held.tri (l1 := [_, _])
              obtain ⟨y0, y1, y2, _, yt⟩ := J.out.held.tri (l1 := [_, _, _, _, _, _])
              go_wp2_with fail
              clear z0 z1 z2 zt y0 y1 y2 yt
              refine (CS _ _ _ J.out.fact.2.2.1 J.out.fact.2.2.2.2.2.2.1).out.mono ?_
              rintro e wq ⟨rfl, hb⟩
              replace J := Lib.hid (J.out.step hb)
              clear hb
              obtain ⟨z0, z1, z2, _, zt⟩ := J.out.held.tri (l1 := [_])
              obtain ⟨y0, y1, y2, _, yt⟩ := J.out.held.tri (l1 := [_, _, _, _, _])
              go_wp2_with fail
              clear z0 z1 z2 zt y0 y1 y2 yt
              refine (CT _ _ _ J.out.fact.2.1 J.out.fact.2.2.2.2.2.1).out.mono ?_
              rintro e wq ⟨rfl, hb⟩
              replace J := Lib.hid (J.out.step hb)
              clear hb
              obtain ⟨z0, z1, z2, _, zt⟩ := J.out.held.tri (l1 := [])
              obtain ⟨y0, y1, y2, _, yt⟩ := J.out.held.tri (l1 := [_, _, _, _, _])
              go_wp2_with fail
              clear z0 z1 z2 zt y0 y1 y2 yt
              refine (CT _ _ _ J.out.fact.1 J.out.fact.2.2.2.2.2.1).out.mono ?_
              rintro e wq ⟨rfl, hb⟩
              replace J := Lib.hid (J.out.step hb)
              clear hb
              go_wp2_with fail
              refine (C12 _).out.mono ?_
              rintro e wq ⟨rfl, hb⟩
              replace J := Lib.hid (J.out.step hb)
              clear hb
              go_wp2_with fail
              go_ret
              exact ⟨rfl, J.out.below⟩

end Go.Proofs.Ytnkbejbpkjkgeaa
