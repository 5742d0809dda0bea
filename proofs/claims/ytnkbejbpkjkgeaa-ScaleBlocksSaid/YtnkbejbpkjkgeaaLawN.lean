/-
  The walks of the laws ScaleNearest, ScaleBox and ScaleBlocks.
-/
import Derived.Test.YtnkbejbpkjkgeaaExm
namespace Go.Proofs.Ytnkbejbpkjkgeaa
open Go.RowKit Mem




set_option maxRecDepth 100000 in
set_option maxHeartbeats 4000000 in
theorem near_walk (a b p q : Int) {v : Value} {l : List Px} {w : World} (h : Pxs w v l) (hlb : ∀ z ∈ l, Byt z) : Calls Try.prog 3 #[.agg #[.int .i64 a, .int .i64 b, v], .int .i64 p, .int .i64 q] w (Says true w) := by
  obtain ⟨A, n, rfl, _⟩ := h.shape
  have J := Lib.hid (((Held.nil w).toX.addP h).alloc [.int .i64 a, .int .i64 b, .slice A l.length n] 24)
  have C12 := fun W => Lib.hid (example_any W)
  have C11 := fun W => Lib.hid (lsmall_any a b p q A l.length n W)
  obtain ⟨oa, ob, er, O, h1, h2⟩ := both_near a b p q hlb
  have D1 := fun W v h => Lib.hid (h1 W v h)
  have D2 := fun W v h => Lib.hid (h2 W v h)
  have CS := fun W v u h h2 => Lib.hid (lsame_self (oa := oa) (ob := ob) (O := O) (w := W) (v := v) (u := u) h h2)
  generalize l.length = m at *
  clear h h1 h2 hlb
  cases hs : smB m p q
  · rw [hs] at C11
    clear hs D1 D2 CS
    go_enter Try.func3, Try.ntmps3
    go_wp2_with fail
    refine (C11 _).out.mono ?_
    rintro e wq ⟨rfl, hb⟩
    replace J := Lib.hid (J.out.step hb)
    clear hb
    go_wp2_with fail
    refine (C12 _).out.mono ?_
    rintro e wq ⟨rfl, hb⟩
    replace J := Lib.hid (J.out.step hb)
    clear hb
    go_wp2_with fail
    go_ret
    exact ⟨rfl, J.out.below⟩
  · rw [hs] at C11
    clear hs
    unfold OutB at D1 D2
    go_enter Try.func3, Try.ntmps3
    go_wp2_with fail
    refine (C11 _).out.mono ?_
    rintro e wq ⟨rfl, hb⟩
    replace J := Lib.hid (J.out.step hb)
    clear hb
    obtain ⟨z0, z1, z2, _, zt⟩ := J.out.held.tri (l1 := [])
    go_wp2_with fail
    refine (D1 _ _ J.out.fact.1).out.mono ?_
    rintro e w1 ⟨A1, n1, c1, rfl, hp, hb⟩
    replace J := Lib.hid ((J.out.step hb).addP hp)
    clear hb hp
    clear z0 z1 z2 zt
    obtain ⟨z0, z1, z2, _, zt⟩ := J.out.held.tri (l1 := [])
    go_wp2_with fail
    clear z0 z1 z2 zt
    replace J := Lib.hid (J.out.alloc [.int .i64 oa, .int .i64 ob, .slice A1 n1 c1] 24)
    generalize w1.alloc (.cells #[.int .i64 oa, .int .i64 ob, .slice A1 n1 c1] 24) = u1 at *
    generalize w1.heap.size = k1 at *
    refine (D2 _ _ J.out.fact.2.1).out.mono ?_
    rintro e w2 ⟨A2, n2, c2, rfl, hp, hb⟩
    replace J := Lib.hid ((J.out.step hb).addP hp)
    clear hb hp
    obtain ⟨z0, z1, z2, _, zt⟩ := J.out.held.tri (l1 := [])
    go_wp2_with fail
    clear z0 z1 z2 zt
    replace J := Lib.hid (J.out.alloc [.int .i64 oa, .int .i64 ob, .slice A2 n2 c2] 24)
    generalize w2.alloc (.cells #[.int .i64 oa, .int .i64 ob, .slice A2 n2 c2] 24) = u2 at *
    generalize w2.heap.size = k2 at *
    refine (CS _ _ _ J.out.fact.2.1 J.out.fact.1).out.mono ?_
    rintro e wq ⟨rfl, hb⟩
    replace J := Lib.hid (J.out.step hb)
    clear hb
    go_wp2_with fail
    refine (C12 _).out.mono ?_
    rintro e wq ⟨rfl, hb⟩
    replace J := Lib.hid (J.out.step hb)
    clear hb
    go_wp2_with fail
    go_ret
    exact ⟨rfl, J.out.below⟩

set_option maxRecDepth 100000 in
set_option maxHeartbeats 4000000 in
theorem box_walk (a b p q : Int) {v : Value} {l : List Px} {w : World} (h : Pxs w v l) (hlb : ∀ z ∈ l, Byt z) : Calls Try.prog 4 #[.agg #[.int .i64 a, .int .i64 b, v], .int .i64 p, .int .i64 q] w (Says true w) := by
  obtain ⟨A, n, rfl, _⟩ := h.shape
  have J := Lib.hid (((Held.nil w).toX.addP h).alloc [.int .i64 a, .int .i64 b, .slice A l.length n] 24)
  have C12 := fun W => Lib.hid (example_any W)
  have C11 := fun W => Lib.hid (lsmall_any a b p q A l.length n W)
  obtain ⟨oa, ob, er, O, h1, h2⟩ := both_box a b p q hlb
  have D1 := fun W v h => Lib.hid (h1 W v h)
  have D2 := fun W v h => Lib.hid (h2 W v h)
  have CS := fun W v u h h2 => Lib.hid (lsame_self (oa := oa) (ob := ob) (O := O) (w := W) (v := v) (u := u) h h2)
  generalize l.length = m at *
  clear h h1 h2 hlb
  cases hs : smB m p q
  · rw [hs] at C11
    clear hs D1 D2 CS
    go_enter Try.func4, Try.ntmps4
    go_wp2_with fail
    refine (C11 _).out.mono ?_
    rintro e wq ⟨rfl, hb⟩
    replace J := Lib.hid (J.out.step hb)
    clear hb
    go_wp2_with fail
    refine (C12 _).out.mono ?_
    rintro e wq ⟨rfl, hb⟩
    replace J := Lib.hid (J.out.step hb)
    clear hb
    go_wp2_with fail
    go_ret
    exact ⟨rfl, J.out.below⟩
  · rw [hs] at C11
    clear hs
    unfold OutB at D1 D2
    go_enter Try.func4, Try.ntmps4
    go_wp2_with fail
    refine (C11 _).out.mono ?_
    rintro e wq ⟨rfl, hb⟩
    replace J := Lib.hid (J.out.step hb)
    clear hb
    obtain ⟨z0, z1, z2, _, zt⟩ := J.out.held.tri (l1 := [])
    go_wp2_with fail
    refine (D1 _ _ J.out.fact.1).out.mono ?_
    rintro e w1 ⟨A1, n1, c1, rfl, hp, hb⟩
    replace J := Lib.hid ((J.out.step hb).addP hp)
    clear hb hp
    clear z0 z1 z2 zt
    obtain ⟨z0, z1, z2, _, zt⟩ := J.out.held.tri (l1 := [])
    go_wp2_with fail
    clear z0 z1 z2 zt
    replace J := Lib.hid (J.out.alloc [.int .i64 oa, .int .i64 ob, .slice A1 n1 c1] 24)
    generalize w1.alloc (.cells #[.int .i64 oa, .int .i64 ob, .slice A1 n1 c1] 24) = u1 at *
    generalize w1.heap.size = k1 at *
    refine (D2 _ _ J.out.fact.2.1).out.mono ?_
    rintro e w2 ⟨A2, n2, c2, rfl, hp, hb⟩
    replace J := Lib.hid ((J.out.step hb).addP hp)
    clear hb hp
    obtain ⟨z0, z1, z2, _, zt⟩ := J.out.held.tri (l1 := [])
    go_wp2_with fail
    clear z0 z1 z2 zt
    replace J := Lib.hid (J.out.alloc [.int .i64 oa, .int .i64 ob, .slice A2 n2 c2] 24)
    generalize w2.alloc (.cells #[.int .i64 oa, .int .i64 ob, .slice A2 n2 c2] 24) = u2 at *
    generalize w2.heap.size = k2 at *
    refine (CS _ _ _ J.out.fact.2.1 J.out.fact.1).out.mono ?_
    rintro e wq ⟨rfl, hb⟩
    replace J := Lib.hid (J.out.step hb)
    clear hb
    go_wp2_with fail
    refine (C12 _).out.mono ?_
    rintro e wq ⟨rfl, hb⟩
    replace J := Lib.hid (J.out.step hb)
    clear hb
    go_wp2_with fail
    go_ret
    exact ⟨rfl, J.out.below⟩




set_option maxRecDepth 100000 in
set_option maxHeartbeats 4000000 in
theorem blocks_walk (a b k : Int) {v : Value} {l : List Px} {w : World} (h : Pxs w v l) (hlb : ∀ z ∈ l, Byt z) : Calls Try.prog 5 #[.agg #[.int .i64 a, .int .i64 b, v], .int .i64 k] w (Says true w) := by
  obtain ⟨A, n, rfl, _⟩ := h.shape
  have J := Lib.hid (((Held.nil w).toX.addP h).alloc [.int .i64 a, .int .i64 b, .slice A l.length n] 24)
  have C12 := fun W => Lib.hid (example_any W)
  have C11 := fun W => Lib.hid (lsmall_any a b 1 1 A l.length n W)
  obtain ⟨oa, ob, er, O, h1, h2⟩ := both_shrink a b k hlb
  obtain ⟨oc, od, es, P, h3, h4⟩ := both_enl a b k hlb
  have D1 := fun W v h => Lib.hid (h1 W v h)
  have D2 := fun W v h => Lib.hid (h2 W v h)
  have D3 := fun W v h => Lib.hid (h3 W v h)
  have D4 := fun W v h => Lib.hid (h4 W v h)
  have CS := fun W v u h h2 => Lib.hid (lsame_self (oa := oa) (ob := ob) (O := O) (w := W) (v := v) (u := u) h h2)
  have CT := fun W v u h h2 => Lib.hid (lsame_self (oa := oc) (ob := od) (O := P) (w := W) (v := v) (u := u) h h2)
  generalize l.length = m at *
  clear h h1 h2 h3 h4 hlb
  cases hs : smB m 1 1
  · rw [hs] at C11
    clear hs D1 D2 D3 D4 CS CT
    go_enter Try.func5, Try.ntmps5
    go_wp2_with fail
    refine (C11 _).out.mono ?_
    rintro e wq ⟨rfl, hb⟩
    replace J := Lib.hid (J.out.step hb)
    clear hb
    go_wp2_with fail
    refine (C12 _).out.mono ?_
    rintro e wq ⟨rfl, hb⟩
    replace J := Lib.hid (J.out.step hb)
    clear hb
    go_wp2_with fail
    go_ret
    exact ⟨rfl, J.out.below⟩
  · rw [hs] at C11
    clear hs
    unfold OutB at D1 D2 D3 D4
    by_cases hk : 6 < k ∧ k ≤ 256
    · obtain ⟨k1, k2⟩ := hk
      have b1 : decide (6 < k) = true := decide_eq_true k1
      have b2 : decide (k ≤ 256) = true := decide_eq_true k2
      clear D1 D2 D3 D4 CS CT
      go_enter Try.func5, Try.ntmps5
      go_wp2_with fail
      refine (C11 _).out.mono ?_
      rintro e wq ⟨rfl, hb⟩
      replace J := Lib.hid (J.out.step hb)
      clear hb
      go_wp2_with fail
      refine (C12 _).out.mono ?_
      rintro e wq ⟨rfl, hb⟩
      replace J := Lib.hid (J.out.step hb)
      clear hb
      go_wp2_with fail
      go_ret
      exact ⟨rfl, J.out.below⟩
    · have hg : (decide (6 < k) = true → decide (k ≤ 256) = false) := fun h => decide_eq_false (by have := of_decide_eq_true h; omega)
      obtain ⟨c1, hc1⟩ : ∃ c, decide (6 < k) = c := ⟨_, rfl⟩
      have hd := dec_prop hc1
      rw [hc1] at hg
      cases c1
      · simp only [Bool.false_eq_true, if_false] at hd
        clear hg hk
        go_enter Try.func5, Try.ntmps5
        go_wp2_with fail
        refine (C11 _).out.mono ?_
        rintro e wq ⟨rfl, hb⟩
        replace J := Lib.hid (J.out.step hb)
        clear hb
        obtain ⟨z0, z1, z2, _, zt⟩ := J.out.held.tri (l1 := [])
        go_wp2_with fail
        clear z0 z1 z2 zt
        refine (D1 _ _ J.out.fact.1).out.mono ?_
        rintro e w1 ⟨A1, n1, c1, rfl, hp, hb⟩
        replace J := Lib.hid ((J.out.step hb).addP hp)
        clear hb hp
        obtain ⟨z0, z1, z2, _, zt⟩ := J.out.held.tri (l1 := [])
        go_wp2_with fail
        clear z0 z1 z2 zt
        replace J := Lib.hid (J.out.alloc [.int .i64 oa, .int .i64 ob, .slice A1 n1 c1] 24)
        generalize w1.alloc (.cells #[.int .i64 oa, .int .i64 ob, .slice A1 n1 c1] 24) = u1 at *
        generalize w1.heap.size = k1 at *
        refine (D2 _ _ J.out.fact.2.1).out.mono ?_
        rintro e w2 ⟨A2, n2, c2, rfl, hp, hb⟩
        replace J := Lib.hid ((J.out.step hb).addP hp)
        clear hb hp
        obtain ⟨z0, z1, z2, _, zt⟩ := J.out.held.tri (l1 := [_])
        go_wp2_with fail
        clear z0 z1 z2 zt
        replace J := Lib.hid (J.out.alloc [.int .i64 oa, .int .i64 ob, .slice A2 n2 c2] 24)
        generalize w2.alloc (.cells #[.int .i64 oa, .int .i64 ob, .slice A2 n2 c2] 24) = u2 at *
        generalize w2.heap.size = k2 at *
        refine (D3 _ _ J.out.fact.2.2.1).out.mono ?_
        rintro e w3 ⟨A3, n3, c3, rfl, hp, hb⟩
        replace J := Lib.hid ((J.out.step hb).addP hp)
        clear hb hp
        obtain ⟨z0, z1, z2, _, zt⟩ := J.out.held.tri (l1 := [_, _])
        go_wp2_with fail
        clear z0 z1 z2 zt
        replace J := Lib.hid (J.out.alloc [.int .i64 oc, .int .i64 od, .slice A3 n3 c3] 24)
        generalize w3.alloc (.cells #[.int .i64 oc, .int .i64 od, .slice A3 n3 c3] 24) = u3 at *
        generalize w3.heap.size = k3 at *
        refine (D4 _ _ J.out.fact.2.2.2.1).out.mono ?_
        rintro e w4 ⟨A4, n4, c4, rfl, hp, hb⟩
        replace J := Lib.hid ((J.out.step hb).addP hp)
        clear hb hp
        obtain ⟨z0, z1, z2, _, zt⟩ := J.out.held.tri (l1 := [_, _])
        obtain ⟨y0, y1, y2, _, yt⟩ := J.out.held.tri (l1 := [_])
        go_wp2_with fail
        clear z0 z1 z2 zt y0 y1 y2 yt
        replace J := Lib.hid (J.out.alloc [.int .i64 oc, .int .i64 od, .slice A4 n4 c4] 24)
        generalize w4.alloc (.cells #[.int .i64 oc, .int .i64 od, .slice A4 n4 c4] 24) = u4 at *
        generalize w4.heap.size = k4 at *
        clear D1 D2 D3 D4
        refine (CS _ _ _ J.out.fact.2.2.2.1 J.out.fact.2.2.1).out.mono ?_
        rintro e wq ⟨rfl, hb⟩
        replace J := Lib.hid (J.out.step hb)
        clear hb
        obtain ⟨z0, z1, z2, _, zt⟩ := J.out.held.tri (l1 := [_])
        obtain ⟨y0, y1, y2, _, yt⟩ := J.out.held.tri (l1 := [])
        go_wp2_with fail
        refine (CT _ _ _ J.out.fact.2.1 J.out.fact.1).out.mono ?_
        rintro e wq ⟨rfl, hb⟩
        replace J := Lib.hid (J.out.step hb)
        clear hb
        go_wp2_with fail
        refine (C12 _).out.mono ?_
        rintro e wq ⟨rfl, hb⟩
        replace J := Lib.hid (J.out.step hb)
        clear hb
        go_wp2_with fail
        go_ret
        exact ⟨rfl, J.out.below⟩
      · have b2 := hg rfl
        have hd2 := of_decide_eq_false b2
        simp only [if_true] at hd
        clear hg hk
        go_enter Try.func5, Try.ntmps5
        go_wp2_with fail
        refine (C11 _).out.mono ?_
        rintro e wq ⟨rfl, hb⟩
        replace J := Lib.hid (J.out.step hb)
        clear hb
        obtain ⟨z0, z1, z2, _, zt⟩ := J.out.held.tri (l1 := [])
        go_wp2_with fail
        clear z0 z1 z2 zt
        refine (D1 _ _ J.out.fact.1).out.mono ?_
        rintro e w1 ⟨A1, n1, c1, rfl, hp, hb⟩
        replace J := Lib.hid ((J.out.step hb).addP hp)
        clear hb hp
        obtain ⟨z0, z1, z2, _, zt⟩ := J.out.held.tri (l1 := [])
        go_wp2_with fail
        clear z0 z1 z2 zt
        replace J := Lib.hid (J.out.alloc [.int .i64 oa, .int .i64 ob, .slice A1 n1 c1] 24)
        generalize w1.alloc (.cells #[.int .i64 oa, .int .i64 ob, .slice A1 n1 c1] 24) = u1 at *
        generalize w1.heap.size = k1 at *
        refine (D2 _ _ J.out.fact.2.1).out.mono ?_
        rintro e w2 ⟨A2, n2, c2, rfl, hp, hb⟩
        replace J := Lib.hid ((J.out.step hb).addP hp)
        clear hb hp
        obtain ⟨z0, z1, z2, _, zt⟩ := J.out.held.tri (l1 := [_])
        go_wp2_with fail
        clear z0 z1 z2 zt
        replace J := Lib.hid (J.out.alloc [.int .i64 oa, .int .i64 ob, .slice A2 n2 c2] 24)
        generalize w2.alloc (.cells #[.int .i64 oa, .int .i64 ob, .slice A2 n2 c2] 24) = u2 at *
        generalize w2.heap.size = k2 at *
        refine (D3 _ _ J.out.fact.2.2.1).out.mono ?_
        rintro e w3 ⟨A3, n3, c3, rfl, hp, hb⟩
        replace J := Lib.hid ((J.out.step hb).addP hp)
        clear hb hp
        obtain ⟨z0, z1, z2, _, zt⟩ := J.out.held.tri (l1 := [_, _])
        go_wp2_with fail
        clear z0 z1 z2 zt
        replace J := Lib.hid (J.out.alloc [.int .i64 oc, .int .i64 od, .slice A3 n3 c3] 24)
        generalize w3.alloc (.cells #[.int .i64 oc, .int .i64 od, .slice A3 n3 c3] 24) = u3 at *
        generalize w3.heap.size = k3 at *
        refine (D4 _ _ J.out.fact.2.2.2.1).out.mono ?_
        rintro e w4 ⟨A4, n4, c4, rfl, hp, hb⟩
        replace J := Lib.hid ((J.out.step hb).addP hp)
        clear hb hp
        obtain ⟨z0, z1, z2, _, zt⟩ := J.out.held.tri (l1 := [_, _])
        obtain ⟨y0, y1, y2, _, yt⟩ := J.out.held.tri (l1 := [_])
        go_wp2_with fail
        clear z0 z1 z2 zt y0 y1 y2 yt
        replace J := Lib.hid (J.out.alloc [.int .i64 oc, .int .i64 od, .slice A4 n4 c4] 24)
        generalize w4.alloc (.cells #[.int .i64 oc, .int .i64 od, .slice A4 n4 c4] 24) = u4 at *
        generalize w4.heap.size = k4 at *
        clear D1 D2 D3 D4
        refine (CS _ _ _ J.out.fact.2.2.2.1 J.out.fact.2.2.1).out.mono ?_
        rintro e wq ⟨rfl, hb⟩
        replace J := Lib.hid (J.out.step hb)
        clear hb
        obtain ⟨z0, z1, z2, _, zt⟩ := J.out.held.tri (l1 := [_])
        obtain ⟨y0, y1, y2, _, yt⟩ := J.out.held.tri (l1 := [])
        go_wp2_with fail
        refine (CT _ _ _ J.out.fact.2.1 J.out.fact.1).out.mono ?_
        rintro e wq ⟨rfl, hb⟩
        replace J := Lib.hid (J.out.step hb)
        clear hb
        go_wp2_with fail
        refine (C12 _).out.mono ?_
        rintro e wq ⟨rfl, hb⟩
        replace J := Lib.hid (J.out.step hb)
        clear hb
        go_wp2_with fail
        go_ret
        exact ⟨rfl, J.out.below⟩

end Go.Proofs.Ytnkbejbpkjkgeaa
