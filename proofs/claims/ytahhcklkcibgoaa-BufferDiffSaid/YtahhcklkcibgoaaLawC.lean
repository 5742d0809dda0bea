/-
  The walks of the laws BufferNew and BufferDecode.
-/
import Derived.Test.YtahhcklkcibgoaaLawB
namespace Go.Proofs.Ytahhcklkcibgoaa
open Go.RowKit Mem

theorem equal_self {oa ob : Int} {v u : Value} {O : List Px} {w : World} (h : Pxs w v O) (h2 : Pxs w u O) : Calls Try.prog 20 #[.agg #[.int .i64 oa, .int .i64 ob, v], .agg #[.int .i64 oa, .int .i64 ob, u]] w fun e w' => e = .returned (.bool true) ∧ Below w.heap.size w w' := by
  have := requal_any oa ob oa ob h h2
  rw [eqB_self] at this
  exact this



set_option maxRecDepth 100000 in
set_option maxHeartbeats 4000000 in
theorem new_walk (a b : Int) (p : Px) {w : World} : Calls Try.prog 4 #[.int .i64 a, .int .i64 b, .agg #[.int .u8 (p.r : Int), .int .u8 (p.g : Int), .int .u8 (p.b : Int), .int .u8 (p.a : Int)]] w (Says true w) := by
  have J := Lib.hid ((Held.nil w).alloc [.int .u8 (p.r : Int), .int .u8 (p.g : Int), .int .u8 (p.b : Int), .int .u8 (p.a : Int)] 30).toX
  have C14 := fun W => Lib.hid (example_any W)
  obtain ⟨oa, ob, er, O, h1, h2⟩ := both_new a b p
  have C21 := fun W => Lib.hid (h1 W)
  have C22 := fun W => Lib.hid (h2 W)
  clear h1 h2
  by_cases g0 : 1 ≤ a
  · by_cases g1 : a ≤ 256
    · by_cases g2 : 1 ≤ b
      · by_cases g3 : b ≤ 256
        · have hm := mul_int ⟨g0, g1⟩ ⟨g2, g3⟩
          have hw2 : wrap64 (a * b) = a * b := IntWalk.wrap64_in _ (by omega)
          obtain ⟨ab, hab⟩ : ∃ ab, a * b = ab := ⟨_, rfl⟩
          replace hw2 := hw2.trans hab
          clear hm hab
          by_cases g4 : 400 < ab
          · clear C21 C22
            go_enter Try.func4, Try.ntmps4
            go_wp2_with fail
            refine (C14 _).out.mono ?_
            rintro e wq ⟨rfl, hb⟩
            replace J := Lib.hid (J.out.step hb)
            clear hb
            go_wp2_with fail
            go_ret
            exact ⟨rfl, J.out.below⟩
          · go_enter Try.func4, Try.ntmps4
            go_wp2_with fail
            refine (C21 _).out.mono ?_
            rintro e w1 ⟨A1, n1, c1, rfl, hp, hb⟩
            replace J := Lib.hid ((J.out.step hb).addP hp)
            clear hb hp C21
            obtain ⟨p0, p1, p2, p3, _, pt⟩ := J.out.held.four (l1 := [])
            go_wp2_with fail
            clear p0 p1 p2 p3 pt
            replace J := Lib.hid (J.out.alloc [.int .i64 oa, .int .i64 ob, .slice A1 n1 c1] 24)
            generalize w1.alloc (.cells #[.int .i64 oa, .int .i64 ob, .slice A1 n1 c1] 24) = u1 at *
            generalize w1.heap.size = k1 at *
            refine (C22 _).out.mono ?_
            rintro e w2 ⟨A2, n2, c2, rfl, hp, hb⟩
            replace J := Lib.hid ((J.out.step hb).addP hp)
            clear hb hp C22
            obtain ⟨z0, z1, z2, _, zt⟩ := J.out.held.tri (l1 := [])
            go_wp2_with fail
            clear z0 z1 z2 zt
            replace J := Lib.hid (J.out.alloc [.int .i64 oa, .int .i64 ob, .slice A2 n2 c2] 24)
            generalize w2.alloc (.cells #[.int .i64 oa, .int .i64 ob, .slice A2 n2 c2] 24) = u2 at *
            generalize w2.heap.size = k2 at *
            refine (Lib.hid (equal_self (oa := oa) (ob := ob) J.out.fact.2.1 J.out.fact.1)).out.mono ?_
            rintro e wq ⟨rfl, hb⟩
            replace J := Lib.hid (J.out.step hb)
            clear hb
            go_wp2_with fail
            refine (C14 _).out.mono ?_
            rintro e wq ⟨rfl, hb⟩
            replace J := Lib.hid (J.out.step hb)
            clear hb
            go_wp2_with fail
            go_ret
            exact ⟨rfl, J.out.below⟩
        · go_enter Try.func4, Try.ntmps4
          go_wp2_with fail
          refine (C21 _).out.mono ?_
          rintro e w1 ⟨A1, n1, c1, rfl, hp, hb⟩
          replace J := Lib.hid ((J.out.step hb).addP hp)
          clear hb hp C21
          obtain ⟨p0, p1, p2, p3, _, pt⟩ := J.out.held.four (l1 := [])
          go_wp2_with fail
          clear p0 p1 p2 p3 pt
          replace J := Lib.hid (J.out.alloc [.int .i64 oa, .int .i64 ob, .slice A1 n1 c1] 24)
          generalize w1.alloc (.cells #[.int .i64 oa, .int .i64 ob, .slice A1 n1 c1] 24) = u1 at *
          generalize w1.heap.size = k1 at *
          refine (C22 _).out.mono ?_
          rintro e w2 ⟨A2, n2, c2, rfl, hp, hb⟩
          replace J := Lib.hid ((J.out.step hb).addP hp)
          clear hb hp C22
          obtain ⟨z0, z1, z2, _, zt⟩ := J.out.held.tri (l1 := [])
          go_wp2_with fail
          clear z0 z1 z2 zt
          replace J := Lib.hid (J.out.alloc [.int .i64 oa, .int .i64 ob, .slice A2 n2 c2] 24)
          generalize w2.alloc (.cells #[.int .i64 oa, .int .i64 ob, .slice A2 n2 c2] 24) = u2 at *
          generalize w2.heap.size = k2 at *
          refine (Lib.hid (equal_self (oa := oa) (ob := ob) J.out.fact.2.1 J.out.fact.1)).out.mono ?_
          rintro e wq ⟨rfl, hb⟩
          replace J := Lib.hid (J.out.step hb)
          clear hb
          go_wp2_with fail
          refine (C14 _).out.mono ?_
          rintro e wq ⟨rfl, hb⟩
          replace J := Lib.hid (J.out.step hb)
          clear hb
          go_wp2_with fail
          go_ret
          exact ⟨rfl, J.out.below⟩
      · go_enter Try.func4, Try.ntmps4
        go_wp2_with fail
        refine (C21 _).out.mono ?_
        rintro e w1 ⟨A1, n1, c1, rfl, hp, hb⟩
        replace J := Lib.hid ((J.out.step hb).addP hp)
        clear hb hp C21
        obtain ⟨p0, p1, p2, p3, _, pt⟩ := J.out.held.four (l1 := [])
        go_wp2_with fail
        clear p0 p1 p2 p3 pt
        replace J := Lib.hid (J.out.alloc [.int .i64 oa, .int .i64 ob, .slice A1 n1 c1] 24)
        generalize w1.alloc (.cells #[.int .i64 oa, .int .i64 ob, .slice A1 n1 c1] 24) = u1 at *
        generalize w1.heap.size = k1 at *
        refine (C22 _).out.mono ?_
        rintro e w2 ⟨A2, n2, c2, rfl, hp, hb⟩
        replace J := Lib.hid ((J.out.step hb).addP hp)
        clear hb hp C22
        obtain ⟨z0, z1, z2, _, zt⟩ := J.out.held.tri (l1 := [])
        go_wp2_with fail
        clear z0 z1 z2 zt
        replace J := Lib.hid (J.out.alloc [.int .i64 oa, .int .i64 ob, .slice A2 n2 c2] 24)
        generalize w2.alloc (.cells #[.int .i64 oa, .int .i64 ob, .slice A2 n2 c2] 24) = u2 at *
        generalize w2.heap.size = k2 at *
        refine (Lib.hid (equal_self (oa := oa) (ob := ob) J.out.fact.2.1 J.out.fact.1)).out.mono ?_
        rintro e wq ⟨rfl, hb⟩
        replace J := Lib.hid (J.out.step hb)
        clear hb
        go_wp2_with fail
        refine (C14 _).out.mono ?_
        rintro e wq ⟨rfl, hb⟩
        replace J := Lib.hid (J.out.step hb)
        clear hb
        go_wp2_with fail
        go_ret
        exact ⟨rfl, J.out.below⟩
    · go_enter Try.func4, Try.ntmps4
      go_wp2_with fail
      refine (C21 _).out.mono ?_
      rintro e w1 ⟨A1, n1, c1, rfl, hp, hb⟩
      replace J := Lib.hid ((J.out.step hb).addP hp)
      clear hb hp C21
      obtain ⟨p0, p1, p2, p3, _, pt⟩ := J.out.held.four (l1 := [])
      go_wp2_with fail
      clear p0 p1 p2 p3 pt
      replace J := Lib.hid (J.out.alloc [.int .i64 oa, .int .i64 ob, .slice A1 n1 c1] 24)
      generalize w1.alloc (.cells #[.int .i64 oa, .int .i64 ob, .slice A1 n1 c1] 24) = u1 at *
      generalize w1.heap.size = k1 at *
      refine (C22 _).out.mono ?_
      rintro e w2 ⟨A2, n2, c2, rfl, hp, hb⟩
      replace J := Lib.hid ((J.out.step hb).addP hp)
      clear hb hp C22
      obtain ⟨z0, z1, z2, _, zt⟩ := J.out.held.tri (l1 := [])
      go_wp2_with fail
      clear z0 z1 z2 zt
      replace J := Lib.hid (J.out.alloc [.int .i64 oa, .int .i64 ob, .slice A2 n2 c2] 24)
      generalize w2.alloc (.cells #[.int .i64 oa, .int .i64 ob, .slice A2 n2 c2] 24) = u2 at *
      generalize w2.heap.size = k2 at *
      refine (Lib.hid (equal_self (oa := oa) (ob := ob) J.out.fact.2.1 J.out.fact.1)).out.mono ?_
      rintro e wq ⟨rfl, hb⟩
      replace J := Lib.hid (J.out.step hb)
      clear hb
      go_wp2_with fail
      refine (C14 _).out.mono ?_
      rintro e wq ⟨rfl, hb⟩
      replace J := Lib.hid (J.out.step hb)
      clear hb
      go_wp2_with fail
      go_ret
      exact ⟨rfl, J.out.below⟩
  · go_enter Try.func4, Try.ntmps4
    go_wp2_with fail
    refine (C21 _).out.mono ?_
    rintro e w1 ⟨A1, n1, c1, rfl, hp, hb⟩
    replace J := Lib.hid ((J.out.step hb).addP hp)
    clear hb hp C21
    obtain ⟨p0, p1, p2, p3, _, pt⟩ := J.out.held.four (l1 := [])
    go_wp2_with fail
    clear p0 p1 p2 p3 pt
    replace J := Lib.hid (J.out.alloc [.int .i64 oa, .int .i64 ob, .slice A1 n1 c1] 24)
    generalize w1.alloc (.cells #[.int .i64 oa, .int .i64 ob, .slice A1 n1 c1] 24) = u1 at *
    generalize w1.heap.size = k1 at *
    refine (C22 _).out.mono ?_
    rintro e w2 ⟨A2, n2, c2, rfl, hp, hb⟩
    replace J := Lib.hid ((J.out.step hb).addP hp)
    clear hb hp C22
    obtain ⟨z0, z1, z2, _, zt⟩ := J.out.held.tri (l1 := [])
    go_wp2_with fail
    clear z0 z1 z2 zt
    replace J := Lib.hid (J.out.alloc [.int .i64 oa, .int .i64 ob, .slice A2 n2 c2] 24)
    generalize w2.alloc (.cells #[.int .i64 oa, .int .i64 ob, .slice A2 n2 c2] 24) = u2 at *
    generalize w2.heap.size = k2 at *
    refine (Lib.hid (equal_self (oa := oa) (ob := ob) J.out.fact.2.1 J.out.fact.1)).out.mono ?_
    rintro e wq ⟨rfl, hb⟩
    replace J := Lib.hid (J.out.step hb)
    clear hb
    go_wp2_with fail
    refine (C14 _).out.mono ?_
    rintro e wq ⟨rfl, hb⟩
    replace J := Lib.hid (J.out.step hb)
    clear hb
    go_wp2_with fail
    go_ret
    exact ⟨rfl, J.out.below⟩

end Go.Proofs.Ytahhcklkcibgoaa
