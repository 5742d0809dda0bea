/-
  The walk of the law BufferDecode.
-/
import Derived.Test.YtahhcklkcibgoaaLawC
namespace Go.Proofs.Ytahhcklkcibgoaa
open Go.RowKit Mem


set_option maxRecDepth 100000 in
set_option maxHeartbeats 4000000 in
theorem decode_walk (f a b st : Int) {v : Value} {bs : List UInt8} {w : World} (h : Sees w v bs) : Calls Try.prog 5 #[.agg #[.int .i64 f, .int .i64 a, .int .i64 b, .int .i64 st], v] w (Says true w) := by
  have H := Lib.hid h
  obtain ⟨A, c, rfl, hc, _⟩ := h.shape
  obtain ⟨n, hn⟩ : ∃ n, bs.length = n := ⟨_, rfl⟩
  have HN := Lib.hid hn
  rw [hn] at H hc ⊢
  have J := Lib.hid ((Held.nil w).toX.alloc [.int .i64 f, .int .i64 a, .int .i64 b, .int .i64 st] 38)
  have C14 := fun W => Lib.hid (example_any W)
  clear hn h
  by_cases h4 : 4000 < n
  · have q0 : (4000 : Int) < n := by omega
    go_enter Try.func5, Try.ntmps5
    go_wp2_with fail
    refine (C14 _).out.mono ?_
    rintro e wq ⟨rfl, hb⟩
    replace J := Lib.hid (J.out.step hb)
    clear hb
    go_wp2_with fail
    go_ret
    exact ⟨rfl, J.out.below⟩
  · have q0 : ¬ (4000 : Int) < n := by omega
    obtain ⟨oa, ob, er, O, h1, h2⟩ := both_dec f a b st (bs := bs) (by rw [HN.out]; omega)
    have C23 := fun W (hb : Below w.heap.size w W) => Lib.hid (h1 W _ (H.out.below hb))
    have C24 := fun W (hb : Below w.heap.size w W) => Lib.hid (h2 W _ (H.out.below hb))
    clear h1 h2 hc
    go_enter Try.func5, Try.ntmps5
    go_wp2_with fail
    refine (C23 _ J.out.below).out.mono ?_
    rintro e w1 ⟨A1, n1, c1, rfl, hp, hb⟩
    replace J := Lib.hid ((J.out.step hb).addP hp)
    clear hb hp C23
    obtain ⟨p0, p1, p2, p3, _, pt⟩ := J.out.held.four (l1 := [])
    go_wp2_with fail
    clear p0 p1 p2 p3 pt
    replace J := Lib.hid (J.out.alloc [.int .i64 oa, .int .i64 ob, .slice A1 n1 c1] 24)
    generalize w1.alloc (.cells #[.int .i64 oa, .int .i64 ob, .slice A1 n1 c1] 24) = u1 at *
    generalize w1.heap.size = k1 at *
    refine (C24 _ J.out.below).out.mono ?_
    rintro e w2 ⟨A2, n2, c2, rfl, hp, hb⟩
    replace J := Lib.hid ((J.out.step hb).addP hp)
    clear hb hp C24
    obtain ⟨z0, z1, z2, _, zt⟩ := J.out.held.tri (l1 := [])
    go_wp2_with fail
    clear z0 z1 z2 zt
    replace J := Lib.hid (J.out.alloc [.int .i64 oa, .int .i64 ob, .slice A2 n2 c2] 24)
    generalize w2.alloc (.cells #[.int .i64 oa, .int .i64 ob, .slice A2 n2 c2] 24) = u2 at *
    generalize w2.heap.size = k2 at *
    refine (Lib.hid (equal_self (oa := oa) (ob := ob) J.out.fact.2.1 J.out.fact.1)).out.mono ?_
    rintro e wq ⟨rfl, hb⟩
    replace J := Lib.hid (J.out.step hb)
    clear hb
    go_wp2_with fail
    refine (C14 _).out.mono ?_
    rintro e wq ⟨rfl, hb⟩
    replace J := Lib.hid (J.out.step hb)
    clear hb
    go_wp2_with fail
    go_ret
    exact ⟨rfl, J.out.below⟩

end Go.Proofs.Ytahhcklkcibgoaa
