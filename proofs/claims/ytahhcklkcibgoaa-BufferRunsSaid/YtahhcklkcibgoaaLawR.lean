/-
  The walk of the law BufferRuns.
-/
import Derived.Test.YtahhcklkcibgoaaLawC
import Derived.Test.YtahhcklkcibgoaaRects
namespace Go.Proofs.Ytahhcklkcibgoaa
open Go.RowKit Mem



theorem heldL2' (w : World) (a b : Int) (v : Value) (c d : Int) (u : Value) {l m : List Px} (h1 : Pxs w v l) (h2 : Pxs w u m) :
    HeldX w ((w.alloc (.cells #[.int .i64 a, .int .i64 b, v] 24)).alloc (.cells #[.int .i64 c, .int .i64 d, u] 24)) [(w.heap.size + 1, [.int .i64 c, .int .i64 d, u]), (w.heap.size, [.int .i64 a, .int .i64 b, v])] (fun V => Pxs V u m ∧ Pxs V v l ∧ True) := heldL2 w a b v c d u h1 h2

set_option maxRecDepth 100000 in
set_option maxHeartbeats 4000000 in
theorem runs_walk (a b c d : Int) {v u : Value} {l m : List Px} {w : World} (h1 : Pxs w v l) (h2 : Pxs w u m) : Calls Try.prog 11 #[.agg #[.int .i64 a, .int .i64 b, v], .agg #[.int .i64 c, .int .i64 d, u]] w (Says true w) := by
  have H1 := Lib.hid h1
  have H2 := Lib.hid h2
  obtain ⟨A, n, rfl, _⟩ := h1.shape
  obtain ⟨A', n', rfl, _⟩ := h2.shape
  have J := Lib.hid (heldL2 w a b (.slice A l.length n) c d (.slice A' m.length n') h1 h2)
  have C14 := fun W => Lib.hid (example_any W)
  obtain ⟨er, L, h3, h4, _⟩ := both_diff a b c d l m
  have C34 := fun W (hb : Below w.heap.size w W) => Lib.hid (h3 W _ _ (H1.out.below hb) (H2.out.below hb))
  have C35 := fun W (hb : Below w.heap.size w W) => Lib.hid (h4 W _ _ (H1.out.below hb) (H2.out.below hb))
  obtain ⟨fr, M, h5, h6⟩ := both_opq a b l
  have C37 := fun W (hb : Below w.heap.size w W) => Lib.hid (h5 W _ (H1.out.below hb))
  have C38 := fun W (hb : Below w.heap.size w W) => Lib.hid (h6 W _ (H1.out.below hb))
  clear h1 h2 h3 h4 h5 h6
  generalize l.length = n1 at *
  generalize m.length = m1 at *
  by_cases g0 : 600 < n1
  · have q0 : (600 : Int) < n1 := by omega
    clear C34 C35 C37 C38
    go_enter Try.func11, Try.ntmps11
    go_wp2_with fail
    refine (C14 _).out.mono ?_
    rintro e wq ⟨rfl, hb⟩
    replace J := Lib.hid (J.out.step hb)
    clear hb
    go_wp2_with fail
    go_ret
    exact ⟨rfl, J.out.below⟩
  · have q0 : ¬ (600 : Int) < n1 := by omega
    by_cases g1 : 600 < m1
    · have q1 : (600 : Int) < m1 := by omega
      clear C34 C35 C37 C38
      go_enter Try.func11, Try.ntmps11
      go_wp2_with fail
      refine (C14 _).out.mono ?_
      rintro e wq ⟨rfl, hb⟩
      replace J := Lib.hid (J.out.step hb)
      clear hb
      go_wp2_with fail
      go_ret
      exact ⟨rfl, J.out.below⟩
    · have q1 : ¬ (600 : Int) < m1 := by omega
      clear g0 g1 H1 H2
      go_enter Try.func11, Try.ntmps11
      go_wp2_with fail
      refine (C34 _ J.out.below).out.mono ?_
      rintro e wq ⟨A1, n1, c1, rfl, hp, hb⟩
      replace J := Lib.hid ((J.out.step hb).addR hp)
      clear hb hp
      obtain ⟨a0, a1, a2, _, at'⟩ := J.out.held.tri (l1 := [_])
      obtain ⟨b0, b1, b2, _, bt⟩ := J.out.held.tri (l1 := [])
      go_wp2_with fail
      clear a0 a1 a2 at' b0 b1 b2 bt
      refine (C35 _ J.out.below).out.mono ?_
      rintro e wq ⟨A2, n2, c2, rfl, hp, hb⟩
      replace J := Lib.hid ((J.out.step hb).addR hp)
      clear hb hp
      go_wp2_with fail
      refine (Lib.hid (rects_self J.out.fact.2.1 J.out.fact.1)).out.mono ?_
      rintro e wq ⟨rfl, hb⟩
      replace J := Lib.hid (J.out.step hb)
      clear hb
      obtain ⟨a0, a1, a2, _, at'⟩ := J.out.held.tri (l1 := [_])
      go_wp2_with fail
      clear a0 a1 a2 at'
      refine (C37 _ J.out.below).out.mono ?_
      rintro e wq ⟨A3, n3, c3, rfl, hp, hb⟩
      replace J := Lib.hid ((J.out.step hb).addR hp)
      clear hb hp
      obtain ⟨a0, a1, a2, _, at'⟩ := J.out.held.tri (l1 := [_])
      go_wp2_with fail
      clear a0 a1 a2 at'
      refine (C38 _ J.out.below).out.mono ?_
      rintro e wq ⟨A4, n4, c4, rfl, hp, hb⟩
      replace J := Lib.hid ((J.out.step hb).addR hp)
      clear hb hp
      go_wp2_with fail
      refine (Lib.hid (rects_self J.out.fact.2.1 J.out.fact.1)).out.mono ?_
      rintro e wq ⟨rfl, hb⟩
      replace J := Lib.hid (J.out.step hb)
      clear hb
      go_wp2_with fail
      refine (C14 _).out.mono ?_
      rintro e wq ⟨rfl, hb⟩
      replace J := Lib.hid (J.out.step hb)
      clear hb
      go_wp2_with fail
      go_ret
      exact ⟨rfl, J.out.below⟩

end Go.Proofs.Ytahhcklkcibgoaa
