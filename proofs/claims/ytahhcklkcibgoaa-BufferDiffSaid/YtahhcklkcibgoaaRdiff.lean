/-
  Diff and OpaqueRegion of the reference: the errors.
-/
import Derived.Test.YtahhcklkcibgoaaDifp
namespace Go.Proofs.Ytahhcklkcibgoaa
open Go.RowKit

set_option maxRecDepth 100000 in
set_option maxHeartbeats 4000000 in
theorem ropq_inv {a b : Int} {v : Value} {l : List Px} {w : World} (h1 : Pxs w v l) (hbad : vBuf a b l = false) :
    Calls Try.prog 38 #[.agg #[.int .i64 a, .int .i64 b, v]] w (NoRuns 15 w) := by
  have H1 := Lib.hid h1
  obtain ⟨A, n, rfl, _⟩ := h1.shape
  have C1 := fun W (hb : Below w.heap.size w W) => Lib.hid (rvalid_any a b (H1.out.below hb))
  rw [hbad] at C1
  have J := Lib.hid ((Held.nil w).alloc [.int .i64 a, .int .i64 b, .slice A l.length n] 24)
  unfold NoRuns
  generalize l.length = n1 at *
  obtain ⟨y0, y1, y2, _, _⟩ := J.out.tri (l1 := [])
  clear h1 hbad
  go_enter Try.func38, Try.ntmps38
  go_wp2_with fail
  refine (C1 _ J.out.below).out.mono ?_
  rintro e w1 ⟨rfl, hb⟩
  replace J := Lib.hid (J.out.step hb)
  clear hb y0 y1 y2
  go_wp2_with fail
  exact bodyPost_ret (v := .tuple #[.slice none 0 0, .int .i64 15]) (by simp [results, Try.results38, go_sem]) rfl ⟨rfl, J.out.below⟩

set_option maxRecDepth 100000 in
set_option maxHeartbeats 4000000 in
theorem rdiff_inv {a b c d : Int} {v u : Value} {l m : List Px} {w : World} (h1 : Pxs w v l) (h2 : Pxs w u m) (hbad : (vBuf a b l && vBuf c d m) = false) :
    Calls Try.prog 35 #[.agg #[.int .i64 a, .int .i64 b, v], .agg #[.int .i64 c, .int .i64 d, u]] w (NoRuns 15 w) := by
  have H1 := Lib.hid h1
  have H2 := Lib.hid h2
  obtain ⟨A, n, rfl, _⟩ := h1.shape
  obtain ⟨A', n', rfl, _⟩ := h2.shape
  have C1 := fun W (hb : Below w.heap.size w W) => Lib.hid (rvalid_any a b (H1.out.below hb))
  have C2 := fun W (hb : Below w.heap.size w W) => Lib.hid (rvalid_any c d (H2.out.below hb))
  have J := Lib.hid (heldD w a b (.slice A l.length n) c d (.slice A' m.length n'))
  unfold NoRuns
  generalize l.length = n1 at *
  generalize m.length = n2 at *
  obtain ⟨y0, y1, y2, _, _⟩ := J.out.tri (l1 := [_])
  cases hv : vBuf a b l with
  | false =>
    rw [hv] at C1
    clear h1 h2 hbad hv C2
    go_enter Try.func35, Try.ntmps35
    go_wp2_with fail
    refine (C1 _ J.out.below).out.mono ?_
    rintro e w1 ⟨rfl, hb⟩
    replace J := Lib.hid (J.out.step hb)
    clear hb y0 y1 y2
    go_wp2_with fail
    exact bodyPost_ret (v := .tuple #[.slice none 0 0, .int .i64 15]) (by simp [results, Try.results35, go_sem]) rfl ⟨rfl, J.out.below⟩
  | true =>
    rw [hv] at C1 hbad
    rw [Bool.true_and] at hbad
    rw [hbad] at C2
    clear h1 h2 hbad hv
    go_enter Try.func35, Try.ntmps35
    go_wp2_with fail
    refine (C1 _ J.out.below).out.mono ?_
    rintro e w1 ⟨rfl, hb⟩
    replace J := Lib.hid (J.out.step hb)
    clear hb y0 y1 y2
    obtain ⟨y0, y1, y2, _, _⟩ := J.out.tri (l1 := [])
    go_wp2_with fail
    refine (C2 _ J.out.below).out.mono ?_
    rintro e w2 ⟨rfl, hb⟩
    replace J := Lib.hid (J.out.step hb)
    clear hb y0 y1 y2
    go_wp2_with fail
    exact bodyPost_ret (v := .tuple #[.slice none 0 0, .int .i64 15]) (by simp [results, Try.results35, go_sem]) rfl ⟨rfl, J.out.below⟩


set_option maxRecDepth 100000 in
set_option maxHeartbeats 4000000 in
theorem rdiff_size {a b c d : Int} {v u : Value} {l m : List Px} {w : World} (h1 : Pxs w v l) (h2 : Pxs w u m) (hv : vBuf a b l = true) (hv' : vBuf c d m = true) (hne : ¬ (a = c ∧ b = d)) :
    Calls Try.prog 35 #[.agg #[.int .i64 a, .int .i64 b, v], .agg #[.int .i64 c, .int .i64 d, u]] w (NoRuns 2 w) := by
  have H1 := Lib.hid h1
  have H2 := Lib.hid h2
  obtain ⟨A, n, rfl, _⟩ := h1.shape
  obtain ⟨A', n', rfl, _⟩ := h2.shape
  have C1 := fun W (hb : Below w.heap.size w W) => Lib.hid (rvalid_any a b (H1.out.below hb))
  have C2 := fun W (hb : Below w.heap.size w W) => Lib.hid (rvalid_any c d (H2.out.below hb))
  rw [hv] at C1
  rw [hv'] at C2
  have J := Lib.hid (heldD w a b (.slice A l.length n) c d (.slice A' m.length n'))
  unfold NoRuns
  generalize l.length = n1 at *
  generalize m.length = n2 at *
  clear h1 h2 hv hv'
  by_cases hac : a = c
  · subst hac
    have hbd : ¬ b = d := fun e => hne ⟨rfl, e⟩
    clear hne
    go_enter Try.func35, Try.ntmps35
    obtain ⟨y0, y1, y2, _, _⟩ := J.out.tri (l1 := [_])
    go_wp2_with fail
    refine (C1 _ J.out.below).out.mono ?_
    rintro e w1 ⟨rfl, hb⟩
    replace J := Lib.hid (J.out.step hb)
    clear hb y0 y1 y2
    obtain ⟨y0, y1, y2, _, _⟩ := J.out.tri (l1 := [])
    go_wp2_with fail
    refine (C2 _ J.out.below).out.mono ?_
    rintro e w2 ⟨rfl, hb⟩
    replace J := Lib.hid (J.out.step hb)
    clear hb y0 y1 y2
    obtain ⟨y0, y1, y2, _, _⟩ := J.out.tri (l1 := [])
    obtain ⟨x0, x1, x2, _, _⟩ := J.out.tri (l1 := [_])
    go_wp2_with fail
    exact bodyPost_ret (v := .tuple #[.slice none 0 0, .int .i64 2]) (by simp [results, Try.results35, go_sem]) rfl ⟨rfl, J.out.below⟩
  · clear hne
    go_enter Try.func35, Try.ntmps35
    obtain ⟨y0, y1, y2, _, _⟩ := J.out.tri (l1 := [_])
    go_wp2_with fail
    refine (C1 _ J.out.below).out.mono ?_
    rintro e w1 ⟨rfl, hb⟩
    replace J := Lib.hid (J.out.step hb)
    clear hb y0 y1 y2
    obtain ⟨y0, y1, y2, _, _⟩ := J.out.tri (l1 := [])
    go_wp2_with fail
    refine (C2 _ J.out.below).out.mono ?_
    rintro e w2 ⟨rfl, hb⟩
    replace J := Lib.hid (J.out.step hb)
    clear hb y0 y1 y2
    obtain ⟨y0, y1, y2, _, _⟩ := J.out.tri (l1 := [])
    obtain ⟨x0, x1, x2, _, _⟩ := J.out.tri (l1 := [_])
    go_wp2_with fail
    exact bodyPost_ret (v := .tuple #[.slice none 0 0, .int .i64 2]) (by simp [results, Try.results35, go_sem]) rfl ⟨rfl, J.out.below⟩

end Go.Proofs.Ytahhcklkcibgoaa
