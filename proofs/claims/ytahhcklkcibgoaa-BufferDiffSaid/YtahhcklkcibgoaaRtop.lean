/-
  Paste and BlendOver of the reference.
-/
import Derived.Test.YtahhcklkcibgoaaRput
namespace Go.Proofs.Ytahhcklkcibgoaa
open Go.RowKit


set_option maxRecDepth 100000 in
set_option maxHeartbeats 4000000 in
theorem rpaste_of {a b c d : Int} {A A' : Option Addr} {n m n' m' : Nat} (x y : Int) {w : World} {oa ob er : Int} {O : List Px}
    (C : ∀ W, Below w.heap.size w W → Calls Try.prog 55 #[.agg #[.int .i64 a, .int .i64 b, .slice A n n'], .agg #[.int .i64 c, .int .i64 d, .slice A' m m'], .int .i64 x, .int .i64 y, .bool false] W (Outs oa ob O er W)) : Calls Try.prog 31 #[.agg #[.int .i64 a, .int .i64 b, .slice A n n'], .agg #[.int .i64 c, .int .i64 d, .slice A' m m'], .int .i64 x, .int .i64 y] w (Outs oa ob O er w) := by
  have HC := fun W hb => Lib.hid (C W hb)
  have J := Lib.hid (heldC w a b (.slice A n n') c d (.slice A' m m'))
  unfold WC at J
  clear C
  unfold Outs
  go_enter Try.func31, Try.ntmps31
  go_wp2_with fail
  have J0 := J
  have hk0 := (J0.out.tri (l1 := [])).2.2.2.2
  refine (HC _ J.out.below).out.mono ?_
  rintro e w1 ⟨v, rfl, hres, hb⟩
  replace J := Lib.hid (J.out.step hb)
  obtain ⟨A6, c6, rfl, _, _⟩ := hres.pxs.shape
  have HR := Lib.hid (hres.keep (w := w) (w2 := set3 w1 (w.heap.size + 1 + 1) (.int .i64 oa) (.int .i64 ob) (.slice A6 O.length c6)) J0.out.below (fun g hg hr => hr.far (Nat.ne_of_gt (Nat.lt_of_lt_of_le hk0 hg)) _ _ _))
  have K := Lib.hid (below_set3 (y0 := .int .i64 oa) (y1 := .int .i64 ob) (y2 := .slice A6 O.length c6) J.out.below (by omega : w.heap.size ≤ w.heap.size + 1 + 1))
  generalize O.length = n6 at *
  clear hb hres hk0 J0
  obtain ⟨z0, z1, z2, zf, zt⟩ := J.out.tri (l1 := [])
  go_wp2_with fail
  exact bodyPost_ret (v := .tuple #[.agg #[.int .i64 oa, .int .i64 ob, .slice A6 n6 c6], .int .i64 er]) (by simp [results, Try.results31, go_sem, z0, z1, z2]) rfl ⟨_, rfl, HR.out, K.out⟩

set_option maxRecDepth 100000 in
set_option maxHeartbeats 4000000 in
theorem rover2_of {a b c d : Int} {A A' : Option Addr} {n m n' m' : Nat} (x y : Int) {w : World} {oa ob er : Int} {O : List Px}
    (C : ∀ W, Below w.heap.size w W → Calls Try.prog 55 #[.agg #[.int .i64 a, .int .i64 b, .slice A n n'], .agg #[.int .i64 c, .int .i64 d, .slice A' m m'], .int .i64 x, .int .i64 y, .bool true] W (Outs oa ob O er W)) : Calls Try.prog 33 #[.agg #[.int .i64 a, .int .i64 b, .slice A n n'], .agg #[.int .i64 c, .int .i64 d, .slice A' m m'], .int .i64 x, .int .i64 y] w (Outs oa ob O er w) := by
  have HC := fun W hb => Lib.hid (C W hb)
  have J := Lib.hid (heldC w a b (.slice A n n') c d (.slice A' m m'))
  unfold WC at J
  clear C
  unfold Outs
  go_enter Try.func33, Try.ntmps33
  go_wp2_with fail
  have J0 := J
  have hk0 := (J0.out.tri (l1 := [])).2.2.2.2
  refine (HC _ J.out.below).out.mono ?_
  rintro e w1 ⟨v, rfl, hres, hb⟩
  replace J := Lib.hid (J.out.step hb)
  obtain ⟨A6, c6, rfl, _, _⟩ := hres.pxs.shape
  have HR := Lib.hid (hres.keep (w := w) (w2 := set3 w1 (w.heap.size + 1 + 1) (.int .i64 oa) (.int .i64 ob) (.slice A6 O.length c6)) J0.out.below (fun g hg hr => hr.far (Nat.ne_of_gt (Nat.lt_of_lt_of_le hk0 hg)) _ _ _))
  have K := Lib.hid (below_set3 (y0 := .int .i64 oa) (y1 := .int .i64 ob) (y2 := .slice A6 O.length c6) J.out.below (by omega : w.heap.size ≤ w.heap.size + 1 + 1))
  generalize O.length = n6 at *
  clear hb hres hk0 J0
  obtain ⟨z0, z1, z2, zf, zt⟩ := J.out.tri (l1 := [])
  go_wp2_with fail
  exact bodyPost_ret (v := .tuple #[.agg #[.int .i64 oa, .int .i64 ob, .slice A6 n6 c6], .int .i64 er]) (by simp [results, Try.results33, go_sem, z0, z1, z2]) rfl ⟨_, rfl, HR.out, K.out⟩



theorem rpaste_bad {a b c d : Int} {v u : Value} {l m : List Px} (x y : Int) {w : World} (h : Pxs w v l) (hu : Pxs w u m) (hbad : (vBuf a b l && vBuf c d m) = false) : Calls Try.prog 31 #[.agg #[.int .i64 a, .int .i64 b, v], .agg #[.int .i64 c, .int .i64 d, u], .int .i64 x, .int .i64 y] w (Outs 0 0 [] 15 w) := by
  obtain ⟨A, n, rfl, _⟩ := h.shape
  obtain ⟨A', n', rfl, _⟩ := hu.shape
  exact rpaste_of x y (fun W hb => rput_bad_copy x y (h.below hb) (hu.below hb) hbad)
theorem rpaste_good {a b c d : Nat} {v u : Value} {l m : List Px} (x y : Int) {w : World} (h : Pxs w v l) (hu : Pxs w u m) (hv : Vld a b l) (hw : Vld c d m) (hlb : ∀ p ∈ l, Byt p) (hmb : ∀ p ∈ m, Byt p) :
    Calls Try.prog 31 #[.agg #[.int .i64 (a : Int), .int .i64 (b : Int), v], .agg #[.int .i64 (c : Int), .int .i64 (d : Int), u], .int .i64 x, .int .i64 y] w (Outs a b (putL (fun p _ => p) a l c d m x y) 0 w) := by
  obtain ⟨A, n, rfl, _⟩ := h.shape
  obtain ⟨A', n', rfl, _⟩ := hu.shape
  exact rpaste_of x y (fun W hb => rput_copy x y (h.below hb) (hu.below hb) hv hw hlb hmb)

theorem rover2_bad {a b c d : Int} {v u : Value} {l m : List Px} (x y : Int) {w : World} (h : Pxs w v l) (hu : Pxs w u m) (hbad : (vBuf a b l && vBuf c d m) = false) : Calls Try.prog 33 #[.agg #[.int .i64 a, .int .i64 b, v], .agg #[.int .i64 c, .int .i64 d, u], .int .i64 x, .int .i64 y] w (Outs 0 0 [] 15 w) := by
  obtain ⟨A, n, rfl, _⟩ := h.shape
  obtain ⟨A', n', rfl, _⟩ := hu.shape
  exact rover2_of x y (fun W hb => rput_bad_over x y (h.below hb) (hu.below hb) hbad)
theorem rover2_good {a b c d : Nat} {v u : Value} {l m : List Px} (x y : Int) {w : World} (h : Pxs w v l) (hu : Pxs w u m) (hv : Vld a b l) (hw : Vld c d m) (hlb : ∀ p ∈ l, Byt p) (hmb : ∀ p ∈ m, Byt p) :
    Calls Try.prog 33 #[.agg #[.int .i64 (a : Int), .int .i64 (b : Int), v], .agg #[.int .i64 (c : Int), .int .i64 (d : Int), u], .int .i64 x, .int .i64 y] w (Outs a b (putL (overP) a l c d m x y) 0 w) := by
  obtain ⟨A, n, rfl, _⟩ := h.shape
  obtain ⟨A', n', rfl, _⟩ := hu.shape
  exact rover2_of x y (fun W hb => rput_over x y (h.below hb) (hu.below hb) hv hw hlb hmb)

end Go.Proofs.Ytahhcklkcibgoaa
