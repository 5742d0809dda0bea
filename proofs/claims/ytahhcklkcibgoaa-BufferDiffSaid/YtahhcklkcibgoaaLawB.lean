/-
  The walk of the law BufferBasics.
-/
import Derived.Test.YtahhcklkcibgoaaBoth
namespace Go.Proofs.Ytahhcklkcibgoaa
open Go.RowKit Mem

/-- the boxes of two buffers and of a point, and the buffers' pixels -/
theorem heldL3 (w : World) (a b : Int) (v : Value) (c d : Int) (u : Value) (x y : Int) {l m : List Px} (h1 : Pxs w v l) (h2 : Pxs w u m) :
    HeldX w (((w.alloc (.cells #[.int .i64 a, .int .i64 b, v] 24)).alloc (.cells #[.int .i64 c, .int .i64 d, u] 24)).alloc (.cells #[.int .i64 x, .int .i64 y] 26)) [(w.heap.size + 1 + 1, [.int .i64 x, .int .i64 y]), (w.heap.size + 1, [.int .i64 c, .int .i64 d, u]), (w.heap.size, [.int .i64 a, .int .i64 b, v])] (fun V => Pxs V u m ∧ Pxs V v l ∧ True) := by
  have h := (((((Held.nil w).toX.addP h1).addP h2).alloc [.int .i64 a, .int .i64 b, v] 24).alloc [.int .i64 c, .int .i64 d, u] 24).alloc [.int .i64 x, .int .i64 y] 26
  rw [World.size_alloc, World.size_alloc] at h
  exact h

theorem heldL2 (w : World) (a b : Int) (v : Value) (c d : Int) (u : Value) {l m : List Px} (h1 : Pxs w v l) (h2 : Pxs w u m) :
    HeldX w ((w.alloc (.cells #[.int .i64 a, .int .i64 b, v] 24)).alloc (.cells #[.int .i64 c, .int .i64 d, u] 24)) [(w.heap.size + 1, [.int .i64 c, .int .i64 d, u]), (w.heap.size, [.int .i64 a, .int .i64 b, v])] (fun V => Pxs V u m ∧ Pxs V v l ∧ True) := by
  have h := ((((Held.nil w).toX.addP h1).addP h2).alloc [.int .i64 a, .int .i64 b, v] 24).alloc [.int .i64 c, .int .i64 d, u] 24
  rw [World.size_alloc] at h
  exact h

/-- few pixels, or many -/
theorem few_any {n : Nat} (h : n ≤ 400) (a b : Int) (A : Option Addr) (c : Nat) (w : World) : Calls Try.prog 13 #[.agg #[.int .i64 a, .int .i64 b, .slice A n c]] w fun e w' => e = .returned (.bool true) ∧ Below w.heap.size w w' := by
  have := small_any a b A n c w
  rw [decide_eq_true h] at this
  exact this
theorem many_any {n : Nat} (h : ¬ n ≤ 400) (a b : Int) (A : Option Addr) (c : Nat) (w : World) : Calls Try.prog 13 #[.agg #[.int .i64 a, .int .i64 b, .slice A n c]] w fun e w' => e = .returned (.bool false) ∧ Below w.heap.size w w' := by
  have := small_any a b A n c w
  rw [decide_eq_false h] at this
  exact this

theorem eql_px_self (p : Px) (W : World) : (binOp .eql 30 (.agg #[.int .u8 (p.r : Int), .int .u8 (p.g : Int), .int .u8 (p.b : Int), .int .u8 (p.a : Int)]) (.agg #[.int .u8 (p.r : Int), .int .u8 (p.g : Int), .int .u8 (p.b : Int), .int .u8 (p.a : Int)])).run Try.prog W = .ok (.bool true) W := by
  rw [eql_px, (same_iff p p).2 rfl]

theorem Held.b332 {w W : World} {k1 k2 k3 : Nat} {x0 x1 x2 y0 y1 y2 z0 z1 : Value} {l : List (Nat × List Value)} (h : Held w W ((k3, [z0, z1]) :: (k2, [y0, y1, y2]) :: (k1, [x0, x1, x2]) :: l)) :
    W.cell? ⟨k1, 0, none⟩ = some x0 ∧ W.cell? ⟨k1, 1, none⟩ = some x1 ∧ W.cell? ⟨k1, 2, none⟩ = some x2 ∧ W.cell? ⟨k2, 0, none⟩ = some y0 ∧ W.cell? ⟨k2, 1, none⟩ = some y1 ∧ W.cell? ⟨k2, 2, none⟩ = some y2 ∧ W.cell? ⟨k3, 0, none⟩ = some z0 ∧ W.cell? ⟨k3, 1, none⟩ = some z1 := by
  obtain ⟨a0, a1, _⟩ := Held.two (l1 := []) h
  obtain ⟨b0, b1, b2, _⟩ := Held.tri (l1 := [_]) h
  obtain ⟨c0, c1, c2, _⟩ := Held.tri (l1 := [_, _]) h
  exact ⟨c0, c1, c2, b0, b1, b2, a0, a1⟩



set_option maxRecDepth 100000 in
set_option maxHeartbeats 4000000 in
theorem basics_walk (a b c d x y : Int) {v u : Value} {l m : List Px} {w : World} (h1 : Pxs w v l) (h2 : Pxs w u m) : Calls Try.prog 3 #[.agg #[.int .i64 a, .int .i64 b, v], .agg #[.int .i64 c, .int .i64 d, u], .agg #[.int .i64 x, .int .i64 y]] w (Says true w) := by
  obtain ⟨A, n, hve, _⟩ := h1.shape
  obtain ⟨A', n', hue, _⟩ := h2.shape
  subst hve hue
  have HL1 := Lib.hid (rfl : l.length = l.length)
  have H1 := Lib.hid h1
  have H2 := Lib.hid h2
  clear h1 h2 HL1
  have J := Lib.hid (heldL3 w a b (.slice A l.length n) c d (.slice A' m.length n') x y H1.out H2.out)
  have C14 := fun W => Lib.hid (example_any W)
  by_cases hs : l.length ≤ 400
  · have C13 := fun W => Lib.hid (few_any hs a b A n W)
    by_cases hs' : m.length ≤ 400
    · have C13' := fun W => Lib.hid (few_any hs' c d A' n' W)
      have C15 := fun W (hb : Below w.heap.size w W) => Lib.hid (valid_any a b (H1.out.below hb))
      have C16 := fun W (hb : Below w.heap.size w W) => Lib.hid (rvalid_any a b (H1.out.below hb))
      have C17 := fun W (hb : Below w.heap.size w W) => Lib.hid (at_any a b x y (H1.out.below hb))
      have C18 := fun W (hb : Below w.heap.size w W) => Lib.hid (rat_any a b x y (H1.out.below hb))
      have C19 := fun W (hb : Below w.heap.size w W) => Lib.hid (equal_any a b c d (H1.out.below hb) (H2.out.below hb))
      have C20 := fun W (hb : Below w.heap.size w W) => Lib.hid (requal_any a b c d (H1.out.below hb) (H2.out.below hb))
      have C19s := fun W (hb : Below w.heap.size w W) => Lib.hid (equal_any a b a b (H1.out.below hb) (H1.out.below hb))
      rw [eqB_self] at C19s
      generalize vBuf a b l = bv at *
      generalize eqB a b l c d m = be at *
      generalize atB a b l x y = q at *
      have E1 := fun W => eql_px_self q W
      generalize l.length = n1 at *
      generalize m.length = m1 at *
      clear H1 H2 hs hs'
      go_enter Try.func3, Try.ntmps3
      go_wp2_with fail
      refine (C13 _).out.mono ?_
      rintro e wq ⟨rfl, hb⟩
      replace J := Lib.hid (J.out.step hb)
      clear hb
      obtain ⟨_, _, _, b0, b1, b2, _, _⟩ := J.out.held.b332
      go_wp2_with fail
      refine (C13' _).out.mono ?_
      rintro e wq ⟨rfl, hb⟩
      replace J := Lib.hid (J.out.step hb)
      clear hb
      clear b0 b1 b2
      go_wp2_with fail
      replace J := Lib.hid J.out.drew
      have sk := J.out.held.b332
      go_region_held3 (fun W => W.cell? ⟨w.heap.size, 0, none⟩ = some (.int .i64 a) ∧ W.cell? ⟨w.heap.size, 1, none⟩ = some (.int .i64 b) ∧ W.cell? ⟨w.heap.size, 2, none⟩ = some (.slice A n1 n) ∧ W.cell? ⟨w.heap.size + 1, 0, none⟩ = some (.int .i64 c) ∧ W.cell? ⟨w.heap.size + 1, 1, none⟩ = some (.int .i64 d) ∧ W.cell? ⟨w.heap.size + 1, 2, none⟩ = some (.slice A' m1 n') ∧ W.cell? ⟨w.heap.size + 1 + 1, 0, none⟩ = some (.int .i64 x) ∧ W.cell? ⟨w.heap.size + 1 + 1, 1, none⟩ = some (.int .i64 y))
        (first
          | go_keep
          | exact sk)
        (first
          | (go_at_call 15; (with_reducible refine (C15 _ J.out.below).out.mono ?_); rintro e wq ⟨rfl, hb⟩; replace J := Lib.hid (J.out.step hb); (try clear sk); have sk := J.out.held.b332; clear hb)
          | (go_at_call 16; (with_reducible refine (C16 _ J.out.below).out.mono ?_); rintro e wq ⟨rfl, hb⟩; replace J := Lib.hid (J.out.step hb); (try clear sk); have sk := J.out.held.b332; clear hb)
          | (go_at_call 17; (with_reducible refine (C17 _ J.out.below).out.mono ?_); rintro e wq ⟨rfl, hb⟩; replace J := Lib.hid (J.out.step hb); (try clear sk); have sk := J.out.held.b332; clear hb)
          | (go_at_call 18; (with_reducible refine (C18 _ J.out.below).out.mono ?_); rintro e wq ⟨rfl, hb⟩; replace J := Lib.hid (J.out.step hb); (try clear sk); have sk := J.out.held.b332; clear hb)
          | (go_at_call 20; (with_reducible refine (C20 _ J.out.below).out.mono ?_); rintro e wq ⟨rfl, hb⟩; replace J := Lib.hid (J.out.step hb); (try clear sk); have sk := J.out.held.b332; clear hb)
          | (go_at_call 19; (with_reducible refine (C19 _ J.out.below).out.mono ?_); rintro e wq ⟨rfl, hb⟩; replace J := Lib.hid (J.out.step hb); (try clear sk); have sk := J.out.held.b332; clear hb)
          | (go_at_call 19; (with_reducible refine (C19s _ J.out.below).out.mono ?_); rintro e wq ⟨rfl, hb⟩; replace J := Lib.hid (J.out.step hb); (try clear sk); have sk := J.out.held.b332; clear hb)
          | (go_at_call 14; (with_reducible refine (C14 _).out.mono ?_); rintro e wq ⟨rfl, hb⟩; replace J := Lib.hid (J.out.step hb); (try clear sk); have sk := J.out.held.b332; clear hb)
          | fail)
      all_goals
        go_wp2_with fail
        go_ret
        exact ⟨rfl, J.out.below⟩
    · have C13' := fun W => Lib.hid (many_any hs' c d A' n' W)
      generalize l.length = n1 at *
      generalize m.length = m1 at *
      clear H1 H2 hs hs'
      go_enter Try.func3, Try.ntmps3
      go_wp2_with fail
      refine (C13 _).out.mono ?_
      rintro e wq ⟨rfl, hb⟩
      replace J := Lib.hid (J.out.step hb)
      clear hb
      obtain ⟨_, _, _, b0, b1, b2, _, _⟩ := J.out.held.b332
      go_wp2_with fail
      refine (C13' _).out.mono ?_
      rintro e wq ⟨rfl, hb⟩
      replace J := Lib.hid (J.out.step hb)
      clear hb
      clear b0 b1 b2
      go_wp2_with fail
      refine (C14 _).out.mono ?_
      rintro e wq ⟨rfl, hb⟩
      replace J := Lib.hid (J.out.step hb)
      clear hb
      go_wp2_with fail
      go_ret
      exact ⟨rfl, J.out.below⟩
  · have C13 := fun W => Lib.hid (many_any hs a b A n W)
    generalize l.length = n1 at *
    generalize m.length = m1 at *
    clear H1 H2 hs
    go_enter Try.func3, Try.ntmps3
    go_wp2_with fail
    refine (C13 _).out.mono ?_
    rintro e wq ⟨rfl, hb⟩
    replace J := Lib.hid (J.out.step hb)
    clear hb
    go_wp2_with fail
    refine (C14 _).out.mono ?_
    rintro e wq ⟨rfl, hb⟩
    replace J := Lib.hid (J.out.step hb)
    clear hb
    go_wp2_with fail
    go_ret
    exact ⟨rfl, J.out.below⟩

end Go.Proofs.Ytahhcklkcibgoaa
