/-
  Nearest and Box of package scale.
-/
import Derived.Test.YtnkbejbpkjkgeaaScd
namespace Go.Proofs.Ytnkbejbpkjkgeaa
open Go.RowKit

/-- the boxes of Nearest and Box -/
theorem heldN (w : World) (a b : Int) (v : Value) (p q : Int) : Held w ((((w.alloc (.cells #[.int .i64 a, .int .i64 b, v] 24)).alloc (.cells #[.int .i64 p] 3)).alloc (.cells #[.int .i64 q] 3)).alloc (.cells #[.int .i64 0, .int .i64 0, .slice none 0 0] 24))
    [(w.heap.size + 1 + 1 + 1, [.int .i64 0, .int .i64 0, .slice none 0 0]), (w.heap.size + 1 + 1, [.int .i64 q]), (w.heap.size + 1, [.int .i64 p]), (w.heap.size, [.int .i64 a, .int .i64 b, v])] := by
  have h := ((((Held.nil w).alloc [.int .i64 a, .int .i64 b, v] 24).alloc [.int .i64 p] 3).alloc [.int .i64 q] 3).alloc [.int .i64 0, .int .i64 0, .slice none 0 0] 24
  rw [World.size_alloc, World.size_alloc, World.size_alloc] at h
  exact h

theorem reads_of {w W : World} {a b p q : Nat} {A : Option Addr} {n c : Nat} {r0 r1 r2 : Value} {l : List Px} (h : Held w W [(w.heap.size + 1 + 1 + 1, [r0, r1, r2]), (w.heap.size + 1 + 1, [.int .i64 (q : Int)]), (w.heap.size + 1, [.int .i64 (p : Int)]), (w.heap.size, [.int .i64 (a : Int), .int .i64 (b : Int), .slice A n c])]) (hp : Pxs w (.slice A n c) l) : Reads W w.heap.size (w.heap.size + 1 + 1) (w.heap.size + 1) a b p q (.slice A n c) l := by
  obtain ⟨b0, b1, b2, _, tb⟩ := h.tri (l1 := [_, _, _])
  obtain ⟨h0, _, th⟩ := h.one (l1 := [_])
  obtain ⟨w0, _, tw⟩ := h.one (l1 := [_, _])
  exact ⟨b0, b1, b2, h0, w0, tb, th, tw, hp.below h.below⟩

set_option maxRecDepth 100000 in
set_option maxHeartbeats 4000000 in
theorem near_of {a b p q oa ob er : Int} {A : Option Addr} {n c : Nat} {O : List Px} {w : World} (C : ∀ W, Held w W [(w.heap.size + 1 + 1 + 1, [.int .i64 0, .int .i64 0, .slice none 0 0]), (w.heap.size + 1 + 1, [.int .i64 q]), (w.heap.size + 1, [.int .i64 p]), (w.heap.size, [.int .i64 a, .int .i64 b, .slice A n c])] → Calls Try.prog 32 #[.agg #[.int .i64 a, .int .i64 b, .slice A n c], .int .i64 p, .int .i64 q, .func (.func 33) #[] #[.pointer (some ⟨w.heap.size, 0, none⟩), .pointer (some ⟨w.heap.size + 1 + 1, 0, none⟩), .pointer (some ⟨w.heap.size + 1, 0, none⟩)]] W (Outs oa ob O er W)) : Calls Try.prog 13 #[.agg #[.int .i64 a, .int .i64 b, .slice A n c], .int .i64 p, .int .i64 q] w (Outs oa ob O er w) := by
  have J := Lib.hid (heldN w a b (.slice A n c) p q)
  have CC := fun W hW => Lib.hid (C W hW)
  clear C
  unfold Outs at CC ⊢
  go_enter Try.func13, Try.ntmps13
  go_wp2_with fail
  refine (CC _ J.out).out.mono ?_
  rintro e w1 ⟨v1, rfl, hr, hb⟩
  obtain ⟨A1, c1, rfl, _⟩ := hr.pxs.shape
  have h0 := J.out.below
  have h1 := (J.out.tri (l1 := [])).2.2.2.2
  have Q := Lib.hid (hr.keep (w := w) (w2 := set3 w1 (w.heap.size + 1 + 1 + 1) (.int .i64 oa) (.int .i64 ob) (.slice A1 O.length c1)) h0 (fun g hg hR => hR.far (by omega) _ _ _))
  replace J := Lib.hid (J.out.step hb)
  have K := Lib.hid (below_set3 (y0 := .int .i64 oa) (y1 := .int .i64 ob) (y2 := .slice A1 O.length c1) J.out.below (by omega : w.heap.size ≤ w.heap.size + 1 + 1 + 1))
  obtain ⟨z0, z1, z2, zf, zt⟩ := J.out.tri (l1 := [])
  clear hr hb h0 h1 CC
  generalize O.length = m at *
  go_wp2_with fail
  exact bodyPost_ret (v := .tuple #[.agg #[.int .i64 oa, .int .i64 ob, .slice A1 m c1], .int .i64 er]) (by simp [results, Try.results13, go_sem, z0, z1, z2]) rfl ⟨_, rfl, Q.out, K.out⟩

set_option maxRecDepth 100000 in
set_option maxHeartbeats 4000000 in
theorem box_of {a b p q oa ob er : Int} {A : Option Addr} {n c : Nat} {O : List Px} {w : World} (C : ∀ W, Held w W [(w.heap.size + 1 + 1 + 1, [.int .i64 0, .int .i64 0, .slice none 0 0]), (w.heap.size + 1 + 1, [.int .i64 q]), (w.heap.size + 1, [.int .i64 p]), (w.heap.size, [.int .i64 a, .int .i64 b, .slice A n c])] → Calls Try.prog 32 #[.agg #[.int .i64 a, .int .i64 b, .slice A n c], .int .i64 p, .int .i64 q, .func (.func 37) #[] #[.pointer (some ⟨w.heap.size, 0, none⟩), .pointer (some ⟨w.heap.size + 1, 0, none⟩), .pointer (some ⟨w.heap.size + 1 + 1, 0, none⟩)]] W (Outs oa ob O er W)) : Calls Try.prog 16 #[.agg #[.int .i64 a, .int .i64 b, .slice A n c], .int .i64 p, .int .i64 q] w (Outs oa ob O er w) := by
  have J := Lib.hid (heldN w a b (.slice A n c) p q)
  have CC := fun W hW => Lib.hid (C W hW)
  clear C
  unfold Outs at CC ⊢
  go_enter Try.func16, Try.ntmps16
  go_wp2_with fail
  refine (CC _ J.out).out.mono ?_
  rintro e w1 ⟨v1, rfl, hr, hb⟩
  obtain ⟨A1, c1, rfl, _⟩ := hr.pxs.shape
  have h0 := J.out.below
  have h1 := (J.out.tri (l1 := [])).2.2.2.2
  have Q := Lib.hid (hr.keep (w := w) (w2 := set3 w1 (w.heap.size + 1 + 1 + 1) (.int .i64 oa) (.int .i64 ob) (.slice A1 O.length c1)) h0 (fun g hg hR => hR.far (by omega) _ _ _))
  replace J := Lib.hid (J.out.step hb)
  have K := Lib.hid (below_set3 (y0 := .int .i64 oa) (y1 := .int .i64 ob) (y2 := .slice A1 O.length c1) J.out.below (by omega : w.heap.size ≤ w.heap.size + 1 + 1 + 1))
  obtain ⟨z0, z1, z2, zf, zt⟩ := J.out.tri (l1 := [])
  clear hr hb h0 h1 CC
  generalize O.length = m at *
  go_wp2_with fail
  exact bodyPost_ret (v := .tuple #[.agg #[.int .i64 oa, .int .i64 ob, .slice A1 m c1], .int .i64 er]) (by simp [results, Try.results16, go_sem, z0, z1, z2]) rfl ⟨_, rfl, Q.out, K.out⟩


theorem near_bad {a b p q : Int} {v : Value} {l : List Px} {w : World} (h : Pxs w v l) (hbad : chkE a b l p q ≠ 0) : Calls Try.prog 13 #[.agg #[.int .i64 a, .int .i64 b, v], .int .i64 p, .int .i64 q] w (Outs 0 0 [] (chkE a b l p q) w) := by
  obtain ⟨A, c, rfl, _⟩ := h.shape
  exact near_of fun W hW => scaled_bad _ (h.below hW.below) hbad
theorem box_bad {a b p q : Int} {v : Value} {l : List Px} {w : World} (h : Pxs w v l) (hbad : chkE a b l p q ≠ 0) : Calls Try.prog 16 #[.agg #[.int .i64 a, .int .i64 b, v], .int .i64 p, .int .i64 q] w (Outs 0 0 [] (chkE a b l p q) w) := by
  obtain ⟨A, c, rfl, _⟩ := h.shape
  exact box_of fun W hW => scaled_bad _ (h.below hW.below) hbad
theorem near_good {a b p q : Nat} {v : Value} {l : List Px} {w : World} (h : Pxs w v l) (hv : Vld a b l) (hlb : ∀ z ∈ l, Byt z) (hp : 1 ≤ p ∧ p ≤ 256) (hq : 1 ≤ q ∧ q ≤ 256) : Calls Try.prog 13 #[.agg #[.int .i64 (a : Int), .int .i64 (b : Int), v], .int .i64 (p : Int), .int .i64 (q : Int)] w (Outs p q (nearL a b l p q) 0 w) := by
  obtain ⟨A, c, rfl, _⟩ := h.shape
  exact near_of fun W hW => scaledN (reads_of hW h) hv hlb hp hq
theorem box_good {a b p q : Nat} {v : Value} {l : List Px} {w : World} (h : Pxs w v l) (hv : Vld a b l) (hlb : ∀ z ∈ l, Byt z) (hp : 1 ≤ p ∧ p ≤ 256) (hq : 1 ≤ q ∧ q ≤ 256) : Calls Try.prog 16 #[.agg #[.int .i64 (a : Int), .int .i64 (b : Int), v], .int .i64 (p : Int), .int .i64 (q : Int)] w (Outs p q (boxL a b l p q) 0 w) := by
  obtain ⟨A, c, rfl, _⟩ := h.shape
  exact box_of fun W hW => scaledB (reads_of hW h) hv hlb hp hq

end Go.Proofs.Ytnkbejbpkjkgeaa
