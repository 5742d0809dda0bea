/-
  Scale of package pixel (from the seat of pixel).
-/
import Derived.Test.YtahhcklkcibgoaaPixv
namespace Go.Proofs.Ytahhcklkcibgoaa
open Go.RowKit

/-- a pixel in the box k -/
def AtP (W : World) (k : Nat) (p : Px) : Prop := Four W k (.int .u8 (p.r : Int)) (.int .u8 (p.g : Int)) (.int .u8 (p.b : Int)) (.int .u8 (p.a : Int))
/-- box k written with the pixel p -/
def setP (W : World) (k : Nat) (p : Px) : World := set4 W k (.int .u8 (p.r : Int)) (.int .u8 (p.g : Int)) (.int .u8 (p.b : Int)) (.int .u8 (p.a : Int))

theorem AtP.cells {W : World} {k : Nat} {p : Px} (h : AtP W k p) : W.cell? ⟨k, 0, none⟩ = some (.int .u8 (p.r : Int)) ∧ W.cell? ⟨k, 1, none⟩ = some (.int .u8 (p.g : Int)) ∧ W.cell? ⟨k, 2, none⟩ = some (.int .u8 (p.b : Int)) ∧ W.cell? ⟨k, 3, none⟩ = some (.int .u8 (p.a : Int)) := ⟨h.1, h.2.1, h.2.2.1, h.2.2.2.1⟩
theorem AtP.keep {W w1 : World} {B k : Nat} {p : Px} (h : AtP W k p) (hb : Below B W w1) (hk : k < B) : AtP w1 k p := Four.keep h hb hk
theorem AtP.set {W : World} {k : Nat} {p : Px} (h : AtP W k p) (q : Px) : AtP (setP W k q) k q := Four.set h
theorem AtP.far {W : World} {k j : Nat} {p : Px} (h : AtP W k p) (q : Px) (hne : k ≠ j) : AtP (setP W j q) k p := Four.far h hne
theorem below_setP {B k : Nat} {w w1 : World} (h : Below B w w1) (hb : B ≤ k) (p : Px) : Below B w (setP w1 k p) := below_four h hb
theorem setP_size (W : World) (k : Nat) (p : Px) : (setP W k p).heap.size = W.heap.size := set4_size ..

/-- Scale's boxes: the pixel, the factor, the result -/
structure HeldS (w W : World) (p : Px) (k : Nat) : Prop where
  at0 : AtP W w.heap.size p
  atk : W.cell? ⟨w.heap.size + 1, 0, none⟩ = some (.int .u8 (k : Int))
  at2 : AtP W (w.heap.size + 1 + 1) zeroPx
  below : Below w.heap.size w W
  there : w.heap.size + 1 + 1 < W.heap.size

theorem HeldS.step {w W w' : World} {p : Px} {k : Nat} (h : HeldS w W p k) (hb : Below W.heap.size W w') : HeldS w w' p k := by
  have ht := h.there
  exact ⟨h.at0.keep hb (by omega), (hb.cell (p := ⟨w.heap.size + 1, 0, none⟩) (show w.heap.size + 1 < W.heap.size by omega)).trans h.atk, h.at2.keep hb ht, Below.next h.below hb, Nat.lt_of_lt_of_le ht hb.size⟩
theorem HeldS.set {w W : World} {p : Px} {k : Nat} (h : HeldS w W p k) (q : Px) : HeldS w (setP W w.heap.size q) q k := by
  refine ⟨h.at0.set q, ?_, h.at2.far q (by omega), below_setP h.below (Nat.le_refl _) q, by rw [setP_size]; exact h.there⟩
  have hk := h.atk
  unfold setP set4
  simp [go_sem, hk]
theorem HeldS.new (w : World) (p : Px) (k : Nat) : HeldS w (((w.alloc (.cells #[.int .u8 (p.r : Int), .int .u8 (p.g : Int), .int .u8 (p.b : Int), .int .u8 (p.a : Int)] 30)).alloc (.cells #[.int .u8 (k : Int)] 5)).alloc (.cells #[.int .u8 (zeroPx.r : Int), .int .u8 (zeroPx.g : Int), .int .u8 (zeroPx.b : Int), .int .u8 (zeroPx.a : Int)] 30)) p k := by
  refine ⟨((Four.new w _ _ _ _ _).alloc (by simp) _).alloc (by simp; omega) _, by simp [go_sem], ?_, (((Below.refl _ _).alloc (Nat.le_refl _) _).alloc (by simp) _).alloc (by simp; omega) _, by simp⟩
  have := Four.new ((w.alloc (.cells #[.int .u8 (p.r : Int), .int .u8 (p.g : Int), .int .u8 (p.b : Int), .int .u8 (p.a : Int)] 30)).alloc (.cells #[.int .u8 (k : Int)] 5)) (.int .u8 (zeroPx.r : Int)) (.int .u8 (zeroPx.g : Int)) (.int .u8 (zeroPx.b : Int)) (.int .u8 (zeroPx.a : Int)) 30
  rwa [World.size_alloc, World.size_alloc] at this

set_option maxRecDepth 100000 in
set_option maxHeartbeats 4000000 in
theorem scale_any {p : Px} (hp : Byt p) {k : Nat} (hk : k < 256) (w : World) : Calls Try.prog 80 #[.agg #[.int .u8 (p.r : Int), .int .u8 (p.g : Int), .int .u8 (p.b : Int), .int .u8 (p.a : Int)], .int .u8 (k : Int)] w (GivesP (scalP p k) w) := by
  have C1 := fun W => Lib.hid (clamp_any p W)
  obtain ⟨q0, q1, q2, q3⟩ := clamp_byt hp
  have J : Hid (HeldS w (((w.alloc (.cells #[.int .u8 (p.r : Int), .int .u8 (p.g : Int), .int .u8 (p.b : Int), .int .u8 (p.a : Int)] 30)).alloc (.cells #[.int .u8 (k : Int)] 5)).alloc (.cells #[.int .u8 0, .int .u8 0, .int .u8 0, .int .u8 0] 30)) p k) := Lib.hid (HeldS.new w p k)
  unfold scalP
  generalize clampP p = q at *
  have D0 := fun W hc => Lib.hid (times_any (q := w.heap.size + 1) q0 hk W hc)
  have D1 := fun W hc => Lib.hid (times_any (q := w.heap.size + 1) q1 hk W hc)
  have D2 := fun W hc => Lib.hid (times_any (q := w.heap.size + 1) q2 hk W hc)
  have D3 := fun W hc => Lib.hid (times_any (q := w.heap.size + 1) q3 hk W hc)
  unfold GivesP scalV
  dsimp only
  generalize mulB q.r k = m0 at *
  generalize mulB q.g k = m1 at *
  generalize mulB q.b k = m2 at *
  generalize mulB q.a k = m3 at *
  clear hk hp q0 q1 q2 q3
  go_enter Try.func80, Try.ntmps80
  go_wp2_with fail
  refine (C1 _).out.mono ?_
  rintro e w1 ⟨rfl, hb⟩
  replace J := Lib.hid (J.out.step hb)
  have J2 := Lib.hid (J.out.set q)
  obtain ⟨a0, a1, a2, a3, af⟩ := J.out.at0
  clear hb
  go_wp2_with fail
  change Code.wp _ _ _ _ (setP w1 w.heap.size q)
  clear a0 a1 a2 a3 af J C1
  generalize setP w1 w.heap.size q = w4 at *
  have ss : (setP w4 (w.heap.size + 1 + 1) ⟨m0, m1, m2, m3⟩).drew.cell? ⟨w.heap.size, 0, none⟩ = some (.int .u8 (q.r : Int)) ∧ (setP w4 (w.heap.size + 1 + 1) ⟨m0, m1, m2, m3⟩).drew.cell? ⟨w.heap.size, 1, none⟩ = some (.int .u8 (q.g : Int)) ∧ (setP w4 (w.heap.size + 1 + 1) ⟨m0, m1, m2, m3⟩).drew.cell? ⟨w.heap.size, 2, none⟩ = some (.int .u8 (q.b : Int)) ∧ (setP w4 (w.heap.size + 1 + 1) ⟨m0, m1, m2, m3⟩).drew.cell? ⟨w.heap.size, 3, none⟩ = some (.int .u8 (q.a : Int)) := (J2.out.at0.far ⟨m0, m1, m2, m3⟩ (by omega)).cells
  unfold setP set4 at ss
  dsimp only at ss
  obtain ⟨u0, u1, u2, u3, uf⟩ := J2.out.at2
  have K := Lib.hid (below_setP (k := w.heap.size + 1 + 1) J2.out.below (by omega) ⟨m0, m1, m2, m3⟩).drew
  replace J2 := Lib.hid (J2.out.step (Below.refl _ _).drew)
  have sk := J2.out.at0.cells
  have hck := J2.out.atk
  go_region_held3 (fun W => W.cell? ⟨w.heap.size, 0, none⟩ = some (.int .u8 (q.r : Int)) ∧ W.cell? ⟨w.heap.size, 1, none⟩ = some (.int .u8 (q.g : Int)) ∧ W.cell? ⟨w.heap.size, 2, none⟩ = some (.int .u8 (q.b : Int)) ∧ W.cell? ⟨w.heap.size, 3, none⟩ = some (.int .u8 (q.a : Int)))
    (first
      | with_reducible exact sk
      | with_reducible exact ss
      | go_keep)
    (first
      | (go_at_call 83; (with_reducible refine (D0 _ (by exact hck)).out.mono ?_); rintro e wq ⟨rfl, rfl⟩)
      | (go_at_call 83; (with_reducible refine (D1 _ (by exact hck)).out.mono ?_); rintro e wq ⟨rfl, rfl⟩)
      | (go_at_call 83; (with_reducible refine (D2 _ (by exact hck)).out.mono ?_); rintro e wq ⟨rfl, rfl⟩)
      | (go_at_call 83; (with_reducible refine (D3 _ (by exact hck)).out.mono ?_); rintro e wq ⟨rfl, rfl⟩)
      | fail)
  all_goals
    clear ss sk hck D0 D1 D2 D3
    rename_i hHeld
    clear hHeld
    go_wp2_with fail
    exact bodyPost_ret (v := .agg #[.int .u8 (m0 : Int), .int .u8 (m1 : Int), .int .u8 (m2 : Int), .int .u8 (m3 : Int)]) (by simp [results, Try.results80, go_sem, u0, u1, u2, u3]) rfl ⟨rfl, K.out⟩

end Go.Proofs.Ytahhcklkcibgoaa
