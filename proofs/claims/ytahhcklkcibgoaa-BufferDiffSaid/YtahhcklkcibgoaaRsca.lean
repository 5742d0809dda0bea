/-
  Scale of the reference (from the seat of pixel).
-/
import Derived.Test.YtahhcklkcibgoaaScal
namespace Go.Proofs.Ytahhcklkcibgoaa
open Go.RowKit

/-- the boxes of a pixel and of a result -/
structure HeldR (w W : World) (p : Px) : Prop where
  at0 : AtP W w.heap.size p
  at2 : AtP W (w.heap.size + 1) zeroPx
  below : Below w.heap.size w W
  there : w.heap.size + 1 < W.heap.size

theorem HeldR.step {w W w' : World} {p : Px} (h : HeldR w W p) (hb : Below W.heap.size W w') : HeldR w w' p := by
  have ht := h.there
  exact ⟨h.at0.keep hb (by omega), h.at2.keep hb ht, Below.next h.below hb, Nat.lt_of_lt_of_le ht hb.size⟩
theorem HeldR.set {w W : World} {p : Px} (h : HeldR w W p) (q : Px) : HeldR w (setP W w.heap.size q) q :=
  ⟨h.at0.set q, h.at2.far q (by omega), below_setP h.below (Nat.le_refl _) q, by rw [setP_size]; exact h.there⟩
theorem HeldR.new (w : World) (p : Px) : HeldR w ((w.alloc (.cells #[.int .u8 (p.r : Int), .int .u8 (p.g : Int), .int .u8 (p.b : Int), .int .u8 (p.a : Int)] 30)).alloc (.cells #[.int .u8 (zeroPx.r : Int), .int .u8 (zeroPx.g : Int), .int .u8 (zeroPx.b : Int), .int .u8 (zeroPx.a : Int)] 30)) p := by
  refine ⟨(Four.new w _ _ _ _ _).alloc (by simp) _, ?_, ((Below.refl _ _).alloc (Nat.le_refl _) _).alloc (by simp) _, by simp⟩
  have := Four.new (w.alloc (.cells #[.int .u8 (p.r : Int), .int .u8 (p.g : Int), .int .u8 (p.b : Int), .int .u8 (p.a : Int)] 30)) (.int .u8 (zeroPx.r : Int)) (.int .u8 (zeroPx.g : Int)) (.int .u8 (zeroPx.b : Int)) (.int .u8 (zeroPx.a : Int)) 30
  rwa [World.size_alloc] at this

set_option maxRecDepth 100000 in
set_option maxHeartbeats 4000000 in
theorem rscale_any {p : Px} (hp : Byt p) {k : Nat} (hk : k < 256) (w : World) : Calls Try.prog 79 #[.agg #[.int .u8 (p.r : Int), .int .u8 (p.g : Int), .int .u8 (p.b : Int), .int .u8 (p.a : Int)], .int .u8 (k : Int)] w (GivesP (scalP p k) w) := by
  have C1 := fun W => Lib.hid (rclamp_any p W)
  obtain ⟨q0, q1, q2, q3⟩ := clamp_byt hp
  have J : Hid (HeldR w ((w.alloc (.cells #[.int .u8 (p.r : Int), .int .u8 (p.g : Int), .int .u8 (p.b : Int), .int .u8 (p.a : Int)] 30)).alloc (.cells #[.int .u8 0, .int .u8 0, .int .u8 0, .int .u8 0] 30)) p) := Lib.hid (HeldR.new w p)
  unfold scalP
  generalize clampP p = q at *
  have D0 := fun W => Lib.hid (product_any q0 hk W)
  have D1 := fun W => Lib.hid (product_any q1 hk W)
  have D2 := fun W => Lib.hid (product_any q2 hk W)
  have D3 := fun W => Lib.hid (product_any q3 hk W)
  unfold GivesP scalV
  dsimp only
  generalize mulB q.r k = m0 at *
  generalize mulB q.g k = m1 at *
  generalize mulB q.b k = m2 at *
  generalize mulB q.a k = m3 at *
  clear hk hp q0 q1 q2 q3
  go_enter Try.func79, Try.ntmps79
  go_wp2_with fail
  refine (C1 _).out.mono ?_
  rintro e w1 ⟨rfl, hb⟩
  replace J := Lib.hid (J.out.step hb)
  have J2 := Lib.hid (J.out.set q)
  obtain ⟨a0, a1, a2, a3, af⟩ := J.out.at0
  clear hb
  go_wp2_with fail
  change Code.wp _ _ _ _ (setP w1 w.heap.size q)
  clear a0 a1 a2 a3 af J C1
  generalize setP w1 w.heap.size q = w4 at *
  have ss : (setP w4 (w.heap.size + 1) ⟨m0, m1, m2, m3⟩).drew.cell? ⟨w.heap.size, 0, none⟩ = some (.int .u8 (q.r : Int)) ∧ (setP w4 (w.heap.size + 1) ⟨m0, m1, m2, m3⟩).drew.cell? ⟨w.heap.size, 1, none⟩ = some (.int .u8 (q.g : Int)) ∧ (setP w4 (w.heap.size + 1) ⟨m0, m1, m2, m3⟩).drew.cell? ⟨w.heap.size, 2, none⟩ = some (.int .u8 (q.b : Int)) ∧ (setP w4 (w.heap.size + 1) ⟨m0, m1, m2, m3⟩).drew.cell? ⟨w.heap.size, 3, none⟩ = some (.int .u8 (q.a : Int)) := (J2.out.at0.far ⟨m0, m1, m2, m3⟩ (by omega)).cells
  unfold setP set4 at ss
  dsimp only at ss
  obtain ⟨u0, u1, u2, u3, uf⟩ := J2.out.at2
  have K := Lib.hid (below_setP (k := w.heap.size + 1) J2.out.below (by omega) ⟨m0, m1, m2, m3⟩).drew
  replace J2 := Lib.hid (J2.out.step (Below.refl _ _).drew)
  have sk := J2.out.at0.cells
  go_region_held3 (fun W => W.cell? ⟨w.heap.size, 0, none⟩ = some (.int .u8 (q.r : Int)) ∧ W.cell? ⟨w.heap.size, 1, none⟩ = some (.int .u8 (q.g : Int)) ∧ W.cell? ⟨w.heap.size, 2, none⟩ = some (.int .u8 (q.b : Int)) ∧ W.cell? ⟨w.heap.size, 3, none⟩ = some (.int .u8 (q.a : Int)))
    (first
      | with_reducible exact sk
      | with_reducible exact ss
      | go_keep)
    (first
      | (go_at_call 82; (with_reducible refine (D0 _).out.mono ?_); rintro e wq ⟨rfl, rfl⟩)
      | (go_at_call 82; (with_reducible refine (D1 _).out.mono ?_); rintro e wq ⟨rfl, rfl⟩)
      | (go_at_call 82; (with_reducible refine (D2 _).out.mono ?_); rintro e wq ⟨rfl, rfl⟩)
      | (go_at_call 82; (with_reducible refine (D3 _).out.mono ?_); rintro e wq ⟨rfl, rfl⟩)
      | fail)
  all_goals
    clear ss sk D0 D1 D2 D3
    rename_i hHeld
    clear hHeld
    go_wp2_with fail
    exact bodyPost_ret (v := .agg #[.int .u8 (m0 : Int), .int .u8 (m1 : Int), .int .u8 (m2 : Int), .int .u8 (m3 : Int)]) (by simp [results, Try.results79, go_sem, u0, u1, u2, u3]) rfl ⟨rfl, K.out⟩

end Go.Proofs.Ytahhcklkcibgoaa
