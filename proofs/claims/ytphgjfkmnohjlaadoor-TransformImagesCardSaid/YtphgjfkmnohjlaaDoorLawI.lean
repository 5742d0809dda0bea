/-
  The walk of the law TransformImages.
-/
import Derived.Test.YtphgjfkmnohjlaaDoorLawP
namespace Go.Proofs.YtphgjfkmnohjlaaDoor
open Go.RowKit

/-- the box of a buffer and the box of its image -/
structure HeldI (w W : World) (a b : Int) (A : Option Addr) (n c : Nat) (m : Nat) (ow oh : Int) (A' : Option Addr) (n' c' : Nat) : Prop extends HeldV w W a b A n c where
  d0 : W.cell? ⟨m, 0, none⟩ = some (.int .i64 ow)
  d1 : W.cell? ⟨m, 1, none⟩ = some (.int .i64 oh)
  d2 : W.cell? ⟨m, 2, none⟩ = some (.slice A' n' c')
  there2 : m < W.heap.size

theorem HeldI.step {w W w' : World} {a b ow oh : Int} {A A' : Option Addr} {n c n' c' m : Nat} (h : HeldI w W a b A n c m ow oh A' n' c') (hb : Below W.heap.size W w') : HeldI w w' a b A n c m ow oh A' n' c' :=
  ⟨h.toHeldV.step hb, (hb.cell (p := ⟨m, 0, none⟩) h.there2).trans h.d0, (hb.cell (p := ⟨m, 1, none⟩) h.there2).trans h.d1, (hb.cell (p := ⟨m, 2, none⟩) h.there2).trans h.d2, Nat.lt_of_lt_of_le h.there2 hb.size⟩
theorem HeldV.image {w W : World} {a b : Int} {A : Option Addr} {n c : Nat} (h : HeldV w W a b A n c) (ow oh : Int) (A' : Option Addr) (n' c' : Nat) : HeldI w (W.alloc (.cells #[.int .i64 ow, .int .i64 oh, .slice A' n' c'] 40)) a b A n c W.heap.size ow oh A' n' c' :=
  ⟨h.step ((Below.refl _ _).alloc (Nat.le_refl _) _), by simp [go_sem], by simp [go_sem], by simp [go_sem], by rw [World.size_alloc]; exact Nat.lt_succ_self _⟩
theorem HeldI.cells {w W : World} {a b ow oh : Int} {A A' : Option Addr} {n c n' c' m : Nat} (h : HeldI w W a b A n c m ow oh A' n' c') :
    W.cell? ⟨w.heap.size, 0, none⟩ = some (.int .i64 a) ∧ W.cell? ⟨w.heap.size, 1, none⟩ = some (.int .i64 b) ∧ W.cell? ⟨w.heap.size, 2, none⟩ = some (.slice A n c) ∧ W.cell? ⟨m, 0, none⟩ = some (.int .i64 ow) ∧ W.cell? ⟨m, 1, none⟩ = some (.int .i64 oh) ∧ W.cell? ⟨m, 2, none⟩ = some (.slice A' n' c') :=
  ⟨h.c0, h.c1, h.c2, h.d0, h.d1, h.d2⟩

set_option maxRecDepth 100000 in
set_option maxHeartbeats 4000000 in
theorem images_walk (t s : Int) {a b : Int} {u : Value} {l : List Px} {w : World} (hu : Pxs w u l) (h : Tab w) : Calls Tryd.prog 9 #[.int .i64 t, .int .i64 s, .agg #[.int .i64 a, .int .i64 b, u]] w (Says true w) := by
  have HT := Lib.hid h
  clear h
  have HU := Lib.hid hu
  have C1 := fun W (hW : Pxs W u l) => Lib.hid (pixels_any t a b hW)
  have C2 := fun W v (hW : Pxs W v (oL t a b l)) => Lib.hid (pixels_any s (oW t a b l) (oH t a b l) hW)
  have C3 := fun W h => Lib.hid (compose_any t s W h)
  have C4 := fun W (hW : Pxs W u l) => Lib.hid (pixels_any (comp t s) a b hW)
  have C5 := fun W h => Lib.hid (invert_any t W h)
  have C6 := fun W v (hW : Pxs W v (oL t a b l)) => Lib.hid (pixels_any (inv t) (oW t a b l) (oH t a b l) hW)
  have CE := fun W h => Lib.hid (example_any W h)
  have hpos := out_pos t (a := a) (b := b) (l := l)
  have hinv := fun hv => out_inv t (a := a) (b := b) (l := l) hv
  rw [(out_comp t s a b l).1, (out_comp t s a b l).2.1, (out_comp t s a b l).2.2] at C2
  obtain ⟨A, c, rfl, hc, hm⟩ := hu.shape
  clear hu
  obtain ⟨n, hn0⟩ : ∃ n, l.length = n := ⟨_, rfl⟩
  have HN := Lib.hid hn0
  rw [hn0] at HU hc ⊢
  simp only [hn0] at C1 C4
  clear hn0
  have C0 := fun W => Lib.hid (small_any a b A n c W)
  have J := Lib.hid (HeldV.new w a b A n c)
  by_cases hn : n ≤ 400
  · rw [decide_eq_true hn] at C0
    generalize oW (comp t s) a b l = ow2 at *
    generalize oH (comp t s) a b l = oh2 at *
    generalize oL (comp t s) a b l = ol2 at *
    have C7 := fun W A1 c1 A2 c2 (h1 : Pxs W (.slice A1 ol2.length c1) ol2) (h2 : Pxs W (.slice A2 ol2.length c2) ol2) => Lib.hid (rsame_true ow2 oh2 h1 h2)
    cases hv : vBuf a b l
    · have e0 : ¬ 0 < oW t a b l := by rw [hpos, hv]; simp
      have e1 : decide (0 < oW t a b l) = false := decide_eq_false e0
      clear hinv hpos C5 C6
      generalize oW t a b l = ow at *
      generalize oH t a b l = oh at *
      generalize oL t a b l = ol at *
      go_enter Tryd.func9, Tryd.ntmps9
      go_wp2_with fail
      refine (C0 _).out.mono ?_
      rintro e w1 ⟨rfl, hb⟩
      replace J := Lib.hid (J.out.step hb)
      clear hb
      obtain ⟨o0, o1, o2⟩ := J.out.cells
      go_wp2_with fail
      refine (C1 _ (HU.out.below J.out.below)).out.mono ?_
      rintro e w2 ⟨A1, c1, rfl, hp1, hb⟩
      replace J := Lib.hid (J.out.step hb)
      have I := Lib.hid (J.out.image ow oh A1 ol.length c1)
      have P1 := Lib.hid (hp1.below ((Below.refl _ _).alloc (Nat.le_refl _) (.cells #[.int .i64 ow, .int .i64 oh, .slice A1 ol.length c1] 40)))
      clear hb hp1 o0 o1 o2 J
      go_wp2_with fail
      replace I := Lib.hid (I.out.step (Below.refl _ _).drew)
      replace P1 := Lib.hid (P1.out.below (Below.refl _ _).drew)
      have sk := I.out.cells
      go_region_held3 (fun W => W.cell? ⟨w.heap.size, 0, none⟩ = some (.int .i64 a) ∧ W.cell? ⟨w.heap.size, 1, none⟩ = some (.int .i64 b) ∧ W.cell? ⟨w.heap.size, 2, none⟩ = some (.slice A n c) ∧ W.cell? ⟨w2.heap.size, 0, none⟩ = some (.int .i64 ow) ∧ W.cell? ⟨w2.heap.size, 1, none⟩ = some (.int .i64 oh) ∧ W.cell? ⟨w2.heap.size, 2, none⟩ = some (.slice A1 ol.length c1))
        (first
          | exact sk
          | go_keep)
        (first
          | (go_at_call 25; (with_reducible refine (C2 _ _ P1.out).out.mono ?_); rintro e wq ⟨A2, c2, rfl, hp2, hb⟩; replace I := Lib.hid (I.out.step hb); (try clear sk); have sk := I.out.cells; (try replace P1 := Lib.hid (P1.out.below hb)); (try replace P2 := Lib.hid (P2.out.below hb)); have P2 := Lib.hid hp2; clear hb hp2)
          | (go_at_call 14; (with_reducible refine (C3 _ (HT.out.below I.out.below)).out.mono ?_); rintro e wq ⟨rfl, hb⟩; replace I := Lib.hid (I.out.step hb); (try clear sk); have sk := I.out.cells; (try replace P1 := Lib.hid (P1.out.below hb)); (try replace P2 := Lib.hid (P2.out.below hb)); clear hb)
          | (go_at_call 25; (with_reducible refine (C4 _ (HU.out.below I.out.below)).out.mono ?_); rintro e wq ⟨A3, c3, rfl, hp3, hb⟩; replace I := Lib.hid (I.out.step hb); (try clear sk); have sk := I.out.cells; (try replace P1 := Lib.hid (P1.out.below hb)); (try replace P2 := Lib.hid (P2.out.below hb)); have P3 := Lib.hid hp3; clear hb hp3)
          | (go_at_call 24; (with_reducible refine (C7 _ _ _ _ _ P2.out P3.out).out.mono ?_); rintro e wq ⟨rfl, hb⟩; replace I := Lib.hid (I.out.step hb); (try clear sk); have sk := I.out.cells; (try replace P1 := Lib.hid (P1.out.below hb)); (try replace P2 := Lib.hid (P2.out.below hb)); clear hb)
          | fail)
      clear sk
      obtain ⟨o0, o1, o2, p0, p1, p2⟩ := I.out.cells
      go_wp2_with fail
      clear o0 o1 o2 p0 p1 p2
      replace I := Lib.hid (I.out.step (Below.refl _ _).drew)
      replace P1 := Lib.hid (P1.out.below (Below.refl _ _).drew)
      (first
        | (go_region_with (go_at_call 18; (with_reducible refine (CE _ (HT.out.below I.out.below)).out.mono ?_); rintro e wq ⟨rfl, hb⟩; replace I := Lib.hid (I.out.step hb); clear hb))
        | fail)
      all_goals
        go_wp2_with fail
        go_ret
        exact ⟨rfl, I.out.below⟩
    · have e0 : 0 < oW t a b l := by rw [hpos, hv]
      obtain ⟨i0, i1, i2⟩ := hinv hv
      rw [i0, i1, i2] at C6
      have C8 := fun W A1 c1 A2 c2 (h1 : Pxs W (.slice A1 l.length c1) l) (h2 : Pxs W (.slice A2 n c2) l) => Lib.hid (rsame_true a b h1 h2)
      clear hinv hpos i0 i1 i2
      generalize oW t a b l = ow at *
      generalize oH t a b l = oh at *
      generalize oL t a b l = ol at *
      go_enter Tryd.func9, Tryd.ntmps9
      go_wp2_with fail
      refine (C0 _).out.mono ?_
      rintro e w1 ⟨rfl, hb⟩
      replace J := Lib.hid (J.out.step hb)
      clear hb
      obtain ⟨o0, o1, o2⟩ := J.out.cells
      go_wp2_with fail
      refine (C1 _ (HU.out.below J.out.below)).out.mono ?_
      rintro e w2 ⟨A1, c1, rfl, hp1, hb⟩
      replace J := Lib.hid (J.out.step hb)
      have I := Lib.hid (J.out.image ow oh A1 ol.length c1)
      have P1 := Lib.hid (hp1.below ((Below.refl _ _).alloc (Nat.le_refl _) (.cells #[.int .i64 ow, .int .i64 oh, .slice A1 ol.length c1] 40)))
      clear hb hp1 o0 o1 o2 J
      go_wp2_with fail
      replace I := Lib.hid (I.out.step (Below.refl _ _).drew)
      replace P1 := Lib.hid (P1.out.below (Below.refl _ _).drew)
      have sk := I.out.cells
      go_region_held3 (fun W => W.cell? ⟨w.heap.size, 0, none⟩ = some (.int .i64 a) ∧ W.cell? ⟨w.heap.size, 1, none⟩ = some (.int .i64 b) ∧ W.cell? ⟨w.heap.size, 2, none⟩ = some (.slice A n c) ∧ W.cell? ⟨w2.heap.size, 0, none⟩ = some (.int .i64 ow) ∧ W.cell? ⟨w2.heap.size, 1, none⟩ = some (.int .i64 oh) ∧ W.cell? ⟨w2.heap.size, 2, none⟩ = some (.slice A1 ol.length c1))
        (first
          | exact sk
          | go_keep)
        (first
          | (go_at_call 25; (with_reducible refine (C2 _ _ P1.out).out.mono ?_); rintro e wq ⟨A2, c2, rfl, hp2, hb⟩; replace I := Lib.hid (I.out.step hb); (try clear sk); have sk := I.out.cells; (try replace P1 := Lib.hid (P1.out.below hb)); (try replace P2 := Lib.hid (P2.out.below hb)); have P2 := Lib.hid hp2; clear hb hp2)
          | (go_at_call 14; (with_reducible refine (C3 _ (HT.out.below I.out.below)).out.mono ?_); rintro e wq ⟨rfl, hb⟩; replace I := Lib.hid (I.out.step hb); (try clear sk); have sk := I.out.cells; (try replace P1 := Lib.hid (P1.out.below hb)); (try replace P2 := Lib.hid (P2.out.below hb)); clear hb)
          | (go_at_call 25; (with_reducible refine (C4 _ (HU.out.below I.out.below)).out.mono ?_); rintro e wq ⟨A3, c3, rfl, hp3, hb⟩; replace I := Lib.hid (I.out.step hb); (try clear sk); have sk := I.out.cells; (try replace P1 := Lib.hid (P1.out.below hb)); (try replace P2 := Lib.hid (P2.out.below hb)); have P3 := Lib.hid hp3; clear hb hp3)
          | (go_at_call 24; (with_reducible refine (C7 _ _ _ _ _ P2.out P3.out).out.mono ?_); rintro e wq ⟨rfl, hb⟩; replace I := Lib.hid (I.out.step hb); (try clear sk); have sk := I.out.cells; (try replace P1 := Lib.hid (P1.out.below hb)); (try replace P2 := Lib.hid (P2.out.below hb)); clear hb)
          | fail)
      clear sk
      obtain ⟨o0, o1, o2, p0, p1, p2⟩ := I.out.cells
      go_wp2_with fail
      clear o0 o1 o2 p0 p1 p2
      replace I := Lib.hid (I.out.step (Below.refl _ _).drew)
      replace P1 := Lib.hid (P1.out.below (Below.refl _ _).drew)
      have sk := I.out.cells
      go_region_held3 (fun W => W.cell? ⟨w.heap.size, 0, none⟩ = some (.int .i64 a) ∧ W.cell? ⟨w.heap.size, 1, none⟩ = some (.int .i64 b) ∧ W.cell? ⟨w.heap.size, 2, none⟩ = some (.slice A n c) ∧ W.cell? ⟨w2.heap.size, 0, none⟩ = some (.int .i64 ow) ∧ W.cell? ⟨w2.heap.size, 1, none⟩ = some (.int .i64 oh) ∧ W.cell? ⟨w2.heap.size, 2, none⟩ = some (.slice A1 ol.length c1))
        (first
          | exact sk
          | go_keep)
        (first
          | (go_at_call 16; (with_reducible refine (C5 _ (HT.out.below I.out.below)).out.mono ?_); rintro e wq ⟨rfl, hb⟩; replace I := Lib.hid (I.out.step hb); (try clear sk); have sk := I.out.cells; replace P1 := Lib.hid (P1.out.below hb); clear hb)
          | (go_at_call 25; (with_reducible refine (C6 _ _ P1.out).out.mono ?_); rintro e wq ⟨A4, c4, rfl, hp4, hb⟩; replace I := Lib.hid (I.out.step hb); (try clear sk); have sk := I.out.cells; have P4 := Lib.hid hp4; clear hb hp4)
          | (go_at_call 24; (with_reducible refine (C8 _ _ _ _ _ P4.out (HU.out.below I.out.below)).out.mono ?_); rintro e wq ⟨rfl, hb⟩; replace I := Lib.hid (I.out.step hb); (try clear sk); have sk := I.out.cells; clear hb)
          | (go_at_call 18; (with_reducible refine (CE _ (HT.out.below I.out.below)).out.mono ?_); rintro e wq ⟨rfl, hb⟩; replace I := Lib.hid (I.out.step hb); (try clear sk); have sk := I.out.cells; clear hb)
          | fail)
      all_goals
        go_wp2_with fail
        go_ret
        exact ⟨rfl, I.out.below⟩
  · rw [decide_eq_false hn] at C0
    go_enter Tryd.func9, Tryd.ntmps9
    go_wp2_with fail
    refine (C0 _).out.mono ?_
    rintro e w1 ⟨rfl, hb⟩
    replace J := Lib.hid (J.out.step hb)
    clear hb
    go_wp2_with fail
    refine (CE _ (HT.out.below J.out.below)).out.mono ?_
    rintro e w2 ⟨rfl, hb⟩
    replace J := Lib.hid (J.out.step hb)
    clear hb
    go_wp2_with fail
    go_ret
    exact ⟨rfl, J.out.below⟩

end Go.Proofs.YtphgjfkmnohjlaaDoor
