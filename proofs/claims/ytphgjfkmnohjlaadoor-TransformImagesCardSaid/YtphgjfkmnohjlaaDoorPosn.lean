/-
  position of package transform and place of its reference: where a pixel of an image goes, and that nothing that was there has turned.
-/
import Derived.Test.YtphgjfkmnohjlaaDoorSmall
namespace Go.Proofs.YtphgjfkmnohjlaaDoor
open Go.RowKit

/-- a pixel of an image of a size within the limits -/
def Pix (a b x y : Int) : Prop := ((0 ≤ x ∧ x < a) ∧ (0 ≤ y ∧ y < b)) ∧ a ≤ 16384 ∧ b ≤ 16384

theorem Pix.image {a b x y : Int} (t : Int) (h : Pix a b x y) : Pix (siW t a b) (siH t a b) (posX t a b x y) (posY t a b x y) := by
  refine ⟨pos_in t h.1.1 h.1.2, ?_⟩
  have h2 := h.2
  unfold siW siH
  cases odd t <;> simp <;> omega

theorem below_drewN {B : Nat} {w w1 : World} (h : Below B w w1) : ∀ n, Below B w (w1.drewN n)
  | 0 => h
  | n + 1 => (below_drewN h n).drew

theorem posn_ne {t : Int} (h : ¬ (1 ≤ t ∧ t ≤ 7)) (a b x y : Int) : posX t a b x y = x ∧ posY t a b x y = y := by
  have h1 : t ≠ 1 := by omega
  have h2 : t ≠ 2 := by omega
  have h3 : t ≠ 3 := by omega
  have h4 : t ≠ 4 := by omega
  have h5 : t ≠ 5 := by omega
  have h6 : t ≠ 6 := by omega
  have h7 : t ≠ 7 := by omega
  simp [posX, posY, h1, h2, h3, h4, h5, h6, h7]

set_option maxHeartbeats 4000000 in
theorem position_any (t a b x y : Int) (h : Pix a b x y) (w : World) : Calls Tryd.prog 38 #[.int .i64 t, .int .i64 a, .int .i64 b, .agg #[.int .i64 x, .int .i64 y]] w fun e w' => e = .returned (.agg #[.int .i64 (posX t a b x y), .int .i64 (posY t a b x y)]) ∧ Below w.heap.size w w' := by
  obtain ⟨⟨hx, hy⟩, ha, hb⟩ := h
  have t0 : IntKind.i64.wrap (a - 1) = a - 1 := IntWalk.i64_in _ (by omega)
  have t1 : IntKind.i64.wrap (a - 1 - x) = a - 1 - x := IntWalk.i64_in _ (by omega)
  have t2 : IntKind.i64.wrap (b - 1) = b - 1 := IntWalk.i64_in _ (by omega)
  have t3 : IntKind.i64.wrap (b - 1 - y) = b - 1 - y := IntWalk.i64_in _ (by omega)
  have HB : Below w.heap.size w ((w.alloc (.cells #[.int .i64 x, .int .i64 y] 23)).alloc (.cells #[.int .i64 0, .int .i64 0] 23)) := ((Below.refl _ _).alloc (Nat.le_refl _) _).alloc (Nat.le_of_lt (by rw [World.size_alloc]; exact Nat.lt_succ_self _)) _
  replace HB := Lib.hid HB
  by_cases ht : 1 ≤ t ∧ t ≤ 7
  · obtain ⟨X, hX⟩ : ∃ X, posX t a b x y = X := ⟨_, rfl⟩
    obtain ⟨Y, hY⟩ : ∃ Y, posY t a b x y = Y := ⟨_, rfl⟩
    rw [hX, hY]
    obtain rfl | rfl | rfl | rfl | rfl | rfl | rfl : t = 1 ∨ t = 2 ∨ t = 3 ∨ t = 4 ∨ t = 5 ∨ t = 6 ∨ t = 7 := by omega
    all_goals
      simp [posX, posY] at hX hY
      subst hX hY
      clear ht
      go_enter Tryd.func38, Tryd.ntmps38
      go_wp2_with fail
      go_quiet (fail)
      go_wp2_with fail
      refine bodyPost_ret (v := .agg #[.int .i64 _, .int .i64 _]) (by simp [results, Tryd.results38, go_sem]) rfl ⟨rfl, ?_⟩
      exact below_set2 (below_drewN HB.out _) (by simp)
  · obtain ⟨e0, e1⟩ := posn_ne ht a b x y
    rw [e0, e1]
    clear e0 e1
    have h1 : ¬ t = 1 := by omega
    have h2 : ¬ t = 2 := by omega
    have h3 : ¬ t = 3 := by omega
    have h4 : ¬ t = 4 := by omega
    have h5 : ¬ t = 5 := by omega
    have h6 : ¬ t = 6 := by omega
    have h7 : ¬ t = 7 := by omega
    clear ht
    go_enter Tryd.func38, Tryd.ntmps38
    go_wp2_with fail
    go_quiet (fail)
    go_wp2_with fail
    refine bodyPost_ret (v := .agg #[.int .i64 x, .int .i64 y]) (by simp [results, Tryd.results38, go_sem]) rfl ⟨rfl, ?_⟩
    exact below_set2 (below_drewN HB.out _) (by simp)

theorem Below.next {w w1 w2 : World} (h : Below w.heap.size w w1) (hb : Below w1.heap.size w1 w2) : Below w.heap.size w w2 := h.trans (hb.mono h.size)

/-- two cells at the head of block k -/
def Two (W : World) (k : Nat) (x0 x1 : Value) : Prop := W.cell? ⟨k, 0, none⟩ = some x0 ∧ W.cell? ⟨k, 1, none⟩ = some x1 ∧ ∀ i, W.frozen? ⟨k, i, none⟩ = false

def set2 (W : World) (k : Nat) (x0 x1 : Value) : World := (W.setCell ⟨k, 0, none⟩ x0).setCell ⟨k, 1, none⟩ x1

theorem Two.keep {W w1 : World} {B k : Nat} {x0 x1 : Value} (h : Two W k x0 x1) (hb : Below B W w1) (hk : k < B) : Two w1 k x0 x1 :=
  ⟨(hb.cell (p := ⟨k, 0, none⟩) hk).trans h.1, (hb.cell (p := ⟨k, 1, none⟩) hk).trans h.2.1, fun i => (hb.frozen (p := ⟨k, i, none⟩) hk).trans (h.2.2 i)⟩
theorem Two.set {W : World} {k : Nat} {x0 x1 y0 y1 : Value} (h : Two W k x0 x1) : Two (set2 W k y0 y1) k y0 y1 := by
  obtain ⟨h0, h1, h2⟩ := h
  unfold Two set2
  simp [go_sem, h0, h1, h2]
theorem Two.far {W : World} {k j : Nat} {x0 x1 y0 y1 : Value} (h : Two W k x0 x1) (hne : k ≠ j) : Two (set2 W j y0 y1) k x0 x1 := by
  obtain ⟨h0, h1, h2⟩ := h
  unfold Two set2
  simp [go_sem, h0, h1, h2]
theorem Two.new (w : World) (x0 x1 : Value) (t : TypeId) : Two (w.alloc (.cells #[x0, x1] t)) w.heap.size x0 x1 := by
  unfold Two
  simp [go_sem]
theorem Two.alloc {w : World} {k : Nat} {x0 x1 : Value} (h : Two w k x0 x1) (hk : k < w.heap.size) (o : Obj) : Two (w.alloc o) k x0 x1 :=
  h.keep ((Below.refl _ _).alloc (Nat.le_refl _) o) hk
theorem Two.drew {w : World} {k : Nat} {x0 x1 : Value} (h : Two w k x0 x1) (n : Nat) : Two (w.drewN n) k x0 x1 := h.keep (B := k + 1) (below_drewN (Below.refl _ _) n) (Nat.lt_succ_self _)
theorem set2_size (W : World) (k : Nat) (x0 x1 : Value) : (set2 W k x0 x1).heap.size = W.heap.size := by simp [set2]

/-- one turn more -/
theorem turn_step {s : Int} {i : Nat} (hs : s = 0 ∨ s = 4) (hi : i < 3) (a b x y : Int) : siW (s + ((i + 1 : Nat) : Int)) a b = siH (s + (i : Int)) a b ∧ siH (s + ((i + 1 : Nat) : Int)) a b = siW (s + (i : Int)) a b ∧
    posX (s + ((i + 1 : Nat) : Int)) a b x y = posY (s + (i : Int)) a b x y ∧ posY (s + ((i + 1 : Nat) : Int)) a b x y = siW (s + (i : Int)) a b - 1 - posX (s + (i : Int)) a b x y := by
  rcases hs with rfl | rfl <;> obtain rfl | rfl | rfl : i = 0 ∨ i = 1 ∨ i = 2 := by omega
  all_goals
    simp [siW, siH, odd, cl, posX, posY]
    try omega

/-- what place's loop keeps -/
def PlR (w : World) (s : Int) (r : Nat) (a b x y : Int) (s1 s2 s9 : Value) (wr : World) : Prop :=
  ∃ i : Nat, i ≤ r ∧ s9 = .int .i64 (i : Int) ∧ s1 = .int .i64 (siW (s + (i : Int)) a b) ∧ s2 = .int .i64 (siH (s + (i : Int)) a b) ∧
    Two wr w.heap.size (.int .i64 (posX (s + (i : Int)) a b x y)) (.int .i64 (posY (s + (i : Int)) a b x y)) ∧ Two wr (w.heap.size + 1) (.int .i64 0) (.int .i64 0) ∧ Below w.heap.size w wr ∧ w.heap.size + 1 < wr.heap.size

def left3 (r : Nat) (v : Value) : Nat := r - (intOf v).toNat

set_option maxHeartbeats 4000000 in
theorem place_any (t a b x y : Int) (ht : 0 ≤ t ∧ t ≤ 7) (h : Pix a b x y) (w : World) : Calls Tryd.prog 35 #[.int .i64 t, .int .i64 a, .int .i64 b, .agg #[.int .i64 x, .int .i64 y]] w fun e w' => e = .returned (.agg #[.int .i64 (posX t a b x y), .int .i64 (posY t a b x y)]) ∧ Below w.heap.size w w' := by
  obtain ⟨s, r, hs, hr, rfl⟩ : ∃ (s : Int) (r : Nat), (s = 0 ∨ s = 4) ∧ r ≤ 3 ∧ t = s + (r : Int) := by
    by_cases h4 : 4 ≤ t
    · exact ⟨4, (t - 4).toNat, .inr rfl, by omega, by omega⟩
    · exact ⟨0, t.toNat, .inl rfl, by omega, by omega⟩
  have hm : (s + (r : Int)).tmod 4 = r := by
    rcases hs with rfl | rfl <;> obtain rfl | rfl | rfl | rfl : r = 0 ∨ r = 1 ∨ r = 2 ∨ r = 3 := by omega
    all_goals decide
  have HP := Lib.hid h
  obtain ⟨hp, ha, hb⟩ := h
  have HB := Lib.hid (((Below.refl w.heap.size w).alloc (Nat.le_refl _) (.cells #[.int .i64 x, .int .i64 y] 23)).alloc (Nat.le_of_lt (by rw [World.size_alloc]; exact Nat.lt_succ_self _)) (.cells #[.int .i64 0, .int .i64 0] 23))
  have T0 := Lib.hid ((Two.new w (.int .i64 x) (.int .i64 y) 23).alloc (by rw [World.size_alloc]; exact Nat.lt_succ_self _) (.cells #[.int .i64 0, .int .i64 0] 23))
  have T1 := Two.new (w.alloc (.cells #[.int .i64 x, .int .i64 y] 23)) (.int .i64 0) (.int .i64 0) 23
  rw [World.size_alloc] at T1
  replace T1 := Lib.hid T1
  have C1 := fun W => Lib.hid (flip_any a x y hp.1 ha W)
  have HS := Lib.hid hs
  generalize htt : s + (r : Int) = t at *
  have HT := Lib.hid htt
  clear htt hp
  rcases hs with hs | hs
  · have h4 : ¬ 4 ≤ t := by have := HT.out; omega
    clear hs
    go_enter Tryd.func35, Tryd.ntmps35
    go_wp2_with fail
    go_loopw [1, 2, 9] (fun s1 s2 s9 wr => PlR w s r a b x y s1 s2 s9 wr) (fun _ _ s9 _ => left3 r s9)
    case atStart =>
      have hs0 : s = 0 := by
        rcases HS.out with e | e
        · exact e
        · exfalso; have := HT.out; omega
      subst hs0
      refine ⟨0, by omega, rfl, rfl, rfl, T0.out, T1.out, HB.out, by simp⟩
    case round =>
      obtain ⟨i, hi, rfl, rfl, rfl, A0, A1, A2, A3⟩ := hrel
      by_cases hlt : i < r
      · have q0 : (i : Int) < r := by omega
        have hpi := Pix.image (s + (i : Int)) HP.out
        obtain ⟨e1, e2, e3, e4⟩ := turn_step HS.out (i := i) (by omega) a b x y
        have C2 := fun W => Lib.hid (turn_any (siW (s + (i : Int)) a b) (posX (s + (i : Int)) a b x y) (posY (s + (i : Int)) a b x y) hpi.1.1 hpi.2.1 W)
        have E := Lib.hid (And.intro e1 (And.intro e2 (And.intro e3 e4)))
        clear e1 e2 e3 e4 hpi
        generalize siW (s + (i : Int)) a b = W0 at *
        generalize siH (s + (i : Int)) a b = H0 at *
        generalize posX (s + (i : Int)) a b x y = X0 at *
        generalize posY (s + (i : Int)) a b x y = Y0 at *
        have B0 := Lib.hid A0
        obtain ⟨c0, c1, cf⟩ := A0
        have B1 := Lib.hid A1
        have B2 := Lib.hid A2
        clear A1 A2
        go_wp2_with fail
        refine (C2 _).out.mono ?_
        rintro e w1 ⟨rfl, hb1⟩
        have D0 := B0.out.keep hb1 (by omega)
        have D1 := Lib.hid (B1.out.keep hb1 A3)
        have D2 := Lib.hid (Below.next B2.out hb1)
        have D3 : w.heap.size + 1 < w1.heap.size := Nat.lt_of_lt_of_le A3 hb1.size
        clear hb1 c0 c1 cf B0 B1 B2 A3
        have D4 := Lib.hid D0
        obtain ⟨c0, c1, cf⟩ := D0
        go_wp2_with fail
        go_roundw
        case rel =>
          obtain ⟨e1, e2, e3, e4⟩ := E.out
          refine ⟨i + 1, by omega, by go_num, by rw [e1], by rw [e2], ?_, (D1.out.far (by omega)), below_set2 D2.out (Nat.le_refl _), ?_⟩
          · rw [e3, e4]
            exact D4.out.set
          · have := set2_size w1 w.heap.size (.int .i64 Y0) (.int .i64 (W0 - 1 - X0))
            unfold set2 at this
            omega
        case measure =>
          unfold left3
          simp [intOf]
          omega
      · have q0 : ¬ (i : Int) < r := by omega
        obtain rfl : i = r := by omega
        have B0 := Lib.hid A0
        have B1 := Lib.hid A1
        have B2 := Lib.hid A2
        obtain ⟨c0, c1, cf⟩ := A0
        obtain ⟨d0, d1, df⟩ := A1
        clear A2
        rw [HT.out] at c0 c1
        go_wp2_with fail
        refine bodyPost_ret (v := .agg #[.int .i64 (posX t a b x y), .int .i64 (posY t a b x y)]) (by simp [results, Tryd.results35, go_sem, d0, d1]) rfl ⟨rfl, ?_⟩
        exact below_set2 B2.out (Nat.le_succ _)
  · have h4 : 4 ≤ t := by have := HT.out; omega
    clear hs
    obtain ⟨c0, c1, cf⟩ := T0.out
    go_enter Tryd.func35, Tryd.ntmps35
    go_wp2_with fail
    refine (C1 _).out.mono ?_
    rintro e w1 ⟨rfl, hb1⟩
    have D0 := T0.out.keep hb1 (by simp; omega)
    have D1 := Lib.hid (T1.out.keep hb1 (by simp))
    have D2 := Lib.hid (Below.next HB.out hb1)
    have D3 : w.heap.size + 1 < w1.heap.size := by
      have := hb1.size
      simp at this
      omega
    clear hb1 c0 c1 cf
    have D4 := Lib.hid D0
    obtain ⟨c0, c1, cf⟩ := D0
    go_wp2_with fail
    go_loopw [1, 2, 9] (fun s1 s2 s9 wr => PlR w s r a b x y s1 s2 s9 wr) (fun _ _ s9 _ => left3 r s9)
    case atStart =>
      have hs4 : s = 4 := by
        rcases HS.out with e | e
        · exfalso; have := HT.out; omega
        · exact e
      subst hs4
      refine ⟨0, by omega, rfl, rfl, rfl, D4.out.set, D1.out.far (by omega), below_set2 D2.out (Nat.le_refl _), ?_⟩
      have := set2_size w1 w.heap.size (.int .i64 (a - 1 - x)) (.int .i64 y)
      unfold set2 at this
      omega
    case round =>
      obtain ⟨i, hi, rfl, rfl, rfl, A0, A1, A2, A3⟩ := hrel
      by_cases hlt : i < r
      · have q0 : (i : Int) < r := by omega
        have hpi := Pix.image (s + (i : Int)) HP.out
        obtain ⟨e1, e2, e3, e4⟩ := turn_step HS.out (i := i) (by omega) a b x y
        have C2 := fun W => Lib.hid (turn_any (siW (s + (i : Int)) a b) (posX (s + (i : Int)) a b x y) (posY (s + (i : Int)) a b x y) hpi.1.1 hpi.2.1 W)
        have E := Lib.hid (And.intro e1 (And.intro e2 (And.intro e3 e4)))
        clear e1 e2 e3 e4 hpi
        generalize siW (s + (i : Int)) a b = W0 at *
        generalize siH (s + (i : Int)) a b = H0 at *
        generalize posX (s + (i : Int)) a b x y = X0 at *
        generalize posY (s + (i : Int)) a b x y = Y0 at *
        have B0 := Lib.hid A0
        obtain ⟨c0, c1, cf⟩ := A0
        have B1 := Lib.hid A1
        have B2 := Lib.hid A2
        clear A1 A2
        go_wp2_with fail
        refine (C2 _).out.mono ?_
        rintro e w1 ⟨rfl, hb1⟩
        have D0 := B0.out.keep hb1 (by omega)
        have D1 := Lib.hid (B1.out.keep hb1 A3)
        have D2 := Lib.hid (Below.next B2.out hb1)
        have D3 : w.heap.size + 1 < w1.heap.size := Nat.lt_of_lt_of_le A3 hb1.size
        clear hb1 c0 c1 cf B0 B1 B2 A3
        have D4 := Lib.hid D0
        obtain ⟨c0, c1, cf⟩ := D0
        go_wp2_with fail
        go_roundw
        case rel =>
          obtain ⟨e1, e2, e3, e4⟩ := E.out
          refine ⟨i + 1, by omega, by go_num, by rw [e1], by rw [e2], ?_, (D1.out.far (by omega)), below_set2 D2.out (Nat.le_refl _), ?_⟩
          · rw [e3, e4]
            exact D4.out.set
          · have := set2_size w1 w.heap.size (.int .i64 Y0) (.int .i64 (W0 - 1 - X0))
            unfold set2 at this
            omega
        case measure =>
          unfold left3
          simp [intOf]
          omega
      · have q0 : ¬ (i : Int) < r := by omega
        obtain rfl : i = r := by omega
        have B0 := Lib.hid A0
        have B1 := Lib.hid A1
        have B2 := Lib.hid A2
        obtain ⟨c0, c1, cf⟩ := A0
        obtain ⟨d0, d1, df⟩ := A1
        clear A2
        rw [HT.out] at c0 c1
        go_wp2_with fail
        refine bodyPost_ret (v := .agg #[.int .i64 (posX t a b x y), .int .i64 (posY t a b x y)]) (by simp [results, Tryd.results35, go_sem, d0, d1]) rfl ⟨rfl, ?_⟩
        exact below_set2 B2.out (Nat.le_succ _)

end Go.Proofs.YtphgjfkmnohjlaaDoor
