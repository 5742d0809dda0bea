/-
  Shrink of package scale and of its reference.
-/
import Derived.Test.YtnkbejbpkjkgeaaNbx
namespace Go.Proofs.Ytnkbejbpkjkgeaa
open Go.RowKit

theorem rem_raw (a k : Nat) : (a : Int).tmod (k : Int) = ((a % k : Nat) : Int) ∧ (a : Int) % (k : Int) = ((a % k : Nat) : Int) :=
  ⟨by rw [Int.tmod_eq_emod_of_nonneg (by omega), Int.natCast_emod], (Int.natCast_emod _ _).symm⟩
theorem quo_int (p k a : Nat) (ha : a ≤ 256) (_ : 1 ≤ k) (hp : p * k = a) : IntKind.i64.wrap ((a : Int).tdiv (k : Int)) = (p : Int) ∧ wrap64 ((a : Int).tdiv (k : Int)) = (p : Int) ∧ IntKind.i64.wrap ((a : Int) / (k : Int)) = (p : Int) ∧ wrap64 ((a : Int) / (k : Int)) = (p : Int) := by
  have h0 : a / k = p := by rw [← hp]; exact Nat.mul_div_cancel _ (by omega)
  have h1 : (a : Int).tdiv (k : Int) = (p : Int) := by rw [Int.tdiv_eq_ediv_of_nonneg (by omega), ← Int.natCast_ediv, h0]
  have h2 : (a : Int) / (k : Int) = (p : Int) := by rw [← Int.natCast_ediv, h0]
  have h3 : p ≤ a := by rw [← h0]; exact Nat.div_le_self _ _
  rw [h1, h2]
  exact ⟨IntWalk.i64_in _ (by omega), IntWalk.wrap64_in _ (by omega), IntWalk.i64_in _ (by omega), IntWalk.wrap64_in _ (by omega)⟩


set_option maxRecDepth 100000 in
set_option maxHeartbeats 4000000 in
theorem shrink_inv {a b k : Int} {v : Value} {l : List Px} {w : World} (h : Pxs w v l) (hv : vBuf a b l = false) : Calls Try.prog 18 #[.agg #[.int .i64 a, .int .i64 b, v], .int .i64 k] w (Outs 0 0 [] 15 w) := by
  have H := Lib.hid h
  obtain ⟨A, c, rfl, _⟩ := h.shape
  have C1 := fun W (hb : Below w.heap.size w W) => Lib.hid (valid_any a b (H.out.below hb))
  rw [hv] at C1
  have J := Lib.hid (heldS w a b (.slice A l.length c))
  unfold Outs
  generalize l.length = n at *
  clear h hv
  go_enter Try.func18, Try.ntmps18
  go_wp2_with fail
  refine (C1 _ J.out.below).out.mono ?_
  rintro e w1 ⟨rfl, hb⟩
  replace J := Lib.hid (J.out.step hb)
  clear hb
  obtain ⟨z0, z1, z2, zf, zt⟩ := J.out.tri (l1 := [])
  have K := Lib.hid (below_set3 (y0 := .int .i64 0) (y1 := .int .i64 0) (y2 := .slice none 0 0) J.out.below (Nat.le_succ w.heap.size))
  obtain ⟨d0, d1, d2, df, dt⟩ := J.out.tri (l1 := [_])
  clear J
  go_wp2_with fail
  exact bodyPost_ret (v := .tuple #[.agg #[.int .i64 0, .int .i64 0, .slice none 0 0], .int .i64 15]) (by simp [results, Try.results18, go_sem, z0, z1, z2]) rfl ⟨_, rfl, .inl ⟨rfl, rfl⟩, K.out⟩

set_option maxRecDepth 100000 in
set_option maxHeartbeats 4000000 in
theorem shrink_arg {a b : Nat} {k : Int} {v : Value} {l : List Px} {w : World} (h : Pxs w v l) (hv : Vld a b l) (hk : k < 1 ∨ ∃ m : Nat, k = m ∧ 1 ≤ m ∧ (a % m ≠ 0 ∨ b % m ≠ 0)) : Calls Try.prog 18 #[.agg #[.int .i64 (a : Int), .int .i64 (b : Int), v], .int .i64 k] w (Outs 0 0 [] 2 w) := by
  have H := Lib.hid h
  obtain ⟨A, c, rfl, _⟩ := h.shape
  have C1 := fun W (hb : Below w.heap.size w W) => Lib.hid (valid_any a b (H.out.below hb))
  rw [hv.vBuf] at C1
  have J := Lib.hid (heldS w a b (.slice A l.length c))
  have ha2 := hv.a2
  have hb2 := hv.b2
  unfold Outs
  generalize l.length = n at *
  clear h hv
  rcases hk with hk | ⟨m, rfl, hm, hk⟩
  · have b1 : decide (k < 1) = true := decide_eq_true hk
    go_enter Try.func18, Try.ntmps18
    go_wp2_with fail
    refine (C1 _ J.out.below).out.mono ?_
    rintro e w1 ⟨rfl, hb⟩
    replace J := Lib.hid (J.out.step hb)
    clear hb
    obtain ⟨z0, z1, z2, zf, zt⟩ := J.out.tri (l1 := [])
    have K := Lib.hid (below_set3 (y0 := .int .i64 0) (y1 := .int .i64 0) (y2 := .slice none 0 0) J.out.below (Nat.le_succ w.heap.size))
    obtain ⟨d0, d1, d2, df, dt⟩ := J.out.tri (l1 := [_])
    clear J
    go_wp2_with fail
    exact bodyPost_ret (v := .tuple #[.agg #[.int .i64 0, .int .i64 0, .slice none 0 0], .int .i64 2]) (by simp [results, Try.results18, go_sem, z0, z1, z2]) rfl ⟨_, rfl, .inl ⟨rfl, rfl⟩, K.out⟩
  · have b1 : decide ((m : Int) < 1) = false := decide_eq_false (by omega)
    have b2 : ¬ (m : Int) < 1 := by omega
    have g0 : (m : Int) ≠ 0 := by omega
    have g2 : (0 : Int) ≤ a := by omega
    have g3 : (0 : Int) ≤ b := by omega
    have E := Lib.hid (rem_raw a m)
    have F := Lib.hid (rem_raw b m)
    generalize a % m = r at *
    generalize b % m = s at *
    generalize (a : Int) = za at *
    generalize (b : Int) = zb at *
    generalize (m : Int) = zm at *
    rcases Nat.eq_zero_or_pos r with rfl | hr
    · have hs : ¬ (s : Int) = 0 := by omega
      have hs2 : ((s : Int) != 0) = true := by simpa using hs
      have hs3 : ((s : Int) == 0) = false := by simpa using hs
      clear hk hm ha2 hb2
      obtain ⟨e1, e2⟩ := E.out
      obtain ⟨f1, f2⟩ := F.out
      generalize (s : Int) = zs at *
      go_enter Try.func18, Try.ntmps18
      go_wp2_with fail
      refine (C1 _ J.out.below).out.mono ?_
      rintro e w1 ⟨rfl, hb⟩
      replace J := Lib.hid (J.out.step hb)
      clear hb
      obtain ⟨z0, z1, z2, zf, zt⟩ := J.out.tri (l1 := [])
      have K := Lib.hid (below_set3 (y0 := .int .i64 0) (y1 := .int .i64 0) (y2 := .slice none 0 0) J.out.below (Nat.le_succ w.heap.size))
      obtain ⟨d0, d1, d2, df, dt⟩ := J.out.tri (l1 := [_])
      clear J
      go_wp2_with fail
      exact bodyPost_ret (v := .tuple #[.agg #[.int .i64 0, .int .i64 0, .slice none 0 0], .int .i64 2]) (by simp [results, Try.results18, go_sem, z0, z1, z2]) rfl ⟨_, rfl, .inl ⟨rfl, rfl⟩, K.out⟩
    · have hs : ¬ (r : Int) = 0 := by omega
      have hs2 : ((r : Int) != 0) = true := by simpa using hs
      have hs3 : ((r : Int) == 0) = false := by simpa using hs
      clear hk hm ha2 hb2 hr
      obtain ⟨e1, e2⟩ := E.out
      generalize (r : Int) = zr at *
      go_enter Try.func18, Try.ntmps18
      go_wp2_with fail
      refine (C1 _ J.out.below).out.mono ?_
      rintro e w1 ⟨rfl, hb⟩
      replace J := Lib.hid (J.out.step hb)
      clear hb
      obtain ⟨z0, z1, z2, zf, zt⟩ := J.out.tri (l1 := [])
      have K := Lib.hid (below_set3 (y0 := .int .i64 0) (y1 := .int .i64 0) (y2 := .slice none 0 0) J.out.below (Nat.le_succ w.heap.size))
      obtain ⟨d0, d1, d2, df, dt⟩ := J.out.tri (l1 := [_])
      clear J
      go_wp2_with fail
      exact bodyPost_ret (v := .tuple #[.agg #[.int .i64 0, .int .i64 0, .slice none 0 0], .int .i64 2]) (by simp [results, Try.results18, go_sem, z0, z1, z2]) rfl ⟨_, rfl, .inl ⟨rfl, rfl⟩, K.out⟩

set_option maxRecDepth 100000 in
set_option maxHeartbeats 4000000 in
theorem shrink_good {a b k p q : Nat} {v : Value} {l : List Px} {w : World} (h : Pxs w v l) (hv : Vld a b l) (hlb : ∀ z ∈ l, Byt z) (hk : 1 ≤ k) (hp : p * k = a) (hq : q * k = b) : Calls Try.prog 18 #[.agg #[.int .i64 (a : Int), .int .i64 (b : Int), v], .int .i64 (k : Int)] w (Outs p q (boxL a b l p q) 0 w) := by
  have H := Lib.hid h
  obtain ⟨A, c, rfl, _⟩ := h.shape
  have C1 := fun W (hb : Below w.heap.size w W) => Lib.hid (valid_any a b (H.out.below hb))
  rw [hv.vBuf] at C1
  have J := Lib.hid (heldS w a b (.slice A l.length c))
  have ha1 := hv.a1
  have ha2 := hv.a2
  have hb1 := hv.b1
  have hb2 := hv.b2
  have hp1 : 1 ≤ p ∧ p ≤ 256 := by
    rcases Nat.eq_zero_or_pos p with h0 | h0
    · rw [h0, Nat.zero_mul] at hp; omega
    · exact ⟨h0, Nat.le_trans (Nat.le_mul_of_pos_right p hk) (by omega)⟩
  have hq1 : 1 ≤ q ∧ q ≤ 256 := by
    rcases Nat.eq_zero_or_pos q with h0 | h0
    · rw [h0, Nat.zero_mul] at hq; omega
    · exact ⟨h0, Nat.le_trans (Nat.le_mul_of_pos_right q hk) (by omega)⟩
  have C2 := fun W (hb : Below w.heap.size w W) => Lib.hid (box_good (H.out.below hb) hv hlb hp1 hq1)
  have b1 : decide ((k : Int) < 1) = false := decide_eq_false (by omega)
  have b2 : ¬ (k : Int) < 1 := by omega
  have g0 : (k : Int) ≠ 0 := by omega
  have g1 : k ≠ 0 := by omega
  have E := Lib.hid (rem_raw a k)
  have F := Lib.hid (rem_raw b k)
  have g2 : (0 : Int) ≤ a := by omega
  have g3 : (0 : Int) ≤ b := by omega
  rw [show a % k = 0 from by rw [← hp]; exact Nat.mul_mod_left _ _] at E
  rw [show b % k = 0 from by rw [← hq]; exact Nat.mul_mod_left _ _] at F
  have E2 := Lib.hid (quo_int p k a ha2 hk hp)
  have F2 := Lib.hid (quo_int q k b hb2 hk hq)
  unfold Outs at C2 ⊢
  generalize boxL a b l p q = O at *
  generalize l.length = n at *
  clear h hv hlb hp hq hp1 hq1 ha1 ha2 hb1 hb2 hk g1
  generalize (a : Int) = za at *
  generalize (b : Int) = zb at *
  generalize (k : Int) = zk at *
  obtain ⟨e1, e2⟩ := E.out
  obtain ⟨f1, f2⟩ := F.out
  go_enter Try.func18, Try.ntmps18
  go_wp2_with fail
  refine (C1 _ J.out.below).out.mono ?_
  rintro e w1 ⟨rfl, hb⟩
  replace J := Lib.hid (J.out.step hb)
  clear hb C1
  obtain ⟨d0, d1, d2, df, dt⟩ := J.out.tri (l1 := [_])
  go_wp2_with fail
  clear e1 e2 f1 f2 d0 d1 d2 df dt
  obtain ⟨e1, e2, e3, e4⟩ := E2.out
  obtain ⟨f1, f2, f3, f4⟩ := F2.out
  have hsz := J.out.below.size
  have hkm := (J.out.tri (l1 := [])).2.2.2.2
  replace J := Lib.hid J.out.drew
  have sk := J.out.three (l1 := [_])
  go_region_held3 (fun W => W.cell? ⟨w.heap.size, 0, none⟩ = some (.int .i64 za) ∧ W.cell? ⟨w.heap.size, 1, none⟩ = some (.int .i64 zb) ∧ W.cell? ⟨w.heap.size, 2, none⟩ = some (.slice A n c))
    (first
      | exact sk
      | exact sk4
      | go_keep)
    (first
      | (go_at_call 16; (with_reducible refine (C2 _ J.out.below).out.mono ?_); rintro e w2 ⟨v2, rfl, hr, hb⟩; obtain ⟨A2, c2, rfl, _⟩ := hr.pxs.shape; have Q := Lib.hid (hr.keep (w := w) (w2 := set3 w2 (w.heap.size + 1) (.int .i64 (p : Int)) (.int .i64 (q : Int)) (.slice A2 O.length c2)) J.out.below (fun g hg hR => hR.far (Nat.ne_of_gt (Nat.lt_of_lt_of_le hkm hg)) _ _ _)); replace J := Lib.hid (J.out.step hb); clear hb hr sk; have sk := J.out.three (l1 := [_]); obtain ⟨z0, z1, z2, zf, zt⟩ := J.out.tri (l1 := []); have K := Lib.hid (J.out.set3 (l1 := []) (.int .i64 (p : Int)) (.int .i64 (q : Int)) (.slice A2 O.length c2)); have sk4 := K.out.three (l1 := [_]); unfold set3 at sk4)
      | fail)
  all_goals
    go_wp2_with fail
    exact bodyPost_ret (v := .tuple #[.agg #[.int .i64 (p : Int), .int .i64 (q : Int), .slice A2 O.length c2], .int .i64 0]) (by simp [results, Try.results18, go_sem, z0, z1, z2]) rfl ⟨_, rfl, Q.out, K.out.below⟩

set_option maxRecDepth 100000 in
set_option maxHeartbeats 4000000 in
theorem rshrink_inv {a b k : Int} {v : Value} {l : List Px} {w : World} (h : Pxs w v l) (hv : vBuf a b l = false) : Calls Try.prog 19 #[.agg #[.int .i64 a, .int .i64 b, v], .int .i64 k] w (Outs 0 0 [] 15 w) := by
  have H := Lib.hid h
  obtain ⟨A, c, rfl, _⟩ := h.shape
  have C1 := fun W (hb : Below w.heap.size w W) => Lib.hid (rvalid10_any a b (H.out.below hb))
  rw [hv] at C1
  have J := Lib.hid (heldS w a b (.slice A l.length c))
  unfold Outs
  generalize l.length = n at *
  clear h hv
  go_enter Try.func19, Try.ntmps19
  go_wp2_with fail
  refine (C1 _ J.out.below).out.mono ?_
  rintro e w1 ⟨rfl, hb⟩
  replace J := Lib.hid (J.out.step hb)
  clear hb
  obtain ⟨z0, z1, z2, zf, zt⟩ := J.out.tri (l1 := [])
  have K := Lib.hid (below_set3 (y0 := .int .i64 0) (y1 := .int .i64 0) (y2 := .slice none 0 0) J.out.below (Nat.le_succ w.heap.size))
  obtain ⟨d0, d1, d2, df, dt⟩ := J.out.tri (l1 := [_])
  clear J
  go_wp2_with fail
  exact bodyPost_ret (v := .tuple #[.agg #[.int .i64 0, .int .i64 0, .slice none 0 0], .int .i64 15]) (by simp [results, Try.results19, go_sem, z0, z1, z2]) rfl ⟨_, rfl, .inl ⟨rfl, rfl⟩, K.out⟩

set_option maxRecDepth 100000 in
set_option maxHeartbeats 4000000 in
theorem rshrink_arg {a b : Nat} {k : Int} {v : Value} {l : List Px} {w : World} (h : Pxs w v l) (hv : Vld a b l) (hk : k < 1 ∨ ∃ m : Nat, k = m ∧ 1 ≤ m ∧ (a % m ≠ 0 ∨ b % m ≠ 0)) : Calls Try.prog 19 #[.agg #[.int .i64 (a : Int), .int .i64 (b : Int), v], .int .i64 k] w (Outs 0 0 [] 2 w) := by
  have H := Lib.hid h
  obtain ⟨A, c, rfl, _⟩ := h.shape
  have C1 := fun W (hb : Below w.heap.size w W) => Lib.hid (rvalid10_any a b (H.out.below hb))
  rw [hv.vBuf] at C1
  have J := Lib.hid (heldS w a b (.slice A l.length c))
  have ha2 := hv.a2
  have hb2 := hv.b2
  unfold Outs
  generalize l.length = n at *
  clear h hv
  rcases hk with hk | ⟨m, rfl, hm, hk⟩
  · have b1 : decide (k < 1) = true := decide_eq_true hk
    go_enter Try.func19, Try.ntmps19
    go_wp2_with fail
    refine (C1 _ J.out.below).out.mono ?_
    rintro e w1 ⟨rfl, hb⟩
    replace J := Lib.hid (J.out.step hb)
    clear hb
    obtain ⟨z0, z1, z2, zf, zt⟩ := J.out.tri (l1 := [])
    have K := Lib.hid (below_set3 (y0 := .int .i64 0) (y1 := .int .i64 0) (y2 := .slice none 0 0) J.out.below (Nat.le_succ w.heap.size))
    obtain ⟨d0, d1, d2, df, dt⟩ := J.out.tri (l1 := [_])
    clear J
    go_wp2_with fail
    exact bodyPost_ret (v := .tuple #[.agg #[.int .i64 0, .int .i64 0, .slice none 0 0], .int .i64 2]) (by simp [results, Try.results19, go_sem, z0, z1, z2]) rfl ⟨_, rfl, .inl ⟨rfl, rfl⟩, K.out⟩
  · have b1 : decide ((m : Int) < 1) = false := decide_eq_false (by omega)
    have b2 : ¬ (m : Int) < 1 := by omega
    have g0 : (m : Int) ≠ 0 := by omega
    have g2 : (0 : Int) ≤ a := by omega
    have g3 : (0 : Int) ≤ b := by omega
    have E := Lib.hid (rem_raw a m)
    have F := Lib.hid (rem_raw b m)
    generalize a % m = r at *
    generalize b % m = s at *
    generalize (a : Int) = za at *
    generalize (b : Int) = zb at *
    generalize (m : Int) = zm at *
    rcases Nat.eq_zero_or_pos r with rfl | hr
    · have hs : ¬ (s : Int) = 0 := by omega
      have hs2 : ((s : Int) != 0) = true := by simpa using hs
      have hs3 : ((s : Int) == 0) = false := by simpa using hs
      clear hk hm ha2 hb2
      obtain ⟨e1, e2⟩ := E.out
      obtain ⟨f1, f2⟩ := F.out
      generalize (s : Int) = zs at *
      go_enter Try.func19, Try.ntmps19
      go_wp2_with fail
      refine (C1 _ J.out.below).out.mono ?_
      rintro e w1 ⟨rfl, hb⟩
      replace J := Lib.hid (J.out.step hb)
      clear hb
      obtain ⟨z0, z1, z2, zf, zt⟩ := J.out.tri (l1 := [])
      have K := Lib.hid (below_set3 (y0 := .int .i64 0) (y1 := .int .i64 0) (y2 := .slice none 0 0) J.out.below (Nat.le_succ w.heap.size))
      obtain ⟨d0, d1, d2, df, dt⟩ := J.out.tri (l1 := [_])
      clear J
      go_wp2_with fail
      exact bodyPost_ret (v := .tuple #[.agg #[.int .i64 0, .int .i64 0, .slice none 0 0], .int .i64 2]) (by simp [results, Try.results19, go_sem, z0, z1, z2]) rfl ⟨_, rfl, .inl ⟨rfl, rfl⟩, K.out⟩
    · have hs : ¬ (r : Int) = 0 := by omega
      have hs2 : ((r : Int) != 0) = true := by simpa using hs
      have hs3 : ((r : Int) == 0) = false := by simpa using hs
      clear hk hm ha2 hb2 hr
      obtain ⟨e1, e2⟩ := E.out
      generalize (r : Int) = zr at *
      go_enter Try.func19, Try.ntmps19
      go_wp2_with fail
      refine (C1 _ J.out.below).out.mono ?_
      rintro e w1 ⟨rfl, hb⟩
      replace J := Lib.hid (J.out.step hb)
      clear hb
      obtain ⟨z0, z1, z2, zf, zt⟩ := J.out.tri (l1 := [])
      have K := Lib.hid (below_set3 (y0 := .int .i64 0) (y1 := .int .i64 0) (y2 := .slice none 0 0) J.out.below (Nat.le_succ w.heap.size))
      obtain ⟨d0, d1, d2, df, dt⟩ := J.out.tri (l1 := [_])
      clear J
      go_wp2_with fail
      exact bodyPost_ret (v := .tuple #[.agg #[.int .i64 0, .int .i64 0, .slice none 0 0], .int .i64 2]) (by simp [results, Try.results19, go_sem, z0, z1, z2]) rfl ⟨_, rfl, .inl ⟨rfl, rfl⟩, K.out⟩

set_option maxRecDepth 100000 in
set_option maxHeartbeats 4000000 in
theorem rshrink_good {a b k p q : Nat} {v : Value} {l : List Px} {w : World} (h : Pxs w v l) (hv : Vld a b l) (hlb : ∀ z ∈ l, Byt z) (hk : 1 ≤ k) (hp : p * k = a) (hq : q * k = b) : Calls Try.prog 19 #[.agg #[.int .i64 (a : Int), .int .i64 (b : Int), v], .int .i64 (k : Int)] w (Outs p q (boxL a b l p q) 0 w) := by
  have H := Lib.hid h
  obtain ⟨A, c, rfl, _⟩ := h.shape
  have C1 := fun W (hb : Below w.heap.size w W) => Lib.hid (rvalid10_any a b (H.out.below hb))
  rw [hv.vBuf] at C1
  have J := Lib.hid (heldS w a b (.slice A l.length c))
  have ha1 := hv.a1
  have ha2 := hv.a2
  have hb1 := hv.b1
  have hb2 := hv.b2
  have hp1 : 1 ≤ p ∧ p ≤ 256 := by
    rcases Nat.eq_zero_or_pos p with h0 | h0
    · rw [h0, Nat.zero_mul] at hp; omega
    · exact ⟨h0, Nat.le_trans (Nat.le_mul_of_pos_right p hk) (by omega)⟩
  have hq1 : 1 ≤ q ∧ q ≤ 256 := by
    rcases Nat.eq_zero_or_pos q with h0 | h0
    · rw [h0, Nat.zero_mul] at hq; omega
    · exact ⟨h0, Nat.le_trans (Nat.le_mul_of_pos_right q hk) (by omega)⟩
  have C2 := fun W (hb : Below w.heap.size w W) => Lib.hid (rbox_good (H.out.below hb) hv hlb hp1 hq1)
  have b1 : decide ((k : Int) < 1) = false := decide_eq_false (by omega)
  have b2 : ¬ (k : Int) < 1 := by omega
  have g0 : (k : Int) ≠ 0 := by omega
  have g1 : k ≠ 0 := by omega
  have E := Lib.hid (rem_raw a k)
  have F := Lib.hid (rem_raw b k)
  have g2 : (0 : Int) ≤ a := by omega
  have g3 : (0 : Int) ≤ b := by omega
  rw [show a % k = 0 from by rw [← hp]; exact Nat.mul_mod_left _ _] at E
  rw [show b % k = 0 from by rw [← hq]; exact Nat.mul_mod_left _ _] at F
  have E2 := Lib.hid (quo_int p k a ha2 hk hp)
  have F2 := Lib.hid (quo_int q k b hb2 hk hq)
  unfold Outs at C2 ⊢
  generalize boxL a b l p q = O at *
  generalize l.length = n at *
  clear h hv hlb hp hq hp1 hq1 ha1 ha2 hb1 hb2 hk g1
  generalize (a : Int) = za at *
  generalize (b : Int) = zb at *
  generalize (k : Int) = zk at *
  obtain ⟨e1, e2⟩ := E.out
  obtain ⟨f1, f2⟩ := F.out
  go_enter Try.func19, Try.ntmps19
  go_wp2_with fail
  refine (C1 _ J.out.below).out.mono ?_
  rintro e w1 ⟨rfl, hb⟩
  replace J := Lib.hid (J.out.step hb)
  clear hb C1
  obtain ⟨d0, d1, d2, df, dt⟩ := J.out.tri (l1 := [_])
  go_wp2_with fail
  clear e1 e2 f1 f2 d0 d1 d2 df dt
  obtain ⟨e1, e2, e3, e4⟩ := E2.out
  obtain ⟨f1, f2, f3, f4⟩ := F2.out
  have hsz := J.out.below.size
  have hkm := (J.out.tri (l1 := [])).2.2.2.2
  replace J := Lib.hid J.out.drew
  have sk := J.out.three (l1 := [_])
  go_region_held3 (fun W => W.cell? ⟨w.heap.size, 0, none⟩ = some (.int .i64 za) ∧ W.cell? ⟨w.heap.size, 1, none⟩ = some (.int .i64 zb) ∧ W.cell? ⟨w.heap.size, 2, none⟩ = some (.slice A n c))
    (first
      | exact sk
      | exact sk4
      | go_keep)
    (first
      | (go_at_call 17; (with_reducible refine (C2 _ J.out.below).out.mono ?_); rintro e w2 ⟨v2, rfl, hr, hb⟩; obtain ⟨A2, c2, rfl, _⟩ := hr.pxs.shape; have Q := Lib.hid (hr.keep (w := w) (w2 := set3 w2 (w.heap.size + 1) (.int .i64 (p : Int)) (.int .i64 (q : Int)) (.slice A2 O.length c2)) J.out.below (fun g hg hR => hR.far (Nat.ne_of_gt (Nat.lt_of_lt_of_le hkm hg)) _ _ _)); replace J := Lib.hid (J.out.step hb); clear hb hr sk; have sk := J.out.three (l1 := [_]); obtain ⟨z0, z1, z2, zf, zt⟩ := J.out.tri (l1 := []); have K := Lib.hid (J.out.set3 (l1 := []) (.int .i64 (p : Int)) (.int .i64 (q : Int)) (.slice A2 O.length c2)); have sk4 := K.out.three (l1 := [_]); unfold set3 at sk4)
      | fail)
  all_goals
    go_wp2_with fail
    exact bodyPost_ret (v := .tuple #[.agg #[.int .i64 (p : Int), .int .i64 (q : Int), .slice A2 O.length c2], .int .i64 0]) (by simp [results, Try.results19, go_sem, z0, z1, z2]) rfl ⟨_, rfl, Q.out, K.out.below⟩

end Go.Proofs.Ytnkbejbpkjkgeaa
