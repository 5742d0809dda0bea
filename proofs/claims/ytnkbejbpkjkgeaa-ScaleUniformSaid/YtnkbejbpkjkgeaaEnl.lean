/-
  Enlarge of package scale, and the errors of its reference's.
-/
import Derived.Test.YtnkbejbpkjkgeaaShr
import Derived.Test.YtnkbejbpkjkgeaaRenl
namespace Go.Proofs.Ytnkbejbpkjkgeaa
open Go.RowKit


set_option maxRecDepth 100000 in
set_option maxHeartbeats 4000000 in
theorem enl_inv {a b k : Int} {v : Value} {l : List Px} {w : World} (h : Pxs w v l) (hv : vBuf a b l = false) : Calls Try.prog 20 #[.agg #[.int .i64 a, .int .i64 b, v], .int .i64 k] w (Outs 0 0 [] 15 w) := by
  have H := Lib.hid h
  obtain ⟨A, c, rfl, _⟩ := h.shape
  have C1 := fun W (hb : Below w.heap.size w W) => Lib.hid (valid_any a b (H.out.below hb))
  rw [hv] at C1
  have J := Lib.hid (heldS w a b (.slice A l.length c))
  unfold Outs
  generalize l.length = n at *
  clear h hv
  go_enter Try.func20, Try.ntmps20
  go_wp2_with fail
  refine (C1 _ J.out.below).out.mono ?_
  rintro e w1 ⟨rfl, hb⟩
  replace J := Lib.hid (J.out.step hb)
  clear hb
  obtain ⟨z0, z1, z2, zf, zt⟩ := J.out.tri (l1 := [])
  have K := Lib.hid (below_set3 (y0 := .int .i64 0) (y1 := .int .i64 0) (y2 := .slice none 0 0) J.out.below (Nat.le_succ w.heap.size))
  obtain ⟨d0, d1, d2, df, dt⟩ := J.out.tri (l1 := [_])
  clear J
  go_wp2_with fail
  exact bodyPost_ret (v := .tuple #[.agg #[.int .i64 0, .int .i64 0, .slice none 0 0], .int .i64 15]) (by simp [results, Try.results20, go_sem, z0, z1, z2]) rfl ⟨_, rfl, .inl ⟨rfl, rfl⟩, K.out⟩

set_option maxRecDepth 100000 in
set_option maxHeartbeats 4000000 in
theorem enl_arg {a b : Nat} {k : Int} {v : Value} {l : List Px} {w : World} (h : Pxs w v l) (hv : Vld a b l) (hk : k < 1) : Calls Try.prog 20 #[.agg #[.int .i64 (a : Int), .int .i64 (b : Int), v], .int .i64 k] w (Outs 0 0 [] 2 w) := by
  have H := Lib.hid h
  obtain ⟨A, c, rfl, _⟩ := h.shape
  have C1 := fun W (hb : Below w.heap.size w W) => Lib.hid (valid_any a b (H.out.below hb))
  rw [hv.vBuf] at C1
  have J := Lib.hid (heldS w a b (.slice A l.length c))
  unfold Outs
  generalize l.length = n at *
  clear h hv
  have b1 : decide (k < 1) = true := decide_eq_true hk
  go_enter Try.func20, Try.ntmps20
  go_wp2_with fail
  refine (C1 _ J.out.below).out.mono ?_
  rintro e w1 ⟨rfl, hb⟩
  replace J := Lib.hid (J.out.step hb)
  clear hb
  obtain ⟨z0, z1, z2, zf, zt⟩ := J.out.tri (l1 := [])
  have K := Lib.hid (below_set3 (y0 := .int .i64 0) (y1 := .int .i64 0) (y2 := .slice none 0 0) J.out.below (Nat.le_succ w.heap.size))
  obtain ⟨d0, d1, d2, df, dt⟩ := J.out.tri (l1 := [_])
  clear J
  go_wp2_with fail
  exact bodyPost_ret (v := .tuple #[.agg #[.int .i64 0, .int .i64 0, .slice none 0 0], .int .i64 2]) (by simp [results, Try.results20, go_sem, z0, z1, z2]) rfl ⟨_, rfl, .inl ⟨rfl, rfl⟩, K.out⟩

set_option maxRecDepth 100000 in
set_option maxHeartbeats 4000000 in
theorem renl_inv {a b k : Int} {v : Value} {l : List Px} {w : World} (h : Pxs w v l) (hv : vBuf a b l = false) : Calls Try.prog 21 #[.agg #[.int .i64 a, .int .i64 b, v], .int .i64 k] w (Outs 0 0 [] 15 w) := by
  have H := Lib.hid h
  obtain ⟨A, c, rfl, _⟩ := h.shape
  have C1 := fun W (hb : Below w.heap.size w W) => Lib.hid (rvalid10_any a b (H.out.below hb))
  rw [hv] at C1
  have J := Lib.hid (heldS w a b (.slice A l.length c))
  unfold Outs
  generalize l.length = n at *
  clear h hv
  go_enter Try.func21, Try.ntmps21
  go_wp2_with fail
  refine (C1 _ J.out.below).out.mono ?_
  rintro e w1 ⟨rfl, hb⟩
  replace J := Lib.hid (J.out.step hb)
  clear hb
  obtain ⟨z0, z1, z2, zf, zt⟩ := J.out.tri (l1 := [])
  have K := Lib.hid (below_set3 (y0 := .int .i64 0) (y1 := .int .i64 0) (y2 := .slice none 0 0) J.out.below (Nat.le_succ w.heap.size))
  obtain ⟨d0, d1, d2, df, dt⟩ := J.out.tri (l1 := [_])
  clear J
  go_wp2_with fail
  exact bodyPost_ret (v := .tuple #[.agg #[.int .i64 0, .int .i64 0, .slice none 0 0], .int .i64 15]) (by simp [results, Try.results21, go_sem, z0, z1, z2]) rfl ⟨_, rfl, .inl ⟨rfl, rfl⟩, K.out⟩

set_option maxRecDepth 100000 in
set_option maxHeartbeats 4000000 in
theorem renl_arg {a b : Nat} {k : Int} {v : Value} {l : List Px} {w : World} (h : Pxs w v l) (hv : Vld a b l) (hk : k < 1) : Calls Try.prog 21 #[.agg #[.int .i64 (a : Int), .int .i64 (b : Int), v], .int .i64 k] w (Outs 0 0 [] 2 w) := by
  have H := Lib.hid h
  obtain ⟨A, c, rfl, _⟩ := h.shape
  have C1 := fun W (hb : Below w.heap.size w W) => Lib.hid (rvalid10_any a b (H.out.below hb))
  rw [hv.vBuf] at C1
  have J := Lib.hid (heldS w a b (.slice A l.length c))
  unfold Outs
  generalize l.length = n at *
  clear h hv
  have b1 : decide (k < 1) = true := decide_eq_true hk
  go_enter Try.func21, Try.ntmps21
  go_wp2_with fail
  refine (C1 _ J.out.below).out.mono ?_
  rintro e w1 ⟨rfl, hb⟩
  replace J := Lib.hid (J.out.step hb)
  clear hb
  obtain ⟨z0, z1, z2, zf, zt⟩ := J.out.tri (l1 := [])
  have K := Lib.hid (below_set3 (y0 := .int .i64 0) (y1 := .int .i64 0) (y2 := .slice none 0 0) J.out.below (Nat.le_succ w.heap.size))
  obtain ⟨d0, d1, d2, df, dt⟩ := J.out.tri (l1 := [_])
  clear J
  go_wp2_with fail
  exact bodyPost_ret (v := .tuple #[.agg #[.int .i64 0, .int .i64 0, .slice none 0 0], .int .i64 2]) (by simp [results, Try.results21, go_sem, z0, z1, z2]) rfl ⟨_, rfl, .inl ⟨rfl, rfl⟩, K.out⟩


/-- the greatest factor -/
theorem fac_int {a b : Nat} (ha1 : 1 ≤ a) (ha2 : a ≤ 256) (hb1 : 1 ≤ b) (hb2 : b ≤ 256) : ∃ zq : Int, (256 : Int).tdiv (max (a : Int) (b : Int)) = zq ∧ 256 / max (a : Int) (b : Int) = zq ∧ 1 ≤ zq ∧ zq ≤ 256 ∧ ∀ k : Nat, ((k : Int) ≤ zq ↔ a * k ≤ 256 ∧ b * k ≤ 256) := by
  obtain ⟨m, hm⟩ : ∃ m : Nat, max a b = m := ⟨_, rfl⟩
  have e : max (a : Int) (b : Int) = (m : Int) := by omega
  have hm1 : 1 ≤ m := by omega
  have hm2 : m ≤ 256 := by omega
  have e2 : (256 : Int) / (m : Int) = ((256 / m : Nat) : Int) := by rw [Int.natCast_ediv]; rfl
  have h1 : 1 ≤ 256 / m := (Nat.le_div_iff_mul_le hm1).2 (by omega)
  have h2 : 256 / m ≤ 256 := Nat.div_le_self _ _
  refine ⟨((256 / m : Nat) : Int), by rw [e, Int.tdiv_eq_ediv_of_nonneg (by omega), e2], by rw [e, e2], by omega, by omega, fun k => ?_⟩
  have h3 : k ≤ 256 / m ↔ k * m ≤ 256 := Nat.le_div_iff_mul_le hm1
  have h4 : (k : Int) ≤ ((256 / m : Nat) : Int) ↔ k ≤ 256 / m := Int.ofNat_le
  rw [h4, h3]
  constructor
  · intro h
    have g1 : a * k ≤ k * m := by rw [Nat.mul_comm]; exact Nat.mul_le_mul_left k (by omega)
    have g2 : b * k ≤ k * m := by rw [Nat.mul_comm]; exact Nat.mul_le_mul_left k (by omega)
    omega
  · rintro ⟨g1, g2⟩
    rcases (by omega : m = a ∨ m = b) with h | h
    · rw [h, Nat.mul_comm]; exact g1
    · rw [h, Nat.mul_comm]; exact g2

set_option maxRecDepth 100000 in
set_option maxHeartbeats 4000000 in
theorem enl_lim {a b k : Nat} {v : Value} {l : List Px} {w : World} (h : Pxs w v l) (hv : Vld a b l) (hk : 1 ≤ k) (hbig : ¬ (a * k ≤ 256 ∧ b * k ≤ 256)) : Calls Try.prog 20 #[.agg #[.int .i64 (a : Int), .int .i64 (b : Int), v], .int .i64 (k : Int)] w (Outs 0 0 [] 5 w) := by
  have H := Lib.hid h
  obtain ⟨A, c, rfl, _⟩ := h.shape
  have C1 := fun W (hb : Below w.heap.size w W) => Lib.hid (valid_any a b (H.out.below hb))
  rw [hv.vBuf] at C1
  have J := Lib.hid (heldS w a b (.slice A l.length c))
  have ha1 := hv.a1
  have hb1 := hv.b1
  obtain ⟨zq, q1, q2, q3, q4, q5⟩ := fac_int ha1 hv.a2 hb1 hv.b2
  have hlt : zq < (k : Int) := by
    have h5 := q5 k
    rcases Int.lt_or_le zq (k : Int) with h6 | h6
    · exact h6
    · exact absurd (h5.1 h6) hbig
  have g0 : max (a : Int) (b : Int) ≠ 0 := by omega
  have g1 : 0 ≤ max (a : Int) (b : Int) := by omega
  have b1 : decide ((k : Int) < 1) = false := decide_eq_false (by omega)
  have b2 : ¬ (k : Int) < 1 := by omega
  have b3 : decide (zq < (k : Int)) = true := decide_eq_true hlt
  have E := Lib.hid (show wrap64 zq = zq ∧ IntKind.i64.wrap zq = zq from ⟨IntWalk.wrap64_in _ (by omega), IntWalk.i64_in _ (by omega)⟩)
  unfold Outs
  generalize l.length = n at *
  clear h hv hbig hk ha1 hb1 q5 q3 q4
  generalize (a : Int) = za at *
  generalize (b : Int) = zb at *
  generalize (k : Int) = zk at *
  obtain ⟨e1, e2⟩ := E.out
  go_enter Try.func20, Try.ntmps20
  go_wp2_with fail
  refine (C1 _ J.out.below).out.mono ?_
  rintro e w1 ⟨rfl, hb⟩
  replace J := Lib.hid (J.out.step hb)
  clear hb
  obtain ⟨z0, z1, z2, zf, zt⟩ := J.out.tri (l1 := [])
  have K := Lib.hid (below_set3 (y0 := .int .i64 0) (y1 := .int .i64 0) (y2 := .slice none 0 0) J.out.below (Nat.le_succ w.heap.size))
  obtain ⟨d0, d1, d2, df, dt⟩ := J.out.tri (l1 := [_])
  clear J
  go_wp2_with fail
  exact bodyPost_ret (v := .tuple #[.agg #[.int .i64 0, .int .i64 0, .slice none 0 0], .int .i64 5]) (by simp [results, Try.results20, go_sem, z0, z1, z2]) rfl ⟨_, rfl, .inl ⟨rfl, rfl⟩, K.out⟩

set_option maxRecDepth 100000 in
set_option maxHeartbeats 4000000 in
theorem enl_good {a b k p q : Nat} {v : Value} {l : List Px} {w : World} (h : Pxs w v l) (hv : Vld a b l) (hlb : ∀ z ∈ l, Byt z) (hk : 1 ≤ k) (hp : a * k = p) (hq : b * k = q) (hp2 : p ≤ 256) (hq2 : q ≤ 256) : Calls Try.prog 20 #[.agg #[.int .i64 (a : Int), .int .i64 (b : Int), v], .int .i64 (k : Int)] w (Outs p q (enlL a b l k) 0 w) := by
  have H := Lib.hid h
  obtain ⟨A, c, rfl, _⟩ := h.shape
  have C1 := fun W (hb : Below w.heap.size w W) => Lib.hid (valid_any a b (H.out.below hb))
  rw [hv.vBuf] at C1
  have J := Lib.hid (heldS w a b (.slice A l.length c))
  have ha1 := hv.a1
  have hb1 := hv.b1
  obtain ⟨zq, q1, q2, q3, q4, q5⟩ := fac_int ha1 hv.a2 hb1 hv.b2
  have hle : (k : Int) ≤ zq := (q5 k).2 (by omega)
  have C2 := fun W (hb : Below w.heap.size w W) => Lib.hid (near_good (p := p) (q := q) (H.out.below hb) hv hlb ⟨by rw [← hp]; exact pos_mul ha1 hk, hp2⟩ ⟨by rw [← hq]; exact pos_mul hb1 hk, hq2⟩)
  rw [show nearL a b l p q = enlL a b l k from by rw [← hp, ← hq]; exact near_enl hv hk] at C2
  have g0 : max (a : Int) (b : Int) ≠ 0 := by omega
  have g1 : 0 ≤ max (a : Int) (b : Int) := by omega
  have b1 : decide ((k : Int) < 1) = false := decide_eq_false (by omega)
  have b2 : ¬ (k : Int) < 1 := by omega
  have hle2 : ¬ zq < (k : Int) := by omega
  have b3 : decide (zq < (k : Int)) = false := decide_eq_false hle2
  have E := Lib.hid (show wrap64 zq = zq ∧ IntKind.i64.wrap zq = zq ∧ wrap64 ((a : Int) * (k : Int)) = (p : Int) ∧ wrap64 ((b : Int) * (k : Int)) = (q : Int) ∧ IntKind.i64.wrap ((a : Int) * (k : Int)) = (p : Int) ∧ IntKind.i64.wrap ((b : Int) * (k : Int)) = (q : Int) from by
    rw [← Int.natCast_mul, ← Int.natCast_mul, hp, hq]
    exact ⟨IntWalk.wrap64_in _ (by omega), IntWalk.i64_in _ (by omega), IntWalk.wrap64_in _ (by omega), IntWalk.wrap64_in _ (by omega), IntWalk.i64_in _ (by omega), IntWalk.i64_in _ (by omega)⟩)
  unfold Outs at C2 ⊢
  generalize l.length = n at *
  generalize enlL a b l k = O at *
  clear h hv hk ha1 hb1 q5 q3 q4 hle hp hq hlb hp2 hq2
  generalize (a : Int) = za at *
  generalize (b : Int) = zb at *
  generalize (k : Int) = zk at *
  obtain ⟨e1, e2, e3, e4, e5, e6⟩ := E.out
  go_enter Try.func20, Try.ntmps20
  go_wp2_with fail
  refine (C1 _ J.out.below).out.mono ?_
  rintro e w1 ⟨rfl, hb⟩
  replace J := Lib.hid (J.out.step hb)
  clear hb
  obtain ⟨d0, d1, d2, df, dt⟩ := J.out.tri (l1 := [_])
  go_wp2_with fail
  have hkm := (J.out.tri (l1 := [])).2.2.2.2
  refine (C2 _ J.out.below).out.mono ?_
  rintro e w2 ⟨v2, rfl, hr, hb⟩
  obtain ⟨A2, c2, rfl, _⟩ := hr.pxs.shape
  have Q := Lib.hid (hr.keep (w := w) (w2 := set3 w2 (w.heap.size + 1) (.int .i64 (p : Int)) (.int .i64 (q : Int)) (.slice A2 O.length c2)) J.out.below (fun g hg hR => hR.far (Nat.ne_of_gt (Nat.lt_of_lt_of_le hkm hg)) _ _ _))
  replace J := Lib.hid (J.out.step hb)
  clear hb hr d0 d1 d2 df dt e1 e2 e3 e4 e5 e6 C1 C2
  obtain ⟨z0, z1, z2, zf, zt⟩ := J.out.tri (l1 := [])
  have K := Lib.hid (J.out.set3 (l1 := []) (.int .i64 (p : Int)) (.int .i64 (q : Int)) (.slice A2 O.length c2))
  go_wp2_with fail
  exact bodyPost_ret (v := .tuple #[.agg #[.int .i64 (p : Int), .int .i64 (q : Int), .slice A2 O.length c2], .int .i64 0]) (by simp [results, Try.results20, go_sem, z0, z1, z2]) rfl ⟨_, rfl, Q.out, K.out.below⟩

set_option maxRecDepth 100000 in
set_option maxHeartbeats 4000000 in
theorem renl_lim {a b k : Nat} {v : Value} {l : List Px} {w : World} (h : Pxs w v l) (hv : Vld a b l) (hk : 1 ≤ k) (hbig : ¬ (a * k ≤ 256 ∧ b * k ≤ 256)) : Calls Try.prog 21 #[.agg #[.int .i64 (a : Int), .int .i64 (b : Int), v], .int .i64 (k : Int)] w (Outs 0 0 [] 5 w) := by
  have H := Lib.hid h
  obtain ⟨A, c, rfl, _⟩ := h.shape
  have C1 := fun W (hb : Below w.heap.size w W) => Lib.hid (rvalid10_any a b (H.out.below hb))
  rw [hv.vBuf] at C1
  have J := Lib.hid (heldS w a b (.slice A l.length c))
  have b1 : decide ((k : Int) < 1) = false := decide_eq_false (by omega)
  have b2 : ¬ (k : Int) < 1 := by omega
  have ha2 := hv.a2
  have hb2 := hv.b2
  unfold Outs
  generalize l.length = n at *
  by_cases h1 : (256 : Int) < k
  · have c1 : decide ((256 : Int) < k) = true := decide_eq_true h1
    clear h hv hbig hk
    generalize (a : Int) = za at *
    generalize (b : Int) = zb at *
    generalize (k : Int) = zk at *
    go_enter Try.func21, Try.ntmps21
    go_wp2_with fail
    refine (C1 _ J.out.below).out.mono ?_
    rintro e w1 ⟨rfl, hb⟩
    replace J := Lib.hid (J.out.step hb)
    clear hb
    obtain ⟨z0, z1, z2, zf, zt⟩ := J.out.tri (l1 := [])
    have K := Lib.hid (below_set3 (y0 := .int .i64 0) (y1 := .int .i64 0) (y2 := .slice none 0 0) J.out.below (Nat.le_succ w.heap.size))
    obtain ⟨d0, d1, d2, df, dt⟩ := J.out.tri (l1 := [_])
    clear J
    go_wp2_with fail
    exact bodyPost_ret (v := .tuple #[.agg #[.int .i64 0, .int .i64 0, .slice none 0 0], .int .i64 5]) (by simp [results, Try.results21, go_sem, z0, z1, z2]) rfl ⟨_, rfl, .inl ⟨rfl, rfl⟩, K.out⟩
  · have c1 : decide ((256 : Int) < k) = false := decide_eq_false h1
    have m1 : a * k ≤ 65536 := mul_small ha2 (by omega)
    have m2 : b * k ≤ 65536 := mul_small hb2 (by omega)
    obtain ⟨p, hp⟩ : ∃ p, a * k = p := ⟨_, rfl⟩
    obtain ⟨q, hq⟩ : ∃ q, b * k = q := ⟨_, rfl⟩
    have E := Lib.hid (show wrap64 ((a : Int) * (k : Int)) = (p : Int) ∧ wrap64 ((b : Int) * (k : Int)) = (q : Int) ∧ IntKind.i64.wrap ((a : Int) * (k : Int)) = (p : Int) ∧ IntKind.i64.wrap ((b : Int) * (k : Int)) = (q : Int) from by
      rw [← Int.natCast_mul, ← Int.natCast_mul, hp, hq]
      exact ⟨IntWalk.wrap64_in _ (by omega), IntWalk.wrap64_in _ (by omega), IntWalk.i64_in _ (by omega), IntWalk.i64_in _ (by omega)⟩)
    rw [hp, hq] at hbig
    by_cases h2 : (256 : Int) < p
    · have c2 : decide ((256 : Int) < p) = true := decide_eq_true h2
      clear h hv hbig hk ha2 hb2 m1 m2 hp hq
      generalize (a : Int) = za at *
      generalize (b : Int) = zb at *
      generalize (k : Int) = zk at *
      generalize (p : Int) = zp at *
      obtain ⟨e1, e2, e3, e4⟩ := E.out
      go_enter Try.func21, Try.ntmps21
      go_wp2_with fail
      refine (C1 _ J.out.below).out.mono ?_
      rintro e w1 ⟨rfl, hb⟩
      replace J := Lib.hid (J.out.step hb)
      clear hb
      obtain ⟨z0, z1, z2, zf, zt⟩ := J.out.tri (l1 := [])
      have K := Lib.hid (below_set3 (y0 := .int .i64 0) (y1 := .int .i64 0) (y2 := .slice none 0 0) J.out.below (Nat.le_succ w.heap.size))
      obtain ⟨d0, d1, d2, df, dt⟩ := J.out.tri (l1 := [_])
      clear J
      go_wp2_with fail
      exact bodyPost_ret (v := .tuple #[.agg #[.int .i64 0, .int .i64 0, .slice none 0 0], .int .i64 5]) (by simp [results, Try.results21, go_sem, z0, z1, z2]) rfl ⟨_, rfl, .inl ⟨rfl, rfl⟩, K.out⟩
    · have c2 : decide ((256 : Int) < p) = false := decide_eq_false h2
      have h3 : (256 : Int) < q := by omega
      have c3 : decide ((256 : Int) < q) = true := decide_eq_true h3
      clear h hv hbig hk ha2 hb2 m1 m2 hp hq
      generalize (a : Int) = za at *
      generalize (b : Int) = zb at *
      generalize (k : Int) = zk at *
      generalize (p : Int) = zp at *
      generalize (q : Int) = zq at *
      obtain ⟨e1, e2, e3, e4⟩ := E.out
      go_enter Try.func21, Try.ntmps21
      go_wp2_with fail
      refine (C1 _ J.out.below).out.mono ?_
      rintro e w1 ⟨rfl, hb⟩
      replace J := Lib.hid (J.out.step hb)
      clear hb
      obtain ⟨z0, z1, z2, zf, zt⟩ := J.out.tri (l1 := [])
      have K := Lib.hid (below_set3 (y0 := .int .i64 0) (y1 := .int .i64 0) (y2 := .slice none 0 0) J.out.below (Nat.le_succ w.heap.size))
      obtain ⟨d0, d1, d2, df, dt⟩ := J.out.tri (l1 := [_])
      clear J
      go_wp2_with fail
      exact bodyPost_ret (v := .tuple #[.agg #[.int .i64 0, .int .i64 0, .slice none 0 0], .int .i64 5]) (by simp [results, Try.results21, go_sem, z0, z1, z2]) rfl ⟨_, rfl, .inl ⟨rfl, rfl⟩, K.out⟩

end Go.Proofs.Ytnkbejbpkjkgeaa
