/-
  At of package buffer and of the reference; small of the laws.
-/
import Derived.Test.YtahhcklkcibgoaaVali
import Derived.Test.YtahhcklkcibgoaaRect
namespace Go.Proofs.Ytahhcklkcibgoaa
open Go.RowKit

theorem con_fr {a b x y : Int} (h : sizB a b = true) : conB ⟨0, 0, a, b⟩ x y = (decide (0 ≤ x) && decide (x < a) && (decide (0 ≤ y) && decide (y < b))) := by
  obtain ⟨h0, h1⟩ := siz_iff.1 h
  have hv : vldB ⟨0, 0, a, b⟩ = true := (vld_iff _).2 ⟨by simp, by simp, by simp only; omega, by simp only; omega⟩
  unfold conB
  rw [hv, Bool.true_and, Bool.and_assoc]

theorem at_no {a b : Int} (l : List Px) (x y : Int) (h : sizB a b = false) : atB a b l x y = zeroPx := by unfold atB; rw [h]; simp
theorem at_out {a b : Int} (l : List Px) {x y : Int} (h : (decide (0 ≤ x) && decide (x < a) && (decide (0 ≤ y) && decide (y < b))) = false) : atB a b l x y = zeroPx := by unfold atB; rw [h]; simp
theorem at_far {a b : Int} {l : List Px} {x y : Int} (h : ¬ y * a + x < l.length) : atB a b l x y = zeroPx := by unfold atB; rw [decide_eq_false h]; simp
theorem at_get {a b : Int} {l : List Px} {x y : Int} (h : sizB a b = true) (h1 : (decide (0 ≤ x) && decide (x < a) && (decide (0 ≤ y) && decide (y < b))) = true) (h2 : y * a + x < l.length) : atB a b l x y = l.getD (y * a + x).toNat zeroPx := by
  unfold atB
  rw [h, h1, decide_eq_true h2]
  simp

theorem idx_int {a b x y : Int} (h : sizB a b = true) (h1 : (decide (0 ≤ x) && decide (x < a) && (decide (0 ≤ y) && decide (y < b))) = true) : (0 ≤ x ∧ x < a) ∧ (0 ≤ y ∧ y < b) ∧ (0 ≤ y * a ∧ y * a ≤ 65536) := by
  obtain ⟨g0, g1⟩ := siz_iff.1 h
  simp only [Bool.and_eq_true, decide_eq_true_eq] at h1
  have h3 := Int.mul_nonneg h1.2.1 (show 0 ≤ a by omega)
  have h4 := Int.mul_le_mul (show y ≤ 256 by omega) (show a ≤ 256 by omega) (by omega) (by omega)
  omega

/-- the boxes of a buffer and of a pixel -/
abbrev W2 (w : World) (a b : Int) (v : Value) : World := (w.alloc (.cells #[.int .i64 a, .int .i64 b, v] 24)).alloc (.cells #[.int .u8 0, .int .u8 0, .int .u8 0, .int .u8 0] 30)

theorem held2 (w : World) (a b : Int) (v : Value) : Held w (W2 w a b v) [(w.heap.size + 1, [.int .u8 0, .int .u8 0, .int .u8 0, .int .u8 0]), (w.heap.size, [.int .i64 a, .int .i64 b, v])] := by
  have h := ((Held.nil w).alloc [.int .i64 a, .int .i64 b, v] 24).alloc [.int .u8 0, .int .u8 0, .int .u8 0, .int .u8 0] 30
  rw [World.size_alloc] at h
  exact h

set_option maxRecDepth 100000 in
set_option maxHeartbeats 4000000 in
theorem at_any (a b : Int) {v : Value} {l : List Px} (x y : Int) {w : World} (h : Pxs w v l) : Calls Try.prog 17 #[.agg #[.int .i64 a, .int .i64 b, v], .int .i64 x, .int .i64 y] w (GivesP (atB a b l x y) w) := by
  have HU := Lib.hid h
  obtain ⟨A, c, rfl, hc, hm, hcell⟩ := h
  simp only [maxLen] at hm
  have HC := Lib.hid hcell
  obtain ⟨n, hn⟩ : ∃ n, l.length = n := ⟨_, rfl⟩
  have HN := Lib.hid hn
  rw [hn] at hc HU ⊢
  clear hcell hn
  have J := Lib.hid (held2 w a b (.slice A n c))
  have C1 := fun W => Lib.hid (vsize_any a b W)
  have C2 := fun W => Lib.hid (frame_any a b A n c W)
  have C3 : ∀ W, Hid (Calls Try.prog 43 #[.agg #[.int .i64 0, .int .i64 0, .int .i64 a, .int .i64 b], .int .i64 x, .int .i64 y] W fun e w' => e = .returned (.bool (conB ⟨0, 0, a, b⟩ x y)) ∧ Below W.heap.size W w') := fun W => Lib.hid (contains_any ⟨0, 0, a, b⟩ x y W)
  unfold GivesP
  cases h0 : sizB a b
  · rw [at_no l x y h0]
    rw [h0] at C1
    obtain ⟨u0, u1, u2, u3, _⟩ := J.out.four (l1 := [])
    have K := Lib.hid (below_set4 (x0 := .int .u8 0) (x1 := .int .u8 0) (x2 := .int .u8 0) (x3 := .int .u8 0) J.out.below (Nat.le_succ w.heap.size))
    clear h0
    go_enter Try.func17, Try.ntmps17
    go_wp2_with (go_at_call 39; (with_reducible refine (C1 _).out.mono ?_); rintro e wq ⟨rfl, rfl⟩)
    exact bodyPost_ret (v := .agg #[.int .u8 (zeroPx.r : Int), .int .u8 (zeroPx.g : Int), .int .u8 (zeroPx.b : Int), .int .u8 (zeroPx.a : Int)]) (by simp [results, Try.results17, go_sem, zeroPx]) rfl ⟨rfl, J.out.below⟩
  · rw [h0] at C1
    rw [con_fr h0] at C3
    obtain ⟨res, hres⟩ : ∃ res, (decide (0 ≤ x) && decide (x < a) && (decide (0 ≤ y) && decide (y < b))) = res := ⟨_, rfl⟩
    rw [hres] at C3
    cases res with
    | false =>
      rw [at_out l hres]
      clear h0 hres
      go_enter Try.func17, Try.ntmps17
      go_wp2_with fail
      refine (C1 _).out.mono ?_
      rintro e wq ⟨rfl, rfl⟩
      go_wp2_with fail
      refine (C2 _).out.mono ?_
      rintro e w1 ⟨rfl, hb⟩
      replace J := Lib.hid (J.out.step hb)
      clear hb
      go_wp2_with fail
      refine (C3 _).out.mono ?_
      rintro e w2 ⟨rfl, hb⟩
      replace J := Lib.hid (J.out.step hb)
      clear hb
      obtain ⟨u0, u1, u2, u3, uf, ut⟩ := J.out.four (l1 := [])
      have K := Lib.hid (below_set4 (x0 := .int .u8 0) (x1 := .int .u8 0) (x2 := .int .u8 0) (x3 := .int .u8 0) J.out.below (Nat.le_succ w.heap.size))
      clear J
      go_wp2_with fail
      exact bodyPost_ret (v := .agg #[.int .u8 (zeroPx.r : Int), .int .u8 (zeroPx.g : Int), .int .u8 (zeroPx.b : Int), .int .u8 (zeroPx.a : Int)]) (by simp [results, Try.results17, go_sem, zeroPx, u0, u1, u2, u3]) rfl ⟨rfl, K.out⟩
    | true =>
      obtain ⟨⟨g0, g1⟩, ⟨g2, g3⟩, g4, g5⟩ := idx_int h0 hres
      obtain ⟨s0, s1⟩ := siz_iff.1 h0
      by_cases hfar : y * a + x < l.length
      · have hr := at_get h0 hres hfar
        obtain ⟨k, hk⟩ : ∃ k : Nat, y * a + x = k := ⟨(y * a + x).toNat, by omega⟩
        rw [hk, Int.toNat_natCast] at hr
        rw [hr]
        have hkn : k < n := by have := HN.out; omega
        have hpx := get_of (l := l) (k := k) (by omega)
        obtain ⟨bb, off, rfl, hbb, hcs⟩ := HC.out (by omega)
        obtain ⟨d0, d1, d2, d3⟩ := hcs k _ hpx
        have HD := Lib.hid (show At4 w bb off k (l.getD k zeroPx) from ⟨d0, d1, d2, d3⟩)
        generalize l.getD k zeroPx = p at *
        obtain ⟨M, hM⟩ : ∃ M, y * a = M := ⟨_, rfl⟩
        rw [hM] at hk g4 g5
        have hw1 : wrap64 (y * a) = M := by rw [hM]; exact IntWalk.wrap64_in _ (by omega)
        have hw2 : wrap64 (M + x) = (k : Int) := by rw [← hk]; exact IntWalk.wrap64_in _ (by omega)
        have q0 : (0 : Int) ≤ k := by omega
        have q1 : (k : Int) < n := by omega
        have q2 : ¬ (n : Int) ≤ k := by omega
        clear d0 d1 d2 d3 hcs hr hpx hfar hres h0 hM hk g4 g5
        go_enter Try.func17, Try.ntmps17
        go_wp2_with fail
        refine (C1 _).out.mono ?_
        rintro e wq ⟨rfl, rfl⟩
        go_wp2_with fail
        refine (C2 _).out.mono ?_
        rintro e w1 ⟨rfl, hb⟩
        replace J := Lib.hid (J.out.step hb)
        clear hb
        go_wp2_with fail
        refine (C3 _).out.mono ?_
        rintro e w2 ⟨rfl, hb⟩
        replace J := Lib.hid (J.out.step hb)
        clear hb
        obtain ⟨u0, u1, u2, u3, uf, ut⟩ := J.out.four (l1 := [])
        obtain ⟨t0, t1, t2, _, _⟩ := J.out.tri (l1 := [_])
        have K := Lib.hid (below_set4 (x0 := .int .u8 (p.r : Int)) (x1 := .int .u8 (p.g : Int)) (x2 := .int .u8 (p.b : Int)) (x3 := .int .u8 (p.a : Int)) J.out.below (Nat.le_succ w.heap.size))
        obtain ⟨c0, c1, c2, c3⟩ := HD.out.keep J.out.below hbb
        clear J
        go_wp2_with fail
        exact bodyPost_ret (v := .agg #[.int .u8 (p.r : Int), .int .u8 (p.g : Int), .int .u8 (p.b : Int), .int .u8 (p.a : Int)]) (by simp [results, Try.results17, go_sem, u0, u1, u2, u3]) rfl ⟨rfl, K.out⟩
      · rw [at_far hfar]
        obtain ⟨k, hk⟩ : ∃ k : Nat, y * a + x = k := ⟨(y * a + x).toNat, by omega⟩
        obtain ⟨M, hM⟩ : ∃ M, y * a = M := ⟨_, rfl⟩
        have hkn : ¬ k < n := by have := HN.out; omega
        rw [hM] at hk g4 g5
        have hw1 : wrap64 (y * a) = M := by rw [hM]; exact IntWalk.wrap64_in _ (by omega)
        have hw2 : wrap64 (M + x) = (k : Int) := by rw [← hk]; exact IntWalk.wrap64_in _ (by omega)
        have q2 : (n : Int) ≤ k := by omega
        clear hfar hres h0 hM hk g4 g5
        go_enter Try.func17, Try.ntmps17
        go_wp2_with fail
        refine (C1 _).out.mono ?_
        rintro e wq ⟨rfl, rfl⟩
        go_wp2_with fail
        refine (C2 _).out.mono ?_
        rintro e w1 ⟨rfl, hb⟩
        replace J := Lib.hid (J.out.step hb)
        clear hb
        go_wp2_with fail
        refine (C3 _).out.mono ?_
        rintro e w2 ⟨rfl, hb⟩
        replace J := Lib.hid (J.out.step hb)
        clear hb
        obtain ⟨u0, u1, u2, u3, uf, ut⟩ := J.out.four (l1 := [])
        obtain ⟨t0, t1, t2, _, _⟩ := J.out.tri (l1 := [_])
        have K := Lib.hid (below_set4 (x0 := .int .u8 0) (x1 := .int .u8 0) (x2 := .int .u8 0) (x3 := .int .u8 0) J.out.below (Nat.le_succ w.heap.size))
        clear J
        go_wp2_with fail
        exact bodyPost_ret (v := .agg #[.int .u8 (zeroPx.r : Int), .int .u8 (zeroPx.g : Int), .int .u8 (zeroPx.b : Int), .int .u8 (zeroPx.a : Int)]) (by simp [results, Try.results17, go_sem, zeroPx, u0, u1, u2, u3]) rfl ⟨rfl, K.out⟩

set_option maxRecDepth 100000 in
set_option maxHeartbeats 4000000 in
theorem rat_any (a b : Int) {v : Value} {l : List Px} (x y : Int) {w : World} (h : Pxs w v l) : Calls Try.prog 18 #[.agg #[.int .i64 a, .int .i64 b, v], .int .i64 x, .int .i64 y] w (GivesP (atB a b l x y) w) := by
  have HU := Lib.hid h
  obtain ⟨A, c, rfl, hc, hm, hcell⟩ := h
  simp only [maxLen] at hm
  have HC := Lib.hid hcell
  obtain ⟨n, hn⟩ : ∃ n, l.length = n := ⟨_, rfl⟩
  have HN := Lib.hid hn
  rw [hn] at hc HU ⊢
  clear hcell hn
  have J := Lib.hid (held2 w a b (.slice A n c))
  have C1 := fun W => Lib.hid (rsize_any a b W)
  unfold GivesP
  cases h0 : sizB a b
  · rw [at_no l x y h0]
    rw [h0] at C1
    clear h0
    go_enter Try.func18, Try.ntmps18
    go_wp2_with (go_at_call 41; (with_reducible refine (C1 _).out.mono ?_); rintro e wq ⟨rfl, rfl⟩)
    exact bodyPost_ret (v := .agg #[.int .u8 (zeroPx.r : Int), .int .u8 (zeroPx.g : Int), .int .u8 (zeroPx.b : Int), .int .u8 (zeroPx.a : Int)]) (by simp [results, Try.results18, go_sem, zeroPx]) rfl ⟨rfl, J.out.below⟩
  · rw [h0] at C1
    obtain ⟨res, hres⟩ : ∃ res, (decide (0 ≤ x) && decide (x < a) && (decide (0 ≤ y) && decide (y < b))) = res := ⟨_, rfl⟩
    cases res with
    | false =>
      rw [at_out l hres]
      clear h0
      by_cases g0 : x < 0
      · clear hres
        go_enter Try.func18, Try.ntmps18
        go_wp2_with (go_at_call 41; (with_reducible refine (C1 _).out.mono ?_); rintro e wq ⟨rfl, rfl⟩)
        exact bodyPost_ret (v := .agg #[.int .u8 (zeroPx.r : Int), .int .u8 (zeroPx.g : Int), .int .u8 (zeroPx.b : Int), .int .u8 (zeroPx.a : Int)]) (by simp [results, Try.results18, go_sem, zeroPx]) rfl ⟨rfl, J.out.below⟩
      · by_cases g1 : a ≤ x
        · clear hres
          go_enter Try.func18, Try.ntmps18
          go_wp2_with (go_at_call 41; (with_reducible refine (C1 _).out.mono ?_); rintro e wq ⟨rfl, rfl⟩)
          exact bodyPost_ret (v := .agg #[.int .u8 (zeroPx.r : Int), .int .u8 (zeroPx.g : Int), .int .u8 (zeroPx.b : Int), .int .u8 (zeroPx.a : Int)]) (by simp [results, Try.results18, go_sem, zeroPx]) rfl ⟨rfl, J.out.below⟩
        · by_cases g2 : y < 0
          · clear hres
            go_enter Try.func18, Try.ntmps18
            go_wp2_with (go_at_call 41; (with_reducible refine (C1 _).out.mono ?_); rintro e wq ⟨rfl, rfl⟩)
            exact bodyPost_ret (v := .agg #[.int .u8 (zeroPx.r : Int), .int .u8 (zeroPx.g : Int), .int .u8 (zeroPx.b : Int), .int .u8 (zeroPx.a : Int)]) (by simp [results, Try.results18, go_sem, zeroPx]) rfl ⟨rfl, J.out.below⟩
          · have g3 : b ≤ y := by
              simp only [Bool.and_eq_false_iff, decide_eq_false_iff_not] at hres
              omega
            clear hres
            go_enter Try.func18, Try.ntmps18
            go_wp2_with (go_at_call 41; (with_reducible refine (C1 _).out.mono ?_); rintro e wq ⟨rfl, rfl⟩)
            exact bodyPost_ret (v := .agg #[.int .u8 (zeroPx.r : Int), .int .u8 (zeroPx.g : Int), .int .u8 (zeroPx.b : Int), .int .u8 (zeroPx.a : Int)]) (by simp [results, Try.results18, go_sem, zeroPx]) rfl ⟨rfl, J.out.below⟩
    | true =>
      obtain ⟨⟨g0, g1⟩, ⟨g2, g3⟩, g4, g5⟩ := idx_int h0 hres
      obtain ⟨s0, s1⟩ := siz_iff.1 h0
      have r0 : ¬ x < 0 := by omega
      have r1 : ¬ a ≤ x := by omega
      have r2 : ¬ y < 0 := by omega
      have r3 : ¬ b ≤ y := by omega
      by_cases hfar : y * a + x < l.length
      · have hr := at_get h0 hres hfar
        obtain ⟨k, hk⟩ : ∃ k : Nat, y * a + x = k := ⟨(y * a + x).toNat, by omega⟩
        rw [hk, Int.toNat_natCast] at hr
        rw [hr]
        have hkn : k < n := by have := HN.out; omega
        have hpx := get_of (l := l) (k := k) (by omega)
        obtain ⟨bb, off, rfl, hbb, hcs⟩ := HC.out (by omega)
        obtain ⟨d0, d1, d2, d3⟩ := hcs k _ hpx
        have HD := Lib.hid (show At4 w bb off k (l.getD k zeroPx) from ⟨d0, d1, d2, d3⟩)
        generalize l.getD k zeroPx = p at *
        obtain ⟨M, hM⟩ : ∃ M, y * a = M := ⟨_, rfl⟩
        rw [hM] at hk g4 g5
        have hw1 : wrap64 (y * a) = M := by rw [hM]; exact IntWalk.wrap64_in _ (by omega)
        have hw2 : wrap64 (M + x) = (k : Int) := by rw [← hk]; exact IntWalk.wrap64_in _ (by omega)
        have q0 : (0 : Int) ≤ k := by omega
        have q1 : (k : Int) < n := by omega
        have q2 : ¬ (n : Int) ≤ k := by omega
        have K := Lib.hid (below_set4 (x0 := .int .u8 (p.r : Int)) (x1 := .int .u8 (p.g : Int)) (x2 := .int .u8 (p.b : Int)) (x3 := .int .u8 (p.a : Int)) J.out.below (Nat.le_succ w.heap.size))
        obtain ⟨c0, c1, c2, c3⟩ := HD.out.keep J.out.below hbb
        clear d0 d1 d2 d3 hcs hr hpx hfar hres h0 hM hk g4 g5 J
        go_enter Try.func18, Try.ntmps18
        go_wp2_with (go_at_call 41; (with_reducible refine (C1 _).out.mono ?_); rintro e wq ⟨rfl, rfl⟩)
        exact bodyPost_ret (v := .agg #[.int .u8 (p.r : Int), .int .u8 (p.g : Int), .int .u8 (p.b : Int), .int .u8 (p.a : Int)]) (by simp [results, Try.results18, go_sem]) rfl ⟨rfl, ((Below.refl _ _).alloc (Nat.le_refl _) _).alloc (by simp) _⟩
      · rw [at_far hfar]
        obtain ⟨k, hk⟩ : ∃ k : Nat, y * a + x = k := ⟨(y * a + x).toNat, by omega⟩
        obtain ⟨M, hM⟩ : ∃ M, y * a = M := ⟨_, rfl⟩
        have hkn : ¬ k < n := by have := HN.out; omega
        rw [hM] at hk g4 g5
        have hw1 : wrap64 (y * a) = M := by rw [hM]; exact IntWalk.wrap64_in _ (by omega)
        have hw2 : wrap64 (M + x) = (k : Int) := by rw [← hk]; exact IntWalk.wrap64_in _ (by omega)
        have q2 : (n : Int) ≤ k := by omega
        clear hfar hres h0 hM hk g4 g5
        go_enter Try.func18, Try.ntmps18
        go_wp2_with (go_at_call 41; (with_reducible refine (C1 _).out.mono ?_); rintro e wq ⟨rfl, rfl⟩)
        exact bodyPost_ret (v := .agg #[.int .u8 (zeroPx.r : Int), .int .u8 (zeroPx.g : Int), .int .u8 (zeroPx.b : Int), .int .u8 (zeroPx.a : Int)]) (by simp [results, Try.results18, go_sem, zeroPx]) rfl ⟨rfl, J.out.below⟩

set_option maxHeartbeats 2000000 in
theorem small_any (a b : Int) (A : Option Addr) (n c : Nat) (w : World) : Calls Try.prog 13 #[.agg #[.int .i64 a, .int .i64 b, .slice A n c]] w fun e w' => e = .returned (.bool (decide (n ≤ 400))) ∧ Below w.heap.size w w' := by
  by_cases h : n ≤ 400
  · have h0 : (n : Int) ≤ 400 := by omega
    rw [decide_eq_true h]
    clear h
    go_enter Try.func13, Try.ntmps13
    go_wp2
    go_ret
    exact ⟨rfl, (Below.refl _ _).alloc (Nat.le_refl _) _⟩
  · have h0 : ¬ (n : Int) ≤ 400 := by omega
    rw [decide_eq_false h]
    clear h
    go_enter Try.func13, Try.ntmps13
    go_wp2
    go_ret
    exact ⟨rfl, (Below.refl _ _).alloc (Nat.le_refl _) _⟩

end Go.Proofs.Ytahhcklkcibgoaa
