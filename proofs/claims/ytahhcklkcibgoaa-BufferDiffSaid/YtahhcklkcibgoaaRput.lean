/-
  put, Paste and BlendOver of the reference.
-/
import Derived.Test.YtahhcklkcibgoaaChan
namespace Go.Proofs.Ytahhcklkcibgoaa
open Go.RowKit

theorem new_at (F : Px → Px → Px) {a : Nat} (l : List Px) (sa sb : Nat) (s : List Px) (x y : Int) {i j : Nat} (hi : i < a) :
    newP F a l sa sb s x y (j * a + i) = if covB sa sb x y i j then F (s.getD (((j : Int) - y).toNat * sa + ((i : Int) - x).toNat) zeroPx) (l.getD (j * a + i) zeroPx) else l.getD (j * a + i) zeroPx := by
  unfold newP
  rw [idx_mod hi, idx_div hi]

theorem put_clamp (F : Px → Px → Px) {a b sa sb : Nat} {l : List Px} (s : List Px) (hl : l.length = a * b) (ha : 1 ≤ a ∧ a ≤ 256) (hb : 1 ≤ b ∧ b ≤ 256) (hsa : sa ≤ 256) (hsb : sb ≤ 256) (x y : Int) :
    putL F a l sa sb s x y = putL F a l sa sb s (max (-1000) (min x 1000)) (max (-1000) (min y 1000)) := by
  unfold putL
  refine tab_congr fun k hk => ?_
  have hm := col_lt (a := a) (k := k) ha.1
  have hd := row_lt (a := a) (b := b) (k := k) (by omega)
  unfold newP
  generalize k % a = i at *
  generalize k / a = j at *
  cases hc : covB sa sb x y i j
  · have hn : covB sa sb (max (-1000) (min x 1000)) (max (-1000) (min y 1000)) i j = false := by
      rw [cov_no] at hc ⊢
      omega
    rw [hn]
    simp
  · rw [cov_iff] at hc
    rw [show max (-1000) (min x 1000) = x by omega, show max (-1000) (min y 1000) = y by omega]
    have hy : covB sa sb x y i j = true := cov_iff.2 hc
    rw [hy]

theorem mul_wrap {j a M : Nat} (h : j * a = M) (hb : M ≤ 65536) : wrap64 ((j : Int) * (a : Int)) = (M : Int) := by
  have e : (j : Int) * (a : Int) = ((M : Nat) : Int) := by rw [← h, Int.natCast_mul]
  rw [e]
  exact IntWalk.wrap64_in _ (by omega)
theorem add_wrap {M i K : Nat} (h : M + i = K) (hb : K ≤ 1000000) : wrap64 ((M : Int) + (i : Int)) = (K : Int) ∧ (M : Int) + (i : Int) = (K : Int) ∧ wrap64 (K : Int) = (K : Int) := by
  have e : (M : Int) + (i : Int) = (K : Int) := by omega
  rw [e]
  exact ⟨IntWalk.wrap64_in _ (by omega), rfl, IntWalk.wrap64_in _ (by omega)⟩


set_option maxRecDepth 100000 in
set_option maxHeartbeats 4000000 in
theorem rput_bad_copy {a b c d : Int} {v u : Value} {l m : List Px} (x y : Int) {w : World} (h : Pxs w v l) (hu : Pxs w u m) (hbad : (vBuf a b l && vBuf c d m) = false) : Calls Try.prog 55 #[.agg #[.int .i64 a, .int .i64 b, v], .agg #[.int .i64 c, .int .i64 d, u], .int .i64 x, .int .i64 y, .bool false] w (Outs 0 0 [] 15 w) := by
  have H1 := Lib.hid h
  have H2 := Lib.hid hu
  obtain ⟨A, n, rfl, _⟩ := h.shape
  obtain ⟨A', n', rfl, _⟩ := hu.shape
  have C1 := fun W (hb : Below w.heap.size w W) => Lib.hid (rvalid_any a b (H1.out.below hb))
  have C2 := fun W (hb : Below w.heap.size w W) => Lib.hid (rvalid_any c d (H2.out.below hb))
  have J := Lib.hid (heldC w a b (.slice A l.length n) c d (.slice A' m.length n'))
  unfold WC at J
  unfold Outs
  generalize vBuf a b l = v1 at *
  generalize vBuf c d m = v2 at *
  generalize l.length = n1 at *
  generalize m.length = n2 at *
  clear h hu H1 H2
  cases v1 with
  | false =>
    clear hbad
    go_enter Try.func55, Try.ntmps55
    go_wp2_with fail
    refine (C1 _ J.out.below).out.mono ?_
    rintro e w1 ⟨rfl, hb⟩
    replace J := Lib.hid (J.out.step hb)
    clear hb
    obtain ⟨z0, z1, z2, zf, zt⟩ := J.out.tri (l1 := [])
    have K := Lib.hid (below_set3 (y0 := .int .i64 0) (y1 := .int .i64 0) (y2 := .slice none 0 0) J.out.below (by omega : w.heap.size ≤ w.heap.size + 1 + 1))
    clear J
    go_wp2_with fail
    exact bodyPost_ret (v := .tuple #[.agg #[.int .i64 0, .int .i64 0, .slice none 0 0], .int .i64 15]) (by simp [results, Try.results55, go_sem, z0, z1, z2]) rfl ⟨_, rfl, .inl ⟨rfl, rfl⟩, K.out⟩
  | true =>
    rw [Bool.true_and] at hbad
    subst hbad
    go_enter Try.func55, Try.ntmps55
    go_wp2_with fail
    refine (C1 _ J.out.below).out.mono ?_
    rintro e w1 ⟨rfl, hb⟩
    replace J := Lib.hid (J.out.step hb)
    clear hb
    obtain ⟨y0, y1, y2, _, _⟩ := J.out.tri (l1 := [_])
    go_wp2_with fail
    refine (C2 _ J.out.below).out.mono ?_
    rintro e w2 ⟨rfl, hb⟩
    replace J := Lib.hid (J.out.step hb)
    clear hb y0 y1 y2
    obtain ⟨z0, z1, z2, zf, zt⟩ := J.out.tri (l1 := [])
    have K := Lib.hid (below_set3 (y0 := .int .i64 0) (y1 := .int .i64 0) (y2 := .slice none 0 0) J.out.below (by omega : w.heap.size ≤ w.heap.size + 1 + 1))
    clear J
    go_wp2_with fail
    exact bodyPost_ret (v := .tuple #[.agg #[.int .i64 0, .int .i64 0, .slice none 0 0], .int .i64 15]) (by simp [results, Try.results55, go_sem, z0, z1, z2]) rfl ⟨_, rfl, .inl ⟨rfl, rfl⟩, K.out⟩

set_option maxRecDepth 100000 in
set_option maxHeartbeats 4000000 in
theorem rput_bad_over {a b c d : Int} {v u : Value} {l m : List Px} (x y : Int) {w : World} (h : Pxs w v l) (hu : Pxs w u m) (hbad : (vBuf a b l && vBuf c d m) = false) : Calls Try.prog 55 #[.agg #[.int .i64 a, .int .i64 b, v], .agg #[.int .i64 c, .int .i64 d, u], .int .i64 x, .int .i64 y, .bool true] w (Outs 0 0 [] 15 w) := by
  have H1 := Lib.hid h
  have H2 := Lib.hid hu
  obtain ⟨A, n, rfl, _⟩ := h.shape
  obtain ⟨A', n', rfl, _⟩ := hu.shape
  have C1 := fun W (hb : Below w.heap.size w W) => Lib.hid (rvalid_any a b (H1.out.below hb))
  have C2 := fun W (hb : Below w.heap.size w W) => Lib.hid (rvalid_any c d (H2.out.below hb))
  have J := Lib.hid (heldC w a b (.slice A l.length n) c d (.slice A' m.length n'))
  unfold WC at J
  unfold Outs
  generalize vBuf a b l = v1 at *
  generalize vBuf c d m = v2 at *
  generalize l.length = n1 at *
  generalize m.length = n2 at *
  clear h hu H1 H2
  cases v1 with
  | false =>
    clear hbad
    go_enter Try.func55, Try.ntmps55
    go_wp2_with fail
    refine (C1 _ J.out.below).out.mono ?_
    rintro e w1 ⟨rfl, hb⟩
    replace J := Lib.hid (J.out.step hb)
    clear hb
    obtain ⟨z0, z1, z2, zf, zt⟩ := J.out.tri (l1 := [])
    have K := Lib.hid (below_set3 (y0 := .int .i64 0) (y1 := .int .i64 0) (y2 := .slice none 0 0) J.out.below (by omega : w.heap.size ≤ w.heap.size + 1 + 1))
    clear J
    go_wp2_with fail
    exact bodyPost_ret (v := .tuple #[.agg #[.int .i64 0, .int .i64 0, .slice none 0 0], .int .i64 15]) (by simp [results, Try.results55, go_sem, z0, z1, z2]) rfl ⟨_, rfl, .inl ⟨rfl, rfl⟩, K.out⟩
  | true =>
    rw [Bool.true_and] at hbad
    subst hbad
    go_enter Try.func55, Try.ntmps55
    go_wp2_with fail
    refine (C1 _ J.out.below).out.mono ?_
    rintro e w1 ⟨rfl, hb⟩
    replace J := Lib.hid (J.out.step hb)
    clear hb
    obtain ⟨y0, y1, y2, _, _⟩ := J.out.tri (l1 := [_])
    go_wp2_with fail
    refine (C2 _ J.out.below).out.mono ?_
    rintro e w2 ⟨rfl, hb⟩
    replace J := Lib.hid (J.out.step hb)
    clear hb y0 y1 y2
    obtain ⟨z0, z1, z2, zf, zt⟩ := J.out.tri (l1 := [])
    have K := Lib.hid (below_set3 (y0 := .int .i64 0) (y1 := .int .i64 0) (y2 := .slice none 0 0) J.out.below (by omega : w.heap.size ≤ w.heap.size + 1 + 1))
    clear J
    go_wp2_with fail
    exact bodyPost_ret (v := .tuple #[.agg #[.int .i64 0, .int .i64 0, .slice none 0 0], .int .i64 15]) (by simp [results, Try.results55, go_sem, z0, z1, z2]) rfl ⟨_, rfl, .inl ⟨rfl, rfl⟩, K.out⟩


theorem Held.apart2 {w W : World} {l : List (Nat × List Value)} (h : Held w W l) {vs : List Value} : ∀ p ∈ (W.heap.size + 1, vs) :: l, p.1 ≠ W.heap.size := by
  intro p hp
  rcases List.mem_cons.1 hp with rfl | hp
  · simp
  · exact h.apart (Nat.le_refl _) p hp

theorem RowP.far4 {w : World} {g k : Nat} {l : List Px} (h : RowP w g l) (hne : g ≠ k) (y0 y1 y2 y3 : Value) : RowP (set4 w k y0 y1 y2 y3) g l :=
  h.grown (grown_setCell (grown_setCell (grown_setCell (grown_setCell (World.grownBy.refl w _) _ _) _ _) _ _) _ _) hne

/-- the row's block is one of two -/
theorem own_two {w : World} {g n c : Nat} {o0 : Obj} {o1 : Obj} (h : (Value.slice (some ⟨g, 0, none⟩) n c).ownBlock = (Value.slice (some ⟨w.heap.size, 0, none⟩) 0 0).ownBlock ∨ (Value.slice (some ⟨g, 0, none⟩) n c).ownBlock = some ((w.alloc o0).alloc o1).drew.heap.size) : g ≠ w.heap.size + 1 := by
  have e : ((w.alloc o0).alloc o1).drew.heap.size = w.heap.size + 1 + 1 := by
    show ((w.alloc o0).alloc o1).heap.size = _
    rw [World.size_alloc, World.size_alloc]
  rw [e] at h
  rcases h with h | h
  · have := Option.some.inj h
    simp only at this
    omega
  · have := Option.some.inj h
    simp only at this
    omega




set_option maxRecDepth 100000 in
set_option maxHeartbeats 8000000 in
theorem rput_copy {a b c d : Nat} {v u : Value} {l m : List Px} (x y : Int) {w : World} (h : Pxs w v l) (hu : Pxs w u m) (hv : Vld a b l) (hw : Vld c d m) (hlb : ∀ p ∈ l, Byt p) (hmb : ∀ p ∈ m, Byt p) :
    Calls Try.prog 55 #[.agg #[.int .i64 (a : Int), .int .i64 (b : Int), v], .agg #[.int .i64 (c : Int), .int .i64 (d : Int), u], .int .i64 x, .int .i64 y, .bool false] w (Outs a b (putL (fun p _ => p) a l c d m x y) 0 w) := by
  rw [put_clamp (fun p _ => p) m hv.len ⟨hv.a1, hv.a2⟩ ⟨hv.b1, hv.b2⟩ hw.a2 hw.b2 x y]
  have H1 := Lib.hid h
  have H2 := Lib.hid hu
  have C1 := fun W (hb : Below w.heap.size w W) => Lib.hid (rvalid_any (a : Int) (b : Int) (H1.out.below hb))
  have C2 := fun W (hb : Below w.heap.size w W) => Lib.hid (rvalid_any (c : Int) (d : Int) (H2.out.below hb))
  rw [hv.vBuf] at C1
  rw [hw.vBuf] at C2
  have C3 := fun (i j : Nat) (hi : i < c) (hj : j < d) W (hb : Below w.heap.size w W) => Lib.hid (rat_any (c : Int) (d : Int) (i : Int) (j : Int) (H2.out.below hb))
  have C4 := fun (i j : Nat) (hi : i < a) (hj : j < b) W (hb : Below w.heap.size w W) => Lib.hid (rat_any (a : Int) (b : Int) (i : Int) (j : Int) (H1.out.below hb))
  have HV := Lib.hid hv
  have HW := Lib.hid hw
  have HLB := Lib.hid hlb
  have HMB := Lib.hid hmb
  obtain ⟨A, n, rfl, _⟩ := h.shape
  obtain ⟨A', n', rfl, _⟩ := hu.shape
  have J := Lib.hid (heldC w a b (.slice A l.length n) c d (.slice A' m.length n'))
  unfold WC at J
  unfold Outs Res RowOf
  rw [put_len]
  obtain ⟨X, hX⟩ : ∃ X, max (-1000) (min x 1000) = X := ⟨_, rfl⟩
  obtain ⟨Y, hY⟩ : ∃ Y, max (-1000) (min y 1000) = Y := ⟨_, rfl⟩
  rw [hX, hY]
  have X0 : -1000 ≤ X ∧ X ≤ 1000 := by omega
  have Y0 : -1000 ≤ Y ∧ Y ≤ 1000 := by omega
  generalize hn1 : l.length = n1 at *
  generalize m.length = n2 at *
  have HN := Lib.hid hn1
  clear h hu hv hw hlb hmb hn1
  go_enter Try.func55, Try.ntmps55
  go_wp2_with fail
  refine (C1 _ J.out.below).out.mono ?_
  rintro e w1 ⟨rfl, hb⟩
  replace J := Lib.hid (J.out.step hb)
  clear hb
  obtain ⟨y0, y1, y2, _, _⟩ := J.out.tri (l1 := [_])
  go_wp2_with fail
  refine (C2 _ J.out.below).out.mono ?_
  rintro e w2 ⟨rfl, hb⟩
  replace J := Lib.hid (J.out.step hb)
  clear hb y0 y1 y2
  go_upto_region 3 with fail
  go_cut [12] from 25 to 33 (fun s12 wx => ∃ mm g c6 : Nat, s12 = .pointer (some ⟨mm, 0, none⟩) ∧ n1 ≤ c6 ∧ c6 ≤ maxLen ∧ w.heap.size + 1 + 1 < g ∧ g ≠ mm ∧ Hid (RowP wx g l ∧ Held w wx [(mm, [.int .i64 (a : Int), .int .i64 (b : Int), .slice (some ⟨g, 0, none⟩) n1 c6]), (w.heap.size + 1 + 1, [.int .i64 0, .int .i64 0, .slice none 0 0]), (w.heap.size + 1, [.int .i64 (c : Int), .int .i64 (d : Int), .slice A' n2 n']), (w.heap.size, [.int .i64 (a : Int), .int .i64 (b : Int), .slice A n1 n])]))
  case first =>
    have hsz := (J.out.at (l1 := [])).2.2.1
    have J0 := J
    have sk := J.out.drew.three (l1 := [_, _])
    have E1 := Lib.hid (J.out.made (.cells #[] 30))
    have E2 := Lib.hid ((J.out.alloc [.int .i64 0, .int .i64 0, .slice none 0 0] 24).made (.cells #[] 30))
    have e3 := (J.out.made (.cells #[] 30)).alloc [.int .i64 0, .int .i64 0, .slice none 0 0] 24
    rw [World.size_alloc] at e3
    have E3 := Lib.hid e3
    have EM := Lib.hid (J.out.alloc [.int .i64 0, .int .i64 0, .slice none 0 0] 24)
    have O1 := Lib.hid (ownP_empty w2 (Nat.le_refl _))
    have o2 := ownP_empty (w2.alloc (.cells #[.int .i64 0, .int .i64 0, .slice none 0 0] 24)) (Nat.le_refl _)
    rw [World.size_alloc] at o2
    have O2 := Lib.hid o2
    have O3 := Lib.hid ((ownP_empty w2 (Nat.le_refl _)).alloc (.cells #[.int .i64 0, .int .i64 0, .slice none 0 0] 24))
    have hlen := Lib.hid (show ([] : List Px).length + l.length ≤ 4000000 by have := HV.out.small.2; simp; omega)
    have hpos := Lib.hid HV.out.small.1
    clear o2 e3
    have s1 := E1.out.drew.three (l1 := [_, _])
    have s2 := E2.out.drew.three (l1 := [_, _, _])
    have s3 := E3.out.drew.three (l1 := [_, _, _])
    have s4 := EM.out.drew.three (l1 := [_, _, _])
    go_region_held3 (fun W => W.cell? ⟨w.heap.size, 0, none⟩ = some (.int .i64 (a : Int)) ∧ W.cell? ⟨w.heap.size, 1, none⟩ = some (.int .i64 (b : Int)) ∧ W.cell? ⟨w.heap.size, 2, none⟩ = some (.slice A n1 n))
      (first
        | with_reducible exact sk
        | with_reducible exact s1
        | with_reducible exact s2
        | with_reducible exact s3
        | with_reducible exact s4
        | with_reducible exact s6
        | exact s7.out
        | go_keep)
      (first
        | (refine step_appP (by rfl) _ _ (by rfl) (base := w2.heap.size) (l := []) (m := l) (by rfl) (by exact O1.out) (by rfl) (by exact H1.out.below E1.out.drew.below) (by exact hlen.out) (by simp) ?_; intro v6 w6 ho6 hg6 hl6; rw [List.nil_append] at ho6; obtain ⟨g, c6, hv6, h1, h2, h3, h4⟩ := ho6.rowP hpos.out; rw [HN.out] at hv6 h1; subst hv6; have J6 := Lib.hid (E1.out.drew.grown (g := w2.heap.size) hg6 J.out.below.size (J.out.apart (Nat.le_refl _))); have R := Lib.hid h4; have s6 := J6.out.three (l1 := [_, _]); have s7 := Lib.hid ((J6.out.alloc [.int .i64 (a : Int), .int .i64 (b : Int), .slice (some ⟨g, 0, none⟩) n1 c6] 24).three (l1 := [_, _, _])); clear ho6 hg6 hl6 h4)
        | (refine step_appP (by rfl) _ _ (by rfl) (base := w2.heap.size + 1) (l := []) (m := l) (by rfl) (by exact O2.out) (by rfl) (by exact H1.out.below E2.out.drew.below) (by exact hlen.out) (by simp) ?_; intro v6 w6 ho6 hg6 hl6; rw [List.nil_append] at ho6; obtain ⟨g, c6, hv6, h1, h2, h3, h4⟩ := ho6.rowP hpos.out; rw [HN.out] at hv6 h1; subst hv6; have J6 := Lib.hid (E2.out.drew.grown (g := w2.heap.size + 1) hg6 (Nat.le_succ_of_le J.out.below.size) (EM.out.apart (by rw [World.size_alloc]; exact Nat.le_refl _))); obtain ⟨z0, z1, z2, zf, zt⟩ := J6.out.tri (l1 := []); have R := Lib.hid h4; have s6 := J6.out.three (l1 := [_, _, _]); have s7 := Lib.hid ((J6.out.set3 (l1 := []) (.int .i64 (a : Int)) (.int .i64 (b : Int)) (.slice (some ⟨g, 0, none⟩) n1 c6)).three (l1 := [_, _, _])); clear ho6 hg6 hl6 h4)
        | (refine step_appP (by rfl) _ _ (by rfl) (base := w2.heap.size) (l := []) (m := l) (by rfl) (by exact O3.out) (by rfl) (by exact H1.out.below E3.out.drew.below) (by exact hlen.out) (by simp; omega) ?_; intro v6 w6 ho6 hg6 hl6; rw [List.nil_append] at ho6; obtain ⟨g, c6, hv6, h1, h2, h3, h4⟩ := ho6.rowP hpos.out; rw [HN.out] at hv6 h1; subst hv6; have J6 := Lib.hid (E3.out.drew.grown (g := w2.heap.size) hg6 J.out.below.size J.out.apart2); have hgm := own_two hl6; obtain ⟨z0, z1, z2, zf, zt⟩ := J6.out.tri (l1 := []); have R := Lib.hid h4; have s6 := J6.out.three (l1 := [_, _, _]); have s7 := Lib.hid ((J6.out.set3 (l1 := []) (.int .i64 (a : Int)) (.int .i64 (b : Int)) (.slice (some ⟨g, 0, none⟩) n1 c6)).three (l1 := [_, _, _])); clear ho6 hg6 hl6 h4)
        | fail)
    all_goals
      clear sk s1 s2 s3 s4 s6 s7 O1 O2 O3 E1 E2 E3 EM
      (try clear z0 z1 z2 zf zt)
      go_wp2_with fail
      go_meet
      first
        | exact ⟨_, g, c6, rfl, h1, h2, Nat.lt_of_lt_of_le hsz h3, Nat.ne_of_lt R.out.2.2, Lib.hid ⟨R.out.step ((Below.refl _ _).alloc (Nat.le_refl _) _), J6.out.alloc [.int .i64 (a : Int), .int .i64 (b : Int), .slice (some ⟨g, 0, none⟩) n1 c6] 24⟩⟩
        | exact ⟨_, g, c6, rfl, h1, h2, Nat.lt_trans hsz h3, Nat.ne_of_gt h3, Lib.hid ⟨R.out.far (Nat.ne_of_gt h3) _ _ _, J6.out.set3 (l1 := []) (.int .i64 (a : Int)) (.int .i64 (b : Int)) (.slice (some ⟨g, 0, none⟩) n1 c6)⟩⟩
        | exact ⟨_, g, c6, rfl, h1, h2, Nat.lt_of_lt_of_le hsz h3, hgm, Lib.hid ⟨R.out.far hgm _ _ _, J6.out.set3 (l1 := []) (.int .i64 (a : Int)) (.int .i64 (b : Int)) (.slice (some ⟨g, 0, none⟩) n1 c6)⟩⟩
  case rest =>
    obtain ⟨mm, g, c6, rfl, h1, h2, h3, h4, HW2⟩ := hcut
    clear J C1 C2
    go_wp2_with fail
    clear hX hY
    have ha2 := HV.out.a2
    have hb2 := HV.out.b2
    have HLast := Lib.hid (done_full (newP (fun p _ => p) a l c d m X Y) (l := l) (m := b * a) (by rw [HV.out.len, Nat.mul_comm]; exact Nat.le_refl _))
    have HZ : Hid (RowP wc g (doneL (newP (fun p _ => p) a l c d m X Y) l (0 * a)) ∧ Held w wc [(mm, [.int .i64 (a : Int), .int .i64 (b : Int), .slice (some ⟨g, 0, none⟩) n1 c6]), (w.heap.size + 1 + 1, [.int .i64 0, .int .i64 0, .slice none 0 0]), (w.heap.size + 1, [.int .i64 (c : Int), .int .i64 (d : Int), .slice A' n2 n']), (w.heap.size, [.int .i64 (a : Int), .int .i64 (b : Int), .slice A n1 n])]) := Lib.hid (by rw [Nat.zero_mul, done_zero]; exact HW2.out)
    have hne : ∀ p ∈ ([(mm, [.int .i64 (a : Int), .int .i64 (b : Int), .slice (some ⟨g, 0, none⟩) n1 c6]), (w.heap.size + 1 + 1, [.int .i64 0, .int .i64 0, .slice none 0 0]), (w.heap.size + 1, [.int .i64 (c : Int), .int .i64 (d : Int), .slice A' n2 n']), (w.heap.size, [.int .i64 (a : Int), .int .i64 (b : Int), .slice A n1 n])] : List (Nat × List Value)), p.1 ≠ g := fun p hp => by
      simp only [List.mem_cons, List.not_mem_nil, or_false] at hp
      rcases hp with rfl | rfl | rfl | rfl
      · exact fun e => h4 e.symm
      · exact fun e => by simp only at e; omega
      · exact fun e => by simp only at e; omega
      · exact fun e => by simp only at e; omega
    have HNE := Lib.hid hne
    clear hne HW2
    go_loopw [13] (fun s13 wr => ∃ j : Nat, j ≤ b ∧ s13 = .int .i64 (j : Int) ∧ Hid (RowP wr g (doneL (newP (fun p _ => p) a l c d m X Y) l (j * a)) ∧ Held w wr [(mm, [.int .i64 (a : Int), .int .i64 (b : Int), .slice (some ⟨g, 0, none⟩) n1 c6]), (w.heap.size + 1 + 1, [.int .i64 0, .int .i64 0, .slice none 0 0]), (w.heap.size + 1, [.int .i64 (c : Int), .int .i64 (d : Int), .slice A' n2 n']), (w.heap.size, [.int .i64 (a : Int), .int .i64 (b : Int), .slice A n1 n])])) (fun s13 _ => leftN b s13)
    case atStart => exact ⟨0, by omega, rfl, HZ⟩
    case round =>
      obtain ⟨j, hj, rfl, HR⟩ := hrel
      obtain ⟨y0, y1, y2, _, _⟩ := HR.out.2.tri (l1 := [_, _, _])
      by_cases hlt : j < b
      · have q1 : (j : Int) < b := by omega
        obtain ⟨wu, rfl⟩ : ∃ x, x = wr := ⟨_, rfl⟩
        go_wp2_with fail
        clear y0 y1 y2
        go_loopw [14] (fun s14 wr => ∃ i : Nat, i ≤ a ∧ s14 = .int .i64 (i : Int) ∧ Hid (RowP wr g (doneL (newP (fun p _ => p) a l c d m X Y) l (j * a + i)) ∧ Held w wr [(mm, [.int .i64 (a : Int), .int .i64 (b : Int), .slice (some ⟨g, 0, none⟩) n1 c6]), (w.heap.size + 1 + 1, [.int .i64 0, .int .i64 0, .slice none 0 0]), (w.heap.size + 1, [.int .i64 (c : Int), .int .i64 (d : Int), .slice A' n2 n']), (w.heap.size, [.int .i64 (a : Int), .int .i64 (b : Int), .slice A n1 n])])) (fun s14 _ => leftN a s14)
        case atStart => exact ⟨0, by omega, rfl, HR⟩
        case round =>
          obtain ⟨i, hi, rfl, HS⟩ := hrel
          obtain ⟨y0, y1, y2, _, _⟩ := HS.out.2.tri (l1 := [_, _, _])
          obtain ⟨x0, x1, x2, _, _⟩ := HS.out.2.tri (l1 := [_, _])
          by_cases hia : i < a
          · have q2 : (i : Int) < a := by omega
            have HAT := Lib.hid (new_at (fun p _ => p) l c d m X Y (j := j) hia)
            have hk := idx_lt hia hlt
            obtain ⟨D, hD⟩ : ∃ D, (i : Int) - X = D := ⟨_, rfl⟩
            obtain ⟨E, hE⟩ : ∃ E, (j : Int) - Y = E := ⟨_, rfl⟩
            have wD : wrap64 ((i : Int) - X) = D := by rw [IntWalk.wrap64_in _ (by omega)]; exact hD
            have wE : wrap64 ((j : Int) - Y) = E := by rw [IntWalk.wrap64_in _ (by omega)]; exact hE
            cases hc : covB c d X Y i j
            · rw [cov_no, hD, hE] at hc
              have hnx : doneL (newP (fun p _ => p) a l c d m X Y) l (j * a + i + 1) = doneL (newP (fun p _ => p) a l c d m X Y) l (j * a + i) := done_skip (by omega) (fun k h0 h1 => by
                obtain rfl : k = j * a + i := by omega
                rw [HAT.out, if_neg (by rw [Bool.not_eq_true, cov_no, hD, hE]; exact hc)])
              have HF : Hid (RowP wr g (doneL (newP (fun p _ => p) a l c d m X Y) l (j * a + (i + 1))) ∧ Held w wr [(mm, [.int .i64 (a : Int), .int .i64 (b : Int), .slice (some ⟨g, 0, none⟩) n1 c6]), (w.heap.size + 1 + 1, [.int .i64 0, .int .i64 0, .slice none 0 0]), (w.heap.size + 1, [.int .i64 (c : Int), .int .i64 (d : Int), .slice A' n2 n']), (w.heap.size, [.int .i64 (a : Int), .int .i64 (b : Int), .slice A n1 n])]) := Lib.hid (by rw [← Nat.add_assoc, hnx]; exact HS.out)
              clear hnx HS HAT hk
              by_cases g0 : D < 0
              · clear hc
                go_wp2_with fail
                go_roundw
                case rel => exact ⟨i + 1, by omega, by go_num, HF⟩
                case measure =>
                  unfold leftN
                  simp [intOf]
                  omega
              · by_cases g1 : (c : Int) ≤ D
                · clear hc
                  go_wp2_with fail
                  go_roundw
                  case rel => exact ⟨i + 1, by omega, by go_num, HF⟩
                  case measure =>
                    unfold leftN
                    simp [intOf]
                    omega
                · by_cases g2 : E < 0
                  · clear hc
                    go_wp2_with fail
                    go_roundw
                    case rel => exact ⟨i + 1, by omega, by go_num, HF⟩
                    case measure =>
                      unfold leftN
                      simp [intOf]
                      omega
                  · have g3 : (d : Int) ≤ E := by omega
                    clear hc
                    go_wp2_with fail
                    go_roundw
                    case rel => exact ⟨i + 1, by omega, by go_num, HF⟩
                    case measure =>
                      unfold leftN
                      simp [intOf]
                      omega
            · rw [cov_iff, hD, hE] at hc
              obtain ⟨xs, rfl⟩ : ∃ xs : Nat, D = xs := ⟨D.toNat, by omega⟩
              obtain ⟨ys, rfl⟩ : ∃ ys : Nat, E = ys := ⟨E.toNat, by omega⟩
              have g0 : ¬ (xs : Int) < 0 := by omega
              have g1 : ¬ (c : Int) ≤ xs := by omega
              have g2 : ¬ (ys : Int) < 0 := by omega
              have g3 : ¬ (d : Int) ≤ ys := by omega
              have hxs : xs < c := by omega
              have hys : ys < d := by omega
              have C5 := fun W hb => Lib.hid (by have := (C3 xs ys hxs hys W hb).out; rwa [at_in HW.out hxs hys] at this)
              have C6 := fun W hb => Lib.hid (by have := (C4 i j hia hlt W hb).out; rwa [at_in HV.out hia hlt] at this)
              have hq := HAT.out
              rw [if_pos (cov_iff.2 (by rw [hD, hE]; exact hc)), hD, hE, Int.toNat_natCast, Int.toNat_natCast] at hq
              have hkl : j * a + i < l.length := by rw [HV.out.len]; exact hk
              have hnx := done_set (newP (fun p _ => p) a l c d m X Y) hkl
              rw [hq] at hnx
              have hsb : Byt (m.getD (ys * c + xs) zeroPx) := HMB.out _ (List.mem_of_getElem? (get_of (by rw [HW.out.len]; exact idx_lt hxs hys)))
              have hdb : Byt (l.getD (j * a + i) zeroPx) := HLB.out _ (List.mem_of_getElem? (get_of hkl))
              have ho := done_get (newP (fun p _ => p) a l c d m X Y) (m := j * a + i) hkl
              have hkn : j * a + i < n1 := by rw [← HN.out]; exact hkl
              have R := Lib.hid HS.out.1
              have JL := Lib.hid HS.out.2
              have hdl := Lib.hid (done_len (newP (fun p _ => p) a l c d m X Y) l (j * a + i))
              rw [HN.out] at hdl
              generalize (if j * a + i < j * a + i then newP (fun p _ => p) a l c d m X Y (j * a + i) else l.getD (j * a + i) zeroPx) = o at *
              generalize m.getD (ys * c + xs) zeroPx = sp at *
              generalize l.getD (j * a + i) zeroPx = dp at *
              rw [Nat.add_assoc] at hnx
              clear HAT hc hq hxs hys HS hk hkl
              generalize doneL (newP (fun p _ => p) a l c d m X Y) l (j * a + i) = Lo at *
              obtain ⟨M, hM⟩ : ∃ M, j * a = M := ⟨_, rfl⟩
              have hMb : M ≤ 65536 := by rw [← hM]; exact mul_small (by omega) ha2
              have HM1 : Hid (wrap64 ((j : Int) * (a : Int)) = (M : Int)) := Lib.hid (mul_wrap hM hMb)
              have hm1b : M + i < n1 := by rw [← hM]; exact hkn
              rw [hM] at hnx ho
              have HMM := Lib.hid hM
              clear hkn hM
              obtain ⟨K, hK⟩ : ∃ K, M + i = K := ⟨_, rfl⟩
              have HM2 : Hid (wrap64 ((M : Int) + (i : Int)) = (K : Int) ∧ (M : Int) + (i : Int) = (K : Int) ∧ wrap64 (K : Int) = (K : Int)) := Lib.hid (add_wrap hK (by omega))
              rw [hK] at hnx ho hm1b
              have q3 : (0 : Int) ≤ K := by omega
              have q4 : (K : Int) < n1 := by omega
              have q5 : (n1 : Int) ≤ c6 := by omega
              clear hK
              replace hnx := Lib.hid hnx
              replace ho := Lib.hid ho
              go_wp2_with fail
              refine (C5 _ JL.out.below).out.mono ?_
              rintro e w5 ⟨rfl, hb5⟩
              have J5 := Lib.hid (JL.out.step hb5)
              have hgw : g < w5.heap.size := Nat.lt_of_lt_of_le R.out.2.2 hb5.size
              have Z := Lib.hid (And.intro (((R.out.step hb5).put (o := K) (j := 0) (by rw [hdl.out]; exact hm1b) sp).step ((Below.refl _ _).alloc (Nat.le_refl _) (.cells #[.int .u8 (sp.r : Int), .int .u8 (sp.g : Int), .int .u8 (sp.b : Int), .int .u8 (sp.a : Int)] 30))) ((J5.out.grown (grown_putP _ g (K * 4) 0 sp) (by omega) HNE.out).made (.cells #[.int .u8 (sp.r : Int), .int .u8 (sp.g : Int), .int .u8 (sp.b : Int), .int .u8 (sp.a : Int)] 30)))
              rw [Nat.add_zero, ← hnx.out] at Z
              obtain ⟨a0, a1, a2, a3⟩ := (R.out.step hb5).1 K o ho.out
              rw [Nat.zero_add] at a0 a1 a2 a3
              have af := (R.out.step hb5).2.1
              clear y0 y1 y2 x0 x1 x2
              obtain ⟨y0, y1, y2, _, _⟩ := J5.out.tri (l1 := [_, _, _])
              obtain ⟨x0, x1, x2, _, _⟩ := J5.out.tri (l1 := [])
              clear hb5 hnx ho R JL J5
              rw [← HMM.out] at Z
              clear X0 Y0 hMb hm1b h1 h2 hsb hdb C3 C4 C5 C6 g0 g1 g2 g3 hD hE wD wE
              have hm1 := HM1.out
              have hm2 := HM2.out.1
              go_wp2_with fail
              clear hm1 hm2
              go_roundw
              case rel => exact ⟨i + 1, by omega, by go_num, Z⟩
              case measure =>
                unfold leftN
                simp [intOf]
                omega
          · obtain rfl : a = i := by omega
            have q2 : ¬ (a : Int) < a := by omega
            have HF := HS.out
            rw [show j * a + a = (j + 1) * a by rw [Nat.add_mul, Nat.one_mul]] at HF
            have HG := Lib.hid HF
            clear HF HS
            go_wp2_with fail
            go_roundw
            case rel => exact ⟨j + 1, by omega, by go_num, HG⟩
            case measure =>
              unfold leftN
              simp [intOf]
              omega
      · obtain rfl : b = j := by omega
        have q1 : ¬ (b : Int) < b := by omega
        have HF := HR.out
        rw [HLast.out] at HF
        have HE : Hid (RowP wr g (putL (fun p _ => p) a l c d m X Y) ∧ Held w wr [(mm, [.int .i64 (a : Int), .int .i64 (b : Int), .slice (some ⟨g, 0, none⟩) n1 c6]), (w.heap.size + 1 + 1, [.int .i64 0, .int .i64 0, .slice none 0 0]), (w.heap.size + 1, [.int .i64 (c : Int), .int .i64 (d : Int), .slice A' n2 n']), (w.heap.size, [.int .i64 (a : Int), .int .i64 (b : Int), .slice A n1 n])]) := Lib.hid HF
        have Q := Lib.hid (HE.out.1.far (k := w.heap.size + 1 + 1) (by omega) (.int .i64 (a : Int)) (.int .i64 (b : Int)) (.slice (some ⟨g, 0, none⟩) n1 c6))
        have K := Lib.hid (below_set3 (y0 := .int .i64 (a : Int)) (y1 := .int .i64 (b : Int)) (y2 := .slice (some ⟨g, 0, none⟩) n1 c6) HE.out.2.below (by omega : w.heap.size ≤ w.heap.size + 1 + 1))
        obtain ⟨x0, x1, x2, xf, xt⟩ := HE.out.2.tri (l1 := [])
        obtain ⟨z0, z1, z2, zf, zt⟩ := HE.out.2.tri (l1 := [_])
        clear HF HR
        go_wp2_with fail
        exact bodyPost_ret (v := .tuple #[.agg #[.int .i64 (a : Int), .int .i64 (b : Int), .slice (some ⟨g, 0, none⟩) n1 c6], .int .i64 0]) (by simp [results, Try.results55, go_sem, z0, z1, z2]) rfl ⟨_, rfl, .inr ⟨g, c6, rfl, h1, h2, by omega, Q.out⟩, K.out⟩

set_option maxRecDepth 100000 in
set_option maxHeartbeats 8000000 in
theorem rput_over {a b c d : Nat} {v u : Value} {l m : List Px} (x y : Int) {w : World} (h : Pxs w v l) (hu : Pxs w u m) (hv : Vld a b l) (hw : Vld c d m) (hlb : ∀ p ∈ l, Byt p) (hmb : ∀ p ∈ m, Byt p) :
    Calls Try.prog 55 #[.agg #[.int .i64 (a : Int), .int .i64 (b : Int), v], .agg #[.int .i64 (c : Int), .int .i64 (d : Int), u], .int .i64 x, .int .i64 y, .bool true] w (Outs a b (putL (overP) a l c d m x y) 0 w) := by
  rw [put_clamp (overP) m hv.len ⟨hv.a1, hv.a2⟩ ⟨hv.b1, hv.b2⟩ hw.a2 hw.b2 x y]
  have H1 := Lib.hid h
  have H2 := Lib.hid hu
  have C1 := fun W (hb : Below w.heap.size w W) => Lib.hid (rvalid_any (a : Int) (b : Int) (H1.out.below hb))
  have C2 := fun W (hb : Below w.heap.size w W) => Lib.hid (rvalid_any (c : Int) (d : Int) (H2.out.below hb))
  rw [hv.vBuf] at C1
  rw [hw.vBuf] at C2
  have C3 := fun (i j : Nat) (hi : i < c) (hj : j < d) W (hb : Below w.heap.size w W) => Lib.hid (rat_any (c : Int) (d : Int) (i : Int) (j : Int) (H2.out.below hb))
  have C4 := fun (i j : Nat) (hi : i < a) (hj : j < b) W (hb : Below w.heap.size w W) => Lib.hid (rat_any (a : Int) (b : Int) (i : Int) (j : Int) (H1.out.below hb))
  have HV := Lib.hid hv
  have HW := Lib.hid hw
  have HLB := Lib.hid hlb
  have HMB := Lib.hid hmb
  obtain ⟨A, n, rfl, _⟩ := h.shape
  obtain ⟨A', n', rfl, _⟩ := hu.shape
  have J := Lib.hid (heldC w a b (.slice A l.length n) c d (.slice A' m.length n'))
  unfold WC at J
  unfold Outs Res RowOf
  rw [put_len]
  obtain ⟨X, hX⟩ : ∃ X, max (-1000) (min x 1000) = X := ⟨_, rfl⟩
  obtain ⟨Y, hY⟩ : ∃ Y, max (-1000) (min y 1000) = Y := ⟨_, rfl⟩
  rw [hX, hY]
  have X0 : -1000 ≤ X ∧ X ≤ 1000 := by omega
  have Y0 : -1000 ≤ Y ∧ Y ≤ 1000 := by omega
  generalize hn1 : l.length = n1 at *
  generalize m.length = n2 at *
  have HN := Lib.hid hn1
  clear h hu hv hw hlb hmb hn1
  go_enter Try.func55, Try.ntmps55
  go_wp2_with fail
  refine (C1 _ J.out.below).out.mono ?_
  rintro e w1 ⟨rfl, hb⟩
  replace J := Lib.hid (J.out.step hb)
  clear hb
  obtain ⟨y0, y1, y2, _, _⟩ := J.out.tri (l1 := [_])
  go_wp2_with fail
  refine (C2 _ J.out.below).out.mono ?_
  rintro e w2 ⟨rfl, hb⟩
  replace J := Lib.hid (J.out.step hb)
  clear hb y0 y1 y2
  go_upto_region 3 with fail
  go_cut [12] from 25 to 33 (fun s12 wx => ∃ mm g c6 : Nat, s12 = .pointer (some ⟨mm, 0, none⟩) ∧ n1 ≤ c6 ∧ c6 ≤ maxLen ∧ w.heap.size + 1 + 1 < g ∧ g ≠ mm ∧ Hid (RowP wx g l ∧ Held w wx [(mm, [.int .i64 (a : Int), .int .i64 (b : Int), .slice (some ⟨g, 0, none⟩) n1 c6]), (w.heap.size + 1 + 1, [.int .i64 0, .int .i64 0, .slice none 0 0]), (w.heap.size + 1, [.int .i64 (c : Int), .int .i64 (d : Int), .slice A' n2 n']), (w.heap.size, [.int .i64 (a : Int), .int .i64 (b : Int), .slice A n1 n])]))
  case first =>
    have hsz := (J.out.at (l1 := [])).2.2.1
    have J0 := J
    have sk := J.out.drew.three (l1 := [_, _])
    have E1 := Lib.hid (J.out.made (.cells #[] 30))
    have E2 := Lib.hid ((J.out.alloc [.int .i64 0, .int .i64 0, .slice none 0 0] 24).made (.cells #[] 30))
    have e3 := (J.out.made (.cells #[] 30)).alloc [.int .i64 0, .int .i64 0, .slice none 0 0] 24
    rw [World.size_alloc] at e3
    have E3 := Lib.hid e3
    have EM := Lib.hid (J.out.alloc [.int .i64 0, .int .i64 0, .slice none 0 0] 24)
    have O1 := Lib.hid (ownP_empty w2 (Nat.le_refl _))
    have o2 := ownP_empty (w2.alloc (.cells #[.int .i64 0, .int .i64 0, .slice none 0 0] 24)) (Nat.le_refl _)
    rw [World.size_alloc] at o2
    have O2 := Lib.hid o2
    have O3 := Lib.hid ((ownP_empty w2 (Nat.le_refl _)).alloc (.cells #[.int .i64 0, .int .i64 0, .slice none 0 0] 24))
    have hlen := Lib.hid (show ([] : List Px).length + l.length ≤ 4000000 by have := HV.out.small.2; simp; omega)
    have hpos := Lib.hid HV.out.small.1
    clear o2 e3
    have s1 := E1.out.drew.three (l1 := [_, _])
    have s2 := E2.out.drew.three (l1 := [_, _, _])
    have s3 := E3.out.drew.three (l1 := [_, _, _])
    have s4 := EM.out.drew.three (l1 := [_, _, _])
    go_region_held3 (fun W => W.cell? ⟨w.heap.size, 0, none⟩ = some (.int .i64 (a : Int)) ∧ W.cell? ⟨w.heap.size, 1, none⟩ = some (.int .i64 (b : Int)) ∧ W.cell? ⟨w.heap.size, 2, none⟩ = some (.slice A n1 n))
      (first
        | with_reducible exact sk
        | with_reducible exact s1
        | with_reducible exact s2
        | with_reducible exact s3
        | with_reducible exact s4
        | with_reducible exact s6
        | exact s7.out
        | go_keep)
      (first
        | (refine step_appP (by rfl) _ _ (by rfl) (base := w2.heap.size) (l := []) (m := l) (by rfl) (by exact O1.out) (by rfl) (by exact H1.out.below E1.out.drew.below) (by exact hlen.out) (by simp) ?_; intro v6 w6 ho6 hg6 hl6; rw [List.nil_append] at ho6; obtain ⟨g, c6, hv6, h1, h2, h3, h4⟩ := ho6.rowP hpos.out; rw [HN.out] at hv6 h1; subst hv6; have J6 := Lib.hid (E1.out.drew.grown (g := w2.heap.size) hg6 J.out.below.size (J.out.apart (Nat.le_refl _))); have R := Lib.hid h4; have s6 := J6.out.three (l1 := [_, _]); have s7 := Lib.hid ((J6.out.alloc [.int .i64 (a : Int), .int .i64 (b : Int), .slice (some ⟨g, 0, none⟩) n1 c6] 24).three (l1 := [_, _, _])); clear ho6 hg6 hl6 h4)
        | (refine step_appP (by rfl) _ _ (by rfl) (base := w2.heap.size + 1) (l := []) (m := l) (by rfl) (by exact O2.out) (by rfl) (by exact H1.out.below E2.out.drew.below) (by exact hlen.out) (by simp) ?_; intro v6 w6 ho6 hg6 hl6; rw [List.nil_append] at ho6; obtain ⟨g, c6, hv6, h1, h2, h3, h4⟩ := ho6.rowP hpos.out; rw [HN.out] at hv6 h1; subst hv6; have J6 := Lib.hid (E2.out.drew.grown (g := w2.heap.size + 1) hg6 (Nat.le_succ_of_le J.out.below.size) (EM.out.apart (by rw [World.size_alloc]; exact Nat.le_refl _))); obtain ⟨z0, z1, z2, zf, zt⟩ := J6.out.tri (l1 := []); have R := Lib.hid h4; have s6 := J6.out.three (l1 := [_, _, _]); have s7 := Lib.hid ((J6.out.set3 (l1 := []) (.int .i64 (a : Int)) (.int .i64 (b : Int)) (.slice (some ⟨g, 0, none⟩) n1 c6)).three (l1 := [_, _, _])); clear ho6 hg6 hl6 h4)
        | (refine step_appP (by rfl) _ _ (by rfl) (base := w2.heap.size) (l := []) (m := l) (by rfl) (by exact O3.out) (by rfl) (by exact H1.out.below E3.out.drew.below) (by exact hlen.out) (by simp; omega) ?_; intro v6 w6 ho6 hg6 hl6; rw [List.nil_append] at ho6; obtain ⟨g, c6, hv6, h1, h2, h3, h4⟩ := ho6.rowP hpos.out; rw [HN.out] at hv6 h1; subst hv6; have J6 := Lib.hid (E3.out.drew.grown (g := w2.heap.size) hg6 J.out.below.size J.out.apart2); have hgm := own_two hl6; obtain ⟨z0, z1, z2, zf, zt⟩ := J6.out.tri (l1 := []); have R := Lib.hid h4; have s6 := J6.out.three (l1 := [_, _, _]); have s7 := Lib.hid ((J6.out.set3 (l1 := []) (.int .i64 (a : Int)) (.int .i64 (b : Int)) (.slice (some ⟨g, 0, none⟩) n1 c6)).three (l1 := [_, _, _])); clear ho6 hg6 hl6 h4)
        | fail)
    all_goals
      clear sk s1 s2 s3 s4 s6 s7 O1 O2 O3 E1 E2 E3 EM
      (try clear z0 z1 z2 zf zt)
      go_wp2_with fail
      go_meet
      first
        | exact ⟨_, g, c6, rfl, h1, h2, Nat.lt_of_lt_of_le hsz h3, Nat.ne_of_lt R.out.2.2, Lib.hid ⟨R.out.step ((Below.refl _ _).alloc (Nat.le_refl _) _), J6.out.alloc [.int .i64 (a : Int), .int .i64 (b : Int), .slice (some ⟨g, 0, none⟩) n1 c6] 24⟩⟩
        | exact ⟨_, g, c6, rfl, h1, h2, Nat.lt_trans hsz h3, Nat.ne_of_gt h3, Lib.hid ⟨R.out.far (Nat.ne_of_gt h3) _ _ _, J6.out.set3 (l1 := []) (.int .i64 (a : Int)) (.int .i64 (b : Int)) (.slice (some ⟨g, 0, none⟩) n1 c6)⟩⟩
        | exact ⟨_, g, c6, rfl, h1, h2, Nat.lt_of_lt_of_le hsz h3, hgm, Lib.hid ⟨R.out.far hgm _ _ _, J6.out.set3 (l1 := []) (.int .i64 (a : Int)) (.int .i64 (b : Int)) (.slice (some ⟨g, 0, none⟩) n1 c6)⟩⟩
  case rest =>
    obtain ⟨mm, g, c6, rfl, h1, h2, h3, h4, HW2⟩ := hcut
    clear J C1 C2
    go_wp2_with fail
    clear hX hY
    have ha2 := HV.out.a2
    have hb2 := HV.out.b2
    have HLast := Lib.hid (done_full (newP (overP) a l c d m X Y) (l := l) (m := b * a) (by rw [HV.out.len, Nat.mul_comm]; exact Nat.le_refl _))
    have HZ : Hid (RowP wc g (doneL (newP (overP) a l c d m X Y) l (0 * a)) ∧ Held w wc [(mm, [.int .i64 (a : Int), .int .i64 (b : Int), .slice (some ⟨g, 0, none⟩) n1 c6]), (w.heap.size + 1 + 1, [.int .i64 0, .int .i64 0, .slice none 0 0]), (w.heap.size + 1, [.int .i64 (c : Int), .int .i64 (d : Int), .slice A' n2 n']), (w.heap.size, [.int .i64 (a : Int), .int .i64 (b : Int), .slice A n1 n])]) := Lib.hid (by rw [Nat.zero_mul, done_zero]; exact HW2.out)
    have hne : ∀ p ∈ ([(mm, [.int .i64 (a : Int), .int .i64 (b : Int), .slice (some ⟨g, 0, none⟩) n1 c6]), (w.heap.size + 1 + 1, [.int .i64 0, .int .i64 0, .slice none 0 0]), (w.heap.size + 1, [.int .i64 (c : Int), .int .i64 (d : Int), .slice A' n2 n']), (w.heap.size, [.int .i64 (a : Int), .int .i64 (b : Int), .slice A n1 n])] : List (Nat × List Value)), p.1 ≠ g := fun p hp => by
      simp only [List.mem_cons, List.not_mem_nil, or_false] at hp
      rcases hp with rfl | rfl | rfl | rfl
      · exact fun e => h4 e.symm
      · exact fun e => by simp only at e; omega
      · exact fun e => by simp only at e; omega
      · exact fun e => by simp only at e; omega
    have HNE := Lib.hid hne
    clear hne HW2
    go_loopw [13] (fun s13 wr => ∃ j : Nat, j ≤ b ∧ s13 = .int .i64 (j : Int) ∧ Hid (RowP wr g (doneL (newP (overP) a l c d m X Y) l (j * a)) ∧ Held w wr [(mm, [.int .i64 (a : Int), .int .i64 (b : Int), .slice (some ⟨g, 0, none⟩) n1 c6]), (w.heap.size + 1 + 1, [.int .i64 0, .int .i64 0, .slice none 0 0]), (w.heap.size + 1, [.int .i64 (c : Int), .int .i64 (d : Int), .slice A' n2 n']), (w.heap.size, [.int .i64 (a : Int), .int .i64 (b : Int), .slice A n1 n])])) (fun s13 _ => leftN b s13)
    case atStart => exact ⟨0, by omega, rfl, HZ⟩
    case round =>
      obtain ⟨j, hj, rfl, HR⟩ := hrel
      obtain ⟨y0, y1, y2, _, _⟩ := HR.out.2.tri (l1 := [_, _, _])
      by_cases hlt : j < b
      · have q1 : (j : Int) < b := by omega
        obtain ⟨wu, rfl⟩ : ∃ x, x = wr := ⟨_, rfl⟩
        go_wp2_with fail
        clear y0 y1 y2
        go_loopw [14] (fun s14 wr => ∃ i : Nat, i ≤ a ∧ s14 = .int .i64 (i : Int) ∧ Hid (RowP wr g (doneL (newP (overP) a l c d m X Y) l (j * a + i)) ∧ Held w wr [(mm, [.int .i64 (a : Int), .int .i64 (b : Int), .slice (some ⟨g, 0, none⟩) n1 c6]), (w.heap.size + 1 + 1, [.int .i64 0, .int .i64 0, .slice none 0 0]), (w.heap.size + 1, [.int .i64 (c : Int), .int .i64 (d : Int), .slice A' n2 n']), (w.heap.size, [.int .i64 (a : Int), .int .i64 (b : Int), .slice A n1 n])])) (fun s14 _ => leftN a s14)
        case atStart => exact ⟨0, by omega, rfl, HR⟩
        case round =>
          obtain ⟨i, hi, rfl, HS⟩ := hrel
          obtain ⟨y0, y1, y2, _, _⟩ := HS.out.2.tri (l1 := [_, _, _])
          obtain ⟨x0, x1, x2, _, _⟩ := HS.out.2.tri (l1 := [_, _])
          by_cases hia : i < a
          · have q2 : (i : Int) < a := by omega
            have HAT := Lib.hid (new_at (overP) l c d m X Y (j := j) hia)
            have hk := idx_lt hia hlt
            obtain ⟨D, hD⟩ : ∃ D, (i : Int) - X = D := ⟨_, rfl⟩
            obtain ⟨E, hE⟩ : ∃ E, (j : Int) - Y = E := ⟨_, rfl⟩
            have wD : wrap64 ((i : Int) - X) = D := by rw [IntWalk.wrap64_in _ (by omega)]; exact hD
            have wE : wrap64 ((j : Int) - Y) = E := by rw [IntWalk.wrap64_in _ (by omega)]; exact hE
            cases hc : covB c d X Y i j
            · rw [cov_no, hD, hE] at hc
              have hnx : doneL (newP (overP) a l c d m X Y) l (j * a + i + 1) = doneL (newP (overP) a l c d m X Y) l (j * a + i) := done_skip (by omega) (fun k h0 h1 => by
                obtain rfl : k = j * a + i := by omega
                rw [HAT.out, if_neg (by rw [Bool.not_eq_true, cov_no, hD, hE]; exact hc)])
              have HF : Hid (RowP wr g (doneL (newP (overP) a l c d m X Y) l (j * a + (i + 1))) ∧ Held w wr [(mm, [.int .i64 (a : Int), .int .i64 (b : Int), .slice (some ⟨g, 0, none⟩) n1 c6]), (w.heap.size + 1 + 1, [.int .i64 0, .int .i64 0, .slice none 0 0]), (w.heap.size + 1, [.int .i64 (c : Int), .int .i64 (d : Int), .slice A' n2 n']), (w.heap.size, [.int .i64 (a : Int), .int .i64 (b : Int), .slice A n1 n])]) := Lib.hid (by rw [← Nat.add_assoc, hnx]; exact HS.out)
              clear hnx HS HAT hk
              by_cases g0 : D < 0
              · clear hc
                go_wp2_with fail
                go_roundw
                case rel => exact ⟨i + 1, by omega, by go_num, HF⟩
                case measure =>
                  unfold leftN
                  simp [intOf]
                  omega
              · by_cases g1 : (c : Int) ≤ D
                · clear hc
                  go_wp2_with fail
                  go_roundw
                  case rel => exact ⟨i + 1, by omega, by go_num, HF⟩
                  case measure =>
                    unfold leftN
                    simp [intOf]
                    omega
                · by_cases g2 : E < 0
                  · clear hc
                    go_wp2_with fail
                    go_roundw
                    case rel => exact ⟨i + 1, by omega, by go_num, HF⟩
                    case measure =>
                      unfold leftN
                      simp [intOf]
                      omega
                  · have g3 : (d : Int) ≤ E := by omega
                    clear hc
                    go_wp2_with fail
                    go_roundw
                    case rel => exact ⟨i + 1, by omega, by go_num, HF⟩
                    case measure =>
                      unfold leftN
                      simp [intOf]
                      omega
            · rw [cov_iff, hD, hE] at hc
              obtain ⟨xs, rfl⟩ : ∃ xs : Nat, D = xs := ⟨D.toNat, by omega⟩
              obtain ⟨ys, rfl⟩ : ∃ ys : Nat, E = ys := ⟨E.toNat, by omega⟩
              have g0 : ¬ (xs : Int) < 0 := by omega
              have g1 : ¬ (c : Int) ≤ xs := by omega
              have g2 : ¬ (ys : Int) < 0 := by omega
              have g3 : ¬ (d : Int) ≤ ys := by omega
              have hxs : xs < c := by omega
              have hys : ys < d := by omega
              have C5 := fun W hb => Lib.hid (by have := (C3 xs ys hxs hys W hb).out; rwa [at_in HW.out hxs hys] at this)
              have C6 := fun W hb => Lib.hid (by have := (C4 i j hia hlt W hb).out; rwa [at_in HV.out hia hlt] at this)
              have hq := HAT.out
              rw [if_pos (cov_iff.2 (by rw [hD, hE]; exact hc)), hD, hE, Int.toNat_natCast, Int.toNat_natCast] at hq
              have hkl : j * a + i < l.length := by rw [HV.out.len]; exact hk
              have hnx := done_set (newP (overP) a l c d m X Y) hkl
              rw [hq] at hnx
              have hsb : Byt (m.getD (ys * c + xs) zeroPx) := HMB.out _ (List.mem_of_getElem? (get_of (by rw [HW.out.len]; exact idx_lt hxs hys)))
              have hdb : Byt (l.getD (j * a + i) zeroPx) := HLB.out _ (List.mem_of_getElem? (get_of hkl))
              have ho := done_get (newP (overP) a l c d m X Y) (m := j * a + i) hkl
              have hkn : j * a + i < n1 := by rw [← HN.out]; exact hkl
              have R := Lib.hid HS.out.1
              have JL := Lib.hid HS.out.2
              have hdl := Lib.hid (done_len (newP (overP) a l c d m X Y) l (j * a + i))
              rw [HN.out] at hdl
              generalize (if j * a + i < j * a + i then newP (overP) a l c d m X Y (j * a + i) else l.getD (j * a + i) zeroPx) = o at *
              generalize m.getD (ys * c + xs) zeroPx = sp at *
              generalize l.getD (j * a + i) zeroPx = dp at *
              rw [Nat.add_assoc] at hnx
              clear HAT hc hq hxs hys HS hk hkl
              generalize doneL (newP (overP) a l c d m X Y) l (j * a + i) = Lo at *
              obtain ⟨M, hM⟩ : ∃ M, j * a = M := ⟨_, rfl⟩
              have hMb : M ≤ 65536 := by rw [← hM]; exact mul_small (by omega) ha2
              have HM1 : Hid (wrap64 ((j : Int) * (a : Int)) = (M : Int)) := Lib.hid (mul_wrap hM hMb)
              have hm1b : M + i < n1 := by rw [← hM]; exact hkn
              rw [hM] at hnx ho
              have HMM := Lib.hid hM
              clear hkn hM
              obtain ⟨K, hK⟩ : ∃ K, M + i = K := ⟨_, rfl⟩
              have HM2 : Hid (wrap64 ((M : Int) + (i : Int)) = (K : Int) ∧ (M : Int) + (i : Int) = (K : Int) ∧ wrap64 (K : Int) = (K : Int)) := Lib.hid (add_wrap hK (by omega))
              rw [hK] at hnx ho hm1b
              have q3 : (0 : Int) ≤ K := by omega
              have q4 : (K : Int) < n1 := by omega
              have q5 : (n1 : Int) ≤ c6 := by omega
              clear hK
              have C7 := fun W => Lib.hid (rover_any hsb hdb W)
              replace hnx := Lib.hid hnx
              replace ho := Lib.hid ho
              go_wp2_with fail
              refine (C5 _ JL.out.below).out.mono ?_
              rintro e w5 ⟨rfl, hb5⟩
              have J5 := Lib.hid ((JL.out.step hb5).alloc [.int .u8 (sp.r : Int), .int .u8 (sp.g : Int), .int .u8 (sp.b : Int), .int .u8 (sp.a : Int)] 30)
              have R5 := Lib.hid ((R.out.step hb5).step ((Below.refl w5.heap.size w5).alloc (Nat.le_refl _) (.cells #[.int .u8 (sp.r : Int), .int .u8 (sp.g : Int), .int .u8 (sp.b : Int), .int .u8 (sp.a : Int)] 30)))
              have hgw5 : g < w5.heap.size := Nat.lt_of_lt_of_le R.out.2.2 hb5.size
              clear y0 y1 y2 x0 x1 x2 hb5 R JL hMb h1 h2 hsb hdb C3 C4 C5 g0 g1 g2 g3 hD hE wD wE
              generalize overP sp dp = q at *
              go_upto_region 14 with fail
              generalize w5.alloc (.cells #[.int .u8 (sp.r : Int), .int .u8 (sp.g : Int), .int .u8 (sp.b : Int), .int .u8 (sp.a : Int)] 30) = w6 at *
              generalize w5.heap.size = k6 at *
              have HGK := Lib.hid hgw5
              clear hgw5
              go_cut [15] from 87 to 92 (fun s15 wx => s15 = .pointer (some ⟨k6, 0, none⟩) ∧ Hid (RowP wx g Lo ∧ Held w wx ((k6, [.int .u8 (q.r : Int), .int .u8 (q.g : Int), .int .u8 (q.b : Int), .int .u8 (q.a : Int)]) :: [(mm, [.int .i64 (a : Int), .int .i64 (b : Int), .slice (some ⟨g, 0, none⟩) n1 c6]), (w.heap.size + 1 + 1, [.int .i64 0, .int .i64 0, .slice none 0 0]), (w.heap.size + 1, [.int .i64 (c : Int), .int .i64 (d : Int), .slice A' n2 n']), (w.heap.size, [.int .i64 (a : Int), .int .i64 (b : Int), .slice A n1 n])])))
              case first =>
                obtain ⟨p0, p1, p2, p3, pf, pt⟩ := J5.out.four (l1 := [])
                obtain ⟨y0, y1, y2, _, _⟩ := J5.out.tri (l1 := [_, _, _, _])
                have BD := Lib.hid J5.out.drew.below
                go_region_with (first
                  | (go_at_call 18; (with_reducible refine (C6 _ BD.out).out.mono ?_); rintro e w7 ⟨rfl, hb7⟩; have J7 := Lib.hid (J5.out.drew.step hb7); have R7 := Lib.hid (R5.out.drew.step hb7); obtain ⟨r0, r1, r2, r3, rf, rt⟩ := J7.out.four (l1 := []); clear hb7)
                  | (go_at_call 72; (with_reducible refine (C7 _).out.mono ?_); rintro e w8 ⟨rfl, hb8⟩; have J8 := Lib.hid (J7.out.step hb8); have R8 := Lib.hid (R7.out.step hb8); obtain ⟨z0, z1, z2, z3, zf, zt⟩ := J8.out.four (l1 := []); clear hb8))
                all_goals
                  have hgk : g ≠ k6 := fun e => by have := HGK.out; omega
                  have ZZ := Lib.hid (And.intro (R8.out.far4 hgk (.int .u8 (q.r : Int)) (.int .u8 (q.g : Int)) (.int .u8 (q.b : Int)) (.int .u8 (q.a : Int))) (J8.out.set4 (l1 := []) (.int .u8 (q.r : Int)) (.int .u8 (q.g : Int)) (.int .u8 (q.b : Int)) (.int .u8 (q.a : Int))))
                  clear z0 z1 z2 z3 zf zt r0 r1 r2 r3 rf rt p0 p1 p2 p3 pf pt y0 y1 y2
                  go_wp2_with fail
                  go_meet
                  exact ⟨rfl, ZZ⟩
              case rest =>
                obtain ⟨rfl, HY⟩ := hcut
                have Z := Lib.hid (And.intro (HY.out.1.put (o := K) (j := 0) (by rw [hdl.out]; exact hm1b) q) (HY.out.2.tail.grown (grown_putP _ g (K * 4) 0 q) (by omega) HNE.out))
                rw [Nat.add_zero, ← hnx.out, ← HMM.out] at Z
                obtain ⟨a0, a1, a2, a3⟩ := HY.out.1.1 K o ho.out
                rw [Nat.zero_add] at a0 a1 a2 a3
                have af := HY.out.1.2.1
                have hgw := HY.out.1.2.2
                obtain ⟨p0, p1, p2, p3, pf, pt⟩ := HY.out.2.four (l1 := [])
                obtain ⟨y0, y1, y2, _, _⟩ := HY.out.2.tri (l1 := [_, _, _, _])
                obtain ⟨x0, x1, x2, _, _⟩ := HY.out.2.tri (l1 := [_])
                clear hnx ho J5 R5 HY X0 Y0 hm1b C6 C7
                have hm1 := HM1.out
                have hm2 := HM2.out.1
                go_wp2_with fail
                clear hm1 hm2
                go_roundw
                case rel => exact ⟨i + 1, by omega, by go_num, Z⟩
                case measure =>
                  unfold leftN
                  simp [intOf]
                  omega
          · obtain rfl : a = i := by omega
            have q2 : ¬ (a : Int) < a := by omega
            have HF := HS.out
            rw [show j * a + a = (j + 1) * a by rw [Nat.add_mul, Nat.one_mul]] at HF
            have HG := Lib.hid HF
            clear HF HS
            go_wp2_with fail
            go_roundw
            case rel => exact ⟨j + 1, by omega, by go_num, HG⟩
            case measure =>
              unfold leftN
              simp [intOf]
              omega
      · obtain rfl : b = j := by omega
        have q1 : ¬ (b : Int) < b := by omega
        have HF := HR.out
        rw [HLast.out] at HF
        have HE : Hid (RowP wr g (putL (overP) a l c d m X Y) ∧ Held w wr [(mm, [.int .i64 (a : Int), .int .i64 (b : Int), .slice (some ⟨g, 0, none⟩) n1 c6]), (w.heap.size + 1 + 1, [.int .i64 0, .int .i64 0, .slice none 0 0]), (w.heap.size + 1, [.int .i64 (c : Int), .int .i64 (d : Int), .slice A' n2 n']), (w.heap.size, [.int .i64 (a : Int), .int .i64 (b : Int), .slice A n1 n])]) := Lib.hid HF
        have Q := Lib.hid (HE.out.1.far (k := w.heap.size + 1 + 1) (by omega) (.int .i64 (a : Int)) (.int .i64 (b : Int)) (.slice (some ⟨g, 0, none⟩) n1 c6))
        have K := Lib.hid (below_set3 (y0 := .int .i64 (a : Int)) (y1 := .int .i64 (b : Int)) (y2 := .slice (some ⟨g, 0, none⟩) n1 c6) HE.out.2.below (by omega : w.heap.size ≤ w.heap.size + 1 + 1))
        obtain ⟨x0, x1, x2, xf, xt⟩ := HE.out.2.tri (l1 := [])
        obtain ⟨z0, z1, z2, zf, zt⟩ := HE.out.2.tri (l1 := [_])
        clear HF HR
        go_wp2_with fail
        exact bodyPost_ret (v := .tuple #[.agg #[.int .i64 (a : Int), .int .i64 (b : Int), .slice (some ⟨g, 0, none⟩) n1 c6], .int .i64 0]) (by simp [results, Try.results55, go_sem, z0, z1, z2]) rfl ⟨_, rfl, .inr ⟨g, c6, rfl, h1, h2, by omega, Q.out⟩, K.out⟩

end Go.Proofs.Ytahhcklkcibgoaa
