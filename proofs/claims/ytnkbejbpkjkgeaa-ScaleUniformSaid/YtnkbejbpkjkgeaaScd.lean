/-
  scaled of package scale, with the closures of Nearest and of Box.
-/
import Derived.Test.YtnkbejbpkjkgeaaClb
import Derived.Test.YtnkbejbpkjkgeaaRbox
namespace Go.Proofs.Ytnkbejbpkjkgeaa
open Go.RowKit

theorem prod_wrapS {a b M : Nat} (h : a * b = M) (hb : M ≤ 65536) : wrap64 ((a : Int) * (b : Int)) = (M : Int) := by
  have e : (a : Int) * (b : Int) = ((M : Nat) : Int) := by rw [← h, Int.natCast_mul]
  rw [e]
  exact IntWalk.wrap64_in _ (by omega)

/-- the block of a row that was appended to -/
theorem own_new {w : World} {mm gg k1 c1 : Nat} {A6 : Option Addr} {k6 c6 : Nat} {W : World} {base : Nat} {L : List Px} (ho : OwnP W base (.slice A6 k6 c6) L) (hn : 0 < L.length)
    (hl : (Value.slice A6 k6 c6).ownBlock = (Value.slice (some ⟨gg, 0, none⟩) k1 c1).ownBlock ∨ (Value.slice A6 k6 c6).ownBlock = some w.heap.size) (hm : mm < w.heap.size) (hg : gg ≠ mm) : ∃ g6, A6 = some ⟨g6, 0, none⟩ ∧ g6 ≠ mm := by
  obtain ⟨g, c, hv, _⟩ := ho.rowP hn
  injection hv with e1 e2 e3
  subst e1
  refine ⟨g, rfl, ?_⟩
  rcases hl with h | h
  · have := Option.some.inj h
    simp only at this
    omega
  · have := Option.some.inj h
    simp only at this
    omega

/-- a cell of another block written -/
theorem OwnP.far {w : World} {base : Nat} {A : Option Addr} {n c : Nat} {l : List Px} (h : OwnP w base (.slice A n c) l) {k : Nat} (hk : (Value.slice A n c).ownBlock ≠ some k) (i : Nat) (u : Value) : OwnP (w.setCell ⟨k, i, none⟩ u) base (.slice A n c) l :=
  World.ownsRow.kept h (grown_setCell (World.grownBy.refl w _) i u) (.inr hk)

theorem slice_block (g n c : Nat) : (Value.slice (some ⟨g, 0, none⟩) n c).ownBlock = some g := rfl

set_option maxRecDepth 100000 in
set_option maxHeartbeats 4000000 in
theorem scaled_bad {a b p q : Int} {v : Value} {l : List Px} {w : World} (u : Value) (h : Pxs w v l) (hbad : chkE a b l p q ≠ 0) : Calls Try.prog 32 #[.agg #[.int .i64 a, .int .i64 b, v], .int .i64 p, .int .i64 q, u] w (Outs 0 0 [] (chkE a b l p q) w) := by
  have H := Lib.hid h
  obtain ⟨A, c, rfl, _⟩ := h.shape
  have C1 := fun W (hb : Below w.heap.size w W) => Lib.hid (valid_any a b (H.out.below hb))
  have C2 := fun W => Lib.hid (vsize10_any p q W)
  have J := Lib.hid (heldS w a b (.slice A l.length c))
  unfold chkE at hbad ⊢
  unfold Outs
  generalize l.length = n at *
  clear h
  cases hv : vBuf a b l
  · rw [hv] at C1
    clear hbad hv
    go_enter Try.func32, Try.ntmps32
    go_wp2_with fail
    refine (C1 _ J.out.below).out.mono ?_
    rintro e w1 ⟨rfl, hb⟩
    replace J := Lib.hid (J.out.step hb)
    clear hb
    obtain ⟨z0, z1, z2, zf, zt⟩ := J.out.tri (l1 := [])
    have K := Lib.hid (below_set3 (y0 := .int .i64 0) (y1 := .int .i64 0) (y2 := .slice none 0 0) J.out.below (Nat.le_succ w.heap.size))
    clear J
    go_wp2_with fail
    exact bodyPost_ret (v := .tuple #[.agg #[.int .i64 0, .int .i64 0, .slice none 0 0], .int .i64 15]) (by simp [results, Try.results32, go_sem, z0, z1, z2]) rfl ⟨_, rfl, .inl ⟨rfl, rfl⟩, K.out⟩
  · rw [hv] at C1 hbad
    cases hs : sizB p q
    · rw [hs] at C2
      clear hbad hv hs
      go_enter Try.func32, Try.ntmps32
      go_wp2_with fail
      refine (C1 _ J.out.below).out.mono ?_
      rintro e w1 ⟨rfl, hb⟩
      replace J := Lib.hid (J.out.step hb)
      clear hb
      obtain ⟨z0, z1, z2, zf, zt⟩ := J.out.tri (l1 := [])
      have K := Lib.hid (below_set3 (y0 := .int .i64 0) (y1 := .int .i64 0) (y2 := .slice none 0 0) J.out.below (Nat.le_succ w.heap.size))
      clear J
      go_wp2_with fail
      refine (C2 _).out.mono ?_
      rintro e w2 ⟨rfl, rfl⟩
      go_wp2_with fail
      exact bodyPost_ret (v := .tuple #[.agg #[.int .i64 0, .int .i64 0, .slice none 0 0], .int .i64 6]) (by simp [results, Try.results32, go_sem, z0, z1, z2]) rfl ⟨_, rfl, .inl ⟨rfl, rfl⟩, K.out⟩
    · rw [hs] at hbad
      exact absurd rfl hbad

set_option maxRecDepth 100000 in
set_option maxHeartbeats 8000000 in
theorem scaledN {kb kh kw a b p q : Nat} {v : Value} {l : List Px} {w : World} (h : Reads w kb kh kw a b p q v l) (hv : Vld a b l) (_hlb : ∀ z ∈ l, Byt z) (hp : 1 ≤ p ∧ p ≤ 256) (hq : 1 ≤ q ∧ q ≤ 256) : Calls Try.prog 32 #[.agg #[.int .i64 (a : Int), .int .i64 (b : Int), v], .int .i64 (p : Int), .int .i64 (q : Int), .func (.func 33) #[] #[.pointer (some ⟨kb, 0, none⟩), .pointer (some ⟨kh, 0, none⟩), .pointer (some ⟨kw, 0, none⟩)]] w (Outs p q (nearL a b l p q) 0 w) := by
  have H := Lib.hid h
  obtain ⟨A, c, rfl, _⟩ := h.px.shape
  have C1 := fun W (hb : Below w.heap.size w W) => Lib.hid (valid_any (a : Int) (b : Int) (H.out.px.below hb))
  rw [hv.vBuf] at C1
  have C2 := fun W => Lib.hid (vsize10_any (p : Int) (q : Int) W)
  rw [siz_iff.2 ⟨by omega, by omega⟩] at C2
  have J := Lib.hid (heldS w a b (.slice A l.length c))
  have CC := fun x y (hx : x < p) (hy : y < q) W (hb : Below w.heap.size w W) => Lib.hid (near1_any (H.out.step hb) hv hx hy (by omega) (by omega))
  have hmul : p * q ≤ 65536 := mul_small hp.2 hq.2
  have hms1 := pos_mul hp.1 hq.1
  obtain ⟨M, hM⟩ : ∃ M, p * q = M := ⟨_, rfl⟩
  have HMW := Lib.hid (prod_wrapS hM (by omega))
  have HMM := Lib.hid hM
  have HNX := fun x y hx hy => Lib.hid (near_next (a := a) (b := b) (p := p) (q := q) (x := x) (y := y) l hx hy)
  have HO := Lib.hid (near_len a b l p q)
  rw [hM] at hmul hms1 HO
  have hmk := make_px0 M hmul
  obtain ⟨hp1, hp2⟩ := hp
  obtain ⟨hq1, hq2⟩ := hq
  have g7 : (0 : Int) ≤ M := by omega
  unfold Outs
  generalize nearL a b l p q = O at *
  generalize l.length = n at *
  clear h hv _hlb hM
  have hmw := HMW.out
  go_enter Try.func32, Try.ntmps32
  go_wp2_with fail
  refine (C1 _ J.out.below).out.mono ?_
  rintro e w1 ⟨rfl, hb⟩
  replace J := Lib.hid (J.out.step hb)
  clear hb C1
  go_wp2_with fail
  refine (C2 _).out.mono ?_
  rintro e w2 ⟨rfl, rfl⟩
  clear C2
  have hsz := J.out.below.size
  have hkm0 := (J.out.tri (l1 := [])).2.2.2.2
  go_wp2_with fail
  have j5 := (J.out.made (.cells (zerosP M) 43)).alloc [.int .i64 (p : Int), .int .i64 (q : Int), .slice (some ⟨w1.heap.size, 0, none⟩) 0 M] 24
  have o5 := (ownP_made (base := w1.heap.size) w1 M hmul (Nat.le_refl _)).alloc (.cells #[.int .i64 (p : Int), .int .i64 (q : Int), .slice (some ⟨w1.heap.size, 0, none⟩) 0 M] 24)
  rw [World.size_alloc] at j5
  have hkm : w.heap.size + 1 < w1.heap.size := hkm0
  have G : Hid (w1.heap.size ≠ w1.heap.size + 1 ∧ OwnP ((w1.alloc (.cells (zerosP M) 43)).alloc (.cells #[.int .i64 (p : Int), .int .i64 (q : Int), .slice (some ⟨w1.heap.size, 0, none⟩) 0 M] 24)) w1.heap.size (.slice (some ⟨w1.heap.size, 0, none⟩) 0 M) (O.take (0 * p)) ∧ Held w ((w1.alloc (.cells (zerosP M) 43)).alloc (.cells #[.int .i64 (p : Int), .int .i64 (q : Int), .slice (some ⟨w1.heap.size, 0, none⟩) 0 M] 24)) [(w1.heap.size + 1, [.int .i64 (p : Int), .int .i64 (q : Int), .slice (some ⟨w1.heap.size, 0, none⟩) 0 M]), (w.heap.size + 1, [.int .i64 0, .int .i64 0, .slice none 0 0]), (w.heap.size, [.int .i64 (a : Int), .int .i64 (b : Int), .slice A n c])]) := Lib.hid ⟨by omega, by rw [Nat.zero_mul, List.take_zero]; exact o5, j5⟩
  clear j5 o5 hmw hmk g7 J hkm0
  generalize (w1.alloc (.cells (zerosP M) 43)).alloc (.cells #[.int .i64 (p : Int), .int .i64 (q : Int), .slice (some ⟨w1.heap.size, 0, none⟩) 0 M] 24) = w3 at *
  generalize hmm : w1.heap.size + 1 = mm at *
  generalize w1.heap.size = rr at *
  go_loopw [30] (fun s30 wr => ∃ (y gg k1 c1 : Nat), y ≤ q ∧ s30 = .int .i64 (y : Int) ∧ Hid (gg ≠ mm ∧ OwnP wr rr (.slice (some ⟨gg, 0, none⟩) k1 c1) (O.take (y * p)) ∧ Held w wr [(mm, [.int .i64 (p : Int), .int .i64 (q : Int), .slice (some ⟨gg, 0, none⟩) k1 c1]), (w.heap.size + 1, [.int .i64 0, .int .i64 0, .slice none 0 0]), (w.heap.size, [.int .i64 (a : Int), .int .i64 (b : Int), .slice A n c])])) (fun s30 _ => leftN q s30)
  case atStart => exact ⟨0, rr, 0, M, Nat.zero_le _, rfl, G⟩
  case round =>
    clear G
    obtain ⟨y, gg, k1, c1, hy, rfl, HR⟩ := hrel
    by_cases hlt : y < q
    · have q1 : (y : Int) < q := by omega
      obtain ⟨wu, rfl⟩ : ∃ z, z = wr := ⟨_, rfl⟩
      go_wp2_with fail
      go_loopw [34] (fun s34 wr => ∃ (x gg k1 c1 : Nat), x ≤ p ∧ s34 = .int .i64 (x : Int) ∧ Hid (gg ≠ mm ∧ OwnP wr rr (.slice (some ⟨gg, 0, none⟩) k1 c1) (O.take (y * p + x)) ∧ Held w wr [(mm, [.int .i64 (p : Int), .int .i64 (q : Int), .slice (some ⟨gg, 0, none⟩) k1 c1]), (w.heap.size + 1, [.int .i64 0, .int .i64 0, .slice none 0 0]), (w.heap.size, [.int .i64 (a : Int), .int .i64 (b : Int), .slice A n c])])) (fun s34 _ => leftN p s34)
      case atStart => exact ⟨0, gg, k1, c1, Nat.zero_le _, rfl, HR⟩
      case round =>
        clear HR
        obtain ⟨x, gg, k1, c1, hx, rfl, HS⟩ := hrel
        by_cases hxl : x < p
        · have q2 : (x : Int) < p := by omega
          have hnx := HNX x y hxl hlt
          have C4 := CC x y hxl hlt
          have hlen := Lib.hid (show (O.take (y * p + x)).length + [l.getD (nrsI y b q * a + nrsI x a p) zeroPx].length ≤ 4000000 by
            rw [List.length_take, HO.out, List.length_singleton]
            omega)
          generalize l.getD (nrsI y b q * a + nrsI x a p) zeroPx = px at *
          generalize hLk : O.take (y * p + x) = Lk at *
          have hnx2 : Hid (O.take (y * p + (x + 1)) = Lk ++ [px]) := Lib.hid (by rw [← hnx.out, Nat.add_assoc])
          have hgm := HS.out.1
          have hgk := (HS.out.2.1.block gg rfl).1
          have hne := fun (vs : List Value) => Lib.hid (show ∀ z ∈ ([(mm, vs), (w.heap.size + 1, [.int .i64 0, .int .i64 0, .slice none 0 0]), (w.heap.size, [.int .i64 (a : Int), .int .i64 (b : Int), .slice A n c])] : List (Nat × List Value)), z.1 ≠ gg from fun z hz => by
            simp only [List.mem_cons, List.not_mem_nil, or_false] at hz
            rcases hz with rfl | rfl | rfl
            · exact fun e => hgm e.symm
            · exact fun e => by simp only at e; omega
            · exact fun e => by simp only at e; omega)
          clear hnx hLk
          obtain ⟨m0, m1, m2, _, mt⟩ := HS.out.2.2.tri (l1 := [])
          have BD := Lib.hid HS.out.2.2.drew.below
          go_wp2_with fail
          go_region_law (first
            | (go_simp; go_at_call 33; (with_reducible refine (C4 _ BD.out).out.mono ?_); rintro e w5 ⟨rfl, hb5⟩; have J5 := Lib.hid (HS.out.2.2.drew.step hb5); have O5 := Lib.hid ((show OwnP wr.drew rr (.slice (some ⟨gg, 0, none⟩) k1 c1) Lk from HS.out.2.1).below hb5); obtain ⟨n0', n1', n2', _, nt⟩ := J5.out.tri (l1 := []); clear hb5)
            | (refine step_appP (by rfl) _ _ (by rfl) (base := rr) (l := Lk) (m := [px]) (by rfl) (by exact O5.out.alloc _) (by rfl) (by exact pxs_one w5 px) (by exact hlen.out) (by have := (J5.out.tri (l1 := [])).2.2.2.2; rw [World.size_alloc]; omega) ?_; intro v6 w6 ho6 hg6 hl6; have J6 := Lib.hid ((J5.out.made _).grown (g := gg) hg6 (by omega) (hne _).out); obtain ⟨A6, c6, rfl, _, _⟩ := ho6.pxs.shape; obtain ⟨g6, rfl, hg7⟩ := own_new ho6 (by simp) hl6 (by rw [World.size_alloc]; omega) hgm; rw [List.length_append, List.length_singleton] at ho6; rw [← hnx2.out] at ho6; have O6 := Lib.hid ho6; obtain ⟨z0, z1, z2, zf, zt⟩ := J6.out.tri (l1 := []); clear ho6 hg6 hl6))
          all_goals
            have Z := Lib.hid (And.intro hg7 (And.intro (O6.out.far (k := mm) (by rw [slice_block]; exact fun e => hg7 (Option.some.inj e)) 2 (.slice (some ⟨g6, 0, none⟩) (Lk.length + 1) c6)) (J6.out.cell (l1 := []) (i := 2) (by simp) (.slice (some ⟨g6, 0, none⟩) (Lk.length + 1) c6))))
            clear z0 z1 z2 zf zt n0' n1' n2' nt m0 m1 m2 mt J6 O6 J5 O5 HS C4 hne BD
            go_wp2_with fail
            go_roundw
            case rel => exact ⟨x + 1, g6, Lk.length + 1, c6, by omega, by go_num, Z⟩
            case measure =>
              unfold leftN
              simp [intOf]
              omega
        · obtain rfl : p = x := by omega
          have q2 : ¬ (p : Int) < p := by omega
          rw [show y * p + p = (y + 1) * p by rw [Nat.add_mul, Nat.one_mul]] at HS
          go_wp2_with fail
          go_roundw
          case rel => exact ⟨y + 1, gg, k1, c1, by omega, by go_num, HS⟩
          case measure =>
            unfold leftN
            simp [intOf]
            omega
    · obtain rfl : q = y := by omega
      have q1 : ¬ (q : Int) < q := by omega
      have hO : O.take (q * p) = O := List.take_of_length_le (by rw [HO.out, Nat.mul_comm, HMM.out]; exact Nat.le_refl _)
      rw [hO] at HR
      have hgk := (HR.out.2.1.block gg rfl).1
      have Q := Lib.hid (OwnP.res (w := w) (w' := set3 wr (w.heap.size + 1) (.int .i64 (p : Int)) (.int .i64 (q : Int)) (.slice (some ⟨gg, 0, none⟩) k1 c1)) (HR.out.2.1.set3 (k := w.heap.size + 1) (by omega) (.int .i64 (p : Int)) (.int .i64 (q : Int)) (.slice (some ⟨gg, 0, none⟩) k1 c1)) (by omega) (by rw [HO.out]; omega))
      have K := Lib.hid (below_set3 (y0 := .int .i64 (p : Int)) (y1 := .int .i64 (q : Int)) (y2 := .slice (some ⟨gg, 0, none⟩) k1 c1) HR.out.2.2.below (Nat.le_succ w.heap.size))
      obtain ⟨m0, m1, m2, _, mt⟩ := HR.out.2.2.tri (l1 := [])
      obtain ⟨z0, z1, z2, zf, zt⟩ := HR.out.2.2.tri (l1 := [_])
      clear HR hO
      go_wp2_with fail
      exact bodyPost_ret (v := .tuple #[.agg #[.int .i64 (p : Int), .int .i64 (q : Int), .slice (some ⟨gg, 0, none⟩) k1 c1], .int .i64 0]) (by simp [results, Try.results32, go_sem, z0, z1, z2]) rfl ⟨_, rfl, Q.out, K.out⟩

set_option maxRecDepth 100000 in
set_option maxHeartbeats 8000000 in
theorem scaledB {kb kh kw a b p q : Nat} {v : Value} {l : List Px} {w : World} (h : Reads w kb kh kw a b p q v l) (hv : Vld a b l) (hlb : ∀ z ∈ l, Byt z) (hp : 1 ≤ p ∧ p ≤ 256) (hq : 1 ≤ q ∧ q ≤ 256) : Calls Try.prog 32 #[.agg #[.int .i64 (a : Int), .int .i64 (b : Int), v], .int .i64 (p : Int), .int .i64 (q : Int), .func (.func 37) #[] #[.pointer (some ⟨kb, 0, none⟩), .pointer (some ⟨kw, 0, none⟩), .pointer (some ⟨kh, 0, none⟩)]] w (Outs p q (boxL a b l p q) 0 w) := by
  have H := Lib.hid h
  obtain ⟨A, c, rfl, _⟩ := h.px.shape
  have C1 := fun W (hb : Below w.heap.size w W) => Lib.hid (valid_any (a : Int) (b : Int) (H.out.px.below hb))
  rw [hv.vBuf] at C1
  have C2 := fun W => Lib.hid (vsize10_any (p : Int) (q : Int) W)
  rw [siz_iff.2 ⟨by omega, by omega⟩] at C2
  have J := Lib.hid (heldS w a b (.slice A l.length c))
  have CC := fun x y (hx : x < p) (hy : y < q) W (hb : Below w.heap.size w W) => Lib.hid (box1_any (H.out.step hb) hv hlb hx hy (by omega) (by omega))
  have hmul : p * q ≤ 65536 := mul_small hp.2 hq.2
  have hms1 := pos_mul hp.1 hq.1
  obtain ⟨M, hM⟩ : ∃ M, p * q = M := ⟨_, rfl⟩
  have HMW := Lib.hid (prod_wrapS hM (by omega))
  have HMM := Lib.hid hM
  have HNX := fun x y hx hy => Lib.hid (box_next (a := a) (b := b) (p := p) (q := q) (x := x) (y := y) l hx hy)
  have HO := Lib.hid (box_len a b l p q)
  rw [hM] at hmul hms1 HO
  have hmk := make_px0 M hmul
  obtain ⟨hp1, hp2⟩ := hp
  obtain ⟨hq1, hq2⟩ := hq
  have g7 : (0 : Int) ≤ M := by omega
  unfold Outs
  generalize boxL a b l p q = O at *
  generalize l.length = n at *
  clear h hv hlb hM
  have hmw := HMW.out
  go_enter Try.func32, Try.ntmps32
  go_wp2_with fail
  refine (C1 _ J.out.below).out.mono ?_
  rintro e w1 ⟨rfl, hb⟩
  replace J := Lib.hid (J.out.step hb)
  clear hb C1
  go_wp2_with fail
  refine (C2 _).out.mono ?_
  rintro e w2 ⟨rfl, rfl⟩
  clear C2
  have hsz := J.out.below.size
  have hkm0 := (J.out.tri (l1 := [])).2.2.2.2
  go_wp2_with fail
  have j5 := (J.out.made (.cells (zerosP M) 43)).alloc [.int .i64 (p : Int), .int .i64 (q : Int), .slice (some ⟨w1.heap.size, 0, none⟩) 0 M] 24
  have o5 := (ownP_made (base := w1.heap.size) w1 M hmul (Nat.le_refl _)).alloc (.cells #[.int .i64 (p : Int), .int .i64 (q : Int), .slice (some ⟨w1.heap.size, 0, none⟩) 0 M] 24)
  rw [World.size_alloc] at j5
  have hkm : w.heap.size + 1 < w1.heap.size := hkm0
  have G : Hid (w1.heap.size ≠ w1.heap.size + 1 ∧ OwnP ((w1.alloc (.cells (zerosP M) 43)).alloc (.cells #[.int .i64 (p : Int), .int .i64 (q : Int), .slice (some ⟨w1.heap.size, 0, none⟩) 0 M] 24)) w1.heap.size (.slice (some ⟨w1.heap.size, 0, none⟩) 0 M) (O.take (0 * p)) ∧ Held w ((w1.alloc (.cells (zerosP M) 43)).alloc (.cells #[.int .i64 (p : Int), .int .i64 (q : Int), .slice (some ⟨w1.heap.size, 0, none⟩) 0 M] 24)) [(w1.heap.size + 1, [.int .i64 (p : Int), .int .i64 (q : Int), .slice (some ⟨w1.heap.size, 0, none⟩) 0 M]), (w.heap.size + 1, [.int .i64 0, .int .i64 0, .slice none 0 0]), (w.heap.size, [.int .i64 (a : Int), .int .i64 (b : Int), .slice A n c])]) := Lib.hid ⟨by omega, by rw [Nat.zero_mul, List.take_zero]; exact o5, j5⟩
  clear j5 o5 hmw hmk g7 J hkm0
  generalize (w1.alloc (.cells (zerosP M) 43)).alloc (.cells #[.int .i64 (p : Int), .int .i64 (q : Int), .slice (some ⟨w1.heap.size, 0, none⟩) 0 M] 24) = w3 at *
  generalize hmm : w1.heap.size + 1 = mm at *
  generalize w1.heap.size = rr at *
  go_loopw [30] (fun s30 wr => ∃ (y gg k1 c1 : Nat), y ≤ q ∧ s30 = .int .i64 (y : Int) ∧ Hid (gg ≠ mm ∧ OwnP wr rr (.slice (some ⟨gg, 0, none⟩) k1 c1) (O.take (y * p)) ∧ Held w wr [(mm, [.int .i64 (p : Int), .int .i64 (q : Int), .slice (some ⟨gg, 0, none⟩) k1 c1]), (w.heap.size + 1, [.int .i64 0, .int .i64 0, .slice none 0 0]), (w.heap.size, [.int .i64 (a : Int), .int .i64 (b : Int), .slice A n c])])) (fun s30 _ => leftN q s30)
  case atStart => exact ⟨0, rr, 0, M, Nat.zero_le _, rfl, G⟩
  case round =>
    clear G
    obtain ⟨y, gg, k1, c1, hy, rfl, HR⟩ := hrel
    by_cases hlt : y < q
    · have q1 : (y : Int) < q := by omega
      obtain ⟨wu, rfl⟩ : ∃ z, z = wr := ⟨_, rfl⟩
      go_wp2_with fail
      go_loopw [34] (fun s34 wr => ∃ (x gg k1 c1 : Nat), x ≤ p ∧ s34 = .int .i64 (x : Int) ∧ Hid (gg ≠ mm ∧ OwnP wr rr (.slice (some ⟨gg, 0, none⟩) k1 c1) (O.take (y * p + x)) ∧ Held w wr [(mm, [.int .i64 (p : Int), .int .i64 (q : Int), .slice (some ⟨gg, 0, none⟩) k1 c1]), (w.heap.size + 1, [.int .i64 0, .int .i64 0, .slice none 0 0]), (w.heap.size, [.int .i64 (a : Int), .int .i64 (b : Int), .slice A n c])])) (fun s34 _ => leftN p s34)
      case atStart => exact ⟨0, gg, k1, c1, Nat.zero_le _, rfl, HR⟩
      case round =>
        clear HR
        obtain ⟨x, gg, k1, c1, hx, rfl, HS⟩ := hrel
        by_cases hxl : x < p
        · have q2 : (x : Int) < p := by omega
          have hnx := HNX x y hxl hlt
          have C4 := CC x y hxl hlt
          have hlen := Lib.hid (show (O.take (y * p + x)).length + [boxP a b l x y p q].length ≤ 4000000 by
            rw [List.length_take, HO.out, List.length_singleton]
            omega)
          generalize boxP a b l x y p q = px at *
          generalize hLk : O.take (y * p + x) = Lk at *
          have hnx2 : Hid (O.take (y * p + (x + 1)) = Lk ++ [px]) := Lib.hid (by rw [← hnx.out, Nat.add_assoc])
          have hgm := HS.out.1
          have hgk := (HS.out.2.1.block gg rfl).1
          have hne := fun (vs : List Value) => Lib.hid (show ∀ z ∈ ([(mm, vs), (w.heap.size + 1, [.int .i64 0, .int .i64 0, .slice none 0 0]), (w.heap.size, [.int .i64 (a : Int), .int .i64 (b : Int), .slice A n c])] : List (Nat × List Value)), z.1 ≠ gg from fun z hz => by
            simp only [List.mem_cons, List.not_mem_nil, or_false] at hz
            rcases hz with rfl | rfl | rfl
            · exact fun e => hgm e.symm
            · exact fun e => by simp only at e; omega
            · exact fun e => by simp only at e; omega)
          clear hnx hLk
          obtain ⟨m0, m1, m2, _, mt⟩ := HS.out.2.2.tri (l1 := [])
          have BD := Lib.hid HS.out.2.2.drew.below
          go_wp2_with fail
          go_region_law (first
            | (go_simp; go_at_call 37; (with_reducible refine (C4 _ BD.out).out.mono ?_); rintro e w5 ⟨rfl, hb5⟩; have J5 := Lib.hid (HS.out.2.2.drew.step hb5); have O5 := Lib.hid ((show OwnP wr.drew rr (.slice (some ⟨gg, 0, none⟩) k1 c1) Lk from HS.out.2.1).below hb5); obtain ⟨n0', n1', n2', _, nt⟩ := J5.out.tri (l1 := []); clear hb5)
            | (refine step_appP (by rfl) _ _ (by rfl) (base := rr) (l := Lk) (m := [px]) (by rfl) (by exact O5.out.alloc _) (by rfl) (by exact pxs_one w5 px) (by exact hlen.out) (by have := (J5.out.tri (l1 := [])).2.2.2.2; rw [World.size_alloc]; omega) ?_; intro v6 w6 ho6 hg6 hl6; have J6 := Lib.hid ((J5.out.made _).grown (g := gg) hg6 (by omega) (hne _).out); obtain ⟨A6, c6, rfl, _, _⟩ := ho6.pxs.shape; obtain ⟨g6, rfl, hg7⟩ := own_new ho6 (by simp) hl6 (by rw [World.size_alloc]; omega) hgm; rw [List.length_append, List.length_singleton] at ho6; rw [← hnx2.out] at ho6; have O6 := Lib.hid ho6; obtain ⟨z0, z1, z2, zf, zt⟩ := J6.out.tri (l1 := []); clear ho6 hg6 hl6))
          all_goals
            have Z := Lib.hid (And.intro hg7 (And.intro (O6.out.far (k := mm) (by rw [slice_block]; exact fun e => hg7 (Option.some.inj e)) 2 (.slice (some ⟨g6, 0, none⟩) (Lk.length + 1) c6)) (J6.out.cell (l1 := []) (i := 2) (by simp) (.slice (some ⟨g6, 0, none⟩) (Lk.length + 1) c6))))
            clear z0 z1 z2 zf zt n0' n1' n2' nt m0 m1 m2 mt J6 O6 J5 O5 HS C4 hne BD
            go_wp2_with fail
            go_roundw
            case rel => exact ⟨x + 1, g6, Lk.length + 1, c6, by omega, by go_num, Z⟩
            case measure =>
              unfold leftN
              simp [intOf]
              omega
        · obtain rfl : p = x := by omega
          have q2 : ¬ (p : Int) < p := by omega
          rw [show y * p + p = (y + 1) * p by rw [Nat.add_mul, Nat.one_mul]] at HS
          go_wp2_with fail
          go_roundw
          case rel => exact ⟨y + 1, gg, k1, c1, by omega, by go_num, HS⟩
          case measure =>
            unfold leftN
            simp [intOf]
            omega
    · obtain rfl : q = y := by omega
      have q1 : ¬ (q : Int) < q := by omega
      have hO : O.take (q * p) = O := List.take_of_length_le (by rw [HO.out, Nat.mul_comm, HMM.out]; exact Nat.le_refl _)
      rw [hO] at HR
      have hgk := (HR.out.2.1.block gg rfl).1
      have Q := Lib.hid (OwnP.res (w := w) (w' := set3 wr (w.heap.size + 1) (.int .i64 (p : Int)) (.int .i64 (q : Int)) (.slice (some ⟨gg, 0, none⟩) k1 c1)) (HR.out.2.1.set3 (k := w.heap.size + 1) (by omega) (.int .i64 (p : Int)) (.int .i64 (q : Int)) (.slice (some ⟨gg, 0, none⟩) k1 c1)) (by omega) (by rw [HO.out]; omega))
      have K := Lib.hid (below_set3 (y0 := .int .i64 (p : Int)) (y1 := .int .i64 (q : Int)) (y2 := .slice (some ⟨gg, 0, none⟩) k1 c1) HR.out.2.2.below (Nat.le_succ w.heap.size))
      obtain ⟨m0, m1, m2, _, mt⟩ := HR.out.2.2.tri (l1 := [])
      obtain ⟨z0, z1, z2, zf, zt⟩ := HR.out.2.2.tri (l1 := [_])
      clear HR hO
      go_wp2_with fail
      exact bodyPost_ret (v := .tuple #[.agg #[.int .i64 (p : Int), .int .i64 (q : Int), .slice (some ⟨gg, 0, none⟩) k1 c1], .int .i64 0]) (by simp [results, Try.results32, go_sem, z0, z1, z2]) rfl ⟨_, rfl, Q.out, K.out⟩

end Go.Proofs.Ytnkbejbpkjkgeaa
