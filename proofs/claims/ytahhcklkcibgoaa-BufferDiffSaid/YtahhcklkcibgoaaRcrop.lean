/-
  Crop of the reference.
-/
import Derived.Test.YtahhcklkcibgoaaCrop
import Derived.Test.YtahhcklkcibgoaaGrow
namespace Go.Proofs.Ytahhcklkcibgoaa
open Go.RowKit

set_option maxRecDepth 100000 in
set_option maxHeartbeats 4000000 in
theorem rcrop_inv {a b : Int} {v : Value} {l : List Px} (r : R) {w : World} (h : Pxs w v l) (hbad : vBuf a b l = false) : Calls Try.prog 28 #[.agg #[.int .i64 a, .int .i64 b, v], .agg #[.int .i64 r.x0, .int .i64 r.y0, .int .i64 r.x1, .int .i64 r.y1]] w (Outs 0 0 [] 15 w) := by
  have H1 := Lib.hid h
  obtain ⟨A, n, rfl, _⟩ := h.shape
  have C1 := fun W (hb : Below w.heap.size w W) => Lib.hid (rvalid_any a b (H1.out.below hb))
  rw [hbad] at C1
  have J := Lib.hid (heldR3 w a b (.slice A l.length n) r)
  unfold Outs
  generalize l.length = n1 at *
  clear h hbad
  go_enter Try.func28, Try.ntmps28
  go_wp2_with fail
  refine (C1 _ J.out.below).out.mono ?_
  rintro e w1 ⟨rfl, hb⟩
  replace J := Lib.hid (J.out.step hb)
  clear hb
  obtain ⟨z0, z1, z2, zf, zt⟩ := J.out.tri (l1 := [])
  have K := Lib.hid (below_set3 (y0 := .int .i64 0) (y1 := .int .i64 0) (y2 := .slice none 0 0) J.out.below (by omega : w.heap.size ≤ w.heap.size + 1 + 1))
  clear J
  go_wp2_with fail
  exact bodyPost_ret (v := .tuple #[.agg #[.int .i64 0, .int .i64 0, .slice none 0 0], .int .i64 15]) (by simp [results, Try.results28, go_sem, z0, z1, z2]) rfl ⟨_, rfl, .inl ⟨rfl, rfl⟩, K.out⟩


set_option maxRecDepth 100000 in
set_option maxHeartbeats 4000000 in
theorem rcrop_range {a b : Nat} {v : Value} {l : List Px} (r : R) {w : World} (h : Pxs w v l) (hv : Vld a b l) (hbad : cropB a b r = false) : Calls Try.prog 28 #[.agg #[.int .i64 (a : Int), .int .i64 (b : Int), v], .agg #[.int .i64 r.x0, .int .i64 r.y0, .int .i64 r.x1, .int .i64 r.y1]] w (Outs 0 0 [] 6 w) := by
  have H1 := Lib.hid h
  obtain ⟨A, n, rfl, _⟩ := h.shape
  have C1 := fun W (hb : Below w.heap.size w W) => Lib.hid (rvalid_any (a : Int) (b : Int) (H1.out.below hb))
  rw [hv.vBuf] at C1
  have C2 := fun W => Lib.hid (rempty_any r W)
  have J := Lib.hid (heldR3 w a b (.slice A l.length n) r)
  unfold Outs
  rcases crop_bad hbad with he | ⟨he, hd⟩
  · rw [he] at C2
    generalize l.length = n1 at *
    clear h hbad he hv
    go_enter Try.func28, Try.ntmps28
    go_wp2_with fail
    refine (C1 _ J.out.below).out.mono ?_
    rintro e w1 ⟨rfl, hb⟩
    replace J := Lib.hid (J.out.step hb)
    clear hb
    obtain ⟨y0, y1, y2, y3, _, _⟩ := J.out.four (l1 := [_])
    go_wp2_with fail
    refine (C2 _).out.mono ?_
    rintro e w2 ⟨rfl, hb⟩
    replace J := Lib.hid (J.out.step hb)
    clear hb y0 y1 y2 y3
    obtain ⟨y0, y1, y2, y3, _, _⟩ := J.out.four (l1 := [_])
    obtain ⟨x0, x1, x2, _, _⟩ := J.out.tri (l1 := [_, _])
    obtain ⟨z0, z1, z2, zf, zt⟩ := J.out.tri (l1 := [])
    have K := Lib.hid (below_set3 (y0 := .int .i64 0) (y1 := .int .i64 0) (y2 := .slice none 0 0) J.out.below (by omega : w.heap.size ≤ w.heap.size + 1 + 1))
    clear J
    go_wp2_with fail
    exact bodyPost_ret (v := .tuple #[.agg #[.int .i64 0, .int .i64 0, .slice none 0 0], .int .i64 6]) (by simp [results, Try.results28, go_sem, z0, z1, z2]) rfl ⟨_, rfl, .inl ⟨rfl, rfl⟩, K.out⟩
  · rw [he] at C2
    rw [decide_eq_false_iff_not] at hd
    generalize l.length = n1 at *
    clear h hbad he hv
    by_cases g0 : r.x0 < 0
    · clear hd
      go_enter Try.func28, Try.ntmps28
      go_wp2_with fail
      refine (C1 _ J.out.below).out.mono ?_
      rintro e w1 ⟨rfl, hb⟩
      replace J := Lib.hid (J.out.step hb)
      clear hb
      obtain ⟨y0, y1, y2, y3, _, _⟩ := J.out.four (l1 := [_])
      go_wp2_with fail
      refine (C2 _).out.mono ?_
      rintro e w2 ⟨rfl, hb⟩
      replace J := Lib.hid (J.out.step hb)
      clear hb y0 y1 y2 y3
      obtain ⟨y0, y1, y2, y3, _, _⟩ := J.out.four (l1 := [_])
      obtain ⟨x0, x1, x2, _, _⟩ := J.out.tri (l1 := [_, _])
      obtain ⟨z0, z1, z2, zf, zt⟩ := J.out.tri (l1 := [])
      have K := Lib.hid (below_set3 (y0 := .int .i64 0) (y1 := .int .i64 0) (y2 := .slice none 0 0) J.out.below (by omega : w.heap.size ≤ w.heap.size + 1 + 1))
      clear J
      go_wp2_with fail
      exact bodyPost_ret (v := .tuple #[.agg #[.int .i64 0, .int .i64 0, .slice none 0 0], .int .i64 6]) (by simp [results, Try.results28, go_sem, z0, z1, z2]) rfl ⟨_, rfl, .inl ⟨rfl, rfl⟩, K.out⟩
    · by_cases g1 : r.y0 < 0
      · clear hd
        go_enter Try.func28, Try.ntmps28
        go_wp2_with fail
        refine (C1 _ J.out.below).out.mono ?_
        rintro e w1 ⟨rfl, hb⟩
        replace J := Lib.hid (J.out.step hb)
        clear hb
        obtain ⟨y0, y1, y2, y3, _, _⟩ := J.out.four (l1 := [_])
        go_wp2_with fail
        refine (C2 _).out.mono ?_
        rintro e w2 ⟨rfl, hb⟩
        replace J := Lib.hid (J.out.step hb)
        clear hb y0 y1 y2 y3
        obtain ⟨y0, y1, y2, y3, _, _⟩ := J.out.four (l1 := [_])
        obtain ⟨x0, x1, x2, _, _⟩ := J.out.tri (l1 := [_, _])
        obtain ⟨z0, z1, z2, zf, zt⟩ := J.out.tri (l1 := [])
        have K := Lib.hid (below_set3 (y0 := .int .i64 0) (y1 := .int .i64 0) (y2 := .slice none 0 0) J.out.below (by omega : w.heap.size ≤ w.heap.size + 1 + 1))
        clear J
        go_wp2_with fail
        exact bodyPost_ret (v := .tuple #[.agg #[.int .i64 0, .int .i64 0, .slice none 0 0], .int .i64 6]) (by simp [results, Try.results28, go_sem, z0, z1, z2]) rfl ⟨_, rfl, .inl ⟨rfl, rfl⟩, K.out⟩
      · by_cases g2 : (a : Int) < r.x1
        · clear hd
          go_enter Try.func28, Try.ntmps28
          go_wp2_with fail
          refine (C1 _ J.out.below).out.mono ?_
          rintro e w1 ⟨rfl, hb⟩
          replace J := Lib.hid (J.out.step hb)
          clear hb
          obtain ⟨y0, y1, y2, y3, _, _⟩ := J.out.four (l1 := [_])
          go_wp2_with fail
          refine (C2 _).out.mono ?_
          rintro e w2 ⟨rfl, hb⟩
          replace J := Lib.hid (J.out.step hb)
          clear hb y0 y1 y2 y3
          obtain ⟨y0, y1, y2, y3, _, _⟩ := J.out.four (l1 := [_])
          obtain ⟨x0, x1, x2, _, _⟩ := J.out.tri (l1 := [_, _])
          obtain ⟨z0, z1, z2, zf, zt⟩ := J.out.tri (l1 := [])
          have K := Lib.hid (below_set3 (y0 := .int .i64 0) (y1 := .int .i64 0) (y2 := .slice none 0 0) J.out.below (by omega : w.heap.size ≤ w.heap.size + 1 + 1))
          clear J
          go_wp2_with fail
          exact bodyPost_ret (v := .tuple #[.agg #[.int .i64 0, .int .i64 0, .slice none 0 0], .int .i64 6]) (by simp [results, Try.results28, go_sem, z0, z1, z2]) rfl ⟨_, rfl, .inl ⟨rfl, rfl⟩, K.out⟩
        · have g3 : (b : Int) < r.y1 := by omega
          clear hd
          go_enter Try.func28, Try.ntmps28
          go_wp2_with fail
          refine (C1 _ J.out.below).out.mono ?_
          rintro e w1 ⟨rfl, hb⟩
          replace J := Lib.hid (J.out.step hb)
          clear hb
          obtain ⟨y0, y1, y2, y3, _, _⟩ := J.out.four (l1 := [_])
          go_wp2_with fail
          refine (C2 _).out.mono ?_
          rintro e w2 ⟨rfl, hb⟩
          replace J := Lib.hid (J.out.step hb)
          clear hb y0 y1 y2 y3
          obtain ⟨y0, y1, y2, y3, _, _⟩ := J.out.four (l1 := [_])
          obtain ⟨x0, x1, x2, _, _⟩ := J.out.tri (l1 := [_, _])
          obtain ⟨z0, z1, z2, zf, zt⟩ := J.out.tri (l1 := [])
          have K := Lib.hid (below_set3 (y0 := .int .i64 0) (y1 := .int .i64 0) (y2 := .slice none 0 0) J.out.below (by omega : w.heap.size ≤ w.heap.size + 1 + 1))
          clear J
          go_wp2_with fail
          exact bodyPost_ret (v := .tuple #[.agg #[.int .i64 0, .int .i64 0, .slice none 0 0], .int .i64 6]) (by simp [results, Try.results28, go_sem, z0, z1, z2]) rfl ⟨_, rfl, .inl ⟨rfl, rfl⟩, K.out⟩

theorem crop_next {a x0 y0 cw ch xx yy : Nat} (l : List Px) (hx0 : x0 ≤ xx) (hx : xx - x0 < cw) (hy0 : y0 ≤ yy) (hy : yy - y0 < ch) : (cropL a l x0 y0 cw ch).take ((yy - y0) * cw + (xx - x0) + 1) = (cropL a l x0 y0 cw ch).take ((yy - y0) * cw + (xx - x0)) ++ [l.getD (yy * a + xx) zeroPx] := by
  have hk := idx_lt hx hy
  rw [take_next (by rw [crop_len]; exact hk)]
  unfold cropL
  rw [tab_getD _ _ hk, idx_mod hx, idx_div hx, show y0 + (yy - y0) = yy by omega, show x0 + (xx - x0) = xx by omega]

set_option maxRecDepth 100000 in
set_option maxHeartbeats 8000000 in
theorem rcrop_good {a b x0 y0 x1 y1 cw ch : Nat} {v : Value} {l : List Px} {w : World} (h : Pxs w v l) (hv : Vld a b l) (hcw : 1 ≤ cw) (hch : 1 ≤ ch) (hx1 : x0 + cw = x1) (hy1 : y0 + ch = y1) (hx : x1 ≤ a) (hy : y1 ≤ b) :
    Calls Try.prog 28 #[.agg #[.int .i64 (a : Int), .int .i64 (b : Int), v], .agg #[.int .i64 (x0 : Int), .int .i64 (y0 : Int), .int .i64 (x1 : Int), .int .i64 (y1 : Int)]] w (Outs cw ch (cropL a l x0 y0 cw ch) 0 w) := by
  have H1 := Lib.hid h
  have C1 := fun W (hb : Below w.heap.size w W) => Lib.hid (rvalid_any (a : Int) (b : Int) (H1.out.below hb))
  rw [hv.vBuf] at C1
  obtain ⟨r, hr⟩ : ∃ r : R, r = ⟨x0, y0, x1, y1⟩ := ⟨_, rfl⟩
  have ha2 := hv.a2
  have hb2 := hv.b2
  have he : empB r = false := by
    rw [emp_no, hr]
    simp only
    omega
  have C2 := fun W => Lib.hid (rempty_any r W)
  rw [he] at C2
  have hJ := fun A n c => heldR3 w a b (.slice A n c) r
  have e0 : r.x0 = (x0 : Int) := by rw [hr]
  have e1 : r.y0 = (y0 : Int) := by rw [hr]
  have e2 : r.x1 = (x1 : Int) := by rw [hr]
  have e3 : r.y1 = (y1 : Int) := by rw [hr]
  simp only [e0, e1, e2, e3] at C2 hJ
  clear e0 e1 e2 e3 he hr
  have C3 := fun (xx yy : Nat) (hxx : xx < a) (hyy : yy < b) W (hb : Below w.heap.size w W) => Lib.hid (by have := rat_any (a : Int) (b : Int) (xx : Int) (yy : Int) (H1.out.below hb); rwa [at_in hv hxx hyy] at this)
  obtain ⟨A, n, rfl, hn1, hn2, hcell⟩ := h
  have J := Lib.hid (hJ A l.length n)
  have hms : cw * ch ≤ 65536 := mul_small (by omega) (by omega)
  have HNX := fun xx yy h0 h1 h2 h3 => Lib.hid (crop_next (a := a) (x0 := x0) (y0 := y0) (cw := cw) (ch := ch) (xx := xx) (yy := yy) l h0 h1 h2 h3)
  have HL := Lib.hid (crop_len a l x0 y0 cw ch)
  unfold Outs
  generalize cropL a l x0 y0 cw ch = O at *
  generalize l.length = n1 at *
  have HV := Lib.hid hv
  have g0 : ¬ (x0 : Int) < 0 := by omega
  have g1 : ¬ (y0 : Int) < 0 := by omega
  have g2 : ¬ (a : Int) < x1 := by omega
  have g3 : ¬ (b : Int) < y1 := by omega
  have h0 : decide ((x0 : Int) < 0) = false := decide_eq_false g0
  have h1 : decide ((y0 : Int) < 0) = false := decide_eq_false g1
  have h2 : decide (a < x1) = false := decide_eq_false (by omega)
  have h3 : decide (b < y1) = false := decide_eq_false (by omega)
  have f0 : IntKind.i64.wrap ((x1 : Int) - x0) = (cw : Int) := by rw [IntWalk.i64_in _ (by omega)]; omega
  have f1 : (x1 : Int) - x0 = (cw : Int) := by omega
  have f2 : (y1 : Int) - y0 = (ch : Int) := by omega
  clear hcell hv hJ
  go_enter Try.func28, Try.ntmps28
  go_wp2_with fail
  refine (C1 _ J.out.below).out.mono ?_
  rintro e w1 ⟨rfl, hb⟩
  replace J := Lib.hid (J.out.step hb)
  clear hb
  obtain ⟨b0, b1, b2, b3, _, _⟩ := J.out.four (l1 := [_])
  go_wp2_with fail
  refine (C2 _).out.mono ?_
  rintro e w2 ⟨rfl, hb⟩
  replace J := Lib.hid (J.out.step hb)
  clear hb b0 b1 b2 b3
  obtain ⟨b0, b1, b2, b3, _, bt⟩ := J.out.four (l1 := [_])
  obtain ⟨d0, d1, d2, _, dt⟩ := J.out.tri (l1 := [_, _])
  go_wp2_with fail
  clear f0 f1 f2 b0 b1 b2 b3 bt d0 d1 d2 dt
  have hkm := (J.out.tri (l1 := [])).2.2.2.2
  have hwb := J.out.below.size
  have G : Hid (OwnP (w2.alloc (.cells #[.int .i64 (cw : Int), .int .i64 (ch : Int), .slice none 0 0] 24)) (w2.heap.size + 1) (.slice none 0 0) (O.take 0) ∧ Held w (w2.alloc (.cells #[.int .i64 (cw : Int), .int .i64 (ch : Int), .slice none 0 0] 24)) ((w2.heap.size, [.int .i64 (cw : Int), .int .i64 (ch : Int), .slice none 0 0]) :: [(w.heap.size + 1 + 1, [.int .i64 0, .int .i64 0, .slice none 0 0]), (w.heap.size + 1, [.int .i64 (x0 : Int), .int .i64 (y0 : Int), .int .i64 (x1 : Int), .int .i64 (y1 : Int)]), (w.heap.size, [.int .i64 (a : Int), .int .i64 (b : Int), .slice A n1 n])])) := Lib.hid ⟨by rw [List.take_zero]; exact ownP_nil _ _, J.out.alloc [.int .i64 (cw : Int), .int .i64 (ch : Int), .slice none 0 0] 24⟩
  generalize w2.alloc (.cells #[.int .i64 (cw : Int), .int .i64 (ch : Int), .slice none 0 0] 24) = w3 at *
  generalize w2.heap.size = mm at *
  have HLT : ∀ vs : List Value, Hid (∀ p ∈ ((mm, vs) :: [(w.heap.size + 1 + 1, [.int .i64 0, .int .i64 0, .slice none 0 0]), (w.heap.size + 1, [.int .i64 (x0 : Int), .int .i64 (y0 : Int), .int .i64 (x1 : Int), .int .i64 (y1 : Int)]), (w.heap.size, [.int .i64 (a : Int), .int .i64 (b : Int), .slice A n1 n])] : List (Nat × List Value)), p.1 < mm + 1) := fun vs => Lib.hid (fun p hp => by
    simp only [List.mem_cons, List.not_mem_nil, or_false] at hp
    rcases hp with rfl | rfl | rfl | rfl
    · simp
    · simp only; omega
    · simp only; omega
    · simp only; omega)
  clear J C1 C2
  go_loopw [7] (fun s7 wr => ∃ (yy : Nat) (A1 : Option Addr) (k1 c1 : Nat), y0 ≤ yy ∧ yy ≤ y1 ∧ s7 = .int .i64 (yy : Int) ∧ Hid (OwnP wr (mm + 1) (.slice A1 k1 c1) (O.take ((yy - y0) * cw)) ∧ Held w wr ((mm, [.int .i64 (cw : Int), .int .i64 (ch : Int), .slice A1 k1 c1]) :: [(w.heap.size + 1 + 1, [.int .i64 0, .int .i64 0, .slice none 0 0]), (w.heap.size + 1, [.int .i64 (x0 : Int), .int .i64 (y0 : Int), .int .i64 (x1 : Int), .int .i64 (y1 : Int)]), (w.heap.size, [.int .i64 (a : Int), .int .i64 (b : Int), .slice A n1 n])]))) (fun s7 _ => leftN y1 s7)
  case atStart => exact ⟨y0, none, 0, 0, Nat.le_refl _, by omega, rfl, by rw [Nat.sub_self, Nat.zero_mul]; exact G⟩
  case round =>
    obtain ⟨yy, A1, k1, c1, hy0, hy1', rfl, HR⟩ := hrel
    obtain ⟨r0, r1, r2, r3, _, _⟩ := HR.out.2.four (l1 := [_, _])
    by_cases hlt : yy < y1
    · have q1 : (yy : Int) < y1 := by omega
      obtain ⟨wu, rfl⟩ : ∃ x, x = wr := ⟨_, rfl⟩
      go_wp2_with fail
      clear r0 r1 r2 r3
      go_loopw [8] (fun s8 wr => ∃ (xx : Nat) (A1 : Option Addr) (k1 c1 : Nat), x0 ≤ xx ∧ xx ≤ x1 ∧ s8 = .int .i64 (xx : Int) ∧ Hid (OwnP wr (mm + 1) (.slice A1 k1 c1) (O.take ((yy - y0) * cw + (xx - x0))) ∧ Held w wr ((mm, [.int .i64 (cw : Int), .int .i64 (ch : Int), .slice A1 k1 c1]) :: [(w.heap.size + 1 + 1, [.int .i64 0, .int .i64 0, .slice none 0 0]), (w.heap.size + 1, [.int .i64 (x0 : Int), .int .i64 (y0 : Int), .int .i64 (x1 : Int), .int .i64 (y1 : Int)]), (w.heap.size, [.int .i64 (a : Int), .int .i64 (b : Int), .slice A n1 n])]))) (fun s8 _ => leftN x1 s8)
      case atStart => exact ⟨x0, A1, k1, c1, Nat.le_refl _, by omega, rfl, by rw [Nat.sub_self]; exact HR⟩
      case round =>
        clear HR
        obtain ⟨xx, A1, k1, c1, hx0, hx1', rfl, HS⟩ := hrel
        obtain ⟨r0, r1, r2, r3, _, _⟩ := HS.out.2.four (l1 := [_, _])
        by_cases hxl : xx < x1
        · have q2 : (xx : Int) < x1 := by omega
          have hnx := HNX xx yy hx0 (by omega) hy0 (by omega)
          have C4 := C3 xx yy (by omega) (by omega)
          have hlen := Lib.hid (show (O.take ((yy - y0) * cw + (xx - x0))).length + [l.getD (yy * a + xx) zeroPx].length ≤ 4000000 by rw [List.length_take, HL.out]; simp; omega)
          generalize l.getD (yy * a + xx) zeroPx = p at *
          generalize hLk : O.take ((yy - y0) * cw + (xx - x0)) = Lk at *
          have hnx2 : Hid (O.take ((yy - y0) * cw + (xx + 1 - x0)) = Lk ++ [p]) := Lib.hid (by rw [← hnx.out]; congr 1; omega)
          clear hnx hLk HNX
          obtain ⟨d0, d1, d2, _, dt⟩ := HS.out.2.tri (l1 := [_, _, _])
          obtain ⟨m0, m1, m2, _, mt⟩ := HS.out.2.tri (l1 := [])
          have BD := Lib.hid HS.out.2.drew.below
          go_wp2_with fail
          go_region_law (first
            | (go_simp; go_at_call 18; (with_reducible refine (C4 _ BD.out).out.mono ?_); rintro e w5 ⟨rfl, hb5⟩; have J5 := Lib.hid (HS.out.2.drew.step hb5); have O5 := Lib.hid ((show OwnP wr.drew (mm + 1) (.slice A1 k1 c1) Lk from HS.out.1).below hb5); obtain ⟨n0, n1', n2, _, nt⟩ := J5.out.tri (l1 := []); clear hb5)
            | (refine step_appP (by rfl) _ _ (by rfl) (base := mm + 1) (l := Lk) (m := [p]) (by rfl) (by exact O5.out.alloc _) (by rfl) (by exact pxs_one w5 p) (by exact hlen.out) (by have := J5.out.below.size; rw [World.size_alloc]; omega) ?_; intro v6 w6 ho6 hg6 _; have J6 := Lib.hid ((J5.out.made _).grownO hg6 (O5.out.alloc _) (by omega) (HLT _).out); obtain ⟨A6, c6, rfl, _, _⟩ := ho6.pxs.shape; rw [List.length_append, List.length_singleton] at ho6; rw [← hnx2.out] at ho6; have O6 := Lib.hid ho6; obtain ⟨z0, z1, z2, zf, zt⟩ := J6.out.tri (l1 := []); clear ho6 hg6))
          all_goals
            have Z := Lib.hid (And.intro (O6.out.cell (k := mm) (Nat.lt_succ_self mm) 2 (.slice A6 (Lk.length + 1) c6)) (J6.out.cell (l1 := []) (i := 2) (by simp) (.slice A6 (Lk.length + 1) c6)))
            clear z0 z1 z2 zf zt n0 n1' n2 nt d0 d1 d2 dt m0 m1 m2 mt r0 r1 r2 r3 J6 O6 J5 O5 HS C3 C4
            go_wp2_with fail
            go_roundw
            case rel => exact ⟨xx + 1, A6, Lk.length + 1, c6, by omega, by omega, by go_num, Z⟩
            case measure =>
              unfold leftN
              simp [intOf]
              omega
        · obtain rfl : x1 = xx := by omega
          have q2 : ¬ (x1 : Int) < x1 := by omega
          have e : (yy - y0) * cw + (x1 - x0) = (yy + 1 - y0) * cw := by
            rw [show yy + 1 - y0 = (yy - y0) + 1 by omega, Nat.add_mul, Nat.one_mul]
            omega
          rw [e] at HS
          clear e
          go_wp2_with fail
          go_roundw
          case rel => exact ⟨yy + 1, A1, k1, c1, by omega, by omega, by go_num, HS⟩
          case measure =>
            unfold leftN
            simp [intOf]
            omega
    · obtain rfl : y1 = yy := by omega
      have q1 : ¬ (y1 : Int) < y1 := by omega
      have hO : O.take ((y1 - y0) * cw) = O := List.take_of_length_le (by rw [HL.out, show y1 - y0 = ch by omega, Nat.mul_comm]; exact Nat.le_refl _)
      rw [hO] at HR
      have hpos := Nat.mul_le_mul hcw hch
      have Q := Lib.hid ((HR.out.1.set3 (k := w.heap.size + 1 + 1) (by omega) (.int .i64 (cw : Int)) (.int .i64 (ch : Int)) (.slice A1 k1 c1)).res (w := w) (by omega) (by rw [HL.out]; omega))
      have K := Lib.hid (below_set3 (y0 := .int .i64 (cw : Int)) (y1 := .int .i64 (ch : Int)) (y2 := .slice A1 k1 c1) HR.out.2.below (by omega : w.heap.size ≤ w.heap.size + 1 + 1))
      obtain ⟨m0, m1, m2, _, mt⟩ := HR.out.2.tri (l1 := [])
      obtain ⟨z0, z1, z2, zf, zt⟩ := HR.out.2.tri (l1 := [_])
      clear HR hO hpos
      go_wp2_with fail
      exact bodyPost_ret (v := .tuple #[.agg #[.int .i64 (cw : Int), .int .i64 (ch : Int), .slice A1 k1 c1], .int .i64 0]) (by simp [results, Try.results28, go_sem, z0, z1, z2]) rfl ⟨_, rfl, Q.out, K.out⟩

end Go.Proofs.Ytahhcklkcibgoaa
