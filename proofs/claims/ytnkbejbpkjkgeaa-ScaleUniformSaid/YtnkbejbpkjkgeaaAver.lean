/-
  average of package scale.
-/
import Derived.Test.YtnkbejbpkjkgeaaCls
import Derived.Test.YtnkbejbpkjkgeaaRcov
import Derived.Deep.CutRange
namespace Go.Proofs.Ytnkbejbpkjkgeaa
open Go.RowKit

/-- the boxes of average -/
theorem heldA (w : World) (a b : Int) (v : Value) (f1 t1 n1 f2 t2 n2 : Value) : Held w (((((w.alloc (.cells #[.int .i64 a, .int .i64 b, v] 24)).alloc (.cells #[f1, t1, n1] 57)).alloc (.cells #[f2, t2, n2] 57)).alloc (.cells #[.int .u8 0, .int .u8 0, .int .u8 0, .int .u8 0] 43)).alloc (.cells #[.int .i64 0] 3))
    [(w.heap.size + 1 + 1 + 1 + 1, [.int .i64 0]), (w.heap.size + 1 + 1 + 1, [.int .u8 0, .int .u8 0, .int .u8 0, .int .u8 0]), (w.heap.size + 1 + 1, [f2, t2, n2]), (w.heap.size + 1, [f1, t1, n1]), (w.heap.size, [.int .i64 a, .int .i64 b, v])] := by
  have h := (((((Held.nil w).alloc [.int .i64 a, .int .i64 b, v] 24).alloc [f1, t1, n1] 57).alloc [f2, t2, n2] 57).alloc [.int .u8 0, .int .u8 0, .int .u8 0, .int .u8 0] 43).alloc [.int .i64 0] 3
  rw [World.size_alloc, World.size_alloc, World.size_alloc, World.size_alloc] at h
  exact h

/-- the store into the pixel's box -/
def avg18 : Oper := { dst := none, op := Go.Op.store 43 (Go.Operand.tmp 16) (Go.Operand.tmp 46), type := 0, pos := "scale.go:79", after := #[{ on := 17, ground := Go.Ground.data }, { on := 9, ground := Go.Ground.data }, { on := 15, ground := Go.Ground.chain }, { on := 0, ground := Go.Ground.phase }, { on := 1, ground := Go.Ground.phase }, { on := 2, ground := Go.Ground.phase }, { on := 3, ground := Go.Ground.phase }, { on := 4, ground := Go.Ground.phase }, { on := 5, ground := Go.Ground.phase }, { on := 6, ground := Go.Ground.phase }, { on := 7, ground := Go.Ground.phase }, { on := 8, ground := Go.Ground.phase }, { on := 9, ground := Go.Ground.phase }, { on := 10, ground := Go.Ground.textOnly Go.Departure.lateStores }, { on := 11, ground := Go.Ground.textOnly Go.Departure.lateStores }, { on := 12, ground := Go.Ground.textOnly Go.Departure.lateStoresUnsure }, { on := 13, ground := Go.Ground.textOnly Go.Departure.lateStores }, { on := 14, ground := Go.Ground.textOnly Go.Departure.lateStores }, { on := 15, ground := Go.Ground.textOnly Go.Departure.lateStoresUnsure }, { on := 16, ground := Go.Ground.textOnly Go.Departure.lateStores }, { on := 17, ground := Go.Ground.phase }], guard := none }

set_option maxRecDepth 100000 in
set_option maxHeartbeats 8000000 in
theorem average_any {a b p q x y : Nat} {v : Value} {l : List Px} {w : World} (h : Pxs w v l) (hv : Vld a b l) (hlb : ∀ z ∈ l, Byt z) (hx : x < p) (hy : y < q) (hp : p ≤ 256) (hq : q ≤ 256) : Calls Try.prog 38 #[.agg #[.int .i64 (a : Int), .int .i64 (b : Int), v], .agg #[.int .i64 ((x * a : Nat) : Int), .int .i64 (((x + 1) * a : Nat) : Int), .int .i64 (p : Int)], .agg #[.int .i64 ((y * b : Nat) : Int), .int .i64 (((y + 1) * b : Nat) : Int), .int .i64 (q : Int)]] w (GivesP (boxP a b l x y p q) w) := by
  obtain ⟨A, c, rfl, hc1, hc2, hcell⟩ := h
  obtain ⟨h0, h6⟩ := hv.small
  obtain ⟨bb, off, rfl, hbb, hcs⟩ := hcell h0
  have HCS := Lib.hid hcs
  have ha1 := hv.a1
  have ha2 := hv.a2
  have hb1 := hv.b1
  have hb2 := hv.b2
  have HTr := Lib.hid (fun k => Nat.le_of_lt_succ (getD_byt hlb k).1)
  have HTg := Lib.hid (fun k => Nat.le_of_lt_succ (getD_byt hlb k).2.1)
  have HTb := Lib.hid (fun k => Nat.le_of_lt_succ (getD_byt hlb k).2.2.1)
  have HTa := Lib.hid (fun k => Nat.le_of_lt_succ (getD_byt hlb k).2.2.2)
  have HBY := Lib.hid (boxP_byt (x := x) (y := y) ha1 hb1 hx hy hlb)
  have g1 : (x + 1) * a ≤ 65536 := mul_small (by omega) ha2
  have g2 : (y + 1) * b ≤ 65536 := mul_small (by omega) hb2
  have g3 : x * a < (x + 1) * a := by rw [Nat.add_mul, Nat.one_mul]; omega
  have g4 : y * b < (y + 1) * b := by rw [Nat.add_mul, Nat.one_mul]; omega
  have SX := sp_in hx ha1
  have SY := sp_in hy hb1
  have CC1 : ∀ W, Hid (Calls Try.prog 49 #[.agg #[.int .i64 ((x * a : Nat) : Int), .int .i64 (((x + 1) * a : Nat) : Int), .int .i64 (p : Int)]] W fun e w' => e = .returned (.int .i64 ((spC x a p : Nat) : Int)) ∧ Below W.heap.size W w') := fun W => Lib.hid (count_any (by omega) g3 (by omega) hp W)
  have CC2 : ∀ W, Hid (Calls Try.prog 49 #[.agg #[.int .i64 ((y * b : Nat) : Int), .int .i64 (((y + 1) * b : Nat) : Int), .int .i64 (q : Int)]] W fun e w' => e = .returned (.int .i64 ((spC y b q : Nat) : Int)) ∧ Below W.heap.size W w') := fun W => Lib.hid (count_any (by omega) g4 (by omega) hq W)
  have CF1 : ∀ W, Hid (Calls Try.prog 50 #[.agg #[.int .i64 ((x * a : Nat) : Int), .int .i64 (((x + 1) * a : Nat) : Int), .int .i64 (p : Int)]] W fun e w' => e = .returned (.int .i64 ((spF x a p : Nat) : Int)) ∧ Below W.heap.size W w') := fun W => Lib.hid (first_any (by omega) (by omega) hp W)
  have CF2 : ∀ W, Hid (Calls Try.prog 50 #[.agg #[.int .i64 ((y * b : Nat) : Int), .int .i64 (((y + 1) * b : Nat) : Int), .int .i64 (q : Int)]] W fun e w' => e = .returned (.int .i64 ((spF y b q : Nat) : Int)) ∧ Below W.heap.size W w') := fun W => Lib.hid (first_any (by omega) (by omega) hq W)
  have CW1 : ∀ i, i < spC x a p → ∀ W, Hid (Calls Try.prog 51 #[.agg #[.int .i64 ((x * a : Nat) : Int), .int .i64 (((x + 1) * a : Nat) : Int), .int .i64 (p : Int)], .int .i64 ((spF x a p + i : Nat) : Int)] W fun e w' => e = .returned (.int .i64 ((ovl x p (spF x a p + i) a : Nat) : Int)) ∧ Below W.heap.size W w') := fun i hi W => Lib.hid (by
    rw [← ovl_within (x := x) (a := a) (w := p) (i := spF x a p + i) (by omega) ha1 (by omega) (by omega)]
    exact weight_any (by omega) (by omega) (by omega) hp W)
  have CW2 : ∀ j, j < spC y b q → ∀ W, Hid (Calls Try.prog 51 #[.agg #[.int .i64 ((y * b : Nat) : Int), .int .i64 (((y + 1) * b : Nat) : Int), .int .i64 (q : Int)], .int .i64 ((spF y b q + j : Nat) : Int)] W fun e w' => e = .returned (.int .i64 ((ovl y q (spF y b q + j) b : Nat) : Int)) ∧ Below W.heap.size W w') := fun j hj W => Lib.hid (by
    rw [← ovl_within (x := y) (a := b) (w := q) (i := spF y b q + j) (by omega) hb1 (by omega) (by omega)]
    exact weight_any (by omega) (by omega) (by omega) hq W)
  have J := Lib.hid (heldA w a b (.slice (some ⟨bb, off, none⟩) l.length c) (.int .i64 ((x * a : Nat) : Int)) (.int .i64 (((x + 1) * a : Nat) : Int)) (.int .i64 (p : Int)) (.int .i64 ((y * b : Nat) : Int)) (.int .i64 (((y + 1) * b : Nat) : Int)) (.int .i64 (q : Int)))
  obtain ⟨n, hn⟩ : ∃ n, l.length = n := ⟨_, rfl⟩
  have HN := Lib.hid hn
  have hnab := Lib.hid (hn.symm.trans hv.len)
  rw [hn] at J hc1 h6 ⊢
  generalize x * a = F1 at *
  generalize (x + 1) * a = T1 at *
  generalize y * b = F2 at *
  generalize (y + 1) * b = T2 at *
  have HCX : ∀ c : Nat → Nat, Hid (apart a b x y p q c (spC y b q) 0 = wsum a b x y p q c) := fun c => Lib.hid (apart_all c hx hy ha1 hb1)
  clear hcell hv hcs hn hc2 h0 hlb g1 g2 g3 g4
  go_enter Try.func38, Try.ntmps38
  go_wp2_with fail
  refine (CC2 _).out.mono ?_
  rintro e w1 ⟨rfl, hb⟩
  replace J := Lib.hid (J.out.step hb)
  clear hb CC2
  go_wp2_with fail
  have G : Hid (((0 : Int) = ((apart a b x y p q (fun k => (l.getD k zeroPx).r) 0 0 : Nat) : Int) ∧ (0 : Int) = ((apart a b x y p q (fun k => (l.getD k zeroPx).g) 0 0 : Nat) : Int) ∧ (0 : Int) = ((apart a b x y p q (fun k => (l.getD k zeroPx).b) 0 0 : Nat) : Int) ∧ (0 : Int) = ((apart a b x y p q (fun k => (l.getD k zeroPx).a) 0 0 : Nat) : Int) ∧ (0 : Int) = ((apart a b x y p q (fun _ => 1) 0 0 : Nat) : Int)) ∧ Held w w1 ((w.heap.size + 1 + 1 + 1 + 1, [.int .i64 0]) :: [(w.heap.size + 1 + 1 + 1, [.int .u8 0, .int .u8 0, .int .u8 0, .int .u8 0]), (w.heap.size + 1 + 1, [.int .i64 (F2 : Int), .int .i64 (T2 : Int), .int .i64 (q : Int)]), (w.heap.size + 1, [.int .i64 (F1 : Int), .int .i64 (T1 : Int), .int .i64 (p : Int)]), (w.heap.size, [.int .i64 (a : Int), .int .i64 (b : Int), .slice (some ⟨bb, off, none⟩) n c])])) := Lib.hid ⟨⟨rfl, rfl, rfl, rfl, rfl⟩, J.out⟩
  clear J
  go_loopw [7, 8, 9, 10, 21] (fun s7 s8 s9 s10 s21 wr => ∃ (j : Nat) (zr zg zb za zt : Int), j ≤ spC y b q ∧ s21 = .int .i64 (j : Int) ∧ s7 = .int .i64 zr ∧ s8 = .int .i64 zg ∧ s9 = .int .i64 zb ∧ s10 = .int .i64 za ∧ Hid ((zr = ((apart a b x y p q (fun k => (l.getD k zeroPx).r) j 0 : Nat) : Int) ∧ zg = ((apart a b x y p q (fun k => (l.getD k zeroPx).g) j 0 : Nat) : Int) ∧ zb = ((apart a b x y p q (fun k => (l.getD k zeroPx).b) j 0 : Nat) : Int) ∧ za = ((apart a b x y p q (fun k => (l.getD k zeroPx).a) j 0 : Nat) : Int) ∧ zt = ((apart a b x y p q (fun _ => 1) j 0 : Nat) : Int)) ∧ Held w wr ((w.heap.size + 1 + 1 + 1 + 1, [.int .i64 zt]) :: [(w.heap.size + 1 + 1 + 1, [.int .u8 0, .int .u8 0, .int .u8 0, .int .u8 0]), (w.heap.size + 1 + 1, [.int .i64 (F2 : Int), .int .i64 (T2 : Int), .int .i64 (q : Int)]), (w.heap.size + 1, [.int .i64 (F1 : Int), .int .i64 (T1 : Int), .int .i64 (p : Int)]), (w.heap.size, [.int .i64 (a : Int), .int .i64 (b : Int), .slice (some ⟨bb, off, none⟩) n c])]))) (fun s7 s8 s9 s10 s21 _ => leftN (spC y b q) s21)
  case atStart => exact ⟨0, 0, 0, 0, 0, 0, Nat.zero_le _, rfl, rfl, rfl, rfl, rfl, G⟩
  case round =>
    clear G
    obtain ⟨j, zr, zg, zb, za, zt, hj, rfl, rfl, rfl, rfl, rfl, HR⟩ := hrel
    by_cases hlt : j < spC y b q
    · have q0 : (j : Int) < (spC y b q : Nat) := by omega
      obtain ⟨wu, rfl⟩ : ∃ z, z = wr := ⟨_, rfl⟩
      obtain ⟨d0, d1, d2, _, dt⟩ := HR.out.2.tri (l1 := [_, _])
      obtain ⟨Y, hY⟩ : ∃ Y, spF y b q + j = Y := ⟨_, rfl⟩
      have HY := Lib.hid hY
      obtain ⟨S0, hS0⟩ : ∃ z : Int, ((spF y b q : Nat) : Int) = z := ⟨_, rfl⟩
      have U1 := Lib.hid (show wrap64 (S0 + (j : Int)) = (Y : Int) from by rw [IntWalk.wrap64_in _ (by omega)]; omega)
      have CG2 := CF2
      rw [hS0] at CG2
      clear hS0
      have D2 := CW2 j hlt
      rw [hY] at D2
      have hYb : Y < b := by omega
      clear hY
      go_wp2_with fail
      refine (CG2 _).out.mono ?_
      rintro e w2 ⟨rfl, hb⟩
      have J := Lib.hid (HR.out.2.step hb)
      clear hb d0 d1 d2 dt
      obtain ⟨d0, d1, d2, _, dt⟩ := J.out.tri (l1 := [_, _, _])
      go_wp2_with fail
      refine (CC1 _).out.mono ?_
      rintro e w3 ⟨rfl, hb⟩
      replace J := Lib.hid (J.out.step hb)
      clear hb d0 d1 d2 dt
      rw [U1.out]
      go_wp2_with fail
      have G := Lib.hid (And.intro HR.out.1 J.out)
      clear HR J
      go_loopw [7, 8, 9, 10, 30] (fun s7 s8 s9 s10 s30 wr => ∃ (i : Nat) (zr zg zb za zt : Int), i ≤ spC x a p ∧ s30 = .int .i64 (i : Int) ∧ s7 = .int .i64 zr ∧ s8 = .int .i64 zg ∧ s9 = .int .i64 zb ∧ s10 = .int .i64 za ∧ Hid ((zr = ((apart a b x y p q (fun k => (l.getD k zeroPx).r) j i : Nat) : Int) ∧ zg = ((apart a b x y p q (fun k => (l.getD k zeroPx).g) j i : Nat) : Int) ∧ zb = ((apart a b x y p q (fun k => (l.getD k zeroPx).b) j i : Nat) : Int) ∧ za = ((apart a b x y p q (fun k => (l.getD k zeroPx).a) j i : Nat) : Int) ∧ zt = ((apart a b x y p q (fun _ => 1) j i : Nat) : Int)) ∧ Held w wr ((w.heap.size + 1 + 1 + 1 + 1, [.int .i64 zt]) :: [(w.heap.size + 1 + 1 + 1, [.int .u8 0, .int .u8 0, .int .u8 0, .int .u8 0]), (w.heap.size + 1 + 1, [.int .i64 (F2 : Int), .int .i64 (T2 : Int), .int .i64 (q : Int)]), (w.heap.size + 1, [.int .i64 (F1 : Int), .int .i64 (T1 : Int), .int .i64 (p : Int)]), (w.heap.size, [.int .i64 (a : Int), .int .i64 (b : Int), .slice (some ⟨bb, off, none⟩) n c])]))) (fun s7 s8 s9 s10 s30 _ => leftN (spC x a p) s30)
      case atStart => exact ⟨0, zr, zg, zb, za, zt, Nat.zero_le _, rfl, rfl, rfl, rfl, rfl, G⟩
      case round =>
        clear G
        obtain ⟨i, zr, zg, zb, za, zt, hi, rfl, rfl, rfl, rfl, rfl, HR⟩ := hrel
        by_cases hil : i < spC x a p
        · have q1 : (i : Int) < (spC x a p : Nat) := by omega
          obtain ⟨d0, d1, d2, _, dt⟩ := HR.out.2.tri (l1 := [_, _, _])
          obtain ⟨X, hX⟩ : ∃ X, spF x a p + i = X := ⟨_, rfl⟩
          have D1 := CW1 i hil
          have hXa : X < a := by omega
          obtain ⟨S1, hS1⟩ : ∃ z : Int, ((spF x a p : Nat) : Int) = z := ⟨_, rfl⟩
          have U2 := Lib.hid (show wrap64 (S1 + (i : Int)) = (X : Int) from by rw [IntWalk.wrap64_in _ (by omega)]; omega)
          have CG1 := CF1
          rw [hS1] at CG1
          clear hS1
          have ho1 := ovl_le x p X a
          have ho2 := ovl_le y q Y b
          have hKlt := idx_lt hXa hYb
          obtain ⟨K, hK⟩ : ∃ K, Y * a + X = K := ⟨_, rfl⟩
          have hab : a * b ≤ 65536 := mul_small ha2 hb2
          rw [hK] at hKlt
          have hKn : K < n := by rw [hnab.out]; exact hKlt
          obtain ⟨px, hpx⟩ : ∃ px, l[K]? = some px := ⟨_, List.getElem?_eq_getElem (by rw [HN.out]; exact hKn)⟩
          have hgd : l.getD (Y * a + X) zeroPx = px := by rw [hK]; exact getD_of hpx
          obtain ⟨Kz, hKz⟩ : ∃ z : Int, z = ((wgt a b x y p q X Y : Nat) : Int) := ⟨_, rfl⟩
          have hko : wgt a b x y p q X Y ≤ 65536 := Nat.le_trans (Nat.mul_le_mul (Nat.le_trans ho1 ha2) (Nat.le_trans ho2 hb2)) (by omega)
          have UK := Lib.hid (show IntKind.i64.wrap (((ovl x p X a : Nat) : Int) * ((ovl y q Y b : Nat) : Int)) = Kz from by rw [← Int.natCast_mul, hKz]; exact IntWalk.i64_in _ (by unfold wgt at hko; omega))
          obtain ⟨hr', hg', hb', ha', ht'⟩ := HR.out.1
          have hpr : px.r ≤ 255 := by rw [← hgd]; exact HTr.out _
          have Ar := Lib.hid (show wrap64 (px.r : Int) = (px.r : Int) from IntWalk.wrap64_in _ (by omega))
          have Nr := apart_next a b x y p q (fun k => (l.getD k zeroPx).r) j i
          rw [HY.out, hX, hgd] at Nr
          have Br : apart a b x y p q (fun k => (l.getD k zeroPx).r) j (i + 1) ≤ 20000000 := Nat.le_trans (apart_le (fun k => (l.getD k zeroPx).r) hx hy ha1 hb1 hlt hil) (Nat.le_trans (boxP_top Px.r hx hy HTr.out) (by omega))
          obtain ⟨kr, zr2, Ur, Vr, Wr⟩ := cov_step hKz hr' Nr Br
          replace Ur := Lib.hid Ur
          replace Vr := Lib.hid Vr
          replace Wr := Lib.hid Wr
          clear Nr Br
          have hpg : px.g ≤ 255 := by rw [← hgd]; exact HTg.out _
          have Ag := Lib.hid (show wrap64 (px.g : Int) = (px.g : Int) from IntWalk.wrap64_in _ (by omega))
          have Ng := apart_next a b x y p q (fun k => (l.getD k zeroPx).g) j i
          rw [HY.out, hX, hgd] at Ng
          have Bg : apart a b x y p q (fun k => (l.getD k zeroPx).g) j (i + 1) ≤ 20000000 := Nat.le_trans (apart_le (fun k => (l.getD k zeroPx).g) hx hy ha1 hb1 hlt hil) (Nat.le_trans (boxP_top Px.g hx hy HTg.out) (by omega))
          obtain ⟨kg, zg2, Ug, Vg, Wg⟩ := cov_step hKz hg' Ng Bg
          replace Ug := Lib.hid Ug
          replace Vg := Lib.hid Vg
          replace Wg := Lib.hid Wg
          clear Ng Bg
          have hpb : px.b ≤ 255 := by rw [← hgd]; exact HTb.out _
          have Ab := Lib.hid (show wrap64 (px.b : Int) = (px.b : Int) from IntWalk.wrap64_in _ (by omega))
          have Nb := apart_next a b x y p q (fun k => (l.getD k zeroPx).b) j i
          rw [HY.out, hX, hgd] at Nb
          have Bb : apart a b x y p q (fun k => (l.getD k zeroPx).b) j (i + 1) ≤ 20000000 := Nat.le_trans (apart_le (fun k => (l.getD k zeroPx).b) hx hy ha1 hb1 hlt hil) (Nat.le_trans (boxP_top Px.b hx hy HTb.out) (by omega))
          obtain ⟨kb, zb2, Ub, Vb, Wb⟩ := cov_step hKz hb' Nb Bb
          replace Ub := Lib.hid Ub
          replace Vb := Lib.hid Vb
          replace Wb := Lib.hid Wb
          clear Nb Bb
          have hpa : px.a ≤ 255 := by rw [← hgd]; exact HTa.out _
          have Aa := Lib.hid (show wrap64 (px.a : Int) = (px.a : Int) from IntWalk.wrap64_in _ (by omega))
          have Na := apart_next a b x y p q (fun k => (l.getD k zeroPx).a) j i
          rw [HY.out, hX, hgd] at Na
          have Ba : apart a b x y p q (fun k => (l.getD k zeroPx).a) j (i + 1) ≤ 20000000 := Nat.le_trans (apart_le (fun k => (l.getD k zeroPx).a) hx hy ha1 hb1 hlt hil) (Nat.le_trans (boxP_top Px.a hx hy HTa.out) (by omega))
          obtain ⟨ka, za2, Ua, Va, Wa⟩ := cov_step hKz ha' Na Ba
          replace Ua := Lib.hid Ua
          replace Va := Lib.hid Va
          replace Wa := Lib.hid Wa
          clear Na Ba
          have Nt := apart_next a b x y p q (fun _ => 1) j i
          rw [HY.out, hX] at Nt
          have Bt : apart a b x y p q (fun _ => 1) j (i + 1) ≤ 20000000 := Nat.le_trans (apart_le (fun _ => 1) hx hy ha1 hb1 hlt hil) (by rw [wsum_const hx hy]; omega)
          obtain ⟨zt2, Vt, Wt⟩ := cov_total hKz ht' Nt Bt
          replace Vt := Lib.hid Vt
          replace Wt := Lib.hid Wt
          obtain ⟨Mi, hMi⟩ : ∃ z : Int, ((Y * a : Nat) : Int) = z := ⟨_, rfl⟩
          have M1 := Lib.hid (show IntKind.i64.wrap ((Y : Int) * (a : Int)) = Mi from by rw [← Int.natCast_mul, IntWalk.i64_in _ (by omega)]; exact hMi)
          have M2 := Lib.hid (show IntKind.i64.wrap (Mi + (X : Int)) = (K : Int) from by rw [IntWalk.i64_in _ (by omega)]; omega)
          have cB := Lib.hid (HCS.out K px hpx)
          have k0 : (0 : Int) ≤ K := by omega
          have kn : (K : Int) < n := by omega
          have J := Lib.hid HR.out.2
          rw [hX] at D1
          clear Nt Bt hgd hpx hr' hg' hb' ha' ht' hKz hko hKlt hKn hK hMi hab HR hX
          generalize ovl x p X a = o1 at *
          generalize ovl y q Y b = o2 at *
          go_wp2_with fail
          refine (CG1 _).out.mono ?_
          rintro e w4 ⟨rfl, hb⟩
          replace J := Lib.hid (J.out.step hb)
          clear hb d0 d1 d2 dt
          go_upto_region 10 with fail
          rw [U2.out]
          go_cut [16, 17] from 37 to 53 (fun s16 s17 wx => ∃ M : Nat, s16 = .pointer (some ⟨M, 0, none⟩) ∧ s17 = .int .i64 Kz ∧ Hid (Held w wx ((M, [.int .u8 (px.r : Int), .int .u8 (px.g : Int), .int .u8 (px.b : Int), .int .u8 (px.a : Int)]) :: (w.heap.size + 1 + 1 + 1 + 1, [.int .i64 zt]) :: [(w.heap.size + 1 + 1 + 1, [.int .u8 0, .int .u8 0, .int .u8 0, .int .u8 0]), (w.heap.size + 1 + 1, [.int .i64 (F2 : Int), .int .i64 (T2 : Int), .int .i64 (q : Int)]), (w.heap.size + 1, [.int .i64 (F1 : Int), .int .i64 (T1 : Int), .int .i64 (p : Int)]), (w.heap.size, [.int .i64 (a : Int), .int .i64 (b : Int), .slice (some ⟨bb, off, none⟩) n c])])))
          case first =>
            replace J := Lib.hid J.out.drew
            have cA := fun W (hb : Below w.heap.size w W) => Lib.hid (cB.out.keep hb hbb)
            have m1 := M1.out
            have m2 := M2.out
            have uk := UK.out
            have sk := And.intro (J.out.three (l1 := [_, _, _, _])) (And.intro (J.out.three (l1 := [_, _, _])) (And.intro (J.out.three (l1 := [_, _])) (cA _ J.out.below).out))
            refine wp_region_held_drew (S := (fun W => (W.cell? ⟨w.heap.size, 0, none⟩ = some (.int .i64 (a : Int)) ∧ W.cell? ⟨w.heap.size, 1, none⟩ = some (.int .i64 (b : Int)) ∧ W.cell? ⟨w.heap.size, 2, none⟩ = some (.slice (some ⟨bb, off, none⟩) n c)) ∧ (W.cell? ⟨w.heap.size + 1, 0, none⟩ = some (.int .i64 (F1 : Int)) ∧ W.cell? ⟨w.heap.size + 1, 1, none⟩ = some (.int .i64 (T1 : Int)) ∧ W.cell? ⟨w.heap.size + 1, 2, none⟩ = some (.int .i64 (p : Int))) ∧ (W.cell? ⟨w.heap.size + 1 + 1, 0, none⟩ = some (.int .i64 (F2 : Int)) ∧ W.cell? ⟨w.heap.size + 1 + 1, 1, none⟩ = some (.int .i64 (T2 : Int)) ∧ W.cell? ⟨w.heap.size + 1 + 1, 2, none⟩ = some (.int .i64 (q : Int))) ∧ (W.cell? ⟨bb, off + K * 4, none⟩ = some (.int .u8 (px.r : Int)) ∧ W.cell? ⟨bb, off + K * 4 + 1, none⟩ = some (.int .u8 (px.g : Int)) ∧ W.cell? ⟨bb, off + K * 4 + 2, none⟩ = some (.int .u8 (px.b : Int)) ∧ W.cell? ⟨bb, off + K * 4 + 3, none⟩ = some (.int .u8 (px.a : Int))))) (by kernel_rfl) sk (fun hHeld => ?_)
            generalize w4.drew = u0 at *
            refine wpAnyH_take (i := 0) (oi := ({ dst := some 37, op := Go.Op.fieldAddr 24 (Go.Operand.tmp 3) 2, type := 0, pos := "scale.go:79", after := #[], guard := none } : Oper)) (v := ?_) rfl (by kernel_rfl) (by kernel_rfl) (by kernel_rfl) (fun _ _ _ h => h) (Or.inl ⟨by kernel_rfl, ?_⟩) hHeld ?_
            rotate_left 1
            · (intro W hSw; (try dsimp only at hSw); go_simp; try with_reducible rfl)
            try simp only [Act.put, List.setIfInBounds_toArray, List.set_cons_zero, List.set_cons_succ]
            refine wpAnyH_take (i := 1) (oi := ({ dst := some 38, op := Go.Op.load 22 (Go.Operand.tmp 37), type := 22, pos := "scale.go:79", after := #[{ on := 0, ground := Go.Ground.data }], guard := none } : Oper)) (v := ?_) rfl (by kernel_rfl) (by kernel_rfl) (by kernel_rfl) (fun _ _ _ h => h) (Or.inl ⟨by kernel_rfl, ?_⟩) hHeld ?_
            rotate_left 1
            · (intro W hSw; (try dsimp only at hSw); go_simp; try with_reducible rfl)
            try simp only [Act.put, List.setIfInBounds_toArray, List.set_cons_zero, List.set_cons_succ]
            refine wpAnyH_take (i := 2) (oi := ({ dst := some 39, op := Go.Op.move (Go.Operand.tmp 13), type := 3, pos := "scale.go:79", after := #[], guard := none } : Oper)) (v := ?_) rfl (by kernel_rfl) (by kernel_rfl) (by kernel_rfl) (fun _ _ _ h => h) (Or.inl ⟨by kernel_rfl, ?_⟩) hHeld ?_
            rotate_left 1
            · (intro W hSw; (try dsimp only at hSw); go_simp; try with_reducible rfl)
            try simp only [Act.put, List.setIfInBounds_toArray, List.set_cons_zero, List.set_cons_succ]
            refine wpAnyH_take (i := 3) (oi := ({ dst := some 40, op := Go.Op.fieldAddr 24 (Go.Operand.tmp 3) 0, type := 0, pos := "scale.go:79", after := #[], guard := none } : Oper)) (v := ?_) rfl (by kernel_rfl) (by kernel_rfl) (by kernel_rfl) (fun _ _ _ h => h) (Or.inl ⟨by kernel_rfl, ?_⟩) hHeld ?_
            rotate_left 1
            · (intro W hSw; (try dsimp only at hSw); go_simp; try with_reducible rfl)
            try simp only [Act.put, List.setIfInBounds_toArray, List.set_cons_zero, List.set_cons_succ]
            refine wpAnyH_take (i := 4) (oi := ({ dst := some 41, op := Go.Op.load 3 (Go.Operand.tmp 40), type := 3, pos := "scale.go:79", after := #[{ on := 3, ground := Go.Ground.data }], guard := none } : Oper)) (v := ?_) rfl (by kernel_rfl) (by kernel_rfl) (by kernel_rfl) (fun _ _ _ h => h) (Or.inl ⟨by kernel_rfl, ?_⟩) hHeld ?_
            rotate_left 1
            · (intro W hSw; (try dsimp only at hSw); go_simp; try with_reducible rfl)
            try simp only [Act.put, List.setIfInBounds_toArray, List.set_cons_zero, List.set_cons_succ]
            refine wpAnyH_take (i := 5) (oi := ({ dst := some 42, op := Go.Op.binOp Go.BinOp.mul 3 (Go.Operand.tmp 39) (Go.Operand.tmp 41) 3, type := 3, pos := "scale.go:79", after := #[{ on := 2, ground := Go.Ground.data }, { on := 4, ground := Go.Ground.data }], guard := none } : Oper)) (v := ?_) rfl (by kernel_rfl) (by kernel_rfl) (by kernel_rfl) (fun _ _ _ h => h) (Or.inl ⟨by kernel_rfl, ?_⟩) hHeld ?_
            rotate_left 1
            · (intro W hSw; (try dsimp only at hSw); go_simp; try with_reducible rfl)
            try simp only [Act.put, List.setIfInBounds_toArray, List.set_cons_zero, List.set_cons_succ]
            refine wpAnyH_take (i := 6) (oi := ({ dst := some 43, op := Go.Op.move (Go.Operand.tmp 15), type := 3, pos := "scale.go:79", after := #[], guard := none } : Oper)) (v := ?_) rfl (by kernel_rfl) (by kernel_rfl) (by kernel_rfl) (fun _ _ _ h => h) (Or.inl ⟨by kernel_rfl, ?_⟩) hHeld ?_
            rotate_left 1
            · (intro W hSw; (try dsimp only at hSw); go_simp; try with_reducible rfl)
            try simp only [Act.put, List.setIfInBounds_toArray, List.set_cons_zero, List.set_cons_succ]
            refine wpAnyH_take (i := 7) (oi := ({ dst := some 44, op := Go.Op.binOp Go.BinOp.add 3 (Go.Operand.tmp 42) (Go.Operand.tmp 43) 3, type := 3, pos := "scale.go:79", after := #[{ on := 5, ground := Go.Ground.data }, { on := 6, ground := Go.Ground.data }], guard := none } : Oper)) (v := ?_) rfl (by kernel_rfl) (by kernel_rfl) (by kernel_rfl) (fun _ _ _ h => h) (Or.inl ⟨by kernel_rfl, ?_⟩) hHeld ?_
            rotate_left 1
            · (intro W hSw; (try dsimp only at hSw); go_simp; try with_reducible rfl)
            try simp only [Act.put, List.setIfInBounds_toArray, List.set_cons_zero, List.set_cons_succ]
            refine wpAnyH_take (i := 8) (oi := ({ dst := some 45, op := Go.Op.indexAddr 22 (Go.Operand.tmp 38) (Go.Operand.tmp 44), type := 0, pos := "scale.go:79", after := #[{ on := 1, ground := Go.Ground.data }, { on := 7, ground := Go.Ground.data }], guard := none } : Oper)) (v := ?_) rfl (by kernel_rfl) (by kernel_rfl) (by kernel_rfl) (fun _ _ _ h => h) (Or.inl ⟨by kernel_rfl, ?_⟩) hHeld ?_
            rotate_left 1
            · (intro W hSw; (try dsimp only at hSw); go_simp; try with_reducible rfl)
            try simp only [Act.put, List.setIfInBounds_toArray, List.set_cons_zero, List.set_cons_succ]
            refine wpAnyH_take (i := 9) (oi := ({ dst := some 46, op := Go.Op.load 43 (Go.Operand.tmp 45), type := 43, pos := "scale.go:79", after := #[{ on := 8, ground := Go.Ground.data }], guard := none } : Oper)) (v := ?_) rfl (by kernel_rfl) (by kernel_rfl) (by kernel_rfl) (fun _ _ _ h => h) (Or.inl ⟨by kernel_rfl, ?_⟩) hHeld ?_
            rotate_left 1
            · (intro W hSw; (try dsimp only at hSw); go_simp; try with_reducible rfl)
            try simp only [Act.put, List.setIfInBounds_toArray, List.set_cons_zero, List.set_cons_succ]
            refine wpAnyH_take (i := 10) (oi := ({ dst := some 47, op := Go.Op.load 57 (Go.Operand.tmp 4), type := 57, pos := "scale.go:79", after := #[], guard := none } : Oper)) (v := ?_) rfl (by kernel_rfl) (by kernel_rfl) (by kernel_rfl) (fun _ _ _ h => h) (Or.inl ⟨by kernel_rfl, ?_⟩) hHeld ?_
            rotate_left 1
            · (intro W hSw; (try dsimp only at hSw); go_simp; try with_reducible rfl)
            try simp only [Act.put, List.setIfInBounds_toArray, List.set_cons_zero, List.set_cons_succ]
            refine wpAnyH_take (i := 11) (oi := ({ dst := some 48, op := Go.Op.move (Go.Operand.tmp 15), type := 3, pos := "scale.go:79", after := #[], guard := none } : Oper)) (v := ?_) rfl (by kernel_rfl) (by kernel_rfl) (by kernel_rfl) (fun _ _ _ h => h) (Or.inl ⟨by kernel_rfl, ?_⟩) hHeld ?_
            rotate_left 1
            · (intro W hSw; (try dsimp only at hSw); go_simp; try with_reducible rfl)
            try simp only [Act.put, List.setIfInBounds_toArray, List.set_cons_zero, List.set_cons_succ]
            refine wpAnyH_take (i := 13) (oi := ({ dst := some 50, op := Go.Op.load 57 (Go.Operand.tmp 5), type := 57, pos := "scale.go:79", after := #[], guard := none } : Oper)) (v := ?_) rfl (by kernel_rfl) (by kernel_rfl) (by kernel_rfl) (fun _ _ _ h => h) (Or.inl ⟨by kernel_rfl, ?_⟩) hHeld ?_
            rotate_left 1
            · (intro W hSw; (try dsimp only at hSw); go_simp; try with_reducible rfl)
            try simp only [Act.put, List.setIfInBounds_toArray, List.set_cons_zero, List.set_cons_succ]
            refine wpAnyH_take (i := 14) (oi := ({ dst := some 51, op := Go.Op.move (Go.Operand.tmp 13), type := 3, pos := "scale.go:79", after := #[], guard := none } : Oper)) (v := ?_) rfl (by kernel_rfl) (by kernel_rfl) (by kernel_rfl) (fun _ _ _ h => h) (Or.inl ⟨by kernel_rfl, ?_⟩) hHeld ?_
            rotate_left 1
            · (intro W hSw; (try dsimp only at hSw); go_simp; try with_reducible rfl)
            try simp only [Act.put, List.setIfInBounds_toArray, List.set_cons_zero, List.set_cons_succ]
            refine wpAnyH_ready (rs := [12, 17]) (by kernel_rfl) (by simp) (AllReadyH.cons (o := ({ dst := some 49, op := Go.Op.call { callee := Go.Callee.value (Go.Operand.func 51), args := #[Go.Operand.tmp 47, Go.Operand.tmp 48], argTypes := #[57, 3] }, type := 3, pos := "scale.go:79", after := #[{ on := 10, ground := Go.Ground.data }, { on := 11, ground := Go.Ground.data }], guard := none } : Oper)) rfl (fun K hK => ?_) (AllReadyH.cons (o := ({ dst := some 16, op := Go.Op.alloc 43, type := 0, pos := "scale.go:79", after := #[], guard := none } : Oper)) rfl (fun K hK => ?_) AllReadyH.nil))
            · go_simp
              refine (D1 _).out.mono ?_
              rintro e u1 ⟨rfl, hb⟩
              replace J := Lib.hid (J.out.step hb)
              clear hb
              (try clear sk)
              have sk := And.intro (J.out.three (l1 := [_, _, _, _])) (And.intro (J.out.three (l1 := [_, _, _])) (And.intro (J.out.three (l1 := [_, _])) (cA _ J.out.below).out))
              refine hK.out _ _ sk (fun hHeld2 => ?_)
              clear hK K hHeld
              have hHeld := hHeld2
              clear hHeld2
              try simp only [Act.put, List.setIfInBounds_toArray, List.set_cons_zero, List.set_cons_succ]
              refine wpAnyH_ready (rs := [15, 17]) (by kernel_rfl) (by simp) (AllReadyH.cons (o := ({ dst := some 52, op := Go.Op.call { callee := Go.Callee.value (Go.Operand.func 51), args := #[Go.Operand.tmp 50, Go.Operand.tmp 51], argTypes := #[57, 3] }, type := 3, pos := "scale.go:79", after := #[{ on := 13, ground := Go.Ground.data }, { on := 14, ground := Go.Ground.data }, { on := 12, ground := Go.Ground.chain }], guard := none } : Oper)) rfl (fun K hK => ?_) (AllReadyH.cons (o := ({ dst := some 16, op := Go.Op.alloc 43, type := 0, pos := "scale.go:79", after := #[], guard := none } : Oper)) rfl (fun K hK => ?_) AllReadyH.nil))
              · go_simp
                refine (D2 _).out.mono ?_
                rintro e u2 ⟨rfl, hb⟩
                replace J := Lib.hid (J.out.step hb)
                clear hb
                (try clear sk)
                have sk := And.intro (J.out.three (l1 := [_, _, _, _])) (And.intro (J.out.three (l1 := [_, _, _])) (And.intro (J.out.three (l1 := [_, _])) (cA _ J.out.below).out))
                refine hK.out _ _ sk (fun hHeld2 => ?_)
                clear hK K hHeld
                have hHeld := hHeld2
                clear hHeld2
                try simp only [Act.put, List.setIfInBounds_toArray, List.set_cons_zero, List.set_cons_succ]
                refine wpAnyH_take (i := 16) (oi := ({ dst := some 53, op := Go.Op.binOp Go.BinOp.mul 3 (Go.Operand.tmp 49) (Go.Operand.tmp 52) 3, type := 3, pos := "scale.go:79", after := #[{ on := 12, ground := Go.Ground.data }, { on := 15, ground := Go.Ground.data }, { on := 18, ground := Go.Ground.gcOnly Go.Departure.lateStores }], guard := none } : Oper)) (v := ?_) rfl (by kernel_rfl) (by kernel_rfl) (by kernel_rfl) (fun _ _ _ h => h) (Or.inl ⟨by kernel_rfl, ?_⟩) hHeld ?_
                rotate_left 1
                · (intro W hSw; (try dsimp only at hSw); go_simp; try with_reducible rfl)
                try simp only [Act.put, List.setIfInBounds_toArray, List.set_cons_zero, List.set_cons_succ]
                refine wpAnyH_ready (rs := [17]) (by kernel_rfl) (by simp) (AllReadyH.cons (o := ({ dst := some 16, op := Go.Op.alloc 43, type := 0, pos := "scale.go:79", after := #[], guard := none } : Oper)) rfl (fun K hK => ?_) AllReadyH.nil)
                go_simp
                replace J := Lib.hid (J.out.alloc [.int .u8 0, .int .u8 0, .int .u8 0, .int .u8 0] 43)
                generalize u2.alloc (.cells #[.int .u8 0, .int .u8 0, .int .u8 0, .int .u8 0] 43) = u3 at *
                generalize u2.heap.size = M at *
                (try clear sk)
                have sk := And.intro (J.out.three (l1 := [_, _, _, _, _])) (And.intro (J.out.three (l1 := [_, _, _, _])) (And.intro (J.out.three (l1 := [_, _, _])) (cA _ J.out.below).out))
                refine hK.out _ _ sk (fun hHeld2 => ?_)
                clear hK K hHeld
                have hHeld := hHeld2
                clear hHeld2
                try simp only [Act.put, List.setIfInBounds_toArray, List.set_cons_zero, List.set_cons_succ]
                refine wpAnyH_ready (rs := [18]) (by kernel_rfl) (by simp) (AllReadyH.cons (o := avg18) rfl (fun K hK => ?_) AllReadyH.nil)
                unfold avg18
                obtain ⟨z0, z1, z2, z3, zf, zt'⟩ := J.out.four (l1 := [])
                go_simp
                replace J := Lib.hid (J.out.set4 (l1 := []) (.int .u8 (px.r : Int)) (.int .u8 (px.g : Int)) (.int .u8 (px.b : Int)) (.int .u8 (px.a : Int)))
                clear z0 z1 z2 z3 zf zt'
                show K _ (set4 u3 M (.int .u8 (px.r : Int)) (.int .u8 (px.g : Int)) (.int .u8 (px.b : Int)) (.int .u8 (px.a : Int)))
                generalize set4 u3 M (.int .u8 (px.r : Int)) (.int .u8 (px.g : Int)) (.int .u8 (px.b : Int)) (.int .u8 (px.a : Int)) = u4 at *
                (try clear sk)
                have sk := And.intro (J.out.three (l1 := [_, _, _, _, _])) (And.intro (J.out.three (l1 := [_, _, _, _])) (And.intro (J.out.three (l1 := [_, _, _])) (cA _ J.out.below).out))
                refine hK.out _ _ sk (fun hHeld2 => ?_)
                clear hK K hHeld
                have hHeld := hHeld2
                clear hHeld2
                try simp only [Act.put, List.setIfInBounds_toArray, List.set_cons_zero, List.set_cons_succ]
                refine wpAnyH_take (i := 19) (oi := ({ dst := some 17, op := Go.Op.assign (Go.Operand.tmp 53), type := 3, pos := "scale.go:79", after := #[{ on := 16, ground := Go.Ground.data }, { on := 18, ground := Go.Ground.chain }, { on := 0, ground := Go.Ground.phase }, { on := 1, ground := Go.Ground.phase }, { on := 2, ground := Go.Ground.phase }, { on := 3, ground := Go.Ground.phase }, { on := 4, ground := Go.Ground.phase }, { on := 5, ground := Go.Ground.phase }, { on := 6, ground := Go.Ground.phase }, { on := 7, ground := Go.Ground.phase }, { on := 8, ground := Go.Ground.phase }, { on := 9, ground := Go.Ground.phase }, { on := 10, ground := Go.Ground.phase }, { on := 11, ground := Go.Ground.phase }, { on := 12, ground := Go.Ground.phase }, { on := 13, ground := Go.Ground.phase }, { on := 14, ground := Go.Ground.phase }, { on := 15, ground := Go.Ground.phase }, { on := 16, ground := Go.Ground.phase }, { on := 17, ground := Go.Ground.phase }, { on := 18, ground := Go.Ground.phase }], guard := none } : Oper)) (v := ?_) rfl (by kernel_rfl) (by kernel_rfl) (by kernel_rfl) (fun _ _ _ h => h) (Or.inl ⟨by kernel_rfl, ?_⟩) hHeld ?_
                rotate_left 1
                · (intro W hSw; (try dsimp only at hSw); go_simp; try with_reducible rfl)
                try simp only [Act.put, List.setIfInBounds_toArray, List.set_cons_zero, List.set_cons_succ]
                refine wpAnyH_done (by kernel_rfl) ?_ _
                go_wp2_with fail
                go_meet
                exact ⟨M, rfl, rfl, J⟩
              · go_simp
                replace J := Lib.hid (J.out.alloc [.int .u8 0, .int .u8 0, .int .u8 0, .int .u8 0] 43)
                generalize u1.alloc (.cells #[.int .u8 0, .int .u8 0, .int .u8 0, .int .u8 0] 43) = u2 at *
                generalize u1.heap.size = M at *
                (try clear sk)
                have sk := And.intro (J.out.three (l1 := [_, _, _, _, _])) (And.intro (J.out.three (l1 := [_, _, _, _])) (And.intro (J.out.three (l1 := [_, _, _])) (cA _ J.out.below).out))
                refine hK.out _ _ sk (fun hHeld2 => ?_)
                clear hK K hHeld
                have hHeld := hHeld2
                clear hHeld2
                try simp only [Act.put, List.setIfInBounds_toArray, List.set_cons_zero, List.set_cons_succ]
                refine wpAnyH_ready (rs := [15]) (by kernel_rfl) (by simp) (AllReadyH.cons (o := ({ dst := some 52, op := Go.Op.call { callee := Go.Callee.value (Go.Operand.func 51), args := #[Go.Operand.tmp 50, Go.Operand.tmp 51], argTypes := #[57, 3] }, type := 3, pos := "scale.go:79", after := #[{ on := 13, ground := Go.Ground.data }, { on := 14, ground := Go.Ground.data }, { on := 12, ground := Go.Ground.chain }], guard := none } : Oper)) rfl (fun K hK => ?_) AllReadyH.nil)
                go_simp
                refine (D2 _).out.mono ?_
                rintro e u3 ⟨rfl, hb⟩
                replace J := Lib.hid (J.out.step hb)
                clear hb
                (try clear sk)
                have sk := And.intro (J.out.three (l1 := [_, _, _, _, _])) (And.intro (J.out.three (l1 := [_, _, _, _])) (And.intro (J.out.three (l1 := [_, _, _])) (cA _ J.out.below).out))
                refine hK.out _ _ sk (fun hHeld2 => ?_)
                clear hK K hHeld
                have hHeld := hHeld2
                clear hHeld2
                try simp only [Act.put, List.setIfInBounds_toArray, List.set_cons_zero, List.set_cons_succ]
                refine wpAnyH_take (i := 16) (oi := ({ dst := some 53, op := Go.Op.binOp Go.BinOp.mul 3 (Go.Operand.tmp 49) (Go.Operand.tmp 52) 3, type := 3, pos := "scale.go:79", after := #[{ on := 12, ground := Go.Ground.data }, { on := 15, ground := Go.Ground.data }, { on := 18, ground := Go.Ground.gcOnly Go.Departure.lateStores }], guard := none } : Oper)) (v := ?_) rfl (by kernel_rfl) (by kernel_rfl) (by kernel_rfl) (fun _ _ _ h => h) (Or.inl ⟨by kernel_rfl, ?_⟩) hHeld ?_
                rotate_left 1
                · (intro W hSw; (try dsimp only at hSw); go_simp; try with_reducible rfl)
                try simp only [Act.put, List.setIfInBounds_toArray, List.set_cons_zero, List.set_cons_succ]
                refine wpAnyH_ready (rs := [18]) (by kernel_rfl) (by simp) (AllReadyH.cons (o := avg18) rfl (fun K hK => ?_) AllReadyH.nil)
                unfold avg18
                obtain ⟨z0, z1, z2, z3, zf, zt'⟩ := J.out.four (l1 := [])
                go_simp
                replace J := Lib.hid (J.out.set4 (l1 := []) (.int .u8 (px.r : Int)) (.int .u8 (px.g : Int)) (.int .u8 (px.b : Int)) (.int .u8 (px.a : Int)))
                clear z0 z1 z2 z3 zf zt'
                show K _ (set4 u3 M (.int .u8 (px.r : Int)) (.int .u8 (px.g : Int)) (.int .u8 (px.b : Int)) (.int .u8 (px.a : Int)))
                generalize set4 u3 M (.int .u8 (px.r : Int)) (.int .u8 (px.g : Int)) (.int .u8 (px.b : Int)) (.int .u8 (px.a : Int)) = u4 at *
                (try clear sk)
                have sk := And.intro (J.out.three (l1 := [_, _, _, _, _])) (And.intro (J.out.three (l1 := [_, _, _, _])) (And.intro (J.out.three (l1 := [_, _, _])) (cA _ J.out.below).out))
                refine hK.out _ _ sk (fun hHeld2 => ?_)
                clear hK K hHeld
                have hHeld := hHeld2
                clear hHeld2
                try simp only [Act.put, List.setIfInBounds_toArray, List.set_cons_zero, List.set_cons_succ]
                refine wpAnyH_take (i := 19) (oi := ({ dst := some 17, op := Go.Op.assign (Go.Operand.tmp 53), type := 3, pos := "scale.go:79", after := #[{ on := 16, ground := Go.Ground.data }, { on := 18, ground := Go.Ground.chain }, { on := 0, ground := Go.Ground.phase }, { on := 1, ground := Go.Ground.phase }, { on := 2, ground := Go.Ground.phase }, { on := 3, ground := Go.Ground.phase }, { on := 4, ground := Go.Ground.phase }, { on := 5, ground := Go.Ground.phase }, { on := 6, ground := Go.Ground.phase }, { on := 7, ground := Go.Ground.phase }, { on := 8, ground := Go.Ground.phase }, { on := 9, ground := Go.Ground.phase }, { on := 10, ground := Go.Ground.phase }, { on := 11, ground := Go.Ground.phase }, { on := 12, ground := Go.Ground.phase }, { on := 13, ground := Go.Ground.phase }, { on := 14, ground := Go.Ground.phase }, { on := 15, ground := Go.Ground.phase }, { on := 16, ground := Go.Ground.phase }, { on := 17, ground := Go.Ground.phase }, { on := 18, ground := Go.Ground.phase }], guard := none } : Oper)) (v := ?_) rfl (by kernel_rfl) (by kernel_rfl) (by kernel_rfl) (fun _ _ _ h => h) (Or.inl ⟨by kernel_rfl, ?_⟩) hHeld ?_
                rotate_left 1
                · (intro W hSw; (try dsimp only at hSw); go_simp; try with_reducible rfl)
                try simp only [Act.put, List.setIfInBounds_toArray, List.set_cons_zero, List.set_cons_succ]
                refine wpAnyH_done (by kernel_rfl) ?_ _
                go_wp2_with fail
                go_meet
                exact ⟨M, rfl, rfl, J⟩
            · go_simp
              replace J := Lib.hid (J.out.alloc [.int .u8 0, .int .u8 0, .int .u8 0, .int .u8 0] 43)
              generalize u0.alloc (.cells #[.int .u8 0, .int .u8 0, .int .u8 0, .int .u8 0] 43) = u1 at *
              generalize u0.heap.size = M at *
              (try clear sk)
              have sk := And.intro (J.out.three (l1 := [_, _, _, _, _])) (And.intro (J.out.three (l1 := [_, _, _, _])) (And.intro (J.out.three (l1 := [_, _, _])) (cA _ J.out.below).out))
              refine hK.out _ _ sk (fun hHeld2 => ?_)
              clear hK K hHeld
              have hHeld := hHeld2
              clear hHeld2
              try simp only [Act.put, List.setIfInBounds_toArray, List.set_cons_zero, List.set_cons_succ]
              refine wpAnyH_ready (rs := [12]) (by kernel_rfl) (by simp) (AllReadyH.cons (o := ({ dst := some 49, op := Go.Op.call { callee := Go.Callee.value (Go.Operand.func 51), args := #[Go.Operand.tmp 47, Go.Operand.tmp 48], argTypes := #[57, 3] }, type := 3, pos := "scale.go:79", after := #[{ on := 10, ground := Go.Ground.data }, { on := 11, ground := Go.Ground.data }], guard := none } : Oper)) rfl (fun K hK => ?_) AllReadyH.nil)
              go_simp
              refine (D1 _).out.mono ?_
              rintro e u2 ⟨rfl, hb⟩
              replace J := Lib.hid (J.out.step hb)
              clear hb
              (try clear sk)
              have sk := And.intro (J.out.three (l1 := [_, _, _, _, _])) (And.intro (J.out.three (l1 := [_, _, _, _])) (And.intro (J.out.three (l1 := [_, _, _])) (cA _ J.out.below).out))
              refine hK.out _ _ sk (fun hHeld2 => ?_)
              clear hK K hHeld
              have hHeld := hHeld2
              clear hHeld2
              try simp only [Act.put, List.setIfInBounds_toArray, List.set_cons_zero, List.set_cons_succ]
              refine wpAnyH_ready (rs := [15]) (by kernel_rfl) (by simp) (AllReadyH.cons (o := ({ dst := some 52, op := Go.Op.call { callee := Go.Callee.value (Go.Operand.func 51), args := #[Go.Operand.tmp 50, Go.Operand.tmp 51], argTypes := #[57, 3] }, type := 3, pos := "scale.go:79", after := #[{ on := 13, ground := Go.Ground.data }, { on := 14, ground := Go.Ground.data }, { on := 12, ground := Go.Ground.chain }], guard := none } : Oper)) rfl (fun K hK => ?_) AllReadyH.nil)
              go_simp
              refine (D2 _).out.mono ?_
              rintro e u3 ⟨rfl, hb⟩
              replace J := Lib.hid (J.out.step hb)
              clear hb
              (try clear sk)
              have sk := And.intro (J.out.three (l1 := [_, _, _, _, _])) (And.intro (J.out.three (l1 := [_, _, _, _])) (And.intro (J.out.three (l1 := [_, _, _])) (cA _ J.out.below).out))
              refine hK.out _ _ sk (fun hHeld2 => ?_)
              clear hK K hHeld
              have hHeld := hHeld2
              clear hHeld2
              try simp only [Act.put, List.setIfInBounds_toArray, List.set_cons_zero, List.set_cons_succ]
              refine wpAnyH_take (i := 16) (oi := ({ dst := some 53, op := Go.Op.binOp Go.BinOp.mul 3 (Go.Operand.tmp 49) (Go.Operand.tmp 52) 3, type := 3, pos := "scale.go:79", after := #[{ on := 12, ground := Go.Ground.data }, { on := 15, ground := Go.Ground.data }, { on := 18, ground := Go.Ground.gcOnly Go.Departure.lateStores }], guard := none } : Oper)) (v := ?_) rfl (by kernel_rfl) (by kernel_rfl) (by kernel_rfl) (fun _ _ _ h => h) (Or.inl ⟨by kernel_rfl, ?_⟩) hHeld ?_
              rotate_left 1
              · (intro W hSw; (try dsimp only at hSw); go_simp; try with_reducible rfl)
              try simp only [Act.put, List.setIfInBounds_toArray, List.set_cons_zero, List.set_cons_succ]
              refine wpAnyH_ready (rs := [18]) (by kernel_rfl) (by simp) (AllReadyH.cons (o := avg18) rfl (fun K hK => ?_) AllReadyH.nil)
              unfold avg18
              obtain ⟨z0, z1, z2, z3, zf, zt'⟩ := J.out.four (l1 := [])
              go_simp
              replace J := Lib.hid (J.out.set4 (l1 := []) (.int .u8 (px.r : Int)) (.int .u8 (px.g : Int)) (.int .u8 (px.b : Int)) (.int .u8 (px.a : Int)))
              clear z0 z1 z2 z3 zf zt'
              show K _ (set4 u3 M (.int .u8 (px.r : Int)) (.int .u8 (px.g : Int)) (.int .u8 (px.b : Int)) (.int .u8 (px.a : Int)))
              generalize set4 u3 M (.int .u8 (px.r : Int)) (.int .u8 (px.g : Int)) (.int .u8 (px.b : Int)) (.int .u8 (px.a : Int)) = u4 at *
              (try clear sk)
              have sk := And.intro (J.out.three (l1 := [_, _, _, _, _])) (And.intro (J.out.three (l1 := [_, _, _, _])) (And.intro (J.out.three (l1 := [_, _, _])) (cA _ J.out.below).out))
              refine hK.out _ _ sk (fun hHeld2 => ?_)
              clear hK K hHeld
              have hHeld := hHeld2
              clear hHeld2
              try simp only [Act.put, List.setIfInBounds_toArray, List.set_cons_zero, List.set_cons_succ]
              refine wpAnyH_take (i := 19) (oi := ({ dst := some 17, op := Go.Op.assign (Go.Operand.tmp 53), type := 3, pos := "scale.go:79", after := #[{ on := 16, ground := Go.Ground.data }, { on := 18, ground := Go.Ground.chain }, { on := 0, ground := Go.Ground.phase }, { on := 1, ground := Go.Ground.phase }, { on := 2, ground := Go.Ground.phase }, { on := 3, ground := Go.Ground.phase }, { on := 4, ground := Go.Ground.phase }, { on := 5, ground := Go.Ground.phase }, { on := 6, ground := Go.Ground.phase }, { on := 7, ground := Go.Ground.phase }, { on := 8, ground := Go.Ground.phase }, { on := 9, ground := Go.Ground.phase }, { on := 10, ground := Go.Ground.phase }, { on := 11, ground := Go.Ground.phase }, { on := 12, ground := Go.Ground.phase }, { on := 13, ground := Go.Ground.phase }, { on := 14, ground := Go.Ground.phase }, { on := 15, ground := Go.Ground.phase }, { on := 16, ground := Go.Ground.phase }, { on := 17, ground := Go.Ground.phase }, { on := 18, ground := Go.Ground.phase }], guard := none } : Oper)) (v := ?_) rfl (by kernel_rfl) (by kernel_rfl) (by kernel_rfl) (fun _ _ _ h => h) (Or.inl ⟨by kernel_rfl, ?_⟩) hHeld ?_
              rotate_left 1
              · (intro W hSw; (try dsimp only at hSw); go_simp; try with_reducible rfl)
              try simp only [Act.put, List.setIfInBounds_toArray, List.set_cons_zero, List.set_cons_succ]
              refine wpAnyH_done (by kernel_rfl) ?_ _
              go_wp2_with fail
              go_meet
              exact ⟨M, rfl, rfl, J⟩
          case rest =>
            obtain ⟨M, rfl, rfl, HW⟩ := hcut
            clear J D1
            have Z := Lib.hid (HW.out.set1 (l1 := [_]) (.int .i64 zt2)).tail
            obtain ⟨d0, d1, d2, d3, df, dt⟩ := HW.out.four (l1 := [])
            obtain ⟨e0, ef, et⟩ := HW.out.one (l1 := [_])
            have u1 := Ur.out
            have u2 := Ug.out
            have u3 := Ub.out
            have u4 := Ua.out
            have v1 := Vr.out
            have v2 := Vg.out
            have v3 := Vb.out
            have v4 := Va.out
            have v5 := Vt.out
            go_wp2_with fail
            go_roundw
            case rel =>
              clear u1 u2 u3 u4 v1 v2 v3 v4 v5
              exact ⟨i + 1, zr2, zg2, zb2, za2, zt2, by omega, by go_num, (by first | rfl | rw [Vr.out] | rw [Ur.out, Vr.out] | rw [Ar.out, Ur.out, Vr.out]), (by first | rfl | rw [Vg.out] | rw [Ug.out, Vg.out] | rw [Ag.out, Ug.out, Vg.out]), (by first | rfl | rw [Vb.out] | rw [Ub.out, Vb.out] | rw [Ab.out, Ub.out, Vb.out]), (by first | rfl | rw [Va.out] | rw [Ua.out, Va.out] | rw [Aa.out, Ua.out, Va.out]), Lib.hid ⟨⟨Wr.out, Wg.out, Wb.out, Wa.out, Wt.out⟩, Z.out⟩⟩
            case measure =>
              clear u1 u2 u3 u4 v1 v2 v3 v4 v5
              unfold leftN
              simp [intOf]
              omega
        · obtain hie : i = spC x a p := by omega
          have q1 : ¬ (i : Int) < (spC x a p : Nat) := by omega
          rw [hie, apart_row, apart_row, apart_row, apart_row, apart_row] at HR
          clear hie
          go_wp2_with fail
          go_roundw
          case rel => exact ⟨j + 1, zr, zg, zb, za, zt, by omega, by go_num, rfl, rfl, rfl, rfl, HR⟩
          case measure =>
            unfold leftN
            simp [intOf]
            omega
    · obtain hje : j = spC y b q := by omega
      have q0 : ¬ (j : Int) < (spC y b q : Nat) := by omega
      have hab1 := pos_mul ha1 hb1
      have hab := mul_small ha2 hb2
      obtain ⟨h1, h2, h3, h4, h5⟩ := HR.out.1
      rw [hje, (HCX _).out] at h1 h2 h3 h4 h5
      clear hje
      rw [wsum_const hx hy, Nat.mul_one] at h5
      have Rr : ∀ W, W.cell? ⟨w.heap.size + 1 + 1 + 1 + 1, 0, none⟩ = some (.int .i64 zt) → Hid (Calls Try.prog 52 #[.int .i64 zr, .pointer (some ⟨w.heap.size + 1 + 1 + 1 + 1, 0, none⟩)] W fun e w' => e = .returned (.int .u8 (((boxP a b l x y p q).r : Nat) : Int)) ∧ W = w') := fun W hW => Lib.hid (by
        rw [h5] at hW
        rw [h1]
        exact mean1_any (Nat.le_trans (boxP_top Px.r hx hy HTr.out) (by omega)) hab1 hab HBY.out.1 hW)
      have Rg : ∀ W, W.cell? ⟨w.heap.size + 1 + 1 + 1 + 1, 0, none⟩ = some (.int .i64 zt) → Hid (Calls Try.prog 52 #[.int .i64 zg, .pointer (some ⟨w.heap.size + 1 + 1 + 1 + 1, 0, none⟩)] W fun e w' => e = .returned (.int .u8 (((boxP a b l x y p q).g : Nat) : Int)) ∧ W = w') := fun W hW => Lib.hid (by
        rw [h5] at hW
        rw [h2]
        exact mean1_any (Nat.le_trans (boxP_top Px.g hx hy HTg.out) (by omega)) hab1 hab HBY.out.2.1 hW)
      have Rb : ∀ W, W.cell? ⟨w.heap.size + 1 + 1 + 1 + 1, 0, none⟩ = some (.int .i64 zt) → Hid (Calls Try.prog 52 #[.int .i64 zb, .pointer (some ⟨w.heap.size + 1 + 1 + 1 + 1, 0, none⟩)] W fun e w' => e = .returned (.int .u8 (((boxP a b l x y p q).b : Nat) : Int)) ∧ W = w') := fun W hW => Lib.hid (by
        rw [h5] at hW
        rw [h3]
        exact mean1_any (Nat.le_trans (boxP_top Px.b hx hy HTb.out) (by omega)) hab1 hab HBY.out.2.2.1 hW)
      have Ra : ∀ W, W.cell? ⟨w.heap.size + 1 + 1 + 1 + 1, 0, none⟩ = some (.int .i64 zt) → Hid (Calls Try.prog 52 #[.int .i64 za, .pointer (some ⟨w.heap.size + 1 + 1 + 1 + 1, 0, none⟩)] W fun e w' => e = .returned (.int .u8 (((boxP a b l x y p q).a : Nat) : Int)) ∧ W = w') := fun W hW => Lib.hid (by
        rw [h5] at hW
        rw [h4]
        exact mean1_any (Nat.le_trans (boxP_top Px.a hx hy HTa.out) (by omega)) hab1 hab HBY.out.2.2.2 hW)
      generalize boxP a b l x y p q = P at *
      obtain ⟨z0, z1, z2, z3, zf, zt'⟩ := HR.out.2.four (l1 := [_])
      obtain ⟨e0, ef, et⟩ := HR.out.2.one (l1 := [])
      have K := Lib.hid (below_set4 HR.out.2.below (by omega : w.heap.size ≤ w.heap.size + 1 + 1 + 1) (x0 := .int .u8 (P.r : Int)) (x1 := .int .u8 (P.g : Int)) (x2 := .int .u8 (P.b : Int)) (x3 := .int .u8 (P.a : Int)))
      unfold GivesP
      clear h1 h2 h3 h4 h5 HBY CC1 CF1 CF2 CW1 CW2
      go_wp2_with fail
      refine (Rr _ e0).out.mono ?_
      rintro e w5 ⟨rfl, rfl⟩
      go_wp2_with fail
      refine (Rg _ e0).out.mono ?_
      rintro e w6 ⟨rfl, rfl⟩
      go_wp2_with fail
      refine (Rb _ e0).out.mono ?_
      rintro e w7 ⟨rfl, rfl⟩
      go_wp2_with fail
      refine (Ra _ e0).out.mono ?_
      rintro e w8 ⟨rfl, rfl⟩
      go_wp2_with fail
      exact bodyPost_ret (v := .agg #[.int .u8 (P.r : Int), .int .u8 (P.g : Int), .int .u8 (P.b : Int), .int .u8 (P.a : Int)]) (by simp [results, Try.results38, go_sem, z0, z1, z2, z3]) rfl ⟨rfl, K.out⟩

end Go.Proofs.Ytnkbejbpkjkgeaa
