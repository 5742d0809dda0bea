/-
  Decode of the reference, where it succeeds.
-/
import Derived.Test.YtahhcklkcibgoaaDecg
namespace Go.Proofs.Ytahhcklkcibgoaa
open Go.RowKit Mem

theorem dprod_wrap {a b M : Nat} (h : a * b = M) (hb : M ≤ 1000000000) : wrap64 ((a : Int) * (b : Int)) = (M : Int) := by
  have e : (a : Int) * (b : Int) = ((M : Nat) : Int) := by rw [← h, Int.natCast_mul]
  rw [e]
  exact IntWalk.wrap64_in _ (by omega)
theorem dplus_wrap {Y X K : Nat} (h : Y + X = K) (hb : K ≤ 1000000000) : wrap64 ((Y : Int) + (X : Int)) = (K : Int) := by
  rw [IntWalk.wrap64_in _ (by omega)]
  omega
theorem dfour_wrap {x X : Nat} (h : 4 * x = X) : (4 * (x : Int)) = (X : Int) := by omega
theorem dinc_wrap {K j J : Nat} (h : K + j = J) (hb : J ≤ 1000000000) : IntKind.i64.wrap ((K : Int) + (j : Int)) = (J : Int) := by
  rw [IntWalk.i64_in _ (by omega)]
  omega

theorem rdecP_raw (f : Int) (bs : List UInt8) (k : Nat) : decP f bs k = clampP (rawP f bs k) := rfl




set_option maxRecDepth 100000 in
set_option maxHeartbeats 8000000 in
theorem rdec_good {f : Int} {a b st : Nat} {v : Value} {bs : List UInt8} {w : World} (h : Sees w v bs) (hf : f = 1 ∨ f = 2) (ha : 1 ≤ a ∧ a ≤ 256) (hb : 1 ≤ b ∧ b ≤ 256) (h1 : 4 * a ≤ st) (h2 : st % 4 = 0) (h3 : b * st ≤ bs.length) (hn : bs.length ≤ 1000000) :
    Calls Try.prog 24 #[.int .i64 f, .int .i64 (a : Int), .int .i64 (b : Int), .int .i64 (st : Int), v] w (Outs a b (decL f a b st bs) 0 w) := by
  have hst : b ≤ b * st := by have := Nat.mul_le_mul_left b (show 1 ≤ st by omega); omega
  rcases h.ways with ⟨_, _, _, he, _⟩ | ⟨bb, off, n, c, rfl, hln, hn0, hnc, hcm, hbb, hcell⟩
  · rw [he] at h3
    simp at h3
    omega
  have J := Lib.hid (held1 w)
  have C1 := fun W => Lib.hid (rsize_any (a : Int) (b : Int) W)
  rw [siz_iff.2 ⟨by omega, by omega⟩] at C1
  obtain ⟨ha1, ha2⟩ := ha
  obtain ⟨hb1, hb2⟩ := hb
  rw [hln] at h3 hn
  have hmul := mul_small ha2 hb2
  have hmul1 := Nat.mul_le_mul ha1 hb1
  have HD := Lib.hid hcell
  have HO := Lib.hid (dec_len f a b st bs)
  have HNX := fun x y hx hy => Lib.hid (dec_next (f := f) (a := a) (b := b) (st := st) (x := x) (y := y) (bs := bs) hx hy)
  unfold Outs
  generalize hOO : decL f a b st bs = O at *
  have g1 : ¬ (st : Int) < 4 * (a : Int) := by omega
  have g2 : (0 : Int) ≤ st := by omega
  have g3 : (st : Int).tmod 4 = 0 := by rw [Int.tmod_eq_emod_of_nonneg g2]; omega
  have g7 : (b : Int) ≠ 0 := by omega
  have g4 : (st : Int) ≤ (n : Int) / b := by
    rw [Int.le_ediv_iff_mul_le (by omega)]
    have : ((b * st : Nat) : Int) = (b : Int) * st := Int.natCast_mul _ _
    rw [Int.mul_comm]
    omega
  obtain ⟨q, hq⟩ : ∃ q : Int, (n : Int) / b = q := ⟨_, rfl⟩
  have g9 : q ≤ 1000000 := by
    rw [← hq]
    exact Int.le_trans (Int.ediv_le_self _ (by omega)) (by omega)
  rw [hq] at g4
  have g5 : ¬ q < (st : Int) := by omega
  have g6 : (0 : Int) ≤ q := by omega
  have HBS := Lib.hid h3
  have b1 : decide ((st : Int) < 4 * (a : Int)) = false := decide_eq_false g1
  have b2 : decide (q < (st : Int)) = false := decide_eq_false g5
  simp only [maxLen] at hcm
  clear h hcell hst hln hOO h3
  rcases hf with rfl | rfl
  · go_enter Try.func24, Try.ntmps24
    go_wp2_with (go_at_call 41; (with_reducible refine (C1 _).out.mono ?_); rintro e wq ⟨rfl, rfl⟩)
    have j5 := J.out.alloc [.int .i64 (a : Int), .int .i64 (b : Int), .slice none 0 0] 24
    rw [World.size_alloc] at j5
    have G : Hid (OwnP ((w.alloc (.cells #[.int .i64 0, .int .i64 0, .slice none 0 0] 24)).alloc (.cells #[.int .i64 (a : Int), .int .i64 (b : Int), .slice none 0 0] 24)) (w.heap.size + 1 + 1) (.slice none 0 0) (O.take (0 * a)) ∧ Held w ((w.alloc (.cells #[.int .i64 0, .int .i64 0, .slice none 0 0] 24)).alloc (.cells #[.int .i64 (a : Int), .int .i64 (b : Int), .slice none 0 0] 24)) [(w.heap.size + 1, [.int .i64 (a : Int), .int .i64 (b : Int), .slice none 0 0]), (w.heap.size, [.int .i64 0, .int .i64 0, .slice none 0 0])]) := Lib.hid ⟨by rw [Nat.zero_mul, List.take_zero]; exact ownP_nil _ _, j5⟩
    have HLT : ∀ vs : List Value, Hid (∀ q ∈ ([(w.heap.size + 1, vs), (w.heap.size, [.int .i64 0, .int .i64 0, .slice none 0 0])] : List (Nat × List Value)), q.1 < w.heap.size + 1 + 1) := fun vs => Lib.hid (fun q hq => by
      simp only [List.mem_cons, List.not_mem_nil, or_false] at hq
      rcases hq with rfl | rfl
      · simp only; omega
      · simp only; omega)
    clear j5 b1 b2 g1 g2 g3 g4 g5 g6 g7 g9 C1 J
    generalize (w.alloc (.cells #[.int .i64 0, .int .i64 0, .slice none 0 0] 24)).alloc (.cells #[.int .i64 (a : Int), .int .i64 (b : Int), .slice none 0 0] 24) = w3 at *
    go_loopw [13] (fun s13 wr => ∃ (y : Nat) (A1 : Option Addr) (k1 c1 : Nat), y ≤ b ∧ s13 = .int .i64 (y : Int) ∧ Hid (OwnP wr (w.heap.size + 1 + 1) (.slice A1 k1 c1) (O.take (y * a)) ∧ Held w wr [(w.heap.size + 1, [.int .i64 (a : Int), .int .i64 (b : Int), .slice A1 k1 c1]), (w.heap.size, [.int .i64 0, .int .i64 0, .slice none 0 0])])) (fun s13 _ => leftN b s13)
    case atStart => exact ⟨0, none, 0, 0, Nat.zero_le _, rfl, G⟩
    case round =>
      obtain ⟨y, A1, k1, c1, hy, rfl, HR⟩ := hrel
      by_cases hlt : y < b
      · have r0 : (y : Int) < b := by omega
        obtain ⟨wu, rfl⟩ : ∃ x, x = wr := ⟨_, rfl⟩
        go_wp2_with fail
        go_loopw [14] (fun s14 wr => ∃ (x : Nat) (A1 : Option Addr) (k1 c1 : Nat), x ≤ a ∧ s14 = .int .i64 (x : Int) ∧ Hid (OwnP wr (w.heap.size + 1 + 1) (.slice A1 k1 c1) (O.take (y * a + x)) ∧ Held w wr [(w.heap.size + 1, [.int .i64 (a : Int), .int .i64 (b : Int), .slice A1 k1 c1]), (w.heap.size, [.int .i64 0, .int .i64 0, .slice none 0 0])])) (fun s14 _ => leftN a s14)
        case atStart => exact ⟨0, A1, k1, c1, Nat.zero_le _, rfl, HR⟩
        case round =>
          clear HR
          obtain ⟨x, A1, k1, c1, hx, rfl, HS⟩ := hrel
          by_cases hxl : x < a
          · have r6 : (x : Int) < a := by omega
            obtain ⟨Y, hY⟩ : ∃ Y, y * st = Y := ⟨_, rfl⟩
            have hYn : Y + st ≤ n := by
              have h1 : (y + 1) * st ≤ b * st := Nat.mul_le_mul_right st hlt
              rw [Nat.add_mul, Nat.one_mul, hY] at h1
              have := HBS.out
              omega
            have HYW := Lib.hid (dprod_wrap hY (by omega))
            obtain ⟨X, hX⟩ : ∃ X, 4 * x = X := ⟨_, rfl⟩
            have HXW := Lib.hid (dfour_wrap hX)
            obtain ⟨K, hK⟩ : ∃ K, Y + X = K := ⟨_, rfl⟩
            have HKW := Lib.hid (dplus_wrap hK (by omega))
            have hKn : K + 3 < n := by omega
            have hnx := HNX x y hxl hlt
            rw [hY, hX, hK] at hnx
            have hpx := rdecP_raw 1 bs K
            have D0 := HD.out K (by omega)
            have D1 := HD.out (K + 1) (by omega)
            have D2 := HD.out (K + 2) (by omega)
            have D3 := HD.out (K + 3) (by omega)
            unfold byte at D0 D1 D2 D3
            obtain ⟨K1, hK1⟩ : ∃ K1, K + 1 = K1 := ⟨_, rfl⟩
            obtain ⟨K2, hK2⟩ : ∃ K2, K + 2 = K2 := ⟨_, rfl⟩
            obtain ⟨K3, hK3⟩ : ∃ K3, K + 3 = K3 := ⟨_, rfl⟩
            have HW1 := Lib.hid (show IntKind.i64.wrap ((K : Int) + 1) = (K1 : Int) from dinc_wrap (j := 1) hK1 (by omega))
            have HW2 := Lib.hid (show IntKind.i64.wrap ((K : Int) + 2) = (K2 : Int) from dinc_wrap (j := 2) hK2 (by omega))
            have HW3 := Lib.hid (show IntKind.i64.wrap ((K : Int) + 3) = (K3 : Int) from dinc_wrap (j := 3) hK3 (by omega))
            have hraw : rawP 1 bs K = ⟨(bs.getD K2 0).toNat, (bs.getD K1 0).toNat, (bs.getD K 0).toNat, (bs.getD K3 0).toNat⟩ := by first | (rw [← hK1, ← hK2, ← hK3]; rfl) | (rw [← hK1, ← hK2]; rfl)
            rw [hraw] at hpx
            rw [hK1] at D1
            rw [hK2] at D2
            rw [hK3] at D3
            generalize (bs.getD K 0).toNat = e0 at *
            generalize (bs.getD K1 0).toNat = e1 at *
            generalize (bs.getD K2 0).toNat = e2 at *
            generalize (bs.getD K3 0).toNat = e3 at *
            have C3 : ∀ W, Hid (Calls Try.prog 48 #[.agg #[.int .u8 (e2 : Int), .int .u8 (e1 : Int), .int .u8 (e0 : Int), .int .u8 (e3 : Int)]] W (GivesP (decP 1 bs K) W)) := fun W => Lib.hid (by have := rclamp_any ⟨e2, e1, e0, e3⟩ W; rw [← hpx] at this; exact this)
            have hlen := Lib.hid (show (O.take (y * a + x)).length + [decP 1 bs K].length ≤ 4000000 by rw [List.length_take, HO.out]; simp; omega)
            generalize decP 1 bs K = p at *
            generalize hLk : O.take (y * a + x) = Lk at *
            have hnx2 : Hid (O.take (y * a + (x + 1)) = Lk ++ [p]) := Lib.hid (by rw [← hnx.out, Nat.add_assoc])
            have t0 : (0 : Int) ≤ K := by omega
            have t1 : (0 : Int) ≤ K1 := by omega
            have t2 : (0 : Int) ≤ K2 := by omega
            have t3 : (0 : Int) ≤ K3 := by omega
            have u0 : (K : Int) < n := by omega
            have u1 : (K1 : Int) < n := by omega
            have u2 : (K2 : Int) < n := by omega
            have u3 : (K3 : Int) < n := by omega
            have HQ := fun W (hB : Below w.heap.size w W) => Lib.hid (show W.cell? ⟨bb, off + K, none⟩ = some (.int .u8 (e0 : Int)) ∧ W.cell? ⟨bb, off + K1, none⟩ = some (.int .u8 (e1 : Int)) ∧ W.cell? ⟨bb, off + K2, none⟩ = some (.int .u8 (e2 : Int)) ∧ W.cell? ⟨bb, off + K3, none⟩ = some (.int .u8 (e3 : Int)) from
              ⟨(hB.cell (p := ⟨bb, off + K, none⟩) hbb).trans D0, (hB.cell (p := ⟨bb, off + K1, none⟩) hbb).trans D1, (hB.cell (p := ⟨bb, off + K2, none⟩) hbb).trans D2, (hB.cell (p := ⟨bb, off + K3, none⟩) hbb).trans D3⟩)
            have hbw : bb < wr.heap.size := Nat.lt_of_lt_of_le hbb HS.out.2.below.size
            clear hnx hLk hX hY hK hpx hraw D0 D1 D2 D3 hK1 hK2 hK3 hKn hYn
            have hyw := HYW.out
            have hxw := HXW.out
            go_upto_region 17 with fail
            rw [HKW.out]
            clear hyw hxw
            go_cut [16] from 65 to 84 (fun s16 wx => ∃ pp : Nat, s16 = .pointer (some ⟨pp, 0, none⟩) ∧ Hid (OwnP wx (w.heap.size + 1 + 1) (.slice A1 k1 c1) Lk ∧ Held w wx [(pp, [.int .u8 (e2 : Int), .int .u8 (e1 : Int), .int .u8 (e0 : Int), .int .u8 (e3 : Int)]), (w.heap.size + 1, [.int .i64 (a : Int), .int .i64 (b : Int), .slice A1 k1 c1]), (w.heap.size, [.int .i64 0, .int .i64 0, .slice none 0 0])] ∧ w.heap.size + 1 < pp ∧ (Value.slice A1 k1 c1).ownBlock ≠ some pp))
            case first =>
              have hw1 := HW1.out
              have hw2 := HW2.out
              have hw3 := HW3.out
              have sk := (HQ _ HS.out.2.drew.below).out
              have sa := (HQ _ (HS.out.2.made (.cells #[.int .u8 0, .int .u8 0, .int .u8 0, .int .u8 0] 30)).drew.below).out
              have ss := (HQ _ (HS.out.2.made (.cells #[.int .u8 (e2 : Int), .int .u8 (e1 : Int), .int .u8 (e0 : Int), .int .u8 (e3 : Int)] 30)).drew.below).out
              go_region_held3 (fun W => W.cell? ⟨bb, off + K, none⟩ = some (.int .u8 (e0 : Int)) ∧ W.cell? ⟨bb, off + K1, none⟩ = some (.int .u8 (e1 : Int)) ∧ W.cell? ⟨bb, off + K2, none⟩ = some (.int .u8 (e2 : Int)) ∧ W.cell? ⟨bb, off + K3, none⟩ = some (.int .u8 (e3 : Int)))
                (first
                  | with_reducible exact sk
                  | with_reducible exact sa
                  | with_reducible exact ss
                  | go_keep)
                (fail)
              all_goals
                clear sk sa ss hw1 hw2 hw3
                go_wp2_with fail
                go_meet
                have j := (HS.out.2.alloc [.int .u8 (e2 : Int), .int .u8 (e1 : Int), .int .u8 (e0 : Int), .int .u8 (e3 : Int)] 30).drew
                have o := (HS.out.1.alloc (.cells #[.int .u8 (e2 : Int), .int .u8 (e1 : Int), .int .u8 (e0 : Int), .int .u8 (e3 : Int)] 30)).below (Below.refl _ _).drew
                have hz := (HS.out.2.tri (l1 := [])).2.2.2.2
                exact ⟨_, rfl, Lib.hid ⟨o, j, hz, fun e => Nat.lt_irrefl _ (HS.out.1.block _ e).2⟩⟩
            case rest =>
              clear HS
              obtain ⟨pp, rfl, HT⟩ := hcut
              go_wp2_with fail
              have Z := Lib.hid (And.intro HT.out.1 HT.out.2.1)
              clear HT
              obtain ⟨wz, rfl⟩ : ∃ x, x = wc := ⟨_, rfl⟩
              obtain ⟨d0, d1, d2, _, dt⟩ := Z.out.2.tri (l1 := [_])
              obtain ⟨p0, p1, p2, p3, _, pt⟩ := Z.out.2.four (l1 := [])
              go_region_law (first
                | (go_simp; go_at_call 48; (with_reducible refine (C3 _).out.mono ?_); rintro e w5 ⟨rfl, hb5⟩; have J5 := Lib.hid (Z.out.2.drew.step hb5); have O5 := Lib.hid ((show OwnP wz.drew (w.heap.size + 1 + 1) (.slice A1 k1 c1) Lk from Z.out.1).below hb5); obtain ⟨n0', n1', n2', _, nt⟩ := J5.out.tri (l1 := [_]); clear hb5)
                | (refine step_appP (by rfl) _ _ (by rfl) (base := w.heap.size + 1 + 1) (l := Lk) (m := [p]) (by rfl) (by exact O5.out.alloc _) (by rfl) (by exact pxs_one w5 p) (by exact hlen.out) (by have := J5.out.below.size; rw [World.size_alloc]; omega) ?_; intro v6 w6 ho6 hg6 _; have J6 := Lib.hid ((J5.out.tail.made _).grownO hg6 (O5.out.alloc _) (by omega) (HLT _).out); obtain ⟨A6, c6, rfl, _, _⟩ := ho6.pxs.shape; rw [List.length_append, List.length_singleton] at ho6; rw [← hnx2.out] at ho6; have O6 := Lib.hid ho6; obtain ⟨z0, z1, z2, zf, zt⟩ := J6.out.tri (l1 := []); clear ho6 hg6))
              all_goals
                have Z2 := Lib.hid (And.intro (O6.out.cell (k := w.heap.size + 1) (Nat.lt_succ_self _) 2 (.slice A6 (Lk.length + 1) c6)) (J6.out.cell (l1 := []) (i := 2) (by simp) (.slice A6 (Lk.length + 1) c6)))
                clear z0 z1 z2 zf zt n0' n1' n2' nt d0 d1 d2 dt p0 p1 p2 p3 pt J6 O6 J5 O5 Z C3
                go_wp2_with fail
                go_roundw
                case rel => exact ⟨x + 1, A6, Lk.length + 1, c6, by omega, by go_num, Z2⟩
                case measure =>
                  unfold leftN
                  simp [intOf]
                  omega
          · obtain rfl : a = x := by omega
            have r6 : ¬ (a : Int) < a := by omega
            rw [show y * a + a = (y + 1) * a by rw [Nat.add_mul, Nat.one_mul]] at HS
            go_wp2_with fail
            go_roundw
            case rel => exact ⟨y + 1, A1, k1, c1, by omega, by go_num, HS⟩
            case measure =>
              unfold leftN
              simp [intOf]
              omega
      · obtain rfl : b = y := by omega
        have r0 : ¬ (b : Int) < b := by omega
        have hO : O.take (b * a) = O := List.take_of_length_le (by rw [HO.out, Nat.mul_comm]; exact Nat.le_refl _)
        rw [hO] at HR
        have Q := Lib.hid (OwnP.res (w := w) (w' := set3 wr w.heap.size (.int .i64 (a : Int)) (.int .i64 (b : Int)) (.slice A1 k1 c1)) (HR.out.1.set3 (k := w.heap.size) (by omega) (.int .i64 (a : Int)) (.int .i64 (b : Int)) (.slice A1 k1 c1)) (by omega) (by rw [HO.out]; omega))
        have K := Lib.hid (below_set3 (y0 := .int .i64 (a : Int)) (y1 := .int .i64 (b : Int)) (y2 := .slice A1 k1 c1) HR.out.2.below (Nat.le_refl w.heap.size))
        obtain ⟨m0, m1, m2, _, mt⟩ := HR.out.2.tri (l1 := [])
        obtain ⟨z0, z1, z2, zf, zt⟩ := HR.out.2.tri (l1 := [_])
        clear HR hO
        go_wp2_with fail
        exact bodyPost_ret (v := .tuple #[.agg #[.int .i64 (a : Int), .int .i64 (b : Int), .slice A1 k1 c1], .int .i64 0]) (by simp [results, Try.results24, go_sem, z0, z1, z2]) rfl ⟨_, rfl, Q.out, K.out⟩
  · go_enter Try.func24, Try.ntmps24
    go_wp2_with (go_at_call 41; (with_reducible refine (C1 _).out.mono ?_); rintro e wq ⟨rfl, rfl⟩)
    have j5 := J.out.alloc [.int .i64 (a : Int), .int .i64 (b : Int), .slice none 0 0] 24
    rw [World.size_alloc] at j5
    have G : Hid (OwnP ((w.alloc (.cells #[.int .i64 0, .int .i64 0, .slice none 0 0] 24)).alloc (.cells #[.int .i64 (a : Int), .int .i64 (b : Int), .slice none 0 0] 24)) (w.heap.size + 1 + 1) (.slice none 0 0) (O.take (0 * a)) ∧ Held w ((w.alloc (.cells #[.int .i64 0, .int .i64 0, .slice none 0 0] 24)).alloc (.cells #[.int .i64 (a : Int), .int .i64 (b : Int), .slice none 0 0] 24)) [(w.heap.size + 1, [.int .i64 (a : Int), .int .i64 (b : Int), .slice none 0 0]), (w.heap.size, [.int .i64 0, .int .i64 0, .slice none 0 0])]) := Lib.hid ⟨by rw [Nat.zero_mul, List.take_zero]; exact ownP_nil _ _, j5⟩
    have HLT : ∀ vs : List Value, Hid (∀ q ∈ ([(w.heap.size + 1, vs), (w.heap.size, [.int .i64 0, .int .i64 0, .slice none 0 0])] : List (Nat × List Value)), q.1 < w.heap.size + 1 + 1) := fun vs => Lib.hid (fun q hq => by
      simp only [List.mem_cons, List.not_mem_nil, or_false] at hq
      rcases hq with rfl | rfl
      · simp only; omega
      · simp only; omega)
    clear j5 b1 b2 g1 g2 g3 g4 g5 g6 g7 g9 C1 J
    generalize (w.alloc (.cells #[.int .i64 0, .int .i64 0, .slice none 0 0] 24)).alloc (.cells #[.int .i64 (a : Int), .int .i64 (b : Int), .slice none 0 0] 24) = w3 at *
    go_loopw [13] (fun s13 wr => ∃ (y : Nat) (A1 : Option Addr) (k1 c1 : Nat), y ≤ b ∧ s13 = .int .i64 (y : Int) ∧ Hid (OwnP wr (w.heap.size + 1 + 1) (.slice A1 k1 c1) (O.take (y * a)) ∧ Held w wr [(w.heap.size + 1, [.int .i64 (a : Int), .int .i64 (b : Int), .slice A1 k1 c1]), (w.heap.size, [.int .i64 0, .int .i64 0, .slice none 0 0])])) (fun s13 _ => leftN b s13)
    case atStart => exact ⟨0, none, 0, 0, Nat.zero_le _, rfl, G⟩
    case round =>
      obtain ⟨y, A1, k1, c1, hy, rfl, HR⟩ := hrel
      by_cases hlt : y < b
      · have r0 : (y : Int) < b := by omega
        obtain ⟨wu, rfl⟩ : ∃ x, x = wr := ⟨_, rfl⟩
        go_wp2_with fail
        go_loopw [14] (fun s14 wr => ∃ (x : Nat) (A1 : Option Addr) (k1 c1 : Nat), x ≤ a ∧ s14 = .int .i64 (x : Int) ∧ Hid (OwnP wr (w.heap.size + 1 + 1) (.slice A1 k1 c1) (O.take (y * a + x)) ∧ Held w wr [(w.heap.size + 1, [.int .i64 (a : Int), .int .i64 (b : Int), .slice A1 k1 c1]), (w.heap.size, [.int .i64 0, .int .i64 0, .slice none 0 0])])) (fun s14 _ => leftN a s14)
        case atStart => exact ⟨0, A1, k1, c1, Nat.zero_le _, rfl, HR⟩
        case round =>
          clear HR
          obtain ⟨x, A1, k1, c1, hx, rfl, HS⟩ := hrel
          by_cases hxl : x < a
          · have r6 : (x : Int) < a := by omega
            obtain ⟨Y, hY⟩ : ∃ Y, y * st = Y := ⟨_, rfl⟩
            have hYn : Y + st ≤ n := by
              have h1 : (y + 1) * st ≤ b * st := Nat.mul_le_mul_right st hlt
              rw [Nat.add_mul, Nat.one_mul, hY] at h1
              have := HBS.out
              omega
            have HYW := Lib.hid (dprod_wrap hY (by omega))
            obtain ⟨X, hX⟩ : ∃ X, 4 * x = X := ⟨_, rfl⟩
            have HXW := Lib.hid (dfour_wrap hX)
            obtain ⟨K, hK⟩ : ∃ K, Y + X = K := ⟨_, rfl⟩
            have HKW := Lib.hid (dplus_wrap hK (by omega))
            have hKn : K + 3 < n := by omega
            have hnx := HNX x y hxl hlt
            rw [hY, hX, hK] at hnx
            have hpx := rdecP_raw 2 bs K
            have D0 := HD.out K (by omega)
            have D1 := HD.out (K + 1) (by omega)
            have D2 := HD.out (K + 2) (by omega)
            have D3 := HD.out (K + 3) (by omega)
            unfold byte at D0 D1 D2 D3
            obtain ⟨K1, hK1⟩ : ∃ K1, K + 1 = K1 := ⟨_, rfl⟩
            obtain ⟨K2, hK2⟩ : ∃ K2, K + 2 = K2 := ⟨_, rfl⟩
            obtain ⟨K3, hK3⟩ : ∃ K3, K + 3 = K3 := ⟨_, rfl⟩
            have HW1 := Lib.hid (show IntKind.i64.wrap ((K : Int) + 1) = (K1 : Int) from dinc_wrap (j := 1) hK1 (by omega))
            have HW2 := Lib.hid (show IntKind.i64.wrap ((K : Int) + 2) = (K2 : Int) from dinc_wrap (j := 2) hK2 (by omega))
            have HW3 := Lib.hid (show IntKind.i64.wrap ((K : Int) + 3) = (K3 : Int) from dinc_wrap (j := 3) hK3 (by omega))
            have hraw : rawP 2 bs K = ⟨(bs.getD K2 0).toNat, (bs.getD K1 0).toNat, (bs.getD K 0).toNat, 255⟩ := by first | (rw [← hK1, ← hK2, ← hK3]; rfl) | (rw [← hK1, ← hK2]; rfl)
            rw [hraw] at hpx
            rw [hK1] at D1
            rw [hK2] at D2
            rw [hK3] at D3
            generalize (bs.getD K 0).toNat = e0 at *
            generalize (bs.getD K1 0).toNat = e1 at *
            generalize (bs.getD K2 0).toNat = e2 at *
            generalize (bs.getD K3 0).toNat = e3 at *
            have C3 : ∀ W, Hid (Calls Try.prog 48 #[.agg #[.int .u8 (e2 : Int), .int .u8 (e1 : Int), .int .u8 (e0 : Int), .int .u8 255]] W (GivesP (decP 2 bs K) W)) := fun W => Lib.hid (by have := rclamp_any ⟨e2, e1, e0, 255⟩ W; rw [← hpx] at this; exact this)
            have hlen := Lib.hid (show (O.take (y * a + x)).length + [decP 2 bs K].length ≤ 4000000 by rw [List.length_take, HO.out]; simp; omega)
            generalize decP 2 bs K = p at *
            generalize hLk : O.take (y * a + x) = Lk at *
            have hnx2 : Hid (O.take (y * a + (x + 1)) = Lk ++ [p]) := Lib.hid (by rw [← hnx.out, Nat.add_assoc])
            have t0 : (0 : Int) ≤ K := by omega
            have t1 : (0 : Int) ≤ K1 := by omega
            have t2 : (0 : Int) ≤ K2 := by omega
            have t3 : (0 : Int) ≤ K3 := by omega
            have u0 : (K : Int) < n := by omega
            have u1 : (K1 : Int) < n := by omega
            have u2 : (K2 : Int) < n := by omega
            have u3 : (K3 : Int) < n := by omega
            have HQ := fun W (hB : Below w.heap.size w W) => Lib.hid (show W.cell? ⟨bb, off + K, none⟩ = some (.int .u8 (e0 : Int)) ∧ W.cell? ⟨bb, off + K1, none⟩ = some (.int .u8 (e1 : Int)) ∧ W.cell? ⟨bb, off + K2, none⟩ = some (.int .u8 (e2 : Int)) ∧ W.cell? ⟨bb, off + K3, none⟩ = some (.int .u8 (e3 : Int)) from
              ⟨(hB.cell (p := ⟨bb, off + K, none⟩) hbb).trans D0, (hB.cell (p := ⟨bb, off + K1, none⟩) hbb).trans D1, (hB.cell (p := ⟨bb, off + K2, none⟩) hbb).trans D2, (hB.cell (p := ⟨bb, off + K3, none⟩) hbb).trans D3⟩)
            have hbw : bb < wr.heap.size := Nat.lt_of_lt_of_le hbb HS.out.2.below.size
            clear hnx hLk hX hY hK hpx hraw D0 D1 D2 D3 hK1 hK2 hK3 hKn hYn
            have hyw := HYW.out
            have hxw := HXW.out
            go_upto_region 17 with fail
            rw [HKW.out]
            clear hyw hxw
            go_cut [16] from 65 to 84 (fun s16 wx => ∃ pp : Nat, s16 = .pointer (some ⟨pp, 0, none⟩) ∧ Hid (OwnP wx (w.heap.size + 1 + 1) (.slice A1 k1 c1) Lk ∧ Held w wx [(pp, [.int .u8 (e2 : Int), .int .u8 (e1 : Int), .int .u8 (e0 : Int), .int .u8 (e3 : Int)]), (w.heap.size + 1, [.int .i64 (a : Int), .int .i64 (b : Int), .slice A1 k1 c1]), (w.heap.size, [.int .i64 0, .int .i64 0, .slice none 0 0])] ∧ w.heap.size + 1 < pp ∧ (Value.slice A1 k1 c1).ownBlock ≠ some pp))
            case first =>
              have hw1 := HW1.out
              have hw2 := HW2.out
              have hw3 := HW3.out
              have sk := (HQ _ HS.out.2.drew.below).out
              have sa := (HQ _ (HS.out.2.made (.cells #[.int .u8 0, .int .u8 0, .int .u8 0, .int .u8 0] 30)).drew.below).out
              have ss := (HQ _ (HS.out.2.made (.cells #[.int .u8 (e2 : Int), .int .u8 (e1 : Int), .int .u8 (e0 : Int), .int .u8 (e3 : Int)] 30)).drew.below).out
              go_region_held3 (fun W => W.cell? ⟨bb, off + K, none⟩ = some (.int .u8 (e0 : Int)) ∧ W.cell? ⟨bb, off + K1, none⟩ = some (.int .u8 (e1 : Int)) ∧ W.cell? ⟨bb, off + K2, none⟩ = some (.int .u8 (e2 : Int)) ∧ W.cell? ⟨bb, off + K3, none⟩ = some (.int .u8 (e3 : Int)))
                (first
                  | with_reducible exact sk
                  | with_reducible exact sa
                  | with_reducible exact ss
                  | go_keep)
                (fail)
              all_goals
                clear sk sa ss hw1 hw2 hw3
                go_wp2_with fail
                go_meet
                have j := (HS.out.2.alloc [.int .u8 (e2 : Int), .int .u8 (e1 : Int), .int .u8 (e0 : Int), .int .u8 (e3 : Int)] 30).drew
                have o := (HS.out.1.alloc (.cells #[.int .u8 (e2 : Int), .int .u8 (e1 : Int), .int .u8 (e0 : Int), .int .u8 (e3 : Int)] 30)).below (Below.refl _ _).drew
                have hz := (HS.out.2.tri (l1 := [])).2.2.2.2
                exact ⟨_, rfl, Lib.hid ⟨o, j, hz, fun e => Nat.lt_irrefl _ (HS.out.1.block _ e).2⟩⟩
            case rest =>
              clear HS
              obtain ⟨pp, rfl, HT⟩ := hcut
              obtain ⟨p0, p1, p2, p3, pf, pt⟩ := HT.out.2.1.four (l1 := [])
              go_upto_region 20 with fail
              have Z := Lib.hid (And.intro (HT.out.1.far HT.out.2.2.2 3 (.int .u8 255)) (HT.out.2.1.cell (l1 := []) (i := 3) (by simp) (.int .u8 255)))
              clear HT p0 p1 p2 p3 pf pt
              generalize wc.setCell ⟨pp, 3, none⟩ (.int .u8 255) = wz at *
              obtain ⟨d0, d1, d2, _, dt⟩ := Z.out.2.tri (l1 := [_])
              obtain ⟨p0, p1, p2, p3, _, pt⟩ := Z.out.2.four (l1 := [])
              go_region_law (first
                | (go_simp; go_at_call 48; (with_reducible refine (C3 _).out.mono ?_); rintro e w5 ⟨rfl, hb5⟩; have J5 := Lib.hid (Z.out.2.drew.step hb5); have O5 := Lib.hid ((show OwnP wz.drew (w.heap.size + 1 + 1) (.slice A1 k1 c1) Lk from Z.out.1).below hb5); obtain ⟨n0', n1', n2', _, nt⟩ := J5.out.tri (l1 := [_]); clear hb5)
                | (refine step_appP (by rfl) _ _ (by rfl) (base := w.heap.size + 1 + 1) (l := Lk) (m := [p]) (by rfl) (by exact O5.out.alloc _) (by rfl) (by exact pxs_one w5 p) (by exact hlen.out) (by have := J5.out.below.size; rw [World.size_alloc]; omega) ?_; intro v6 w6 ho6 hg6 _; have J6 := Lib.hid ((J5.out.tail.made _).grownO hg6 (O5.out.alloc _) (by omega) (HLT _).out); obtain ⟨A6, c6, rfl, _, _⟩ := ho6.pxs.shape; rw [List.length_append, List.length_singleton] at ho6; rw [← hnx2.out] at ho6; have O6 := Lib.hid ho6; obtain ⟨z0, z1, z2, zf, zt⟩ := J6.out.tri (l1 := []); clear ho6 hg6))
              all_goals
                have Z2 := Lib.hid (And.intro (O6.out.cell (k := w.heap.size + 1) (Nat.lt_succ_self _) 2 (.slice A6 (Lk.length + 1) c6)) (J6.out.cell (l1 := []) (i := 2) (by simp) (.slice A6 (Lk.length + 1) c6)))
                clear z0 z1 z2 zf zt n0' n1' n2' nt d0 d1 d2 dt p0 p1 p2 p3 pt J6 O6 J5 O5 Z C3
                go_wp2_with fail
                go_roundw
                case rel => exact ⟨x + 1, A6, Lk.length + 1, c6, by omega, by go_num, Z2⟩
                case measure =>
                  unfold leftN
                  simp [intOf]
                  omega
          · obtain rfl : a = x := by omega
            have r6 : ¬ (a : Int) < a := by omega
            rw [show y * a + a = (y + 1) * a by rw [Nat.add_mul, Nat.one_mul]] at HS
            go_wp2_with fail
            go_roundw
            case rel => exact ⟨y + 1, A1, k1, c1, by omega, by go_num, HS⟩
            case measure =>
              unfold leftN
              simp [intOf]
              omega
      · obtain rfl : b = y := by omega
        have r0 : ¬ (b : Int) < b := by omega
        have hO : O.take (b * a) = O := List.take_of_length_le (by rw [HO.out, Nat.mul_comm]; exact Nat.le_refl _)
        rw [hO] at HR
        have Q := Lib.hid (OwnP.res (w := w) (w' := set3 wr w.heap.size (.int .i64 (a : Int)) (.int .i64 (b : Int)) (.slice A1 k1 c1)) (HR.out.1.set3 (k := w.heap.size) (by omega) (.int .i64 (a : Int)) (.int .i64 (b : Int)) (.slice A1 k1 c1)) (by omega) (by rw [HO.out]; omega))
        have K := Lib.hid (below_set3 (y0 := .int .i64 (a : Int)) (y1 := .int .i64 (b : Int)) (y2 := .slice A1 k1 c1) HR.out.2.below (Nat.le_refl w.heap.size))
        obtain ⟨m0, m1, m2, _, mt⟩ := HR.out.2.tri (l1 := [])
        obtain ⟨z0, z1, z2, zf, zt⟩ := HR.out.2.tri (l1 := [_])
        clear HR hO
        go_wp2_with fail
        exact bodyPost_ret (v := .tuple #[.agg #[.int .i64 (a : Int), .int .i64 (b : Int), .slice A1 k1 c1], .int .i64 0]) (by simp [results, Try.results24, go_sem, z0, z1, z2]) rfl ⟨_, rfl, Q.out, K.out⟩

end Go.Proofs.Ytahhcklkcibgoaa
