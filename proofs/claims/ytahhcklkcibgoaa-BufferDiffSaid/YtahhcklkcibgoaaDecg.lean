/-
  Decode of package buffer, where it succeeds.
-/
import Derived.Test.YtahhcklkcibgoaaDecp
namespace Go.Proofs.Ytahhcklkcibgoaa
open Go.RowKit Mem

theorem decP_raw (f : Int) (bs : List UInt8) (k : Nat) : decP f bs k = clampP (if f = 2 then ⟨(bs.getD (k + 2) 0).toNat, (bs.getD (k + 1) 0).toNat, (bs.getD k 0).toNat, 255⟩ else ⟨(bs.getD (k + 2) 0).toNat, (bs.getD (k + 1) 0).toNat, (bs.getD k 0).toNat, (bs.getD (k + 3) 0).toNat⟩) := by
  unfold decP rawP
  split <;> rfl

theorem prod_wrap2 {a b M : Nat} (h : a * b = M) (hb : M ≤ 1000000000) : wrap64 ((a : Int) * (b : Int)) = (M : Int) := by
  have e : (a : Int) * (b : Int) = ((M : Nat) : Int) := by rw [← h, Int.natCast_mul]
  rw [e]
  exact IntWalk.wrap64_in _ (by omega)
theorem four_wrap {x X : Nat} (h : 4 * x = X) (hb : X ≤ 1000000) : IntKind.i64.wrap (4 * (x : Int)) = (X : Int) := by
  rw [IntWalk.i64_in _ (by omega)]
  omega

/-- the block of a row that was appended to -/
theorem own_new {w : World} {mm gg k1 c1 : Nat} {A6 : Option Addr} {k6 c6 : Nat} {W : World} {base : Nat} {L : List Px} (ho : OwnP W base (.slice A6 k6 c6) L) (hn : 0 < L.length)
    (hl : (Value.slice A6 k6 c6).ownBlock = (Value.slice (some ⟨gg, 0, none⟩) k1 c1).ownBlock ∨ (Value.slice A6 k6 c6).ownBlock = some w.heap.size) (hm : mm < w.heap.size) (hg : gg ≠ mm) : ∃ g6, A6 = some ⟨g6, 0, none⟩ ∧ g6 ≠ mm := by
  obtain ⟨g, c, hv, _⟩ := ho.rowP hn
  injection hv with e1 e2 e3
  subst e1
  refine ⟨g, rfl, ?_⟩
  rcases hl with h | h
  · have := Option.some.inj h
    simp only at this
    omega
  · have := Option.some.inj h
    simp only at this
    omega

theorem OwnP.far {w : World} {base : Nat} {A : Option Addr} {n c : Nat} {l : List Px} (h : OwnP w base (.slice A n c) l) {k : Nat} (hk : (Value.slice A n c).ownBlock ≠ some k) (i : Nat) (u : Value) : OwnP (w.setCell ⟨k, i, none⟩ u) base (.slice A n c) l :=
  World.ownsRow.kept h (grown_setCell (World.grownBy.refl w _) i u) (.inr hk)

theorem slice_block (g n c : Nat) : (Value.slice (some ⟨g, 0, none⟩) n c).ownBlock = some g := rfl


set_option maxRecDepth 100000 in
set_option maxHeartbeats 8000000 in
theorem dec_good {f : Int} {a b st : Nat} {v : Value} {bs : List UInt8} {w : World} (h : Sees w v bs) (hf : f = 1 ∨ f = 2) (ha : 1 ≤ a ∧ a ≤ 256) (hb : 1 ≤ b ∧ b ≤ 256) (h1 : 4 * a ≤ st) (h2 : st % 4 = 0) (h3 : b * st ≤ bs.length) (hn : bs.length ≤ 1000000) :
    Calls Try.prog 23 #[.int .i64 f, .int .i64 (a : Int), .int .i64 (b : Int), .int .i64 (st : Int), v] w (Outs a b (decL f a b st bs) 0 w) := by
  have hst : b ≤ b * st := by have := Nat.mul_le_mul_left b (show 1 ≤ st by omega); omega
  rcases h.ways with ⟨_, _, _, he, _⟩ | ⟨bb, off, n, c, rfl, hln, hn0, hnc, hcm, hbb, hcell⟩
  · rw [he] at h3
    simp at h3
    omega
  have J := Lib.hid (held1 w)
  have C1 := fun W => Lib.hid (vsize_any (a : Int) (b : Int) W)
  rw [siz_iff.2 ⟨by omega, by omega⟩] at C1
  obtain ⟨ha1, ha2⟩ := ha
  obtain ⟨hb1, hb2⟩ := hb
  rw [hln] at h3 hn
  have hmul := mul_small ha2 hb2
  have hmul1 := Nat.mul_le_mul ha1 hb1
  have HD := Lib.hid hcell
  have HO := Lib.hid (dec_len f a b st bs)
  have HNX := fun x y hx hy => Lib.hid (dec_next (f := f) (a := a) (b := b) (st := st) (x := x) (y := y) (bs := bs) hx hy)
  have HRW := fun k => Lib.hid (decP_raw f bs k)
  have C2 := fun (W : World) (q : Px) (o n c : Nat) (h4 : 4 ≤ n) (hbw : bb < W.heap.size) (q0 : W.cell? ⟨bb, o, none⟩ = some (.int .u8 (q.b : Int))) (q1 : W.cell? ⟨bb, o + 1, none⟩ = some (.int .u8 (q.g : Int))) (q2 : W.cell? ⟨bb, o + 2, none⟩ = some (.int .u8 (q.r : Int))) (q3 : W.cell? ⟨bb, o + 3, none⟩ = some (.int .u8 (q.a : Int))) => Lib.hid (decpx_any (q := q) (n := n) (c := c) hf h4 hbw q0 q1 q2 q3)
  unfold Outs
  generalize hOO : decL f a b st bs = O at *
  obtain ⟨M, hM⟩ : ∃ M, a * b = M := ⟨_, rfl⟩
  have HMW := Lib.hid (prod_wrap hM (by omega))
  rw [hM] at hmul hmul1 HO
  have HMM := Lib.hid hM
  have hmk := make_px0 M hmul
  have g1 : ¬ (st : Int) < 4 * (a : Int) := by omega
  have g2 : (0 : Int) ≤ st := by omega
  have g3 : (st : Int).tmod 4 = 0 := by rw [Int.tmod_eq_emod_of_nonneg g2]; omega
  have g7 : (b : Int) ≠ 0 := by omega
  have g4 : (st : Int) ≤ (n : Int) / b := by
    rw [Int.le_ediv_iff_mul_le (by omega)]
    have : ((b * st : Nat) : Int) = (b : Int) * st := Int.natCast_mul _ _
    rw [Int.mul_comm]
    omega
  obtain ⟨q, hq⟩ : ∃ q : Int, (n : Int) / b = q := ⟨_, rfl⟩
  have g9 : q ≤ 1000000 := by
    rw [← hq]
    exact Int.le_trans (Int.ediv_le_self _ (by omega)) (by omega)
  rw [hq] at g4
  have g5 : ¬ q < (st : Int) := by omega
  have g6 : (0 : Int) ≤ q := by omega
  have HBS := Lib.hid h3
  have b1 : decide ((st : Int) < 4 * (a : Int)) = false := decide_eq_false g1
  have b2 : decide (q < (st : Int)) = false := decide_eq_false g5
  simp only [maxLen] at hcm
  clear h hcell hst hln hOO hM h3
  have hmw := HMW.out
  rcases hf with rfl | rfl
  · go_enter Try.func23, Try.ntmps23
    go_wp2_with (go_at_call 39; (with_reducible refine (C1 _).out.mono ?_); rintro e wq ⟨rfl, rfl⟩)
    have j5 := (J.out.made (.cells (zerosP M) 30)).alloc [.int .i64 (a : Int), .int .i64 (b : Int), .slice (some ⟨w.heap.size + 1, 0, none⟩) 0 M] 24
    have o5 := (ownP_made (base := w.heap.size + 1) (w.alloc (.cells #[.int .i64 0, .int .i64 0, .slice none 0 0] 24)) M hmul (by rw [World.size_alloc]; exact Nat.le_refl _)).alloc (.cells #[.int .i64 (a : Int), .int .i64 (b : Int), .slice (some ⟨w.heap.size + 1, 0, none⟩) 0 M] 24)
    rw [World.size_alloc, World.size_alloc] at j5
    rw [World.size_alloc] at o5
    have G : Hid (w.heap.size + 1 ≠ w.heap.size + 1 + 1 ∧ OwnP (((w.alloc (.cells #[.int .i64 0, .int .i64 0, .slice none 0 0] 24)).alloc (.cells (zerosP M) 30)).alloc (.cells #[.int .i64 (a : Int), .int .i64 (b : Int), .slice (some ⟨w.heap.size + 1, 0, none⟩) 0 M] 24)) (w.heap.size + 1) (.slice (some ⟨w.heap.size + 1, 0, none⟩) 0 M) (O.take (0 * a)) ∧ Held w (((w.alloc (.cells #[.int .i64 0, .int .i64 0, .slice none 0 0] 24)).alloc (.cells (zerosP M) 30)).alloc (.cells #[.int .i64 (a : Int), .int .i64 (b : Int), .slice (some ⟨w.heap.size + 1, 0, none⟩) 0 M] 24)) [(w.heap.size + 1 + 1, [.int .i64 (a : Int), .int .i64 (b : Int), .slice (some ⟨w.heap.size + 1, 0, none⟩) 0 M]), (w.heap.size, [.int .i64 0, .int .i64 0, .slice none 0 0])]) := Lib.hid ⟨by omega, by rw [Nat.zero_mul, List.take_zero]; exact o5, j5⟩
    have hkm : w.heap.size < w.heap.size + 1 + 1 := by omega
    clear j5 o5 hmw hmk b1 b2 g1 g2 g3 g4 g5 g6 g7 g9 C1 J
    generalize ((w.alloc (.cells #[.int .i64 0, .int .i64 0, .slice none 0 0] 24)).alloc (.cells (zerosP M) 30)).alloc (.cells #[.int .i64 (a : Int), .int .i64 (b : Int), .slice (some ⟨w.heap.size + 1, 0, none⟩) 0 M] 24) = w3 at *
    generalize hmm : w.heap.size + 1 + 1 = mm at *
    clear hmm
    go_loopw [53] (fun s53 wr => ∃ (y gg k1 c1 : Nat), y ≤ b ∧ s53 = .int .i64 (y : Int) ∧ Hid (gg ≠ mm ∧ OwnP wr (w.heap.size + 1) (.slice (some ⟨gg, 0, none⟩) k1 c1) (O.take (y * a)) ∧ Held w wr [(mm, [.int .i64 (a : Int), .int .i64 (b : Int), .slice (some ⟨gg, 0, none⟩) k1 c1]), (w.heap.size, [.int .i64 0, .int .i64 0, .slice none 0 0])])) (fun s53 _ => leftN b s53)
    case atStart => exact ⟨0, w.heap.size + 1, 0, M, Nat.zero_le _, rfl, G⟩
    case round =>
      obtain ⟨y, gg, k1, c1, hy, rfl, HR⟩ := hrel
      by_cases hlt : y < b
      · have r0 : (y : Int) < b := by omega
        obtain ⟨Y, hY⟩ : ∃ Y, y * st = Y := ⟨_, rfl⟩
        have hYn : Y + st ≤ n := by
          have h1 : (y + 1) * st ≤ b * st := Nat.mul_le_mul_right st hlt
          rw [Nat.add_mul, Nat.one_mul, hY] at h1
          have := HBS.out
          omega
        have HYW := Lib.hid (prod_wrap2 hY (by omega))
        have HYY := Lib.hid hY
        have r1 : (0 : Int) ≤ Y := by omega
        have r2 : (Y : Int) ≤ n := by omega
        have r3 : ¬ c = Y := by omega
        have r4 : ((Y : Int)).toNat = Y := Int.toNat_natCast Y
        have r5 : (n : Int) ≤ c := by omega
        clear hY
        obtain ⟨wu, rfl⟩ : ∃ x, x = wr := ⟨_, rfl⟩
        have hyw := HYW.out
        go_wp2_with fail
        clear hyw r4
        have hn1 : Y + (n - Y) = n := by omega
        have hc1 : Y + (c - Y) = c := by omega
        generalize n - Y = n5 at *
        generalize c - Y = c5 at *
        go_loopw [62] (fun s62 wr => ∃ (x gg k1 c1 : Nat), x ≤ a ∧ s62 = .int .i64 (x : Int) ∧ Hid (gg ≠ mm ∧ OwnP wr (w.heap.size + 1) (.slice (some ⟨gg, 0, none⟩) k1 c1) (O.take (y * a + x)) ∧ Held w wr [(mm, [.int .i64 (a : Int), .int .i64 (b : Int), .slice (some ⟨gg, 0, none⟩) k1 c1]), (w.heap.size, [.int .i64 0, .int .i64 0, .slice none 0 0])])) (fun s62 _ => leftN a s62)
        case atStart => exact ⟨0, gg, k1, c1, Nat.zero_le _, rfl, HR⟩
        case round =>
          clear HR
          obtain ⟨x, gg, k1, c1, hx, rfl, HS⟩ := hrel
          by_cases hxl : x < a
          · have r6 : (x : Int) < a := by omega
            obtain ⟨X, hX⟩ : ∃ X, 4 * x = X := ⟨_, rfl⟩
            have r7 : (0 : Int) ≤ X := by omega
            have r8 : (X : Int) ≤ n5 := by omega
            have r9 : ¬ c5 = X := by omega
            have r10 : ((X : Int)).toNat = X := Int.toNat_natCast X
            have r11 : (n5 : Int) ≤ c5 := by omega
            have hXn : X + 4 ≤ n5 := by omega
            have HXW := Lib.hid (four_wrap hX (by omega))
            have hnx := HNX x y hxl hlt
            rw [HYY.out, hX] at hnx
            have hpx := HRW (Y + X)
            have D0 := Lib.hid (HD.out (Y + X) (by omega))
            have D1 := Lib.hid (HD.out (Y + X + 1) (by omega))
            have D2 := Lib.hid (HD.out (Y + X + 2) (by omega))
            have D3 := Lib.hid (HD.out (Y + X + 3) (by omega))
            have C3 : ∀ W, Below w.heap.size w W → Hid (Calls Try.prog 47 #[.int .i64 1, .slice (some ⟨bb, off + Y + X, none⟩) (n5 - X) (c5 - X)] W (GivesP (decP 1 bs (Y + X)) W)) := fun W hB => by
              rw [hpx.out]
              refine C2 W ⟨(bs.getD (Y + X + 2) 0).toNat, (bs.getD (Y + X + 1) 0).toNat, (bs.getD (Y + X) 0).toNat, (bs.getD (Y + X + 3) 0).toNat⟩ (off + Y + X) (n5 - X) (c5 - X) (by omega) (Nat.lt_of_lt_of_le hbb hB.size) ?_ ?_ ?_ ?_
              · exact (by rw [Nat.add_assoc]; exact (hB.cell (p := ⟨bb, off + (Y + X), none⟩) hbb).trans D0.out)
              · exact (by rw [show off + Y + X + 1 = off + (Y + X + 1) by omega]; exact (hB.cell (p := ⟨bb, off + (Y + X + 1), none⟩) hbb).trans D1.out)
              · exact (by rw [show off + Y + X + 2 = off + (Y + X + 2) by omega]; exact (hB.cell (p := ⟨bb, off + (Y + X + 2), none⟩) hbb).trans D2.out)
              · exact (by rw [show off + Y + X + 3 = off + (Y + X + 3) by omega]; exact (hB.cell (p := ⟨bb, off + (Y + X + 3), none⟩) hbb).trans D3.out)
            have hlen := Lib.hid (show (O.take (y * a + x)).length + [decP 1 bs (Y + X)].length ≤ 4000000 by rw [List.length_take, HO.out]; simp; omega)
            generalize decP 1 bs (Y + X) = p at *
            generalize hLk : O.take (y * a + x) = Lk at *
            have hnx2 : Hid (O.take (y * a + (x + 1)) = Lk ++ [p]) := Lib.hid (by rw [← hnx.out, Nat.add_assoc])
            have hgm := HS.out.1
            have hgk := (HS.out.2.1.block gg rfl).1
            have hne := fun (vs : List Value) => Lib.hid (show ∀ q ∈ ([(mm, vs), (w.heap.size, [.int .i64 0, .int .i64 0, .slice none 0 0])] : List (Nat × List Value)), q.1 ≠ gg from fun q hq => by
              simp only [List.mem_cons, List.not_mem_nil, or_false] at hq
              rcases hq with rfl | rfl
              · exact fun e => hgm e.symm
              · exact fun e => by simp only at e; omega)
            obtain ⟨m0, m1, m2, _, mt⟩ := HS.out.2.2.tri (l1 := [])
            have BD := Lib.hid HS.out.2.2.drew.below
            clear hnx hLk hX hpx D0 D1 D2 D3 hXn r1 r2 r3 r5 hn1 hc1 hYn
            have hxw := HXW.out
            go_wp2_with fail
            go_region_law (first
              | (go_simp; go_at_call 47; (with_reducible refine (C3 _ BD.out).out.mono ?_); rintro e w5 ⟨rfl, hb5⟩; have J5 := Lib.hid (HS.out.2.2.drew.step hb5); have O5 := Lib.hid ((show OwnP wr.drew (w.heap.size + 1) (.slice (some ⟨gg, 0, none⟩) k1 c1) Lk from HS.out.2.1).below hb5); obtain ⟨n0', n1', n2', _, nt⟩ := J5.out.tri (l1 := []); clear hb5)
              | (refine step_appP (by rfl) _ _ (by rfl) (base := w.heap.size + 1) (l := Lk) (m := [p]) (by rfl) (by exact O5.out.alloc _) (by rfl) (by exact pxs_one w5 p) (by exact hlen.out) (by have := J5.out.below.size; rw [World.size_alloc]; omega) ?_; intro v6 w6 ho6 hg6 hl6; have J6 := Lib.hid ((J5.out.made _).grown (g := gg) hg6 (by omega) (hne _).out); obtain ⟨A6, c6, rfl, _, _⟩ := ho6.pxs.shape; obtain ⟨g6, rfl, hg7⟩ := own_new ho6 (by simp) hl6 (by rw [World.size_alloc]; omega) hgm; rw [List.length_append, List.length_singleton] at ho6; rw [← hnx2.out] at ho6; have O6 := Lib.hid ho6; obtain ⟨z0, z1, z2, zf, zt⟩ := J6.out.tri (l1 := []); clear ho6 hg6 hl6))
            all_goals
              have Z := Lib.hid (And.intro hg7 (And.intro (O6.out.far (k := mm) (by rw [slice_block]; exact fun e => hg7 (Option.some.inj e)) 2 (.slice (some ⟨g6, 0, none⟩) (Lk.length + 1) c6)) (J6.out.cell (l1 := []) (i := 2) (by simp) (.slice (some ⟨g6, 0, none⟩) (Lk.length + 1) c6))))
              clear z0 z1 z2 zf zt n0' n1' n2' nt m0 m1 m2 mt J6 O6 J5 O5 HS hxw C3 hne BD
              go_wp2_with fail
              go_roundw
              case rel => exact ⟨x + 1, g6, Lk.length + 1, c6, by omega, by go_num, Z⟩
              case measure =>
                unfold leftN
                simp [intOf]
                omega
          · obtain rfl : a = x := by omega
            have r6 : ¬ (a : Int) < a := by omega
            rw [show y * a + a = (y + 1) * a by rw [Nat.add_mul, Nat.one_mul]] at HS
            go_wp2_with fail
            go_roundw
            case rel => exact ⟨y + 1, gg, k1, c1, by omega, by go_num, HS⟩
            case measure =>
              unfold leftN
              simp [intOf]
              omega
      · obtain rfl : b = y := by omega
        have r0 : ¬ (b : Int) < b := by omega
        have hO : O.take (b * a) = O := List.take_of_length_le (by rw [HO.out, Nat.mul_comm, HMM.out]; exact Nat.le_refl _)
        rw [hO] at HR
        have hgk := (HR.out.2.1.block gg rfl).1
        have Q := Lib.hid (OwnP.res (w := w) (w' := set3 wr w.heap.size (.int .i64 (a : Int)) (.int .i64 (b : Int)) (.slice (some ⟨gg, 0, none⟩) k1 c1)) (HR.out.2.1.set3 (k := w.heap.size) (by omega) (.int .i64 (a : Int)) (.int .i64 (b : Int)) (.slice (some ⟨gg, 0, none⟩) k1 c1)) (Nat.le_succ _) (by rw [HO.out]; omega))
        have K := Lib.hid (below_set3 (y0 := .int .i64 (a : Int)) (y1 := .int .i64 (b : Int)) (y2 := .slice (some ⟨gg, 0, none⟩) k1 c1) HR.out.2.2.below (Nat.le_refl w.heap.size))
        obtain ⟨m0, m1, m2, _, mt⟩ := HR.out.2.2.tri (l1 := [])
        obtain ⟨z0, z1, z2, zf, zt⟩ := HR.out.2.2.tri (l1 := [_])
        clear HR hO
        go_wp2_with fail
        exact bodyPost_ret (v := .tuple #[.agg #[.int .i64 (a : Int), .int .i64 (b : Int), .slice (some ⟨gg, 0, none⟩) k1 c1], .int .i64 0]) (by simp [results, Try.results23, go_sem, z0, z1, z2]) rfl ⟨_, rfl, Q.out, K.out⟩
  · go_enter Try.func23, Try.ntmps23
    go_wp2_with (go_at_call 39; (with_reducible refine (C1 _).out.mono ?_); rintro e wq ⟨rfl, rfl⟩)
    have j5 := (J.out.made (.cells (zerosP M) 30)).alloc [.int .i64 (a : Int), .int .i64 (b : Int), .slice (some ⟨w.heap.size + 1, 0, none⟩) 0 M] 24
    have o5 := (ownP_made (base := w.heap.size + 1) (w.alloc (.cells #[.int .i64 0, .int .i64 0, .slice none 0 0] 24)) M hmul (by rw [World.size_alloc]; exact Nat.le_refl _)).alloc (.cells #[.int .i64 (a : Int), .int .i64 (b : Int), .slice (some ⟨w.heap.size + 1, 0, none⟩) 0 M] 24)
    rw [World.size_alloc, World.size_alloc] at j5
    rw [World.size_alloc] at o5
    have G : Hid (w.heap.size + 1 ≠ w.heap.size + 1 + 1 ∧ OwnP (((w.alloc (.cells #[.int .i64 0, .int .i64 0, .slice none 0 0] 24)).alloc (.cells (zerosP M) 30)).alloc (.cells #[.int .i64 (a : Int), .int .i64 (b : Int), .slice (some ⟨w.heap.size + 1, 0, none⟩) 0 M] 24)) (w.heap.size + 1) (.slice (some ⟨w.heap.size + 1, 0, none⟩) 0 M) (O.take (0 * a)) ∧ Held w (((w.alloc (.cells #[.int .i64 0, .int .i64 0, .slice none 0 0] 24)).alloc (.cells (zerosP M) 30)).alloc (.cells #[.int .i64 (a : Int), .int .i64 (b : Int), .slice (some ⟨w.heap.size + 1, 0, none⟩) 0 M] 24)) [(w.heap.size + 1 + 1, [.int .i64 (a : Int), .int .i64 (b : Int), .slice (some ⟨w.heap.size + 1, 0, none⟩) 0 M]), (w.heap.size, [.int .i64 0, .int .i64 0, .slice none 0 0])]) := Lib.hid ⟨by omega, by rw [Nat.zero_mul, List.take_zero]; exact o5, j5⟩
    have hkm : w.heap.size < w.heap.size + 1 + 1 := by omega
    clear j5 o5 hmw hmk b1 b2 g1 g2 g3 g4 g5 g6 g7 g9 C1 J
    generalize ((w.alloc (.cells #[.int .i64 0, .int .i64 0, .slice none 0 0] 24)).alloc (.cells (zerosP M) 30)).alloc (.cells #[.int .i64 (a : Int), .int .i64 (b : Int), .slice (some ⟨w.heap.size + 1, 0, none⟩) 0 M] 24) = w3 at *
    generalize hmm : w.heap.size + 1 + 1 = mm at *
    clear hmm
    go_loopw [53] (fun s53 wr => ∃ (y gg k1 c1 : Nat), y ≤ b ∧ s53 = .int .i64 (y : Int) ∧ Hid (gg ≠ mm ∧ OwnP wr (w.heap.size + 1) (.slice (some ⟨gg, 0, none⟩) k1 c1) (O.take (y * a)) ∧ Held w wr [(mm, [.int .i64 (a : Int), .int .i64 (b : Int), .slice (some ⟨gg, 0, none⟩) k1 c1]), (w.heap.size, [.int .i64 0, .int .i64 0, .slice none 0 0])])) (fun s53 _ => leftN b s53)
    case atStart => exact ⟨0, w.heap.size + 1, 0, M, Nat.zero_le _, rfl, G⟩
    case round =>
      obtain ⟨y, gg, k1, c1, hy, rfl, HR⟩ := hrel
      by_cases hlt : y < b
      · have r0 : (y : Int) < b := by omega
        obtain ⟨Y, hY⟩ : ∃ Y, y * st = Y := ⟨_, rfl⟩
        have hYn : Y + st ≤ n := by
          have h1 : (y + 1) * st ≤ b * st := Nat.mul_le_mul_right st hlt
          rw [Nat.add_mul, Nat.one_mul, hY] at h1
          have := HBS.out
          omega
        have HYW := Lib.hid (prod_wrap2 hY (by omega))
        have HYY := Lib.hid hY
        have r1 : (0 : Int) ≤ Y := by omega
        have r2 : (Y : Int) ≤ n := by omega
        have r3 : ¬ c = Y := by omega
        have r4 : ((Y : Int)).toNat = Y := Int.toNat_natCast Y
        have r5 : (n : Int) ≤ c := by omega
        clear hY
        obtain ⟨wu, rfl⟩ : ∃ x, x = wr := ⟨_, rfl⟩
        have hyw := HYW.out
        go_wp2_with fail
        clear hyw r4
        have hn1 : Y + (n - Y) = n := by omega
        have hc1 : Y + (c - Y) = c := by omega
        generalize n - Y = n5 at *
        generalize c - Y = c5 at *
        go_loopw [62] (fun s62 wr => ∃ (x gg k1 c1 : Nat), x ≤ a ∧ s62 = .int .i64 (x : Int) ∧ Hid (gg ≠ mm ∧ OwnP wr (w.heap.size + 1) (.slice (some ⟨gg, 0, none⟩) k1 c1) (O.take (y * a + x)) ∧ Held w wr [(mm, [.int .i64 (a : Int), .int .i64 (b : Int), .slice (some ⟨gg, 0, none⟩) k1 c1]), (w.heap.size, [.int .i64 0, .int .i64 0, .slice none 0 0])])) (fun s62 _ => leftN a s62)
        case atStart => exact ⟨0, gg, k1, c1, Nat.zero_le _, rfl, HR⟩
        case round =>
          clear HR
          obtain ⟨x, gg, k1, c1, hx, rfl, HS⟩ := hrel
          by_cases hxl : x < a
          · have r6 : (x : Int) < a := by omega
            obtain ⟨X, hX⟩ : ∃ X, 4 * x = X := ⟨_, rfl⟩
            have r7 : (0 : Int) ≤ X := by omega
            have r8 : (X : Int) ≤ n5 := by omega
            have r9 : ¬ c5 = X := by omega
            have r10 : ((X : Int)).toNat = X := Int.toNat_natCast X
            have r11 : (n5 : Int) ≤ c5 := by omega
            have hXn : X + 4 ≤ n5 := by omega
            have HXW := Lib.hid (four_wrap hX (by omega))
            have hnx := HNX x y hxl hlt
            rw [HYY.out, hX] at hnx
            have hpx := HRW (Y + X)
            have D0 := Lib.hid (HD.out (Y + X) (by omega))
            have D1 := Lib.hid (HD.out (Y + X + 1) (by omega))
            have D2 := Lib.hid (HD.out (Y + X + 2) (by omega))
            have D3 := Lib.hid (HD.out (Y + X + 3) (by omega))
            have C3 : ∀ W, Below w.heap.size w W → Hid (Calls Try.prog 47 #[.int .i64 2, .slice (some ⟨bb, off + Y + X, none⟩) (n5 - X) (c5 - X)] W (GivesP (decP 2 bs (Y + X)) W)) := fun W hB => by
              rw [hpx.out]
              refine C2 W ⟨(bs.getD (Y + X + 2) 0).toNat, (bs.getD (Y + X + 1) 0).toNat, (bs.getD (Y + X) 0).toNat, (bs.getD (Y + X + 3) 0).toNat⟩ (off + Y + X) (n5 - X) (c5 - X) (by omega) (Nat.lt_of_lt_of_le hbb hB.size) ?_ ?_ ?_ ?_
              · exact (by rw [Nat.add_assoc]; exact (hB.cell (p := ⟨bb, off + (Y + X), none⟩) hbb).trans D0.out)
              · exact (by rw [show off + Y + X + 1 = off + (Y + X + 1) by omega]; exact (hB.cell (p := ⟨bb, off + (Y + X + 1), none⟩) hbb).trans D1.out)
              · exact (by rw [show off + Y + X + 2 = off + (Y + X + 2) by omega]; exact (hB.cell (p := ⟨bb, off + (Y + X + 2), none⟩) hbb).trans D2.out)
              · exact (by rw [show off + Y + X + 3 = off + (Y + X + 3) by omega]; exact (hB.cell (p := ⟨bb, off + (Y + X + 3), none⟩) hbb).trans D3.out)
            have hlen := Lib.hid (show (O.take (y * a + x)).length + [decP 2 bs (Y + X)].length ≤ 4000000 by rw [List.length_take, HO.out]; simp; omega)
            generalize decP 2 bs (Y + X) = p at *
            generalize hLk : O.take (y * a + x) = Lk at *
            have hnx2 : Hid (O.take (y * a + (x + 1)) = Lk ++ [p]) := Lib.hid (by rw [← hnx.out, Nat.add_assoc])
            have hgm := HS.out.1
            have hgk := (HS.out.2.1.block gg rfl).1
            have hne := fun (vs : List Value) => Lib.hid (show ∀ q ∈ ([(mm, vs), (w.heap.size, [.int .i64 0, .int .i64 0, .slice none 0 0])] : List (Nat × List Value)), q.1 ≠ gg from fun q hq => by
              simp only [List.mem_cons, List.not_mem_nil, or_false] at hq
              rcases hq with rfl | rfl
              · exact fun e => hgm e.symm
              · exact fun e => by simp only at e; omega)
            obtain ⟨m0, m1, m2, _, mt⟩ := HS.out.2.2.tri (l1 := [])
            have BD := Lib.hid HS.out.2.2.drew.below
            clear hnx hLk hX hpx D0 D1 D2 D3 hXn r1 r2 r3 r5 hn1 hc1 hYn
            have hxw := HXW.out
            go_wp2_with fail
            go_region_law (first
              | (go_simp; go_at_call 47; (with_reducible refine (C3 _ BD.out).out.mono ?_); rintro e w5 ⟨rfl, hb5⟩; have J5 := Lib.hid (HS.out.2.2.drew.step hb5); have O5 := Lib.hid ((show OwnP wr.drew (w.heap.size + 1) (.slice (some ⟨gg, 0, none⟩) k1 c1) Lk from HS.out.2.1).below hb5); obtain ⟨n0', n1', n2', _, nt⟩ := J5.out.tri (l1 := []); clear hb5)
              | (refine step_appP (by rfl) _ _ (by rfl) (base := w.heap.size + 1) (l := Lk) (m := [p]) (by rfl) (by exact O5.out.alloc _) (by rfl) (by exact pxs_one w5 p) (by exact hlen.out) (by have := J5.out.below.size; rw [World.size_alloc]; omega) ?_; intro v6 w6 ho6 hg6 hl6; have J6 := Lib.hid ((J5.out.made _).grown (g := gg) hg6 (by omega) (hne _).out); obtain ⟨A6, c6, rfl, _, _⟩ := ho6.pxs.shape; obtain ⟨g6, rfl, hg7⟩ := own_new ho6 (by simp) hl6 (by rw [World.size_alloc]; omega) hgm; rw [List.length_append, List.length_singleton] at ho6; rw [← hnx2.out] at ho6; have O6 := Lib.hid ho6; obtain ⟨z0, z1, z2, zf, zt⟩ := J6.out.tri (l1 := []); clear ho6 hg6 hl6))
            all_goals
              have Z := Lib.hid (And.intro hg7 (And.intro (O6.out.far (k := mm) (by rw [slice_block]; exact fun e => hg7 (Option.some.inj e)) 2 (.slice (some ⟨g6, 0, none⟩) (Lk.length + 1) c6)) (J6.out.cell (l1 := []) (i := 2) (by simp) (.slice (some ⟨g6, 0, none⟩) (Lk.length + 1) c6))))
              clear z0 z1 z2 zf zt n0' n1' n2' nt m0 m1 m2 mt J6 O6 J5 O5 HS hxw C3 hne BD
              go_wp2_with fail
              go_roundw
              case rel => exact ⟨x + 1, g6, Lk.length + 1, c6, by omega, by go_num, Z⟩
              case measure =>
                unfold leftN
                simp [intOf]
                omega
          · obtain rfl : a = x := by omega
            have r6 : ¬ (a : Int) < a := by omega
            rw [show y * a + a = (y + 1) * a by rw [Nat.add_mul, Nat.one_mul]] at HS
            go_wp2_with fail
            go_roundw
            case rel => exact ⟨y + 1, gg, k1, c1, by omega, by go_num, HS⟩
            case measure =>
              unfold leftN
              simp [intOf]
              omega
      · obtain rfl : b = y := by omega
        have r0 : ¬ (b : Int) < b := by omega
        have hO : O.take (b * a) = O := List.take_of_length_le (by rw [HO.out, Nat.mul_comm, HMM.out]; exact Nat.le_refl _)
        rw [hO] at HR
        have hgk := (HR.out.2.1.block gg rfl).1
        have Q := Lib.hid (OwnP.res (w := w) (w' := set3 wr w.heap.size (.int .i64 (a : Int)) (.int .i64 (b : Int)) (.slice (some ⟨gg, 0, none⟩) k1 c1)) (HR.out.2.1.set3 (k := w.heap.size) (by omega) (.int .i64 (a : Int)) (.int .i64 (b : Int)) (.slice (some ⟨gg, 0, none⟩) k1 c1)) (Nat.le_succ _) (by rw [HO.out]; omega))
        have K := Lib.hid (below_set3 (y0 := .int .i64 (a : Int)) (y1 := .int .i64 (b : Int)) (y2 := .slice (some ⟨gg, 0, none⟩) k1 c1) HR.out.2.2.below (Nat.le_refl w.heap.size))
        obtain ⟨m0, m1, m2, _, mt⟩ := HR.out.2.2.tri (l1 := [])
        obtain ⟨z0, z1, z2, zf, zt⟩ := HR.out.2.2.tri (l1 := [_])
        clear HR hO
        go_wp2_with fail
        exact bodyPost_ret (v := .tuple #[.agg #[.int .i64 (a : Int), .int .i64 (b : Int), .slice (some ⟨gg, 0, none⟩) k1 c1], .int .i64 0]) (by simp [results, Try.results23, go_sem, z0, z1, z2]) rfl ⟨_, rfl, Q.out, K.out⟩

end Go.Proofs.Ytahhcklkcibgoaa
