/-
  overlap, rounded and covered of the reference of package scale.
-/
import Derived.Test.YtnkbejbpkjkgeaaRnear
namespace Go.Proofs.Ytnkbejbpkjkgeaa
open Go.RowKit

set_option maxRecDepth 100000 in
set_option maxHeartbeats 2000000 in
theorem roverlap_any {x m i n : Nat} (hx : x ≤ 256) (hm : m ≤ 256) (hi : i ≤ 256) (hn : n ≤ 256) (w : World) : Calls Try.prog 53 #[.int .i64 (x : Int), .int .i64 (m : Int), .int .i64 (i : Int), .int .i64 (n : Int)] w fun e w' => e = .returned (.int .i64 ((ovl x m i n : Nat) : Int)) ∧ w = w' := by
  have h0 := ovl_int x m i n
  have b1 : ((x : Int) + 1) * n ≤ 70000 := Int.le_trans (Int.mul_le_mul (a := (x : Int) + 1) (b := (n : Int)) (c := 257) (d := 256) (by omega) (by omega) (by omega) (by omega)) (by omega)
  have b2 : ((i : Int) + 1) * m ≤ 70000 := Int.le_trans (Int.mul_le_mul (a := (i : Int) + 1) (b := (m : Int)) (c := 257) (d := 256) (by omega) (by omega) (by omega) (by omega)) (by omega)
  have b3 : (x : Int) * n ≤ 70000 := Int.le_trans (Int.mul_le_mul (a := (x : Int)) (b := (n : Int)) (c := 257) (d := 256) (by omega) (by omega) (by omega) (by omega)) (by omega)
  have b4 : (i : Int) * m ≤ 70000 := Int.le_trans (Int.mul_le_mul (a := (i : Int)) (b := (m : Int)) (c := 257) (d := 256) (by omega) (by omega) (by omega) (by omega)) (by omega)
  have c1 : 0 ≤ ((x : Int) + 1) * n := Int.mul_nonneg (by omega) (by omega)
  have c2 : 0 ≤ ((i : Int) + 1) * m := Int.mul_nonneg (by omega) (by omega)
  have c3 : 0 ≤ (x : Int) * n := Int.mul_nonneg (by omega) (by omega)
  have c4 : 0 ≤ (i : Int) * m := Int.mul_nonneg (by omega) (by omega)
  obtain ⟨X1, hX1⟩ : ∃ z : Int, (x : Int) + 1 = z := ⟨_, rfl⟩
  obtain ⟨I1, hI1⟩ : ∃ z : Int, (i : Int) + 1 = z := ⟨_, rfl⟩
  rw [hX1] at h0 b1 c1
  rw [hI1] at h0 b2 c2
  obtain ⟨P1, hP1⟩ : ∃ z : Int, X1 * (n : Int) = z := ⟨_, rfl⟩
  obtain ⟨P2, hP2⟩ : ∃ z : Int, I1 * (m : Int) = z := ⟨_, rfl⟩
  obtain ⟨P3, hP3⟩ : ∃ z : Int, (x : Int) * (n : Int) = z := ⟨_, rfl⟩
  obtain ⟨P4, hP4⟩ : ∃ z : Int, (i : Int) * (m : Int) = z := ⟨_, rfl⟩
  have He1 := Lib.hid (show wrap64 ((x : Int) + 1) = X1 from by rw [hX1]; exact IntWalk.wrap64_in _ (by omega))
  have He2 := Lib.hid (show wrap64 ((i : Int) + 1) = I1 from by rw [hI1]; exact IntWalk.wrap64_in _ (by omega))
  rw [hP1] at h0 b1 c1
  rw [hP2] at h0 b2 c2
  rw [hP3] at h0 b3 c3
  rw [hP4] at h0 b4 c4
  have He3 := Lib.hid (show wrap64 (X1 * (n : Int)) = P1 from by rw [hP1]; exact IntWalk.wrap64_in _ (by omega))
  have He4 := Lib.hid (show wrap64 (I1 * (m : Int)) = P2 from by rw [hP2]; exact IntWalk.wrap64_in _ (by omega))
  have He5 := Lib.hid (show wrap64 ((x : Int) * (n : Int)) = P3 from by rw [hP3]; exact IntWalk.wrap64_in _ (by omega))
  have He6 := Lib.hid (show wrap64 ((i : Int) * (m : Int)) = P4 from by rw [hP4]; exact IntWalk.wrap64_in _ (by omega))
  have He7 := Lib.hid (show wrap64 (min P1 P2 - max P3 P4) = min P1 P2 - max P3 P4 from IntWalk.wrap64_in _ (by omega))
  have Hf1 := Lib.hid (show IntKind.i64.wrap ((x : Int) + 1) = X1 from by rw [hX1]; exact IntWalk.i64_in _ (by omega))
  have Hf2 := Lib.hid (show IntKind.i64.wrap ((i : Int) + 1) = I1 from by rw [hI1]; exact IntWalk.i64_in _ (by omega))
  rw [← h0]
  clear h0 hX1 hI1 hP1 hP2 hP3 hP4 b1 b2 b3 b4 c1 c2 c3 c4 hx hm hi hn
  have e1 := He1.out
  have e2 := He2.out
  have e3 := He3.out
  have e4 := He4.out
  have e5 := He5.out
  have e6 := He6.out
  have e7 := He7.out
  have f1 := Hf1.out
  have f2 := Hf2.out
  go_enter Try.func53, Try.ntmps53
  go_wp2_with fail
  go_ret
  exact ⟨rfl, rfl⟩

set_option maxRecDepth 100000 in
set_option maxHeartbeats 2000000 in
theorem rrounded_any {s t : Nat} (hs : s ≤ 20000000) (ht0 : 0 < t) (ht : t ≤ 65536) (hr : rndN s t < 256) (w : World) : Calls Try.prog 54 #[.int .i64 (s : Int), .int .i64 (t : Int)] w fun e w' => e = .returned (.int .u8 ((rndN s t : Nat) : Int)) ∧ w = w' := by
  have h0 : (2 * (s : Int) + (t : Int)) / (2 * (t : Int)) = ((rndN s t : Nat) : Int) := by
    unfold rndN
    rw [Int.natCast_ediv]
    rfl
  generalize rndN s t = r at *
  obtain ⟨S2, hS2⟩ : ∃ z : Int, 2 * (s : Int) = z := ⟨_, rfl⟩
  obtain ⟨T2, hT2⟩ : ∃ z : Int, 2 * (t : Int) = z := ⟨_, rfl⟩
  obtain ⟨S3, hS3⟩ : ∃ z : Int, S2 + (t : Int) = z := ⟨_, rfl⟩
  rw [hS2, hT2, hS3] at h0
  have g0 : T2 ≠ 0 := by omega
  have F := Lib.hid (show IntKind.i64.wrap (2 * (s : Int)) = S2 ∧ IntKind.i64.wrap (2 * (t : Int)) = T2 ∧ wrap64 (S2 + (t : Int)) = S3 ∧ wrap64 S2 = S2 ∧ wrap64 (S3.tdiv T2) = (r : Int) ∧ wrap64 (S3 / T2) = (r : Int) ∧ IntKind.u8.wrap (r : Int) = (r : Int) ∧ wrap64 (r : Int) = (r : Int) from by
    refine ⟨?_, ?_, ?_, ?_, ?_, ?_, ?_, ?_⟩
    · rw [IntWalk.i64_in _ (by omega)]; exact hS2
    · rw [IntWalk.i64_in _ (by omega)]; exact hT2
    · rw [hS3]; exact IntWalk.wrap64_in _ (by omega)
    · exact IntWalk.wrap64_in _ (by omega)
    · rw [Int.tdiv_eq_ediv_of_nonneg (by omega), h0]; exact IntWalk.wrap64_in _ (by omega)
    · rw [h0]; exact IntWalk.wrap64_in _ (by omega)
    · exact IntWalk.u8_in _ (by omega)
    · exact IntWalk.wrap64_in _ (by omega))
  have z0 : 0 ≤ S3 := by omega
  clear hS2 hT2 hS3 hs ht0 ht hr
  obtain ⟨f1, f2, f3, f4, f5, f6, f7, f8⟩ := F.out
  go_enter Try.func54, Try.ntmps54
  go_wp2_with fail
  go_ret
  exact ⟨rfl, rfl⟩

/-- no component's sum is more than 255 times the area -/
theorem boxP_top {a b x y w h : Nat} {l : List Px} (f : Px → Nat) (hx : x < w) (hy : y < h) (hp : ∀ k, f (l.getD k zeroPx) ≤ 255) : wsum a b x y w h (fun k => f (l.getD k zeroPx)) ≤ a * b * 255 :=
  Nat.le_trans (wsum_le fun k _ => hp k) (by rw [wsum_const hx hy]; exact Nat.le_refl _)

theorem heldC1 (w : World) (a b : Int) (v : Value) : Held w ((w.alloc (.cells #[.int .i64 a, .int .i64 b, v] 24)).alloc (.cells #[.int .u8 0, .int .u8 0, .int .u8 0, .int .u8 0] 43)) [(w.heap.size + 1, [.int .u8 0, .int .u8 0, .int .u8 0, .int .u8 0]), (w.heap.size, [.int .i64 a, .int .i64 b, v])] := by
  have h := ((Held.nil w).alloc [.int .i64 a, .int .i64 b, v] 24).alloc [.int .u8 0, .int .u8 0, .int .u8 0, .int .u8 0] 43
  rw [World.size_alloc] at h
  exact h

/-- one component more: the numbers -/
theorem cov_step {S S2 k c : Nat} {z Kz : Int} (hk : Kz = (k : Int)) (hz : z = (S : Int)) (hn : S2 = S + k * c) (hb : S2 ≤ 20000000) : ∃ kr z2 : Int, wrap64 (Kz * (c : Int)) = kr ∧ wrap64 (z + kr) = z2 ∧ z2 = (S2 : Int) := by
  refine ⟨((k * c : Nat) : Int), (S2 : Int), ?_, ?_, rfl⟩
  · rw [hk, ← Int.natCast_mul]
    exact IntWalk.wrap64_in _ (by omega)
  · rw [hz, IntWalk.wrap64_in _ (by omega)]
    omega
theorem cov_total {S S2 k : Nat} {z Kz : Int} (hk : Kz = (k : Int)) (hz : z = (S : Int)) (hn : S2 = S + k * 1) (hb : S2 ≤ 20000000) : ∃ z2 : Int, wrap64 (z + Kz) = z2 ∧ z2 = (S2 : Int) := by
  refine ⟨(S2 : Int), ?_, rfl⟩
  rw [hz, hk, IntWalk.wrap64_in _ (by omega)]
  omega

set_option maxRecDepth 100000 in
set_option maxHeartbeats 8000000 in
theorem rcovered_any {a b p q x y : Nat} {v : Value} {l : List Px} {w : World} (h : Pxs w v l) (hv : Vld a b l) (hlb : ∀ z ∈ l, Byt z) (hx : x < p) (hy : y < q) (hp : p ≤ 256) (hq : q ≤ 256) : Calls Try.prog 40 #[.agg #[.int .i64 (a : Int), .int .i64 (b : Int), v], .int .i64 (x : Int), .int .i64 (y : Int), .int .i64 (p : Int), .int .i64 (q : Int)] w (GivesP (boxP a b l x y p q) w) := by
  obtain ⟨A, c, rfl, hc1, hc2, hcell⟩ := h
  have J := Lib.hid (heldC1 w a b (.slice A l.length c))
  obtain ⟨h0, h6⟩ := hv.small
  obtain ⟨bb, off, rfl, hbb, hcs⟩ := hcell h0
  have HCS := Lib.hid hcs
  have HV := Lib.hid hv
  have ha1 := hv.a1
  have ha2 := hv.a2
  have hb1 := hv.b1
  have hb2 := hv.b2
  have HTr := Lib.hid (fun k => Nat.le_of_lt_succ (getD_byt hlb k).1)
  have HTg := Lib.hid (fun k => Nat.le_of_lt_succ (getD_byt hlb k).2.1)
  have HTb := Lib.hid (fun k => Nat.le_of_lt_succ (getD_byt hlb k).2.2.1)
  have HTa := Lib.hid (fun k => Nat.le_of_lt_succ (getD_byt hlb k).2.2.2)
  have HBY := Lib.hid (boxP_byt (x := x) (y := y) ha1 hb1 hx hy hlb)
  have C1 := fun i (hi : i ≤ 256) W => Lib.hid (roverlap_any (x := x) (m := p) (i := i) (n := a) (by omega) hp hi ha2 W)
  have C2 := fun j (hj : j ≤ 256) W => Lib.hid (roverlap_any (x := y) (m := q) (i := j) (n := b) (by omega) hq hj hb2 W)
  obtain ⟨n, hn⟩ : ∃ n, l.length = n := ⟨_, rfl⟩
  have HN := Lib.hid hn
  have hnab := Lib.hid (hn.symm.trans hv.len)
  rw [hn] at J hc1 h6 ⊢
  clear hcell hv hcs hn hc2 h0 hlb
  go_enter Try.func40, Try.ntmps40
  go_wp2_with fail
  go_loopw [11, 12, 13, 14, 15, 16] (fun s11 s12 s13 s14 s15 s16 wr => ∃ (j : Nat) (zr zg zb za zt : Int), j ≤ b ∧ s16 = .int .i64 (j : Int) ∧ s11 = .int .i64 zr ∧ s12 = .int .i64 zg ∧ s13 = .int .i64 zb ∧ s14 = .int .i64 za ∧ s15 = .int .i64 zt ∧ Hid ((zr = ((wpart a b x y p q (fun k => (l.getD k zeroPx).r) j 0 : Nat) : Int) ∧ zg = ((wpart a b x y p q (fun k => (l.getD k zeroPx).g) j 0 : Nat) : Int) ∧ zb = ((wpart a b x y p q (fun k => (l.getD k zeroPx).b) j 0 : Nat) : Int) ∧ za = ((wpart a b x y p q (fun k => (l.getD k zeroPx).a) j 0 : Nat) : Int) ∧ zt = ((wpart a b x y p q (fun _ => 1) j 0 : Nat) : Int)) ∧ Held w wr [(w.heap.size + 1, [.int .u8 0, .int .u8 0, .int .u8 0, .int .u8 0]), (w.heap.size, [.int .i64 (a : Int), .int .i64 (b : Int), .slice (some ⟨bb, off, none⟩) n c])])) (fun _ _ _ _ _ s16 _ => leftN b s16)
  case atStart => exact ⟨0, 0, 0, 0, 0, 0, Nat.zero_le _, rfl, rfl, rfl, rfl, rfl, rfl, Lib.hid ⟨⟨rfl, rfl, rfl, rfl, rfl⟩, J.out⟩⟩
  case round =>
    clear J
    obtain ⟨j, zr, zg, zb, za, zt, hj, rfl, rfl, rfl, rfl, rfl, rfl, HR⟩ := hrel
    obtain ⟨d0, d1, d2, _, dt⟩ := HR.out.2.tri (l1 := [_])
    by_cases hlt : j < b
    · have q0 : (j : Int) < b := by omega
      obtain ⟨wu, rfl⟩ : ∃ z, z = wr := ⟨_, rfl⟩
      go_wp2_with fail
      clear d0 d1 d2 dt
      go_loopw [11, 12, 13, 14, 15, 17] (fun s11 s12 s13 s14 s15 s17 wr => ∃ (i : Nat) (zr zg zb za zt : Int), i ≤ a ∧ s17 = .int .i64 (i : Int) ∧ s11 = .int .i64 zr ∧ s12 = .int .i64 zg ∧ s13 = .int .i64 zb ∧ s14 = .int .i64 za ∧ s15 = .int .i64 zt ∧ Hid ((zr = ((wpart a b x y p q (fun k => (l.getD k zeroPx).r) j i : Nat) : Int) ∧ zg = ((wpart a b x y p q (fun k => (l.getD k zeroPx).g) j i : Nat) : Int) ∧ zb = ((wpart a b x y p q (fun k => (l.getD k zeroPx).b) j i : Nat) : Int) ∧ za = ((wpart a b x y p q (fun k => (l.getD k zeroPx).a) j i : Nat) : Int) ∧ zt = ((wpart a b x y p q (fun _ => 1) j i : Nat) : Int)) ∧ Held w wr [(w.heap.size + 1, [.int .u8 0, .int .u8 0, .int .u8 0, .int .u8 0]), (w.heap.size, [.int .i64 (a : Int), .int .i64 (b : Int), .slice (some ⟨bb, off, none⟩) n c])])) (fun _ _ _ _ _ s17 _ => leftN a s17)
      case atStart => exact ⟨0, zr, zg, zb, za, zt, Nat.zero_le _, rfl, rfl, rfl, rfl, rfl, rfl, HR⟩
      case round =>
        clear HR
        obtain ⟨i, zr, zg, zb, za, zt, hi, rfl, rfl, rfl, rfl, rfl, rfl, HR⟩ := hrel
        obtain ⟨d0, d1, d2, _, dt⟩ := HR.out.2.tri (l1 := [_])
        by_cases hil : i < a
        · have q1 : (i : Int) < a := by omega
          have D1 := C1 i (by omega)
          have D2 := C2 j (by omega)
          have ho1 := ovl_le x p i a
          have ho2 := ovl_le y q j b
          have hKlt := idx_lt hil hlt
          obtain ⟨K, hK⟩ : ∃ K, j * a + i = K := ⟨_, rfl⟩
          have hab : a * b ≤ 65536 := mul_small ha2 hb2
          rw [hK] at hKlt
          have hKn : K < n := by rw [hnab.out]; exact hKlt
          obtain ⟨px, hpx⟩ : ∃ px, l[K]? = some px := ⟨_, List.getElem?_eq_getElem (by rw [HN.out]; exact hKn)⟩
          have hgd : l.getD (j * a + i) zeroPx = px := by rw [hK]; exact getD_of hpx
          have hpr : px.r ≤ 255 := by rw [← hgd]; exact HTr.out _
          have Ar := Lib.hid (show wrap64 (px.r : Int) = (px.r : Int) from IntWalk.wrap64_in _ (by omega))
          have hpg : px.g ≤ 255 := by rw [← hgd]; exact HTg.out _
          have Ag := Lib.hid (show wrap64 (px.g : Int) = (px.g : Int) from IntWalk.wrap64_in _ (by omega))
          have hpb : px.b ≤ 255 := by rw [← hgd]; exact HTb.out _
          have Ab := Lib.hid (show wrap64 (px.b : Int) = (px.b : Int) from IntWalk.wrap64_in _ (by omega))
          have hpa : px.a ≤ 255 := by rw [← hgd]; exact HTa.out _
          have Aa := Lib.hid (show wrap64 (px.a : Int) = (px.a : Int) from IntWalk.wrap64_in _ (by omega))
          obtain ⟨hr', hg', hb', ha', ht'⟩ := HR.out.1
          obtain ⟨Kz, hKz⟩ : ∃ z : Int, z = ((ovl x p i a * ovl y q j b : Nat) : Int) := ⟨_, rfl⟩
          have hko : ovl x p i a * ovl y q j b ≤ 65536 := Nat.le_trans (Nat.mul_le_mul (Nat.le_trans ho1 ha2) (Nat.le_trans ho2 hb2)) (by omega)
          have UK := Lib.hid (show IntKind.i64.wrap (((ovl x p i a : Nat) : Int) * ((ovl y q j b : Nat) : Int)) = Kz from by rw [← Int.natCast_mul, hKz]; exact IntWalk.i64_in _ (by omega))
          have Nr := wpart_next a b x y p q (fun k => (l.getD k zeroPx).r) j i
          rw [hgd] at Nr
          have Br : wpart a b x y p q (fun k => (l.getD k zeroPx).r) j (i + 1) ≤ 20000000 := Nat.le_trans (wpart_le a b x y p q (fun k => (l.getD k zeroPx).r) hlt hil) (Nat.le_trans (boxP_top Px.r hx hy HTr.out) (by omega))
          obtain ⟨kr, zr2, Ur, Vr, Wr⟩ := cov_step hKz hr' Nr Br
          replace Ur := Lib.hid Ur
          replace Vr := Lib.hid Vr
          replace Wr := Lib.hid Wr
          clear Nr Br
          have Ng := wpart_next a b x y p q (fun k => (l.getD k zeroPx).g) j i
          rw [hgd] at Ng
          have Bg : wpart a b x y p q (fun k => (l.getD k zeroPx).g) j (i + 1) ≤ 20000000 := Nat.le_trans (wpart_le a b x y p q (fun k => (l.getD k zeroPx).g) hlt hil) (Nat.le_trans (boxP_top Px.g hx hy HTg.out) (by omega))
          obtain ⟨kg, zg2, Ug, Vg, Wg⟩ := cov_step hKz hg' Ng Bg
          replace Ug := Lib.hid Ug
          replace Vg := Lib.hid Vg
          replace Wg := Lib.hid Wg
          clear Ng Bg
          have Nb := wpart_next a b x y p q (fun k => (l.getD k zeroPx).b) j i
          rw [hgd] at Nb
          have Bb : wpart a b x y p q (fun k => (l.getD k zeroPx).b) j (i + 1) ≤ 20000000 := Nat.le_trans (wpart_le a b x y p q (fun k => (l.getD k zeroPx).b) hlt hil) (Nat.le_trans (boxP_top Px.b hx hy HTb.out) (by omega))
          obtain ⟨kb, zb2, Ub, Vb, Wb⟩ := cov_step hKz hb' Nb Bb
          replace Ub := Lib.hid Ub
          replace Vb := Lib.hid Vb
          replace Wb := Lib.hid Wb
          clear Nb Bb
          have Na := wpart_next a b x y p q (fun k => (l.getD k zeroPx).a) j i
          rw [hgd] at Na
          have Ba : wpart a b x y p q (fun k => (l.getD k zeroPx).a) j (i + 1) ≤ 20000000 := Nat.le_trans (wpart_le a b x y p q (fun k => (l.getD k zeroPx).a) hlt hil) (Nat.le_trans (boxP_top Px.a hx hy HTa.out) (by omega))
          obtain ⟨ka, za2, Ua, Va, Wa⟩ := cov_step hKz ha' Na Ba
          replace Ua := Lib.hid Ua
          replace Va := Lib.hid Va
          replace Wa := Lib.hid Wa
          clear Na Ba
          have Nt := wpart_next a b x y p q (fun _ => 1) j i
          have Bt : wpart a b x y p q (fun _ => 1) j (i + 1) ≤ 20000000 := Nat.le_trans (wpart_le a b x y p q (fun _ => 1) hlt hil) (by rw [wsum_const hx hy]; omega)
          obtain ⟨zt2, Vt, Wt⟩ := cov_total hKz ht' Nt Bt
          replace Vt := Lib.hid Vt
          replace Wt := Lib.hid Wt
          obtain ⟨Mi, hMi⟩ : ∃ z : Int, ((j * a : Nat) : Int) = z := ⟨_, rfl⟩
          have M1 := Lib.hid (show wrap64 ((j : Int) * (a : Int)) = Mi from by rw [← Int.natCast_mul, IntWalk.wrap64_in _ (by omega)]; exact hMi)
          have M2 := Lib.hid (show wrap64 (Mi + (i : Int)) = (K : Int) from by rw [IntWalk.wrap64_in _ (by omega)]; omega)
          obtain ⟨c0, c1, c2, c3⟩ := (HCS.out K px hpx).keep HR.out.2.below hbb
          have k0 : (0 : Int) ≤ K := by omega
          have kn : (K : Int) < n := by omega
          have J := Lib.hid HR.out.2
          clear Nt Bt hgd hpx hr' hg' hb' ha' ht' hKz hko hKlt hKn hK hMi hab HR
          generalize ovl x p i a = o1 at *
          generalize ovl y q j b = o2 at *
          go_wp2_with fail
          have sk := J.out.drew.three (l1 := [_])
          go_region_held3 (fun W => W.cell? ⟨w.heap.size, 0, none⟩ = some (.int .i64 (a : Int)) ∧ W.cell? ⟨w.heap.size, 1, none⟩ = some (.int .i64 (b : Int)) ∧ W.cell? ⟨w.heap.size, 2, none⟩ = some (.slice (some ⟨bb, off, none⟩) n c))
            (first
              | go_keep
              | exact sk)
            (first
              | (go_at_call 53; (with_reducible refine (D1 _).out.mono ?_); rintro e wq ⟨rfl, rfl⟩)
              | (go_at_call 53; (with_reducible refine (D2 _).out.mono ?_); rintro e wq ⟨rfl, rfl⟩)
              | fail)
          all_goals
            rw [UK.out]
            clear sk D1 D2 ho1 ho2 UK
            have JZ := Lib.hid (J.out.drew.made (.cells #[.int .u8 (px.r : Int), .int .u8 (px.g : Int), .int .u8 (px.b : Int), .int .u8 (px.a : Int)] 43))
            obtain ⟨d0, d1, d2, _, dt⟩ := J.out.tri (l1 := [_])
            have m1 := M1.out
            have m2 := M2.out
            have u1 := Ur.out
            have u2 := Ug.out
            have u3 := Ub.out
            have u4 := Ua.out
            have v1 := Vr.out
            have v2 := Vg.out
            have v3 := Vb.out
            have v4 := Va.out
            have v5 := Vt.out
            go_wp2_with fail
            go_roundw
            case rel =>
              clear m1 m2 u1 u2 u3 u4 v1 v2 v3 v4 v5
              exact ⟨i + 1, zr2, zg2, zb2, za2, zt2, by omega, by go_num, (by first | rfl | rw [Vr.out] | rw [Ur.out, Vr.out] | rw [Ar.out, Ur.out, Vr.out]), (by first | rfl | rw [Vg.out] | rw [Ug.out, Vg.out] | rw [Ag.out, Ug.out, Vg.out]), (by first | rfl | rw [Vb.out] | rw [Ub.out, Vb.out] | rw [Ab.out, Ub.out, Vb.out]), (by first | rfl | rw [Va.out] | rw [Ua.out, Va.out] | rw [Aa.out, Ua.out, Va.out]), (by first | rfl | rw [Vt.out]), Lib.hid ⟨⟨Wr.out, Wg.out, Wb.out, Wa.out, Wt.out⟩, JZ.out⟩⟩
            case measure =>
              clear m1 m2 u1 u2 u3 u4 v1 v2 v3 v4 v5
              unfold leftN
              simp [intOf]
              omega
        · obtain rfl : a = i := by omega
          have q1 : ¬ (a : Int) < a := by omega
          rw [wpart_row, wpart_row, wpart_row, wpart_row, wpart_row] at HR
          go_wp2_with fail
          go_roundw
          case rel => exact ⟨j + 1, zr, zg, zb, za, zt, by omega, by go_num, rfl, rfl, rfl, rfl, rfl, HR⟩
          case measure =>
            unfold leftN
            simp [intOf]
            omega
    · obtain rfl : b = j := by omega
      have q0 : ¬ (b : Int) < b := by omega
      have hab1 := pos_mul ha1 hb1
      have hab := mul_small ha2 hb2
      obtain ⟨h1, h2, h3, h4, h5⟩ := HR.out.1
      rw [wpart_all] at h1 h2 h3 h4 h5
      rw [wsum_const hx hy, Nat.mul_one] at h5
      have Rr : ∀ W, Hid (Calls Try.prog 54 #[.int .i64 zr, .int .i64 zt] W fun e w' => e = .returned (.int .u8 (((boxP a b l x y p q).r : Nat) : Int)) ∧ W = w') := fun W => Lib.hid (by
        rw [h1, h5]
        exact rrounded_any (Nat.le_trans (boxP_top Px.r hx hy HTr.out) (by omega)) hab1 hab HBY.out.1 W)
      have Rg : ∀ W, Hid (Calls Try.prog 54 #[.int .i64 zg, .int .i64 zt] W fun e w' => e = .returned (.int .u8 (((boxP a b l x y p q).g : Nat) : Int)) ∧ W = w') := fun W => Lib.hid (by
        rw [h2, h5]
        exact rrounded_any (Nat.le_trans (boxP_top Px.g hx hy HTg.out) (by omega)) hab1 hab HBY.out.2.1 W)
      have Rb : ∀ W, Hid (Calls Try.prog 54 #[.int .i64 zb, .int .i64 zt] W fun e w' => e = .returned (.int .u8 (((boxP a b l x y p q).b : Nat) : Int)) ∧ W = w') := fun W => Lib.hid (by
        rw [h3, h5]
        exact rrounded_any (Nat.le_trans (boxP_top Px.b hx hy HTb.out) (by omega)) hab1 hab HBY.out.2.2.1 W)
      have Ra : ∀ W, Hid (Calls Try.prog 54 #[.int .i64 za, .int .i64 zt] W fun e w' => e = .returned (.int .u8 (((boxP a b l x y p q).a : Nat) : Int)) ∧ W = w') := fun W => Lib.hid (by
        rw [h4, h5]
        exact rrounded_any (Nat.le_trans (boxP_top Px.a hx hy HTa.out) (by omega)) hab1 hab HBY.out.2.2.2 W)
      generalize boxP a b l x y p q = P at *
      obtain ⟨z0, z1, z2, z3, zf, zt'⟩ := HR.out.2.four (l1 := [])
      have K := Lib.hid (below_set4 HR.out.2.below (Nat.le_succ w.heap.size) (x0 := .int .u8 (P.r : Int)) (x1 := .int .u8 (P.g : Int)) (x2 := .int .u8 (P.b : Int)) (x3 := .int .u8 (P.a : Int)))
      unfold GivesP
      clear HR h1 h2 h3 h4 h5 HBY C1 C2
      go_wp2_with fail
      refine (Rr _).out.mono ?_
      rintro e w5 ⟨rfl, rfl⟩
      go_wp2_with fail
      refine (Rg _).out.mono ?_
      rintro e w6 ⟨rfl, rfl⟩
      go_wp2_with fail
      refine (Rb _).out.mono ?_
      rintro e w7 ⟨rfl, rfl⟩
      go_wp2_with fail
      refine (Ra _).out.mono ?_
      rintro e w8 ⟨rfl, rfl⟩
      go_wp2_with fail
      exact bodyPost_ret (v := .agg #[.int .u8 (P.r : Int), .int .u8 (P.g : Int), .int .u8 (P.b : Int), .int .u8 (P.a : Int)]) (by simp [results, Try.results40, go_sem, z0, z1, z2, z3]) rfl ⟨rfl, K.out⟩

end Go.Proofs.Ytnkbejbpkjkgeaa
