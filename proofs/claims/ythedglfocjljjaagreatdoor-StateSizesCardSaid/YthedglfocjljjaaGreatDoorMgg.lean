/-
  The average of package scale, over the columns and rows that are covered alone: the numbers.
-/
import Derived.Test.YthedglfocjljjaaGreatDoorMgd
import Derived.Test.YthedglfocjljjaaGreatDoorMge
import Derived.Deep.CutRange
namespace Go.Proofs.YthedglfocjljjaaGreatDoor

end Go.Proofs.YthedglfocjljjaaGreatDoor
namespace Go.Proofs.YthedglfocjljjaaGreatDoor
open Go.RowKit

set_option maxRecDepth 100000 in
set_option maxHeartbeats 1000000 in
theorem vsize10_any (a b : Int) (w : World) : Calls Tryz.prog 104 #[.int .i64 a, .int .i64 b] w fun e w' => e = .returned (.bool (sizB a b)) ∧ w = w' := by
  obtain ⟨v, hv⟩ : ∃ v, sizB a b = v := ⟨_, rfl⟩
  rw [hv]
  unfold sizB at hv
  by_cases h0 : 1 ≤ a <;> by_cases h1 : a ≤ 256 <;> by_cases h2 : 1 ≤ b <;> by_cases h3 : b ≤ 256 <;> (simp [h0, h1, h2, h3] at hv; subst hv)
  all_goals
    go_enter Tryz.func104, Tryz.ntmps104
    go_wp2
    go_ret
    exact ⟨ret_bool (by simp [*]), rfl⟩

set_option maxRecDepth 100000 in
set_option maxHeartbeats 2000000 in
theorem center_any {x n m : Nat} (hx : x < m) (hn0 : 1 ≤ n) (hn : n ≤ 256) (hm : m ≤ 256) (w : World) : Calls Tryz.prog 86 #[.int .i64 (x : Int), .int .i64 (n : Int), .int .i64 (m : Int)] w fun e w' => e = .returned (.int .i64 ((nrsI x n m : Nat) : Int)) ∧ w = w' := by
  have i1 := near_int (x := x) (n := n) (m := m)
  have hr := near_lt hx hn0
  generalize nrsI x n m = r at *
  have p1 : (2 * (x : Int) + 1) * (n : Int) ≤ 200000 := Int.le_trans (Int.mul_le_mul (a := 2 * (x : Int) + 1) (b := (n : Int)) (c := 600) (d := 256) (by omega) (by omega) (by omega) (by omega)) (by omega)
  have p3 : 0 ≤ (2 * (x : Int) + 1) * (n : Int) := Int.mul_nonneg (by omega) (by omega)
  obtain ⟨X3, hX3⟩ : ∃ X3 : Int, 2 * (x : Int) + 1 = X3 := ⟨_, rfl⟩
  obtain ⟨X2, hX2⟩ : ∃ X2 : Int, 2 * (x : Int) = X2 := ⟨_, rfl⟩
  obtain ⟨M2, hM2⟩ : ∃ M2 : Int, 2 * (m : Int) = M2 := ⟨_, rfl⟩
  rw [hX3] at i1 p1 p3
  rw [hM2] at i1
  obtain ⟨T1, hT1⟩ : ∃ T1 : Int, X3 * (n : Int) = T1 := ⟨_, rfl⟩
  rw [hT1] at i1 p1 p3
  have F := Lib.hid (show IntKind.i64.wrap (2 * (x : Int)) = X2 ∧ wrap64 (2 * (x : Int)) = X2 ∧ IntKind.i64.wrap (2 * (m : Int)) = M2 ∧ wrap64 (2 * (m : Int)) = M2 ∧ IntKind.i64.wrap (X2 + 1) = X3 ∧ wrap64 (X2 + 1) = X3 ∧ IntKind.i64.wrap (X3 * (n : Int)) = T1 ∧ wrap64 (X3 * (n : Int)) = T1 ∧ IntKind.i64.wrap (T1.tdiv M2) = (r : Int) ∧ wrap64 (T1.tdiv M2) = (r : Int) ∧ wrap64 (T1 / M2) = (r : Int) from by
    refine ⟨?_, ?_, ?_, ?_, ?_, ?_, ?_, ?_, ?_, ?_, ?_⟩
    · rw [IntWalk.i64_in _ (by omega)]; exact hX2
    · rw [IntWalk.wrap64_in _ (by omega)]; exact hX2
    · rw [IntWalk.i64_in _ (by omega)]; exact hM2
    · rw [IntWalk.wrap64_in _ (by omega)]; exact hM2
    · rw [IntWalk.i64_in _ (by omega)]; omega
    · rw [IntWalk.wrap64_in _ (by omega)]; omega
    · rw [hT1]; exact IntWalk.i64_in _ (by omega)
    · rw [hT1]; exact IntWalk.wrap64_in _ (by omega)
    · rw [Int.tdiv_eq_ediv_of_nonneg p3, i1]; exact IntWalk.i64_in _ (by omega)
    · rw [Int.tdiv_eq_ediv_of_nonneg p3, i1]; exact IntWalk.wrap64_in _ (by omega)
    · rw [i1]; exact IntWalk.wrap64_in _ (by omega))
  have g1 : M2 ≠ 0 := by omega
  have z0 : 0 ≤ T1 := p3
  clear hX3 hX2 hM2 hT1 i1 p1 p3 hx hn hm hr hn0
  obtain ⟨f1, f2, f3, f4, f5, f6, f7, f8, f9, f10, f11⟩ := F.out
  go_enter Tryz.func86, Tryz.ntmps86
  go_wp2_with fail
  go_ret
  exact ⟨rfl, rfl⟩

structure Reads (w : World) (kb kh kw a b p q : Nat) (v : Value) (l : List Px) : Prop where
  b0 : w.cell? ⟨kb, 0, none⟩ = some (.int .i64 (a : Int))
  b1 : w.cell? ⟨kb, 1, none⟩ = some (.int .i64 (b : Int))
  b2 : w.cell? ⟨kb, 2, none⟩ = some v
  h0 : w.cell? ⟨kh, 0, none⟩ = some (.int .i64 (q : Int))
  w0 : w.cell? ⟨kw, 0, none⟩ = some (.int .i64 (p : Int))
  tb : kb < w.heap.size
  th : kh < w.heap.size
  tw : kw < w.heap.size
  px : Pxs w v l

theorem Reads.step {w w' : World} {kb kh kw a b p q : Nat} {v : Value} {l : List Px} (h : Reads w kb kh kw a b p q v l) (hb : Below w.heap.size w w') : Reads w' kb kh kw a b p q v l :=
  ⟨(hb.cell (p := ⟨kb, 0, none⟩) h.tb).trans h.b0, (hb.cell (p := ⟨kb, 1, none⟩) h.tb).trans h.b1, (hb.cell (p := ⟨kb, 2, none⟩) h.tb).trans h.b2,
    (hb.cell (p := ⟨kh, 0, none⟩) h.th).trans h.h0, (hb.cell (p := ⟨kw, 0, none⟩) h.tw).trans h.w0,
    Nat.lt_of_lt_of_le h.tb hb.size, Nat.lt_of_lt_of_le h.th hb.size, Nat.lt_of_lt_of_le h.tw hb.size, h.px.below hb⟩

set_option maxRecDepth 100000 in
set_option maxHeartbeats 4000000 in
theorem near1_any {kb kh kw a b p q x y : Nat} {v : Value} {l : List Px} {w : World} (h : Reads w kb kh kw a b p q v l) (hv : Vld a b l) (hx : x < p) (hy : y < q) (hp : p ≤ 256) (hq : q ≤ 256) : Calls Tryz.prog 85 #[.int .i64 (x : Int), .int .i64 (y : Int), .pointer (some ⟨kb, 0, none⟩), .pointer (some ⟨kh, 0, none⟩), .pointer (some ⟨kw, 0, none⟩)] w (GivesP (l.getD (nrsI y b q * a + nrsI x a p) zeroPx) w) := by
  have J := Lib.hid ((Held.nil w).alloc [.int .u8 0, .int .u8 0, .int .u8 0, .int .u8 0] 58)
  have HR := Lib.hid h
  obtain ⟨A, c, rfl, hc1, hc2, hcell⟩ := h.px
  obtain ⟨h0, h6⟩ := hv.small
  obtain ⟨bb, off, rfl, hbb, hcs⟩ := hcell h0
  have C1 := fun W => Lib.hid (center_any (x := y) (n := b) (m := q) hy hv.b1 hv.b2 hq W)
  have C2 := fun W => Lib.hid (center_any (x := x) (n := a) (m := p) hx hv.a1 hv.a2 hp W)
  have hry := near_lt hy hv.b1
  have hrx := near_lt hx hv.a1
  have hK := idx_lt hrx hry
  have hab := mul_small hv.a2 hv.b2
  rw [← hv.len] at hK
  have ha2 := hv.a2
  generalize nrsI y b q = ry at *
  generalize nrsI x a p = rx at *
  obtain ⟨K, hKK⟩ : ∃ K, ry * a + rx = K := ⟨_, rfl⟩
  obtain ⟨Mi, hMi⟩ : ∃ Mi : Int, ((ry * a : Nat) : Int) = Mi := ⟨_, rfl⟩
  rw [hKK] at hK ⊢
  have M1 := Lib.hid (show IntKind.i64.wrap ((ry : Int) * (a : Int)) = Mi ∧ wrap64 ((ry : Int) * (a : Int)) = Mi ∧ IntKind.i64.wrap (Mi + (rx : Int)) = (K : Int) ∧ wrap64 (Mi + (rx : Int)) = (K : Int) from by
    rw [← Int.natCast_mul, hMi]
    refine ⟨IntWalk.i64_in _ (by omega), IntWalk.wrap64_in _ (by omega), ?_, ?_⟩
    · rw [IntWalk.i64_in _ (by omega)]; omega
    · rw [IntWalk.wrap64_in _ (by omega)]; omega)
  obtain ⟨px, hpx⟩ : ∃ px, l[K]? = some px := ⟨_, List.getElem?_eq_getElem hK⟩
  rw [getD_of hpx]
  have cB := Lib.hid (hcs K px hpx)
  have k0 : (0 : Int) ≤ K := by omega
  have kn : (K : Int) < l.length := by omega
  generalize l.length = n at *
  have sk : ∀ o : Obj, (((w.alloc o).drew.cell? ⟨kb, 0, none⟩ = some (.int .i64 (a : Int)) ∧ (w.alloc o).drew.cell? ⟨kb, 1, none⟩ = some (.int .i64 (b : Int)) ∧ (w.alloc o).drew.cell? ⟨kb, 2, none⟩ = some (.slice (some ⟨bb, off, none⟩) n c)) ∧ ((w.alloc o).drew.cell? ⟨kh, 0, none⟩ = some (.int .i64 (q : Int)) ∧ (w.alloc o).drew.cell? ⟨kw, 0, none⟩ = some (.int .i64 (p : Int))) ∧ At4 (w.alloc o).drew bb off K px) := fun o => by
    have R := HR.out.step ((Held.nil w).made o).drew.below
    exact ⟨⟨R.b0, R.b1, R.b2⟩, ⟨R.h0, R.w0⟩, cB.out.keep ((Held.nil w).made o).drew.below hbb⟩
  have t1 := HR.out.tb
  have t2 := HR.out.th
  have t3 := HR.out.tw
  have t4 := hbb
  unfold GivesP
  clear hcell hcs hpx hKK hMi hry hrx hK h0 h6 hab hv HR h hc2 hx hy
  obtain ⟨f1, f2, f3, f4⟩ := M1.out
  go_enter Tryz.func85, Tryz.ntmps85
  go_wp2_with fail
  unfold At4 at sk
  have sk0 := sk (.cells #[.int .u8 0, .int .u8 0, .int .u8 0, .int .u8 0] 58)
  go_region_held3 (fun W => (W.cell? ⟨kb, 0, none⟩ = some (.int .i64 (a : Int)) ∧ W.cell? ⟨kb, 1, none⟩ = some (.int .i64 (b : Int)) ∧ W.cell? ⟨kb, 2, none⟩ = some (.slice (some ⟨bb, off, none⟩) n c)) ∧ (W.cell? ⟨kh, 0, none⟩ = some (.int .i64 (q : Int)) ∧ W.cell? ⟨kw, 0, none⟩ = some (.int .i64 (p : Int))) ∧ (W.cell? ⟨bb, off + K * 4, none⟩ = some (.int .u8 (px.r : Int)) ∧ W.cell? ⟨bb, off + K * 4 + 1, none⟩ = some (.int .u8 (px.g : Int)) ∧ W.cell? ⟨bb, off + K * 4 + 2, none⟩ = some (.int .u8 (px.b : Int)) ∧ W.cell? ⟨bb, off + K * 4 + 3, none⟩ = some (.int .u8 (px.a : Int))))
    (first
      | go_keep
      | exact sk _)
    (first
      | (go_at_call 86; (with_reducible refine (C1 _).out.mono ?_); rintro e wq ⟨rfl, rfl⟩)
      | (go_at_call 86; (with_reducible refine (C2 _).out.mono ?_); rintro e wq ⟨rfl, rfl⟩)
      | fail)
  all_goals
    go_wp2_with fail
    exact bodyPost_ret (v := .agg #[.int .u8 (px.r : Int), .int .u8 (px.g : Int), .int .u8 (px.b : Int), .int .u8 (px.a : Int)]) (by simp [results, Tryz.results85, go_sem]) rfl ⟨rfl, ((Held.nil w).alloc [.int .u8 (px.r : Int), .int .u8 (px.g : Int), .int .u8 (px.b : Int), .int .u8 (px.a : Int)] 58).drew.below⟩

theorem prod_wrapS {a b M : Nat} (h : a * b = M) (hb : M ≤ 65536) : wrap64 ((a : Int) * (b : Int)) = (M : Int) := by
  have e : (a : Int) * (b : Int) = ((M : Nat) : Int) := by rw [← h, Int.natCast_mul]
  rw [e]
  exact IntWalk.wrap64_in _ (by omega)

theorem own_new {w : World} {mm gg k1 c1 : Nat} {A6 : Option Addr} {k6 c6 : Nat} {W : World} {base : Nat} {L : List Px} (ho : OwnP W base (.slice A6 k6 c6) L) (hn : 0 < L.length)
    (hl : (Value.slice A6 k6 c6).ownBlock = (Value.slice (some ⟨gg, 0, none⟩) k1 c1).ownBlock ∨ (Value.slice A6 k6 c6).ownBlock = some w.heap.size) (hm : mm < w.heap.size) (hg : gg ≠ mm) : ∃ g6, A6 = some ⟨g6, 0, none⟩ ∧ g6 ≠ mm := by
  obtain ⟨g, c, hv, _⟩ := ho.rowP hn
  injection hv with e1 e2 e3
  subst e1
  refine ⟨g, rfl, ?_⟩
  rcases hl with h | h
  · have := Option.some.inj h
    simp only at this
    omega
  · have := Option.some.inj h
    simp only at this
    omega

theorem OwnP.far {w : World} {base : Nat} {A : Option Addr} {n c : Nat} {l : List Px} (h : OwnP w base (.slice A n c) l) {k : Nat} (hk : (Value.slice A n c).ownBlock ≠ some k) (i : Nat) (u : Value) : OwnP (w.setCell ⟨k, i, none⟩ u) base (.slice A n c) l :=
  World.ownsRow.kept h (grown_setCell (World.grownBy.refl w _) i u) (.inr hk)

theorem slice_block (g n c : Nat) : (Value.slice (some ⟨g, 0, none⟩) n c).ownBlock = some g := rfl

set_option maxRecDepth 100000 in
set_option maxHeartbeats 8000000 in
theorem scaledN {kb kh kw a b p q : Nat} {v : Value} {l : List Px} {w : World} (h : Reads w kb kh kw a b p q v l) (hv : Vld a b l) (hp : 1 ≤ p ∧ p ≤ 256) (hq : 1 ≤ q ∧ q ≤ 256) : Calls Tryz.prog 84 #[.agg #[.int .i64 (a : Int), .int .i64 (b : Int), v], .int .i64 (p : Int), .int .i64 (q : Int), .func (.func 85) #[] #[.pointer (some ⟨kb, 0, none⟩), .pointer (some ⟨kh, 0, none⟩), .pointer (some ⟨kw, 0, none⟩)]] w (Outs p q (nearL a b l p q) 0 w) := by
  have H := Lib.hid h
  obtain ⟨A, c, rfl, _⟩ := h.px.shape
  have C1 := fun W (hb : Below w.heap.size w W) => Lib.hid (valid_any (a : Int) (b : Int) (H.out.px.below hb))
  rw [hv.vBuf] at C1
  have C2 := fun W => Lib.hid (vsize10_any (p : Int) (q : Int) W)
  rw [siz_iff.2 ⟨by omega, by omega⟩] at C2
  have J := Lib.hid (heldS w a b (.slice A l.length c))
  have CC := fun x y (hx : x < p) (hy : y < q) W (hb : Below w.heap.size w W) => Lib.hid (near1_any (H.out.step hb) hv hx hy (by omega) (by omega))
  have hmul : p * q ≤ 65536 := mul_small hp.2 hq.2
  have hms1 := pos_mul hp.1 hq.1
  obtain ⟨M, hM⟩ : ∃ M, p * q = M := ⟨_, rfl⟩
  have HMW := Lib.hid (prod_wrapS hM (by omega))
  have HMM := Lib.hid hM
  have HNX := fun x y hx hy => Lib.hid (near_next (a := a) (b := b) (p := p) (q := q) (x := x) (y := y) l hx hy)
  have HO := Lib.hid (near_len a b l p q)
  rw [hM] at hmul hms1 HO
  have hmk := make_px0 M hmul
  obtain ⟨hp1, hp2⟩ := hp
  obtain ⟨hq1, hq2⟩ := hq
  have g7 : (0 : Int) ≤ M := by omega
  unfold Outs
  generalize nearL a b l p q = O at *
  generalize l.length = n at *
  clear h hv hM
  have hmw := HMW.out
  go_enter Tryz.func84, Tryz.ntmps84
  go_wp2_with fail
  refine (C1 _ J.out.below).out.mono ?_
  rintro e w1 ⟨rfl, hb⟩
  replace J := Lib.hid (J.out.step hb)
  clear hb C1
  go_wp2_with fail
  refine (C2 _).out.mono ?_
  rintro e w2 ⟨rfl, rfl⟩
  clear C2
  have hsz := J.out.below.size
  have hkm0 := (J.out.tri (l1 := [])).2.2.2.2
  go_wp2_with fail
  have j5 := (J.out.made (.cells (zerosP M) 58)).alloc [.int .i64 (p : Int), .int .i64 (q : Int), .slice (some ⟨w1.heap.size, 0, none⟩) 0 M] 42
  have o5 := (ownP_made (base := w1.heap.size) w1 M hmul (Nat.le_refl _)).alloc (.cells #[.int .i64 (p : Int), .int .i64 (q : Int), .slice (some ⟨w1.heap.size, 0, none⟩) 0 M] 42)
  rw [World.size_alloc] at j5
  have hkm : w.heap.size + 1 < w1.heap.size := hkm0
  have G : Hid (w1.heap.size ≠ w1.heap.size + 1 ∧ OwnP ((w1.alloc (.cells (zerosP M) 58)).alloc (.cells #[.int .i64 (p : Int), .int .i64 (q : Int), .slice (some ⟨w1.heap.size, 0, none⟩) 0 M] 42)) w1.heap.size (.slice (some ⟨w1.heap.size, 0, none⟩) 0 M) (O.take (0 * p)) ∧ Held w ((w1.alloc (.cells (zerosP M) 58)).alloc (.cells #[.int .i64 (p : Int), .int .i64 (q : Int), .slice (some ⟨w1.heap.size, 0, none⟩) 0 M] 42)) [(w1.heap.size + 1, [.int .i64 (p : Int), .int .i64 (q : Int), .slice (some ⟨w1.heap.size, 0, none⟩) 0 M]), (w.heap.size + 1, [.int .i64 0, .int .i64 0, .slice none 0 0]), (w.heap.size, [.int .i64 (a : Int), .int .i64 (b : Int), .slice A n c])]) := Lib.hid ⟨by omega, by rw [Nat.zero_mul, List.take_zero]; exact o5, j5⟩
  clear j5 o5 hmw hmk g7 J hkm0
  generalize (w1.alloc (.cells (zerosP M) 58)).alloc (.cells #[.int .i64 (p : Int), .int .i64 (q : Int), .slice (some ⟨w1.heap.size, 0, none⟩) 0 M] 42) = w3 at *
  generalize hmm : w1.heap.size + 1 = mm at *
  generalize w1.heap.size = rr at *
  go_loopw [30] (fun s30 wr => ∃ (y gg k1 c1 : Nat), y ≤ q ∧ s30 = .int .i64 (y : Int) ∧ Hid (gg ≠ mm ∧ OwnP wr rr (.slice (some ⟨gg, 0, none⟩) k1 c1) (O.take (y * p)) ∧ Held w wr [(mm, [.int .i64 (p : Int), .int .i64 (q : Int), .slice (some ⟨gg, 0, none⟩) k1 c1]), (w.heap.size + 1, [.int .i64 0, .int .i64 0, .slice none 0 0]), (w.heap.size, [.int .i64 (a : Int), .int .i64 (b : Int), .slice A n c])])) (fun s30 _ => leftN q s30)
  case atStart => exact ⟨0, rr, 0, M, Nat.zero_le _, rfl, G⟩
  case round =>
    clear G
    obtain ⟨y, gg, k1, c1, hy, rfl, HR⟩ := hrel
    by_cases hlt : y < q
    · have q1 : (y : Int) < q := by omega
      obtain ⟨wu, rfl⟩ : ∃ z, z = wr := ⟨_, rfl⟩
      go_wp2_with fail
      go_loopw [34] (fun s34 wr => ∃ (x gg k1 c1 : Nat), x ≤ p ∧ s34 = .int .i64 (x : Int) ∧ Hid (gg ≠ mm ∧ OwnP wr rr (.slice (some ⟨gg, 0, none⟩) k1 c1) (O.take (y * p + x)) ∧ Held w wr [(mm, [.int .i64 (p : Int), .int .i64 (q : Int), .slice (some ⟨gg, 0, none⟩) k1 c1]), (w.heap.size + 1, [.int .i64 0, .int .i64 0, .slice none 0 0]), (w.heap.size, [.int .i64 (a : Int), .int .i64 (b : Int), .slice A n c])])) (fun s34 _ => leftN p s34)
      case atStart => exact ⟨0, gg, k1, c1, Nat.zero_le _, rfl, HR⟩
      case round =>
        clear HR
        obtain ⟨x, gg, k1, c1, hx, rfl, HS⟩ := hrel
        by_cases hxl : x < p
        · have q2 : (x : Int) < p := by omega
          have hnx := HNX x y hxl hlt
          have C4 := CC x y hxl hlt
          have hlen := Lib.hid (show (O.take (y * p + x)).length + [l.getD (nrsI y b q * a + nrsI x a p) zeroPx].length ≤ 4000000 by
            rw [List.length_take, HO.out, List.length_singleton]
            omega)
          generalize l.getD (nrsI y b q * a + nrsI x a p) zeroPx = px at *
          generalize hLk : O.take (y * p + x) = Lk at *
          have hnx2 : Hid (O.take (y * p + (x + 1)) = Lk ++ [px]) := Lib.hid (by rw [← hnx.out, Nat.add_assoc])
          have hgm := HS.out.1
          have hgk := (HS.out.2.1.block gg rfl).1
          have hne := fun (vs : List Value) => Lib.hid (show ∀ z ∈ ([(mm, vs), (w.heap.size + 1, [.int .i64 0, .int .i64 0, .slice none 0 0]), (w.heap.size, [.int .i64 (a : Int), .int .i64 (b : Int), .slice A n c])] : List (Nat × List Value)), z.1 ≠ gg from fun z hz => by
            simp only [List.mem_cons, List.not_mem_nil, or_false] at hz
            rcases hz with rfl | rfl | rfl
            · exact fun e => hgm e.symm
            · exact fun e => by simp only at e; omega
            · exact fun e => by simp only at e; omega)
          clear hnx hLk
          obtain ⟨m0, m1, m2, _, mt⟩ := HS.out.2.2.tri (l1 := [])
          have BD := Lib.hid HS.out.2.2.drew.below
          go_wp2_with fail
          go_region_law (first
            | (go_simp; go_at_call 85; (with_reducible refine (C4 _ BD.out).out.mono ?_); rintro e w5 ⟨rfl, hb5⟩; have J5 := Lib.hid (HS.out.2.2.drew.step hb5); have O5 := Lib.hid ((show OwnP wr.drew rr (.slice (some ⟨gg, 0, none⟩) k1 c1) Lk from HS.out.2.1).below hb5); obtain ⟨n0', n1', n2', _, nt⟩ := J5.out.tri (l1 := []); clear hb5)
            | (refine step_appP (by rfl) _ _ (by rfl) (base := rr) (l := Lk) (m := [px]) (by rfl) (by exact O5.out.alloc _) (by rfl) (by exact pxs_one w5 px) (by exact hlen.out) (by have := (J5.out.tri (l1 := [])).2.2.2.2; rw [World.size_alloc]; omega) ?_; intro v6 w6 ho6 hg6 hl6; have J6 := Lib.hid ((J5.out.made _).grown (g := gg) hg6 (by omega) (hne _).out); obtain ⟨A6, c6, rfl, _, _⟩ := ho6.pxs.shape; obtain ⟨g6, rfl, hg7⟩ := own_new ho6 (by simp) hl6 (by rw [World.size_alloc]; omega) hgm; rw [List.length_append, List.length_singleton] at ho6; rw [← hnx2.out] at ho6; have O6 := Lib.hid ho6; obtain ⟨z0, z1, z2, zf, zt⟩ := J6.out.tri (l1 := []); clear ho6 hg6 hl6))
          all_goals
            have Z := Lib.hid (And.intro hg7 (And.intro (O6.out.far (k := mm) (by rw [slice_block]; exact fun e => hg7 (Option.some.inj e)) 2 (.slice (some ⟨g6, 0, none⟩) (Lk.length + 1) c6)) (J6.out.cell (l1 := []) (i := 2) (by simp) (.slice (some ⟨g6, 0, none⟩) (Lk.length + 1) c6))))
            clear z0 z1 z2 zf zt n0' n1' n2' nt m0 m1 m2 mt J6 O6 J5 O5 HS C4 hne BD
            go_wp2_with fail
            go_roundw
            case rel => exact ⟨x + 1, g6, Lk.length + 1, c6, by omega, by go_num, Z⟩
            case measure =>
              unfold leftN
              simp [RowKit.intOf]
              omega
        · obtain rfl : p = x := by omega
          have q2 : ¬ (p : Int) < p := by omega
          rw [show y * p + p = (y + 1) * p by rw [Nat.add_mul, Nat.one_mul]] at HS
          go_wp2_with fail
          go_roundw
          case rel => exact ⟨y + 1, gg, k1, c1, by omega, by go_num, HS⟩
          case measure =>
            unfold leftN
            simp [RowKit.intOf]
            omega
    · obtain rfl : q = y := by omega
      have q1 : ¬ (q : Int) < q := by omega
      have hO : O.take (q * p) = O := List.take_of_length_le (by rw [HO.out, Nat.mul_comm, HMM.out]; exact Nat.le_refl _)
      rw [hO] at HR
      have hgk := (HR.out.2.1.block gg rfl).1
      have Q := Lib.hid (OwnP.res (w := w) (w' := set3 wr (w.heap.size + 1) (.int .i64 (p : Int)) (.int .i64 (q : Int)) (.slice (some ⟨gg, 0, none⟩) k1 c1)) (HR.out.2.1.set3 (k := w.heap.size + 1) (by omega) (.int .i64 (p : Int)) (.int .i64 (q : Int)) (.slice (some ⟨gg, 0, none⟩) k1 c1)) (by omega) (by rw [HO.out]; omega))
      have K := Lib.hid (below_set3 (y0 := .int .i64 (p : Int)) (y1 := .int .i64 (q : Int)) (y2 := .slice (some ⟨gg, 0, none⟩) k1 c1) HR.out.2.2.below (Nat.le_succ w.heap.size))
      obtain ⟨m0, m1, m2, _, mt⟩ := HR.out.2.2.tri (l1 := [])
      obtain ⟨z0, z1, z2, zf, zt⟩ := HR.out.2.2.tri (l1 := [_])
      clear HR hO
      go_wp2_with fail
      exact bodyPost_ret (v := .tuple #[.agg #[.int .i64 (p : Int), .int .i64 (q : Int), .slice (some ⟨gg, 0, none⟩) k1 c1], .int .i64 0]) (by simp [results, Tryz.results84, go_sem, z0, z1, z2]) rfl ⟨_, rfl, Q.out, K.out⟩

theorem heldN (w : World) (a b : Int) (v : Value) (p q : Int) : Held w ((((w.alloc (.cells #[.int .i64 a, .int .i64 b, v] 42)).alloc (.cells #[.int .i64 p] 3)).alloc (.cells #[.int .i64 q] 3)).alloc (.cells #[.int .i64 0, .int .i64 0, .slice none 0 0] 42))
    [(w.heap.size + 1 + 1 + 1, [.int .i64 0, .int .i64 0, .slice none 0 0]), (w.heap.size + 1 + 1, [.int .i64 q]), (w.heap.size + 1, [.int .i64 p]), (w.heap.size, [.int .i64 a, .int .i64 b, v])] := by
  have h := ((((Held.nil w).alloc [.int .i64 a, .int .i64 b, v] 42).alloc [.int .i64 p] 3).alloc [.int .i64 q] 3).alloc [.int .i64 0, .int .i64 0, .slice none 0 0] 42
  rw [World.size_alloc, World.size_alloc, World.size_alloc] at h
  exact h

theorem reads_of {w W : World} {a b p q : Nat} {A : Option Addr} {n c : Nat} {r0 r1 r2 : Value} {l : List Px} (h : Held w W [(w.heap.size + 1 + 1 + 1, [r0, r1, r2]), (w.heap.size + 1 + 1, [.int .i64 (q : Int)]), (w.heap.size + 1, [.int .i64 (p : Int)]), (w.heap.size, [.int .i64 (a : Int), .int .i64 (b : Int), .slice A n c])]) (hp : Pxs w (.slice A n c) l) : Reads W w.heap.size (w.heap.size + 1 + 1) (w.heap.size + 1) a b p q (.slice A n c) l := by
  obtain ⟨b0, b1, b2, _, tb⟩ := h.tri (l1 := [_, _, _])
  obtain ⟨h0, _, th⟩ := h.one (l1 := [_])
  obtain ⟨w0, _, tw⟩ := h.one (l1 := [_, _])
  exact ⟨b0, b1, b2, h0, w0, tb, th, tw, hp.below h.below⟩

set_option maxRecDepth 100000 in
set_option maxHeartbeats 4000000 in
theorem near_of {a b p q oa ob er : Int} {A : Option Addr} {n c : Nat} {O : List Px} {w : World} (C : ∀ W, Held w W [(w.heap.size + 1 + 1 + 1, [.int .i64 0, .int .i64 0, .slice none 0 0]), (w.heap.size + 1 + 1, [.int .i64 q]), (w.heap.size + 1, [.int .i64 p]), (w.heap.size, [.int .i64 a, .int .i64 b, .slice A n c])] → Calls Tryz.prog 84 #[.agg #[.int .i64 a, .int .i64 b, .slice A n c], .int .i64 p, .int .i64 q, .func (.func 85) #[] #[.pointer (some ⟨w.heap.size, 0, none⟩), .pointer (some ⟨w.heap.size + 1 + 1, 0, none⟩), .pointer (some ⟨w.heap.size + 1, 0, none⟩)]] W (Outs oa ob O er W)) : Calls Tryz.prog 54 #[.agg #[.int .i64 a, .int .i64 b, .slice A n c], .int .i64 p, .int .i64 q] w (Outs oa ob O er w) := by
  have J := Lib.hid (heldN w a b (.slice A n c) p q)
  have CC := fun W hW => Lib.hid (C W hW)
  clear C
  unfold Outs at CC ⊢
  go_enter Tryz.func54, Tryz.ntmps54
  go_wp2_with fail
  refine (CC _ J.out).out.mono ?_
  rintro e w1 ⟨v1, rfl, hr, hb⟩
  obtain ⟨A1, c1, rfl, _⟩ := hr.pxs.shape
  have h0 := J.out.below
  have h1 := (J.out.tri (l1 := [])).2.2.2.2
  have Q := Lib.hid (hr.keep (w := w) (w2 := set3 w1 (w.heap.size + 1 + 1 + 1) (.int .i64 oa) (.int .i64 ob) (.slice A1 O.length c1)) h0 (fun g hg hR => hR.far (by omega) _ _ _))
  replace J := Lib.hid (J.out.step hb)
  have K := Lib.hid (below_set3 (y0 := .int .i64 oa) (y1 := .int .i64 ob) (y2 := .slice A1 O.length c1) J.out.below (by omega : w.heap.size ≤ w.heap.size + 1 + 1 + 1))
  obtain ⟨z0, z1, z2, zf, zt⟩ := J.out.tri (l1 := [])
  clear hr hb h0 h1 CC
  generalize O.length = m at *
  go_wp2_with fail
  exact bodyPost_ret (v := .tuple #[.agg #[.int .i64 oa, .int .i64 ob, .slice A1 m c1], .int .i64 er]) (by simp [results, Tryz.results54, go_sem, z0, z1, z2]) rfl ⟨_, rfl, Q.out, K.out⟩

set_option maxRecDepth 100000 in
theorem near_good {a b p q : Nat} {v : Value} {l : List Px} {w : World} (h : Pxs w v l) (hv : Vld a b l) (hp : 1 ≤ p ∧ p ≤ 256) (hq : 1 ≤ q ∧ q ≤ 256) : Calls Tryz.prog 54 #[.agg #[.int .i64 (a : Int), .int .i64 (b : Int), v], .int .i64 (p : Int), .int .i64 (q : Int)] w (Outs p q (nearL a b l p q) 0 w) := by
  obtain ⟨A, c, rfl, _⟩ := h.shape
  exact near_of fun W hW => scaledN (reads_of hW h) hv hp hq
end Go.Proofs.YthedglfocjljjaaGreatDoor
