/-
  Nearest of the reference of package scale.
-/
import Derived.Test.YtnkbejbpkjkgeaaRval
import Derived.Test.YtnkbejbpkjkgeaaHw
import Derived.Deep.RegionLaw
import Derived.BigRegion
namespace Go.Proofs.Ytnkbejbpkjkgeaa
open Go.RowKit

/-- the boxes of a buffer and of a result -/
theorem heldS (w : World) (a b : Int) (v : Value) : Held w ((w.alloc (.cells #[.int .i64 a, .int .i64 b, v] 24)).alloc (.cells #[.int .i64 0, .int .i64 0, .slice none 0 0] 24)) [(w.heap.size + 1, [.int .i64 0, .int .i64 0, .slice none 0 0]), (w.heap.size, [.int .i64 a, .int .i64 b, v])] := by
  have h := ((Held.nil w).alloc [.int .i64 a, .int .i64 b, v] 24).alloc [.int .i64 0, .int .i64 0, .slice none 0 0] 24
  rw [World.size_alloc] at h
  exact h

set_option maxRecDepth 100000 in
set_option maxHeartbeats 4000000 in
theorem rnear_bad {a b p q : Int} {v : Value} {l : List Px} {w : World} (h : Pxs w v l) (hbad : chkE a b l p q ≠ 0) : Calls Try.prog 14 #[.agg #[.int .i64 a, .int .i64 b, v], .int .i64 p, .int .i64 q] w (Outs 0 0 [] (chkE a b l p q) w) := by
  have H := Lib.hid h
  obtain ⟨A, c, rfl, _⟩ := h.shape
  have C1 := fun W (hb : Below w.heap.size w W) => Lib.hid (rcheck_any a b p q (H.out.below hb))
  have J := Lib.hid (heldS w a b (.slice A l.length c))
  generalize chkE a b l p q = er at *
  generalize l.length = n at *
  have hb2 : decide (er = 0) = false := decide_eq_false hbad
  unfold Outs
  clear h
  go_enter Try.func14, Try.ntmps14
  go_wp2_with fail
  refine (C1 _ J.out.below).out.mono ?_
  rintro e w1 ⟨rfl, hb⟩
  replace J := Lib.hid (J.out.step hb)
  clear hb
  obtain ⟨z0, z1, z2, zf, zt⟩ := J.out.tri (l1 := [])
  have K := Lib.hid (below_set3 (y0 := .int .i64 0) (y1 := .int .i64 0) (y2 := .slice none 0 0) J.out.below (Nat.le_succ w.heap.size))
  clear J
  go_wp2_with fail
  exact bodyPost_ret (v := .tuple #[.agg #[.int .i64 0, .int .i64 0, .slice none 0 0], .int .i64 er]) (by simp [results, Try.results14, go_sem, z0, z1, z2]) rfl ⟨_, rfl, .inl ⟨rfl, rfl⟩, K.out⟩

set_option maxRecDepth 100000 in
set_option maxHeartbeats 4000000 in
theorem rbox_bad {a b p q : Int} {v : Value} {l : List Px} {w : World} (h : Pxs w v l) (hbad : chkE a b l p q ≠ 0) : Calls Try.prog 17 #[.agg #[.int .i64 a, .int .i64 b, v], .int .i64 p, .int .i64 q] w (Outs 0 0 [] (chkE a b l p q) w) := by
  have H := Lib.hid h
  obtain ⟨A, c, rfl, _⟩ := h.shape
  have C1 := fun W (hb : Below w.heap.size w W) => Lib.hid (rcheck_any a b p q (H.out.below hb))
  have J := Lib.hid (heldS w a b (.slice A l.length c))
  generalize chkE a b l p q = er at *
  generalize l.length = n at *
  have hb2 : decide (er = 0) = false := decide_eq_false hbad
  unfold Outs
  clear h
  go_enter Try.func17, Try.ntmps17
  go_wp2_with fail
  refine (C1 _ J.out.below).out.mono ?_
  rintro e w1 ⟨rfl, hb⟩
  replace J := Lib.hid (J.out.step hb)
  clear hb
  obtain ⟨z0, z1, z2, zf, zt⟩ := J.out.tri (l1 := [])
  have K := Lib.hid (below_set3 (y0 := .int .i64 0) (y1 := .int .i64 0) (y2 := .slice none 0 0) J.out.below (Nat.le_succ w.heap.size))
  clear J
  go_wp2_with fail
  exact bodyPost_ret (v := .tuple #[.agg #[.int .i64 0, .int .i64 0, .slice none 0 0], .int .i64 er]) (by simp [results, Try.results17, go_sem, z0, z1, z2]) rfl ⟨_, rfl, .inl ⟨rfl, rfl⟩, K.out⟩


theorem near_int {x n m : Nat} : ((2 * (x : Int) + 1) * (n : Int)) / (2 * (m : Int)) = ((nrsI x n m : Nat) : Int) := by
  unfold nrsI
  rw [Int.natCast_ediv, Int.natCast_mul, Int.natCast_mul]
  rfl

theorem near_next {a b p q x y : Nat} (l : List Px) (hx : x < p) (hy : y < q) : (nearL a b l p q).take (y * p + x + 1) = (nearL a b l p q).take (y * p + x) ++ [l.getD (nrsI y b q * a + nrsI x a p) zeroPx] := by
  have hk := idx_lt hx hy
  rw [take_next (by rw [near_len]; exact hk)]
  unfold nearL
  rw [tab_getD _ _ hk, idx_mod hx, idx_div hx]

set_option maxRecDepth 100000 in
set_option maxHeartbeats 8000000 in
theorem rnear_good {a b p q : Nat} {v : Value} {l : List Px} {w : World} (h : Pxs w v l) (hv : Vld a b l) (hp : 1 ≤ p ∧ p ≤ 256) (hq : 1 ≤ q ∧ q ≤ 256) : Calls Try.prog 14 #[.agg #[.int .i64 (a : Int), .int .i64 (b : Int), v], .int .i64 (p : Int), .int .i64 (q : Int)] w (Outs p q (nearL a b l p q) 0 w) := by
  have H := Lib.hid h
  have C1 := fun W (hb : Below w.heap.size w W) => Lib.hid (rcheck_any (a : Int) (b : Int) (p : Int) (q : Int) (H.out.below hb))
  have e0 : chkE a b l p q = 0 := by
    unfold chkE
    rw [if_pos hv.vBuf, if_pos (siz_iff.2 ⟨by omega, by omega⟩)]
  rw [e0] at C1
  obtain ⟨A, c, rfl, hc1, hc2, hcell⟩ := h
  have J := Lib.hid (heldS w a b (.slice A l.length c))
  obtain ⟨h0, h6⟩ := hv.small
  obtain ⟨bb, off, rfl, hbb, hcs⟩ := hcell h0
  have HCS := Lib.hid hcs
  have hms : p * q ≤ 65536 := mul_small hp.2 hq.2
  have hms1 := pos_mul hp.1 hq.1
  have HNX := fun x y hx hy => Lib.hid (near_next (a := a) (b := b) (p := p) (q := q) (x := x) (y := y) l hx hy)
  have HL := Lib.hid (near_len a b l p q)
  have HV := Lib.hid hv
  obtain ⟨hp1, hp2⟩ := hp
  obtain ⟨hq1, hq2⟩ := hq
  have ha1 := hv.a1
  have ha2 := hv.a2
  have hb1 := hv.b1
  have hb2 := hv.b2
  unfold Outs
  generalize nearL a b l p q = O at *
  obtain ⟨n, hn⟩ : ∃ n, l.length = n := ⟨_, rfl⟩
  have HN := Lib.hid hn
  have hnab := Lib.hid (hn.symm.trans hv.len)
  rw [hn] at J C1 hc1 h6 ⊢
  clear hcell hv e0 hcs hn hc2 H h0
  go_enter Try.func14, Try.ntmps14
  go_wp2_with fail
  refine (C1 _ J.out.below).out.mono ?_
  rintro e w1 ⟨rfl, hb⟩
  replace J := Lib.hid (J.out.step hb)
  clear hb C1
  go_wp2_with fail
  have hkm := (J.out.tri (l1 := [])).2.2.2.2
  have hwb := J.out.below.size
  have G : Hid (OwnP (w1.alloc (.cells #[.int .i64 (p : Int), .int .i64 (q : Int), .slice none 0 0] 24)) (w1.heap.size + 1) (.slice none 0 0) (O.take (0 * p)) ∧ Held w (w1.alloc (.cells #[.int .i64 (p : Int), .int .i64 (q : Int), .slice none 0 0] 24)) ((w1.heap.size, [.int .i64 (p : Int), .int .i64 (q : Int), .slice none 0 0]) :: [(w.heap.size + 1, [.int .i64 0, .int .i64 0, .slice none 0 0]), (w.heap.size, [.int .i64 (a : Int), .int .i64 (b : Int), .slice (some ⟨bb, off, none⟩) n c])])) := Lib.hid ⟨by rw [Nat.zero_mul, List.take_zero]; exact ownP_nil _ _, J.out.alloc [.int .i64 (p : Int), .int .i64 (q : Int), .slice none 0 0] 24⟩
  generalize w1.alloc (.cells #[.int .i64 (p : Int), .int .i64 (q : Int), .slice none 0 0] 24) = w3 at *
  generalize w1.heap.size = mm at *
  have HLT : ∀ vs : List Value, Hid (∀ z ∈ ((mm, vs) :: [(w.heap.size + 1, [.int .i64 0, .int .i64 0, .slice none 0 0]), (w.heap.size, [.int .i64 (a : Int), .int .i64 (b : Int), .slice (some ⟨bb, off, none⟩) n c])] : List (Nat × List Value)), z.1 < mm + 1) := fun vs => Lib.hid (fun z hz => by
    simp only [List.mem_cons, List.not_mem_nil, or_false] at hz
    rcases hz with rfl | rfl | rfl
    · simp
    · simp only; omega
    · simp only; omega)
  clear J
  go_loopw [10] (fun s10 wr => ∃ (y : Nat) (A1 : Option Addr) (k1 c1 : Nat), y ≤ q ∧ s10 = .int .i64 (y : Int) ∧ Hid (OwnP wr (mm + 1) (.slice A1 k1 c1) (O.take (y * p)) ∧ Held w wr ((mm, [.int .i64 (p : Int), .int .i64 (q : Int), .slice A1 k1 c1]) :: [(w.heap.size + 1, [.int .i64 0, .int .i64 0, .slice none 0 0]), (w.heap.size, [.int .i64 (a : Int), .int .i64 (b : Int), .slice (some ⟨bb, off, none⟩) n c])]))) (fun s10 _ => leftN q s10)
  case atStart => exact ⟨0, none, 0, 0, Nat.zero_le _, rfl, G⟩
  case round =>
    obtain ⟨y, A1, k1, c1, hy, rfl, HR⟩ := hrel
    by_cases hlt : y < q
    · have q1 : (y : Int) < q := by omega
      obtain ⟨wu, rfl⟩ : ∃ z, z = wr := ⟨_, rfl⟩
      go_wp2_with fail
      go_loopw [11] (fun s11 wr => ∃ (x : Nat) (A1 : Option Addr) (k1 c1 : Nat), x ≤ p ∧ s11 = .int .i64 (x : Int) ∧ Hid (OwnP wr (mm + 1) (.slice A1 k1 c1) (O.take (y * p + x)) ∧ Held w wr ((mm, [.int .i64 (p : Int), .int .i64 (q : Int), .slice A1 k1 c1]) :: [(w.heap.size + 1, [.int .i64 0, .int .i64 0, .slice none 0 0]), (w.heap.size, [.int .i64 (a : Int), .int .i64 (b : Int), .slice (some ⟨bb, off, none⟩) n c])]))) (fun s11 _ => leftN p s11)
      case atStart => exact ⟨0, A1, k1, c1, Nat.zero_le _, rfl, HR⟩
      case round =>
        clear HR
        obtain ⟨x, A1, k1, c1, hx, rfl, HS⟩ := hrel
        by_cases hxl : x < p
        · have q2 : (x : Int) < p := by omega
          have hnx := HNX x y hxl hlt
          have hry := near_lt hlt hb1
          have hrx := near_lt hxl ha1
          have hK := idx_lt hrx hry
          have i1 := near_int (x := y) (n := b) (m := q)
          have i2 := near_int (x := x) (n := a) (m := p)
          obtain ⟨K, hKK⟩ : ∃ K, nrsI y b q * a + nrsI x a p = K := ⟨_, rfl⟩
          rw [hKK] at hnx hK
          rw [← hnab.out] at hK
          obtain ⟨Mi, hMi⟩ : ∃ Mi : Int, ((nrsI y b q * a : Nat) : Int) = Mi := ⟨_, rfl⟩
          have hMb : nrsI y b q * a ≤ 65536 := Nat.le_trans (Nat.le_of_lt (Nat.lt_of_le_of_lt (by omega) hK)) h6
          generalize nrsI y b q = ry at *
          generalize nrsI x a p = rx at *
          have p1 : (2 * (y : Int) + 1) * (b : Int) ≤ 200000 := Int.le_trans (Int.mul_le_mul (a := 2 * (y : Int) + 1) (b := (b : Int)) (c := 600) (d := 256) (by omega) (by omega) (by omega) (by omega)) (by omega)
          have p2 : (2 * (x : Int) + 1) * (a : Int) ≤ 200000 := Int.le_trans (Int.mul_le_mul (a := 2 * (x : Int) + 1) (b := (a : Int)) (c := 600) (d := 256) (by omega) (by omega) (by omega) (by omega)) (by omega)
          have p3 : 0 ≤ (2 * (y : Int) + 1) * (b : Int) := Int.mul_nonneg (by omega) (by omega)
          have p4 : 0 ≤ (2 * (x : Int) + 1) * (a : Int) := Int.mul_nonneg (by omega) (by omega)
          obtain ⟨Y3, hY3⟩ : ∃ Y3 : Int, 2 * (y : Int) + 1 = Y3 := ⟨_, rfl⟩
          obtain ⟨X3, hX3⟩ : ∃ X3 : Int, 2 * (x : Int) + 1 = X3 := ⟨_, rfl⟩
          obtain ⟨Y2, hY2⟩ : ∃ Y2 : Int, 2 * (y : Int) = Y2 := ⟨_, rfl⟩
          obtain ⟨X2, hX2⟩ : ∃ X2 : Int, 2 * (x : Int) = X2 := ⟨_, rfl⟩
          obtain ⟨Q2, hQ2⟩ : ∃ Q2 : Int, 2 * (q : Int) = Q2 := ⟨_, rfl⟩
          obtain ⟨P2, hP2⟩ : ∃ P2 : Int, 2 * (p : Int) = P2 := ⟨_, rfl⟩
          rw [hY3] at i1 p1 p3
          rw [hX3] at i2 p2 p4
          rw [hQ2] at i1
          rw [hP2] at i2
          obtain ⟨T1, hT1⟩ : ∃ T1 : Int, Y3 * (b : Int) = T1 := ⟨_, rfl⟩
          obtain ⟨T2, hT2⟩ : ∃ T2 : Int, X3 * (a : Int) = T2 := ⟨_, rfl⟩
          rw [hT1] at i1 p1 p3
          rw [hT2] at i2 p2 p4
          have F := Lib.hid (show IntKind.i64.wrap (2 * (y : Int)) = Y2 ∧ IntKind.i64.wrap (2 * (x : Int)) = X2 ∧ IntKind.i64.wrap (2 * (q : Int)) = Q2 ∧ IntKind.i64.wrap (2 * (p : Int)) = P2 ∧ IntKind.i64.wrap (Y2 + 1) = Y3 ∧ IntKind.i64.wrap (X2 + 1) = X3 ∧ IntKind.i64.wrap (Y3 * (b : Int)) = T1 ∧ IntKind.i64.wrap (X3 * (a : Int)) = T2 ∧ IntKind.i64.wrap (T1.tdiv Q2) = (ry : Int) ∧ IntKind.i64.wrap (T2.tdiv P2) = (rx : Int) ∧ IntKind.i64.wrap ((ry : Int) * (a : Int)) = Mi ∧ IntKind.i64.wrap (Mi + (rx : Int)) = (K : Int) from by
            refine ⟨?_, ?_, ?_, ?_, ?_, ?_, ?_, ?_, ?_, ?_, ?_, ?_⟩
            · rw [IntWalk.i64_in _ (by omega)]; exact hY2
            · rw [IntWalk.i64_in _ (by omega)]; exact hX2
            · rw [IntWalk.i64_in _ (by omega)]; exact hQ2
            · rw [IntWalk.i64_in _ (by omega)]; exact hP2
            · rw [IntWalk.i64_in _ (by omega)]; omega
            · rw [IntWalk.i64_in _ (by omega)]; omega
            · rw [hT1]; exact IntWalk.i64_in _ (by omega)
            · rw [hT2]; exact IntWalk.i64_in _ (by omega)
            · rw [Int.tdiv_eq_ediv_of_nonneg p3, i1]; exact IntWalk.i64_in _ (by omega)
            · rw [Int.tdiv_eq_ediv_of_nonneg p4, i2]; exact IntWalk.i64_in _ (by omega)
            · rw [← Int.natCast_mul, hMi]; exact IntWalk.i64_in _ (by omega)
            · rw [IntWalk.i64_in _ (by omega)]; omega)
          have g1 : Q2 ≠ 0 := by omega
          have g2 : P2 ≠ 0 := by omega
          obtain ⟨px, hpx⟩ : ∃ px, l[K]? = some px := ⟨_, List.getElem?_eq_getElem (by rw [HN.out]; exact hK)⟩
          have hgd : l.getD K zeroPx = px := getD_of hpx
          rw [hgd] at hnx
          obtain ⟨d0, d1, d2, _, dt⟩ := HS.out.2.tri (l1 := [_, _])
          obtain ⟨m0, m1, m2, _, mt⟩ := HS.out.2.tri (l1 := [])
          have cB := Lib.hid (HCS.out K px hpx)
          have hlen := Lib.hid (show (O.take (y * p + x)).length + [px].length ≤ 4000000 by
            have := hms
            rw [List.length_take, HL.out, List.length_singleton]
            omega)
          generalize hLk : O.take (y * p + x) = Lk at *
          have hnx2 : Hid (O.take (y * p + (x + 1)) = Lk ++ [px]) := Lib.hid (by rw [← hnx.out, Nat.add_assoc])
          have k0 : (0 : Int) ≤ K := by omega
          have kn : (K : Int) < n := by omega
          clear hnx hLk hgd hpx hKK hMi hMb hP2 hry hrx hK i1 i2 HNX hY3 hX3 hY2 hX2 hQ2 hT1 hT2 p1 p2 p3 p4
          obtain ⟨f1, f2, f3, f4, f5, f6, f7, f8, f9, f10, f11, f12⟩ := F.out
          go_wp2_with fail
          have J := Lib.hid HS.out.2.drew
          have Ow : Hid (OwnP wr.drew (mm + 1) (.slice A1 k1 c1) Lk) := Lib.hid HS.out.1
          have cA := fun W (hb : Below w.heap.size w W) => Lib.hid (cB.out.keep hb hbb)
          have sk := And.intro (J.out.three (l1 := [_, _])) (cA _ J.out.below).out
          clear HS d0 d1 d2 dt m0 m1 m2 mt
          refine wp_region_held_drew (S := (fun W => (W.cell? ⟨w.heap.size, 0, none⟩ = some (.int .i64 (a : Int)) ∧ W.cell? ⟨w.heap.size, 1, none⟩ = some (.int .i64 (b : Int)) ∧ W.cell? ⟨w.heap.size, 2, none⟩ = some (.slice (some ⟨bb, off, none⟩) n c)) ∧ (W.cell? ⟨bb, off + K * 4, none⟩ = some (.int .u8 (px.r : Int)) ∧ W.cell? ⟨bb, off + K * 4 + 1, none⟩ = some (.int .u8 (px.g : Int)) ∧ W.cell? ⟨bb, off + K * 4 + 2, none⟩ = some (.int .u8 (px.b : Int)) ∧ W.cell? ⟨bb, off + K * 4 + 3, none⟩ = some (.int .u8 (px.a : Int))))) (by kernel_rfl) sk (fun hHeld => ?_)
          generalize wr.drew = u0 at *
          refine wpAnyH_take (i := 0) (oi := ({ dst := some 33, op := Go.Op.fieldAddr 24 (Go.Operand.tmp 9) 2, type := 0, pos := "ref.go:45", after := #[], guard := none } : Oper)) (v := ?_) rfl (by kernel_rfl) (by kernel_rfl) (by kernel_rfl) (fun _ _ _ h => h) (Or.inl ⟨by kernel_rfl, ?_⟩) hHeld ?_
          rotate_left 1
          · (intro W hSw; (try dsimp only at hSw); go_simp; try with_reducible rfl)
          try simp only [Act.put, List.setIfInBounds_toArray, List.set_cons_zero, List.set_cons_succ]
          refine wpAnyH_take (i := 2) (oi := ({ dst := some 35, op := Go.Op.fieldAddr 24 (Go.Operand.tmp 3) 2, type := 0, pos := "ref.go:45", after := #[], guard := none } : Oper)) (v := ?_) rfl (by kernel_rfl) (by kernel_rfl) (by kernel_rfl) (fun _ _ _ h => h) (Or.inl ⟨by kernel_rfl, ?_⟩) hHeld ?_
          rotate_left 1
          · (intro W hSw; (try dsimp only at hSw); go_simp; try with_reducible rfl)
          try simp only [Act.put, List.setIfInBounds_toArray, List.set_cons_zero, List.set_cons_succ]
          refine wpAnyH_take (i := 3) (oi := ({ dst := some 36, op := Go.Op.load 22 (Go.Operand.tmp 35), type := 22, pos := "ref.go:45", after := #[{ on := 2, ground := Go.Ground.data }], guard := none } : Oper)) (v := ?_) rfl (by kernel_rfl) (by kernel_rfl) (by kernel_rfl) (fun _ _ _ h => h) (Or.inl ⟨by kernel_rfl, ?_⟩) hHeld ?_
          rotate_left 1
          · (intro W hSw; (try dsimp only at hSw); go_simp; try with_reducible rfl)
          try simp only [Act.put, List.setIfInBounds_toArray, List.set_cons_zero, List.set_cons_succ]
          refine wpAnyH_take (i := 4) (oi := ({ dst := some 37, op := Go.Op.move (Go.Operand.tmp 10), type := 3, pos := "ref.go:45", after := #[], guard := none } : Oper)) (v := ?_) rfl (by kernel_rfl) (by kernel_rfl) (by kernel_rfl) (fun _ _ _ h => h) (Or.inl ⟨by kernel_rfl, ?_⟩) hHeld ?_
          rotate_left 1
          · (intro W hSw; (try dsimp only at hSw); go_simp; try with_reducible rfl)
          try simp only [Act.put, List.setIfInBounds_toArray, List.set_cons_zero, List.set_cons_succ]
          refine wpAnyH_take (i := 5) (oi := ({ dst := some 38, op := Go.Op.binOp Go.BinOp.mul 3 (Go.Operand.const (Go.Value.int Go.IntKind.i64 2)) (Go.Operand.tmp 37) 3, type := 3, pos := "ref.go:45", after := #[{ on := 4, ground := Go.Ground.data }], guard := none } : Oper)) (v := ?_) rfl (by kernel_rfl) (by kernel_rfl) (by kernel_rfl) (fun _ _ _ h => h) (Or.inl ⟨by kernel_rfl, ?_⟩) hHeld ?_
          rotate_left 1
          · (intro W hSw; (try dsimp only at hSw); go_simp; try with_reducible rfl)
          try simp only [Act.put, List.setIfInBounds_toArray, List.set_cons_zero, List.set_cons_succ]
          refine wpAnyH_take (i := 6) (oi := ({ dst := some 39, op := Go.Op.binOp Go.BinOp.add 3 (Go.Operand.tmp 38) (Go.Operand.const (Go.Value.int Go.IntKind.i64 1)) 3, type := 3, pos := "ref.go:45", after := #[{ on := 5, ground := Go.Ground.data }], guard := none } : Oper)) (v := ?_) rfl (by kernel_rfl) (by kernel_rfl) (by kernel_rfl) (fun _ _ _ h => h) (Or.inl ⟨by kernel_rfl, ?_⟩) hHeld ?_
          rotate_left 1
          · (intro W hSw; (try dsimp only at hSw); go_simp; try with_reducible rfl)
          try simp only [Act.put, List.setIfInBounds_toArray, List.set_cons_zero, List.set_cons_succ]
          refine wpAnyH_take (i := 7) (oi := ({ dst := some 40, op := Go.Op.fieldAddr 24 (Go.Operand.tmp 3) 1, type := 0, pos := "ref.go:45", after := #[], guard := none } : Oper)) (v := ?_) rfl (by kernel_rfl) (by kernel_rfl) (by kernel_rfl) (fun _ _ _ h => h) (Or.inl ⟨by kernel_rfl, ?_⟩) hHeld ?_
          rotate_left 1
          · (intro W hSw; (try dsimp only at hSw); go_simp; try with_reducible rfl)
          try simp only [Act.put, List.setIfInBounds_toArray, List.set_cons_zero, List.set_cons_succ]
          refine wpAnyH_take (i := 8) (oi := ({ dst := some 41, op := Go.Op.load 3 (Go.Operand.tmp 40), type := 3, pos := "ref.go:45", after := #[{ on := 7, ground := Go.Ground.data }], guard := none } : Oper)) (v := ?_) rfl (by kernel_rfl) (by kernel_rfl) (by kernel_rfl) (fun _ _ _ h => h) (Or.inl ⟨by kernel_rfl, ?_⟩) hHeld ?_
          rotate_left 1
          · (intro W hSw; (try dsimp only at hSw); go_simp; try with_reducible rfl)
          try simp only [Act.put, List.setIfInBounds_toArray, List.set_cons_zero, List.set_cons_succ]
          refine wpAnyH_take (i := 9) (oi := ({ dst := some 42, op := Go.Op.binOp Go.BinOp.mul 3 (Go.Operand.tmp 39) (Go.Operand.tmp 41) 3, type := 3, pos := "ref.go:45", after := #[{ on := 6, ground := Go.Ground.data }, { on := 8, ground := Go.Ground.data }], guard := none } : Oper)) (v := ?_) rfl (by kernel_rfl) (by kernel_rfl) (by kernel_rfl) (fun _ _ _ h => h) (Or.inl ⟨by kernel_rfl, ?_⟩) hHeld ?_
          rotate_left 1
          · (intro W hSw; (try dsimp only at hSw); go_simp; try with_reducible rfl)
          try simp only [Act.put, List.setIfInBounds_toArray, List.set_cons_zero, List.set_cons_succ]
          refine wpAnyH_take (i := 10) (oi := ({ dst := some 43, op := Go.Op.move (Go.Operand.tmp 2), type := 3, pos := "ref.go:45", after := #[], guard := none } : Oper)) (v := ?_) rfl (by kernel_rfl) (by kernel_rfl) (by kernel_rfl) (fun _ _ _ h => h) (Or.inl ⟨by kernel_rfl, ?_⟩) hHeld ?_
          rotate_left 1
          · (intro W hSw; (try dsimp only at hSw); go_simp; try with_reducible rfl)
          try simp only [Act.put, List.setIfInBounds_toArray, List.set_cons_zero, List.set_cons_succ]
          refine wpAnyH_take (i := 11) (oi := ({ dst := some 44, op := Go.Op.binOp Go.BinOp.mul 3 (Go.Operand.const (Go.Value.int Go.IntKind.i64 2)) (Go.Operand.tmp 43) 3, type := 3, pos := "ref.go:45", after := #[{ on := 10, ground := Go.Ground.data }], guard := none } : Oper)) (v := ?_) rfl (by kernel_rfl) (by kernel_rfl) (by kernel_rfl) (fun _ _ _ h => h) (Or.inl ⟨by kernel_rfl, ?_⟩) hHeld ?_
          rotate_left 1
          · (intro W hSw; (try dsimp only at hSw); go_simp; try with_reducible rfl)
          try simp only [Act.put, List.setIfInBounds_toArray, List.set_cons_zero, List.set_cons_succ]
          refine wpAnyH_take (i := 12) (oi := ({ dst := some 45, op := Go.Op.binOp Go.BinOp.quo 3 (Go.Operand.tmp 42) (Go.Operand.tmp 44) 3, type := 3, pos := "ref.go:45", after := #[{ on := 9, ground := Go.Ground.data }, { on := 11, ground := Go.Ground.data }], guard := none } : Oper)) (v := ?_) rfl (by kernel_rfl) (by kernel_rfl) (by kernel_rfl) (fun _ _ _ h => h) (Or.inl ⟨by kernel_rfl, ?_⟩) hHeld ?_
          rotate_left 1
          · (intro W hSw; (try dsimp only at hSw); go_simp; try with_reducible rfl)
          try simp only [Act.put, List.setIfInBounds_toArray, List.set_cons_zero, List.set_cons_succ]
          refine wpAnyH_take (i := 13) (oi := ({ dst := some 46, op := Go.Op.fieldAddr 24 (Go.Operand.tmp 3) 0, type := 0, pos := "ref.go:45", after := #[], guard := none } : Oper)) (v := ?_) rfl (by kernel_rfl) (by kernel_rfl) (by kernel_rfl) (fun _ _ _ h => h) (Or.inl ⟨by kernel_rfl, ?_⟩) hHeld ?_
          rotate_left 1
          · (intro W hSw; (try dsimp only at hSw); go_simp; try with_reducible rfl)
          try simp only [Act.put, List.setIfInBounds_toArray, List.set_cons_zero, List.set_cons_succ]
          refine wpAnyH_take (i := 14) (oi := ({ dst := some 47, op := Go.Op.load 3 (Go.Operand.tmp 46), type := 3, pos := "ref.go:45", after := #[{ on := 13, ground := Go.Ground.data }], guard := none } : Oper)) (v := ?_) rfl (by kernel_rfl) (by kernel_rfl) (by kernel_rfl) (fun _ _ _ h => h) (Or.inl ⟨by kernel_rfl, ?_⟩) hHeld ?_
          rotate_left 1
          · (intro W hSw; (try dsimp only at hSw); go_simp; try with_reducible rfl)
          try simp only [Act.put, List.setIfInBounds_toArray, List.set_cons_zero, List.set_cons_succ]
          refine wpAnyH_take (i := 15) (oi := ({ dst := some 48, op := Go.Op.binOp Go.BinOp.mul 3 (Go.Operand.tmp 45) (Go.Operand.tmp 47) 3, type := 3, pos := "ref.go:45", after := #[{ on := 12, ground := Go.Ground.data }, { on := 14, ground := Go.Ground.data }], guard := none } : Oper)) (v := ?_) rfl (by kernel_rfl) (by kernel_rfl) (by kernel_rfl) (fun _ _ _ h => h) (Or.inl ⟨by kernel_rfl, ?_⟩) hHeld ?_
          rotate_left 1
          · (intro W hSw; (try dsimp only at hSw); go_simp; try with_reducible rfl)
          try simp only [Act.put, List.setIfInBounds_toArray, List.set_cons_zero, List.set_cons_succ]
          refine wpAnyH_take (i := 16) (oi := ({ dst := some 49, op := Go.Op.move (Go.Operand.tmp 11), type := 3, pos := "ref.go:45", after := #[], guard := none } : Oper)) (v := ?_) rfl (by kernel_rfl) (by kernel_rfl) (by kernel_rfl) (fun _ _ _ h => h) (Or.inl ⟨by kernel_rfl, ?_⟩) hHeld ?_
          rotate_left 1
          · (intro W hSw; (try dsimp only at hSw); go_simp; try with_reducible rfl)
          try simp only [Act.put, List.setIfInBounds_toArray, List.set_cons_zero, List.set_cons_succ]
          refine wpAnyH_take (i := 17) (oi := ({ dst := some 50, op := Go.Op.binOp Go.BinOp.mul 3 (Go.Operand.const (Go.Value.int Go.IntKind.i64 2)) (Go.Operand.tmp 49) 3, type := 3, pos := "ref.go:45", after := #[{ on := 16, ground := Go.Ground.data }], guard := none } : Oper)) (v := ?_) rfl (by kernel_rfl) (by kernel_rfl) (by kernel_rfl) (fun _ _ _ h => h) (Or.inl ⟨by kernel_rfl, ?_⟩) hHeld ?_
          rotate_left 1
          · (intro W hSw; (try dsimp only at hSw); go_simp; try with_reducible rfl)
          try simp only [Act.put, List.setIfInBounds_toArray, List.set_cons_zero, List.set_cons_succ]
          refine wpAnyH_take (i := 18) (oi := ({ dst := some 51, op := Go.Op.binOp Go.BinOp.add 3 (Go.Operand.tmp 50) (Go.Operand.const (Go.Value.int Go.IntKind.i64 1)) 3, type := 3, pos := "ref.go:45", after := #[{ on := 17, ground := Go.Ground.data }], guard := none } : Oper)) (v := ?_) rfl (by kernel_rfl) (by kernel_rfl) (by kernel_rfl) (fun _ _ _ h => h) (Or.inl ⟨by kernel_rfl, ?_⟩) hHeld ?_
          rotate_left 1
          · (intro W hSw; (try dsimp only at hSw); go_simp; try with_reducible rfl)
          try simp only [Act.put, List.setIfInBounds_toArray, List.set_cons_zero, List.set_cons_succ]
          refine wpAnyH_take (i := 19) (oi := ({ dst := some 52, op := Go.Op.fieldAddr 24 (Go.Operand.tmp 3) 0, type := 0, pos := "ref.go:45", after := #[], guard := none } : Oper)) (v := ?_) rfl (by kernel_rfl) (by kernel_rfl) (by kernel_rfl) (fun _ _ _ h => h) (Or.inl ⟨by kernel_rfl, ?_⟩) hHeld ?_
          rotate_left 1
          · (intro W hSw; (try dsimp only at hSw); go_simp; try with_reducible rfl)
          try simp only [Act.put, List.setIfInBounds_toArray, List.set_cons_zero, List.set_cons_succ]
          refine wpAnyH_take (i := 20) (oi := ({ dst := some 53, op := Go.Op.load 3 (Go.Operand.tmp 52), type := 3, pos := "ref.go:45", after := #[{ on := 19, ground := Go.Ground.data }], guard := none } : Oper)) (v := ?_) rfl (by kernel_rfl) (by kernel_rfl) (by kernel_rfl) (fun _ _ _ h => h) (Or.inl ⟨by kernel_rfl, ?_⟩) hHeld ?_
          rotate_left 1
          · (intro W hSw; (try dsimp only at hSw); go_simp; try with_reducible rfl)
          try simp only [Act.put, List.setIfInBounds_toArray, List.set_cons_zero, List.set_cons_succ]
          refine wpAnyH_take (i := 21) (oi := ({ dst := some 54, op := Go.Op.binOp Go.BinOp.mul 3 (Go.Operand.tmp 51) (Go.Operand.tmp 53) 3, type := 3, pos := "ref.go:45", after := #[{ on := 18, ground := Go.Ground.data }, { on := 20, ground := Go.Ground.data }], guard := none } : Oper)) (v := ?_) rfl (by kernel_rfl) (by kernel_rfl) (by kernel_rfl) (fun _ _ _ h => h) (Or.inl ⟨by kernel_rfl, ?_⟩) hHeld ?_
          rotate_left 1
          · (intro W hSw; (try dsimp only at hSw); go_simp; try with_reducible rfl)
          try simp only [Act.put, List.setIfInBounds_toArray, List.set_cons_zero, List.set_cons_succ]
          refine wpAnyH_take (i := 22) (oi := ({ dst := some 55, op := Go.Op.move (Go.Operand.tmp 1), type := 3, pos := "ref.go:45", after := #[], guard := none } : Oper)) (v := ?_) rfl (by kernel_rfl) (by kernel_rfl) (by kernel_rfl) (fun _ _ _ h => h) (Or.inl ⟨by kernel_rfl, ?_⟩) hHeld ?_
          rotate_left 1
          · (intro W hSw; (try dsimp only at hSw); go_simp; try with_reducible rfl)
          try simp only [Act.put, List.setIfInBounds_toArray, List.set_cons_zero, List.set_cons_succ]
          refine wpAnyH_take (i := 23) (oi := ({ dst := some 56, op := Go.Op.binOp Go.BinOp.mul 3 (Go.Operand.const (Go.Value.int Go.IntKind.i64 2)) (Go.Operand.tmp 55) 3, type := 3, pos := "ref.go:45", after := #[{ on := 22, ground := Go.Ground.data }], guard := none } : Oper)) (v := ?_) rfl (by kernel_rfl) (by kernel_rfl) (by kernel_rfl) (fun _ _ _ h => h) (Or.inl ⟨by kernel_rfl, ?_⟩) hHeld ?_
          rotate_left 1
          · (intro W hSw; (try dsimp only at hSw); go_simp; try with_reducible rfl)
          try simp only [Act.put, List.setIfInBounds_toArray, List.set_cons_zero, List.set_cons_succ]
          refine wpAnyH_take (i := 24) (oi := ({ dst := some 57, op := Go.Op.binOp Go.BinOp.quo 3 (Go.Operand.tmp 54) (Go.Operand.tmp 56) 3, type := 3, pos := "ref.go:45", after := #[{ on := 21, ground := Go.Ground.data }, { on := 23, ground := Go.Ground.data }], guard := none } : Oper)) (v := ?_) rfl (by kernel_rfl) (by kernel_rfl) (by kernel_rfl) (fun _ _ _ h => h) (Or.inl ⟨by kernel_rfl, ?_⟩) hHeld ?_
          rotate_left 1
          · (intro W hSw; (try dsimp only at hSw); go_simp; try with_reducible rfl)
          try simp only [Act.put, List.setIfInBounds_toArray, List.set_cons_zero, List.set_cons_succ]
          refine wpAnyH_take (i := 25) (oi := ({ dst := some 58, op := Go.Op.binOp Go.BinOp.add 3 (Go.Operand.tmp 48) (Go.Operand.tmp 57) 3, type := 3, pos := "ref.go:45", after := #[{ on := 15, ground := Go.Ground.data }, { on := 24, ground := Go.Ground.data }], guard := none } : Oper)) (v := ?_) rfl (by kernel_rfl) (by kernel_rfl) (by kernel_rfl) (fun _ _ _ h => h) (Or.inl ⟨by kernel_rfl, ?_⟩) hHeld ?_
          rotate_left 1
          · (intro W hSw; (try dsimp only at hSw); go_simp; try with_reducible rfl)
          try simp only [Act.put, List.setIfInBounds_toArray, List.set_cons_zero, List.set_cons_succ]
          refine wpAnyH_take (i := 26) (oi := ({ dst := some 59, op := Go.Op.indexAddr 22 (Go.Operand.tmp 36) (Go.Operand.tmp 58), type := 0, pos := "ref.go:45", after := #[{ on := 3, ground := Go.Ground.data }, { on := 25, ground := Go.Ground.data }], guard := none } : Oper)) (v := ?_) rfl (by kernel_rfl) (by kernel_rfl) (by kernel_rfl) (fun _ _ _ h => h) (Or.inl ⟨by kernel_rfl, ?_⟩) hHeld ?_
          rotate_left 1
          · (intro W hSw; (try dsimp only at hSw); go_simp; try with_reducible rfl)
          try simp only [Act.put, List.setIfInBounds_toArray, List.set_cons_zero, List.set_cons_succ]
          refine wpAnyH_take (i := 27) (oi := ({ dst := some 60, op := Go.Op.load 43 (Go.Operand.tmp 59), type := 43, pos := "ref.go:45", after := #[{ on := 26, ground := Go.Ground.data }], guard := none } : Oper)) (v := ?_) rfl (by kernel_rfl) (by kernel_rfl) (by kernel_rfl) (fun _ _ _ h => h) (Or.inl ⟨by kernel_rfl, ?_⟩) hHeld ?_
          rotate_left 1
          · (intro W hSw; (try dsimp only at hSw); go_simp; try with_reducible rfl)
          try simp only [Act.put, List.setIfInBounds_toArray, List.set_cons_zero, List.set_cons_succ]
          refine wpAnyH_ready (rs := [1, 28]) (by kernel_rfl) (by simp) (AllReadyH.cons (o := ({ dst := some 34, op := Go.Op.load 22 (Go.Operand.tmp 33), type := 22, pos := "ref.go:45", after := #[{ on := 0, ground := Go.Ground.data }], guard := none } : Oper)) rfl (fun K hK => ?_) (AllReadyH.cons (o := ({ dst := some 61, op := Go.Op.buildSlice 22 1 #[(0, Go.Operand.tmp 60)], type := 22, pos := "ref.go:45", after := #[{ on := 27, ground := Go.Ground.data }], guard := none } : Oper)) rfl (fun K hK => ?_) AllReadyH.nil))
          · obtain ⟨m0, m1, m2, _, mt⟩ := J.out.tri (l1 := [])
            go_simp
            clear m0 m1 m2 mt
            refine hK.out _ _ sk (fun hHeld2 => ?_)
            clear hK K hHeld
            have hHeld := hHeld2
            clear hHeld2
            try simp only [Act.put, List.setIfInBounds_toArray, List.set_cons_zero, List.set_cons_succ]
            refine wpAnyH_ready (rs := [28]) (by kernel_rfl) (by simp) (AllReadyH.cons (o := ({ dst := some 61, op := Go.Op.buildSlice 22 1 #[(0, Go.Operand.tmp 60)], type := 22, pos := "ref.go:45", after := #[{ on := 27, ground := Go.Ground.data }], guard := none } : Oper)) rfl (fun K hK => ?_) AllReadyH.nil)
            go_simp
            replace J := Lib.hid (J.out.made (.cells #[.int .u8 (px.r : Int), .int .u8 (px.g : Int), .int .u8 (px.b : Int), .int .u8 (px.a : Int)] 43))
            replace Ow := Lib.hid (Ow.out.alloc (.cells #[.int .u8 (px.r : Int), .int .u8 (px.g : Int), .int .u8 (px.b : Int), .int .u8 (px.a : Int)] 43))
            have P1 := Lib.hid (pxs_one u0 px)
            generalize u0.alloc (.cells #[.int .u8 (px.r : Int), .int .u8 (px.g : Int), .int .u8 (px.b : Int), .int .u8 (px.a : Int)] 43) = u1 at *
            generalize u0.heap.size = kb at *
            (try clear sk)
            have sk := And.intro (J.out.three (l1 := [_, _])) (cA _ J.out.below).out
            refine hK.out _ _ sk (fun hHeld2 => ?_)
            clear hK K hHeld
            have hHeld := hHeld2
            clear hHeld2
            try simp only [Act.put, List.setIfInBounds_toArray, List.set_cons_zero, List.set_cons_succ]
            refine wpAnyH_ready (rs := [29]) (by kernel_rfl) (by simp) (AllReadyH.cons (o := ({ dst := some 62, op := Go.Op.call { callee := Go.Callee.builtin Go.Builtin.append, args := #[Go.Operand.tmp 34, Go.Operand.tmp 61], argTypes := #[22, 22] }, type := 22, pos := "ref.go:45", after := #[{ on := 1, ground := Go.Ground.data }, { on := 28, ground := Go.Ground.data }], guard := none } : Oper)) rfl (fun K hK => ?_) AllReadyH.nil)
            refine step_appP (by rfl) _ _ (by rfl) (base := mm + 1) (l := Lk) (m := [px]) (by rfl) (by exact Ow.out) (by rfl) (by exact P1.out) (by exact hlen.out) (by exact (J.out.tri (l1 := [])).2.2.2.2) ?_
            intro v6 u2 ho6 hg6 _
            replace J := Lib.hid (J.out.grownO hg6 Ow.out (by omega) (HLT _).out)
            obtain ⟨A6, c6, rfl, _, _⟩ := ho6.pxs.shape
            rw [List.length_append, List.length_singleton] at ho6
            rw [← hnx2.out] at ho6
            have O6 := Lib.hid ho6
            clear ho6 hg6
            (try clear sk)
            have sk := And.intro (J.out.three (l1 := [_, _])) (cA _ J.out.below).out
            refine hK.out _ _ sk (fun hHeld2 => ?_)
            clear hK K hHeld
            have hHeld := hHeld2
            clear hHeld2
            try simp only [Act.put, List.setIfInBounds_toArray, List.set_cons_zero, List.set_cons_succ]
            refine wpAnyH_take (i := 30) (oi := ({ dst := some 63, op := Go.Op.fieldAddr 24 (Go.Operand.tmp 9) 2, type := 0, pos := "ref.go:45", after := #[{ on := 0, ground := Go.Ground.phase }, { on := 1, ground := Go.Ground.phase }, { on := 2, ground := Go.Ground.phase }, { on := 3, ground := Go.Ground.phase }, { on := 4, ground := Go.Ground.phase }, { on := 5, ground := Go.Ground.phase }, { on := 6, ground := Go.Ground.phase }, { on := 7, ground := Go.Ground.phase }, { on := 8, ground := Go.Ground.phase }, { on := 9, ground := Go.Ground.phase }, { on := 10, ground := Go.Ground.phase }, { on := 11, ground := Go.Ground.phase }, { on := 12, ground := Go.Ground.phase }, { on := 13, ground := Go.Ground.phase }, { on := 14, ground := Go.Ground.phase }, { on := 15, ground := Go.Ground.phase }, { on := 16, ground := Go.Ground.phase }, { on := 17, ground := Go.Ground.phase }, { on := 18, ground := Go.Ground.phase }, { on := 19, ground := Go.Ground.phase }, { on := 20, ground := Go.Ground.phase }, { on := 21, ground := Go.Ground.phase }, { on := 22, ground := Go.Ground.phase }, { on := 23, ground := Go.Ground.phase }, { on := 24, ground := Go.Ground.phase }, { on := 25, ground := Go.Ground.phase }, { on := 26, ground := Go.Ground.phase }, { on := 27, ground := Go.Ground.phase }, { on := 28, ground := Go.Ground.phase }, { on := 29, ground := Go.Ground.phase }], guard := none } : Oper)) (v := ?_) rfl (by kernel_rfl) (by kernel_rfl) (by kernel_rfl) (fun _ _ _ h => h) (Or.inl ⟨by kernel_rfl, ?_⟩) hHeld ?_
            rotate_left 1
            · (intro W hSw; (try dsimp only at hSw); go_simp; try with_reducible rfl)
            try simp only [Act.put, List.setIfInBounds_toArray, List.set_cons_zero, List.set_cons_succ]
            refine wpAnyH_ready (rs := [31]) (by kernel_rfl) (by simp) (AllReadyH.cons (o := ({ dst := none, op := Go.Op.store 22 (Go.Operand.tmp 63) (Go.Operand.tmp 62), type := 0, pos := "ref.go:45", after := #[{ on := 30, ground := Go.Ground.data }, { on := 29, ground := Go.Ground.data }, { on := 29, ground := Go.Ground.chain }, { on := 0, ground := Go.Ground.phase }, { on := 1, ground := Go.Ground.phase }, { on := 2, ground := Go.Ground.phase }, { on := 3, ground := Go.Ground.phase }, { on := 4, ground := Go.Ground.phase }, { on := 5, ground := Go.Ground.phase }, { on := 6, ground := Go.Ground.phase }, { on := 7, ground := Go.Ground.phase }, { on := 8, ground := Go.Ground.phase }, { on := 9, ground := Go.Ground.phase }, { on := 10, ground := Go.Ground.phase }, { on := 11, ground := Go.Ground.phase }, { on := 12, ground := Go.Ground.phase }, { on := 13, ground := Go.Ground.phase }, { on := 14, ground := Go.Ground.phase }, { on := 15, ground := Go.Ground.phase }, { on := 16, ground := Go.Ground.phase }, { on := 17, ground := Go.Ground.phase }, { on := 18, ground := Go.Ground.phase }, { on := 19, ground := Go.Ground.phase }, { on := 20, ground := Go.Ground.phase }, { on := 21, ground := Go.Ground.phase }, { on := 22, ground := Go.Ground.phase }, { on := 23, ground := Go.Ground.phase }, { on := 24, ground := Go.Ground.phase }, { on := 25, ground := Go.Ground.phase }, { on := 26, ground := Go.Ground.phase }, { on := 27, ground := Go.Ground.phase }, { on := 28, ground := Go.Ground.phase }, { on := 29, ground := Go.Ground.phase }], guard := none } : Oper)) rfl (fun K hK => ?_) AllReadyH.nil)
            obtain ⟨z0, z1, z2, zf, zt⟩ := J.out.tri (l1 := [])
            go_simp
            have Z := Lib.hid (And.intro (O6.out.cell (k := mm) (Nat.lt_succ_self mm) 2 (.slice A6 (Lk.length + 1) c6)) (J.out.cell (l1 := []) (i := 2) (by simp) (.slice A6 (Lk.length + 1) c6)))
            replace J := Lib.hid Z.out.2
            clear z0 z1 z2 zf zt
            (try clear sk)
            have sk := And.intro (J.out.three (l1 := [_, _])) (cA _ J.out.below).out
            refine hK.out _ _ sk (fun hHeld2 => ?_)
            clear hK K hHeld
            have hHeld := hHeld2
            clear hHeld2
            try simp only [Act.put, List.setIfInBounds_toArray, List.set_cons_zero, List.set_cons_succ]
            refine wpAnyH_done (by kernel_rfl) ?_ _
            go_wp2_with fail
            go_roundw
            case rel => exact ⟨x + 1, A6, Lk.length + 1, c6, by omega, by go_num, Z⟩
            case measure =>
              unfold leftN
              simp [intOf]
              omega
          · go_simp
            replace J := Lib.hid (J.out.made (.cells #[.int .u8 (px.r : Int), .int .u8 (px.g : Int), .int .u8 (px.b : Int), .int .u8 (px.a : Int)] 43))
            replace Ow := Lib.hid (Ow.out.alloc (.cells #[.int .u8 (px.r : Int), .int .u8 (px.g : Int), .int .u8 (px.b : Int), .int .u8 (px.a : Int)] 43))
            have P1 := Lib.hid (pxs_one u0 px)
            generalize u0.alloc (.cells #[.int .u8 (px.r : Int), .int .u8 (px.g : Int), .int .u8 (px.b : Int), .int .u8 (px.a : Int)] 43) = u1 at *
            generalize u0.heap.size = kb at *
            (try clear sk)
            have sk := And.intro (J.out.three (l1 := [_, _])) (cA _ J.out.below).out
            refine hK.out _ _ sk (fun hHeld2 => ?_)
            clear hK K hHeld
            have hHeld := hHeld2
            clear hHeld2
            try simp only [Act.put, List.setIfInBounds_toArray, List.set_cons_zero, List.set_cons_succ]
            refine wpAnyH_ready (rs := [1]) (by kernel_rfl) (by simp) (AllReadyH.cons (o := ({ dst := some 34, op := Go.Op.load 22 (Go.Operand.tmp 33), type := 22, pos := "ref.go:45", after := #[{ on := 0, ground := Go.Ground.data }], guard := none } : Oper)) rfl (fun K hK => ?_) AllReadyH.nil)
            obtain ⟨m0, m1, m2, _, mt⟩ := J.out.tri (l1 := [])
            go_simp
            clear m0 m1 m2 mt
            refine hK.out _ _ sk (fun hHeld2 => ?_)
            clear hK K hHeld
            have hHeld := hHeld2
            clear hHeld2
            try simp only [Act.put, List.setIfInBounds_toArray, List.set_cons_zero, List.set_cons_succ]
            refine wpAnyH_ready (rs := [29]) (by kernel_rfl) (by simp) (AllReadyH.cons (o := ({ dst := some 62, op := Go.Op.call { callee := Go.Callee.builtin Go.Builtin.append, args := #[Go.Operand.tmp 34, Go.Operand.tmp 61], argTypes := #[22, 22] }, type := 22, pos := "ref.go:45", after := #[{ on := 1, ground := Go.Ground.data }, { on := 28, ground := Go.Ground.data }], guard := none } : Oper)) rfl (fun K hK => ?_) AllReadyH.nil)
            refine step_appP (by rfl) _ _ (by rfl) (base := mm + 1) (l := Lk) (m := [px]) (by rfl) (by exact Ow.out) (by rfl) (by exact P1.out) (by exact hlen.out) (by exact (J.out.tri (l1 := [])).2.2.2.2) ?_
            intro v6 u2 ho6 hg6 _
            replace J := Lib.hid (J.out.grownO hg6 Ow.out (by omega) (HLT _).out)
            obtain ⟨A6, c6, rfl, _, _⟩ := ho6.pxs.shape
            rw [List.length_append, List.length_singleton] at ho6
            rw [← hnx2.out] at ho6
            have O6 := Lib.hid ho6
            clear ho6 hg6
            (try clear sk)
            have sk := And.intro (J.out.three (l1 := [_, _])) (cA _ J.out.below).out
            refine hK.out _ _ sk (fun hHeld2 => ?_)
            clear hK K hHeld
            have hHeld := hHeld2
            clear hHeld2
            try simp only [Act.put, List.setIfInBounds_toArray, List.set_cons_zero, List.set_cons_succ]
            refine wpAnyH_take (i := 30) (oi := ({ dst := some 63, op := Go.Op.fieldAddr 24 (Go.Operand.tmp 9) 2, type := 0, pos := "ref.go:45", after := #[{ on := 0, ground := Go.Ground.phase }, { on := 1, ground := Go.Ground.phase }, { on := 2, ground := Go.Ground.phase }, { on := 3, ground := Go.Ground.phase }, { on := 4, ground := Go.Ground.phase }, { on := 5, ground := Go.Ground.phase }, { on := 6, ground := Go.Ground.phase }, { on := 7, ground := Go.Ground.phase }, { on := 8, ground := Go.Ground.phase }, { on := 9, ground := Go.Ground.phase }, { on := 10, ground := Go.Ground.phase }, { on := 11, ground := Go.Ground.phase }, { on := 12, ground := Go.Ground.phase }, { on := 13, ground := Go.Ground.phase }, { on := 14, ground := Go.Ground.phase }, { on := 15, ground := Go.Ground.phase }, { on := 16, ground := Go.Ground.phase }, { on := 17, ground := Go.Ground.phase }, { on := 18, ground := Go.Ground.phase }, { on := 19, ground := Go.Ground.phase }, { on := 20, ground := Go.Ground.phase }, { on := 21, ground := Go.Ground.phase }, { on := 22, ground := Go.Ground.phase }, { on := 23, ground := Go.Ground.phase }, { on := 24, ground := Go.Ground.phase }, { on := 25, ground := Go.Ground.phase }, { on := 26, ground := Go.Ground.phase }, { on := 27, ground := Go.Ground.phase }, { on := 28, ground := Go.Ground.phase }, { on := 29, ground := Go.Ground.phase }], guard := none } : Oper)) (v := ?_) rfl (by kernel_rfl) (by kernel_rfl) (by kernel_rfl) (fun _ _ _ h => h) (Or.inl ⟨by kernel_rfl, ?_⟩) hHeld ?_
            rotate_left 1
            · (intro W hSw; (try dsimp only at hSw); go_simp; try with_reducible rfl)
            try simp only [Act.put, List.setIfInBounds_toArray, List.set_cons_zero, List.set_cons_succ]
            refine wpAnyH_ready (rs := [31]) (by kernel_rfl) (by simp) (AllReadyH.cons (o := ({ dst := none, op := Go.Op.store 22 (Go.Operand.tmp 63) (Go.Operand.tmp 62), type := 0, pos := "ref.go:45", after := #[{ on := 30, ground := Go.Ground.data }, { on := 29, ground := Go.Ground.data }, { on := 29, ground := Go.Ground.chain }, { on := 0, ground := Go.Ground.phase }, { on := 1, ground := Go.Ground.phase }, { on := 2, ground := Go.Ground.phase }, { on := 3, ground := Go.Ground.phase }, { on := 4, ground := Go.Ground.phase }, { on := 5, ground := Go.Ground.phase }, { on := 6, ground := Go.Ground.phase }, { on := 7, ground := Go.Ground.phase }, { on := 8, ground := Go.Ground.phase }, { on := 9, ground := Go.Ground.phase }, { on := 10, ground := Go.Ground.phase }, { on := 11, ground := Go.Ground.phase }, { on := 12, ground := Go.Ground.phase }, { on := 13, ground := Go.Ground.phase }, { on := 14, ground := Go.Ground.phase }, { on := 15, ground := Go.Ground.phase }, { on := 16, ground := Go.Ground.phase }, { on := 17, ground := Go.Ground.phase }, { on := 18, ground := Go.Ground.phase }, { on := 19, ground := Go.Ground.phase }, { on := 20, ground := Go.Ground.phase }, { on := 21, ground := Go.Ground.phase }, { on := 22, ground := Go.Ground.phase }, { on := 23, ground := Go.Ground.phase }, { on := 24, ground := Go.Ground.phase }, { on := 25, ground := Go.Ground.phase }, { on := 26, ground := Go.Ground.phase }, { on := 27, ground := Go.Ground.phase }, { on := 28, ground := Go.Ground.phase }, { on := 29, ground := Go.Ground.phase }], guard := none } : Oper)) rfl (fun K hK => ?_) AllReadyH.nil)
            obtain ⟨z0, z1, z2, zf, zt⟩ := J.out.tri (l1 := [])
            go_simp
            have Z := Lib.hid (And.intro (O6.out.cell (k := mm) (Nat.lt_succ_self mm) 2 (.slice A6 (Lk.length + 1) c6)) (J.out.cell (l1 := []) (i := 2) (by simp) (.slice A6 (Lk.length + 1) c6)))
            replace J := Lib.hid Z.out.2
            clear z0 z1 z2 zf zt
            (try clear sk)
            have sk := And.intro (J.out.three (l1 := [_, _])) (cA _ J.out.below).out
            refine hK.out _ _ sk (fun hHeld2 => ?_)
            clear hK K hHeld
            have hHeld := hHeld2
            clear hHeld2
            try simp only [Act.put, List.setIfInBounds_toArray, List.set_cons_zero, List.set_cons_succ]
            refine wpAnyH_done (by kernel_rfl) ?_ _
            go_wp2_with fail
            go_roundw
            case rel => exact ⟨x + 1, A6, Lk.length + 1, c6, by omega, by go_num, Z⟩
            case measure =>
              unfold leftN
              simp [intOf]
              omega
        · obtain rfl : p = x := by omega
          have q2 : ¬ (p : Int) < p := by omega
          rw [show y * p + p = (y + 1) * p by rw [Nat.add_mul, Nat.one_mul]] at HS
          go_wp2_with fail
          go_roundw
          case rel => exact ⟨y + 1, A1, k1, c1, by omega, by go_num, HS⟩
          case measure =>
            unfold leftN
            simp [intOf]
            omega
    · obtain rfl : q = y := by omega
      have q1 : ¬ (q : Int) < q := by omega
      have hO : O.take (q * p) = O := List.take_of_length_le (by rw [HL.out, Nat.mul_comm]; exact Nat.le_refl _)
      rw [hO] at HR
      have Q := Lib.hid ((HR.out.1.set3 (k := w.heap.size + 1) (by omega) (.int .i64 (p : Int)) (.int .i64 (q : Int)) (.slice A1 k1 c1)).res (w := w) (by omega) (by rw [HL.out]; omega))
      have K := Lib.hid (below_set3 (y0 := .int .i64 (p : Int)) (y1 := .int .i64 (q : Int)) (y2 := .slice A1 k1 c1) HR.out.2.below (by omega : w.heap.size ≤ w.heap.size + 1))
      obtain ⟨m0, m1, m2, _, mt⟩ := HR.out.2.tri (l1 := [])
      obtain ⟨z0, z1, z2, zf, zt⟩ := HR.out.2.tri (l1 := [_])
      clear HR hO
      go_wp2_with fail
      exact bodyPost_ret (v := .tuple #[.agg #[.int .i64 (p : Int), .int .i64 (q : Int), .slice A1 k1 c1], .int .i64 0]) (by simp [results, Try.results14, go_sem, z0, z1, z2]) rfl ⟨_, rfl, Q.out, K.out⟩

end Go.Proofs.Ytnkbejbpkjkgeaa
