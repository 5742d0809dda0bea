/-
  Enlarge of the reference of package scale.
-/
import Derived.Test.YtnkbejbpkjkgeaaRnear
namespace Go.Proofs.Ytnkbejbpkjkgeaa
open Go.RowKit

theorem enl_next {a b k p q x y : Nat} (l : List Px) (hp : a * k = p) (hq : b * k = q) (hx : x < p) (hy : y < q) : (enlL a b l k).take (y * p + x + 1) = (enlL a b l k).take (y * p + x) ++ [l.getD (y / k * a + x / k) zeroPx] := by
  subst hp hq
  rw [take_next (by rw [enl_len]; exact idx_lt hx hy), enl_getD hx hy]

theorem blk_lt {a k x : Nat} (h : x < a * k) : x / k < a := by
  rw [Nat.mul_comm] at h
  exact Nat.div_lt_of_lt_mul h

set_option maxRecDepth 100000 in
set_option maxHeartbeats 8000000 in
theorem renl_good {a b k p q : Nat} {v : Value} {l : List Px} {w : World} (h : Pxs w v l) (hv : Vld a b l) (hk : 1 ≤ k) (hp : a * k = p) (hq : b * k = q) (hp2 : p ≤ 256) (hq2 : q ≤ 256) : Calls Try.prog 21 #[.agg #[.int .i64 (a : Int), .int .i64 (b : Int), v], .int .i64 (k : Int)] w (Outs p q (enlL a b l k) 0 w) := by
  have H := Lib.hid h
  have C1 := fun W (hb : Below w.heap.size w W) => Lib.hid (rvalid10_any (a : Int) (b : Int) (H.out.below hb))
  rw [hv.vBuf] at C1
  obtain ⟨A, c, rfl, hc1, hc2, hcell⟩ := h
  have J := Lib.hid (heldS w a b (.slice A l.length c))
  obtain ⟨h0, h6⟩ := hv.small
  obtain ⟨bb, off, rfl, hbb, hcs⟩ := hcell h0
  have HCS := Lib.hid hcs
  have hp1 : 1 ≤ p := by rw [← hp]; exact pos_mul hv.a1 hk
  have hq1 : 1 ≤ q := by rw [← hq]; exact pos_mul hv.b1 hk
  have hka : k ≤ 256 := by
    have := Nat.mul_le_mul_right k hv.a1
    omega
  have hms : p * q ≤ 65536 := mul_small hp2 hq2
  have hms1 := pos_mul hp1 hq1
  have HNX := fun x y hx hy => Lib.hid (enl_next (x := x) (y := y) l hp hq hx hy)
  have HL := Lib.hid (show (enlL a b l k).length = p * q by rw [enl_len, hp, hq])
  have HX := fun x (hx : x < p) => Lib.hid (blk_lt (a := a) (k := k) (x := x) (by rw [hp]; exact hx))
  have HY := fun y (hy : y < q) => Lib.hid (blk_lt (a := b) (k := k) (x := y) (by rw [hq]; exact hy))
  have HV := Lib.hid hv
  have ha1 := hv.a1
  have ha2 := hv.a2
  have hb1 := hv.b1
  have hb2 := hv.b2
  have W1 := Lib.hid (show wrap64 ((a : Int) * (k : Int)) = (p : Int) from by rw [← Int.natCast_mul, hp]; exact IntWalk.wrap64_in _ (by omega))
  have W2 := Lib.hid (show wrap64 ((b : Int) * (k : Int)) = (q : Int) from by rw [← Int.natCast_mul, hq]; exact IntWalk.wrap64_in _ (by omega))
  unfold Outs
  generalize enlL a b l k = O at *
  obtain ⟨n, hn⟩ : ∃ n, l.length = n := ⟨_, rfl⟩
  have HN := Lib.hid hn
  have hnab := Lib.hid (hn.symm.trans hv.len)
  rw [hn] at J C1 hc1 h6 ⊢
  have g0 : ¬ (k : Int) < 1 := by omega
  have g1 : ¬ (256 : Int) < k := by omega
  have g2 : ¬ (256 : Int) < p := by omega
  have g3 : ¬ (256 : Int) < q := by omega
  have b1 : decide (256 < k) = false := decide_eq_false (by omega)
  have b2 : decide (256 < p) = false := decide_eq_false (by omega)
  have b3 : decide (256 < q) = false := decide_eq_false (by omega)
  have b4 : decide ((256 : Int) < (k : Int)) = false := decide_eq_false (by omega)
  have b5 : decide ((256 : Int) < (p : Int)) = false := decide_eq_false (by omega)
  have b6 : decide ((256 : Int) < (q : Int)) = false := decide_eq_false (by omega)
  clear hcell hv hcs hn hc2 H h0 hp hq
  have ww1 := W1.out
  have ww2 := W2.out
  go_enter Try.func21, Try.ntmps21
  go_wp2_with fail
  refine (C1 _ J.out.below).out.mono ?_
  rintro e w1 ⟨rfl, hb⟩
  replace J := Lib.hid (J.out.step hb)
  clear hb C1
  obtain ⟨d0, d1, d2, _, dt⟩ := J.out.tri (l1 := [_])
  go_wp2_with fail
  clear d0 d1 d2 dt ww1 ww2 W1 W2 g0 g1 g2 g3 b1 b2 b3 b4 b5 b6
  have hkm := (J.out.tri (l1 := [])).2.2.2.2
  have hwb := J.out.below.size
  have G : Hid (OwnP (w1.alloc (.cells #[.int .i64 (p : Int), .int .i64 (q : Int), .slice none 0 0] 24)) (w1.heap.size + 1) (.slice none 0 0) (O.take (0 * p)) ∧ Held w (w1.alloc (.cells #[.int .i64 (p : Int), .int .i64 (q : Int), .slice none 0 0] 24)) ((w1.heap.size, [.int .i64 (p : Int), .int .i64 (q : Int), .slice none 0 0]) :: [(w.heap.size + 1, [.int .i64 0, .int .i64 0, .slice none 0 0]), (w.heap.size, [.int .i64 (a : Int), .int .i64 (b : Int), .slice (some ⟨bb, off, none⟩) n c])])) := Lib.hid ⟨by rw [Nat.zero_mul, List.take_zero]; exact ownP_nil _ _, J.out.alloc [.int .i64 (p : Int), .int .i64 (q : Int), .slice none 0 0] 24⟩
  generalize w1.alloc (.cells #[.int .i64 (p : Int), .int .i64 (q : Int), .slice none 0 0] 24) = w3 at *
  generalize w1.heap.size = mm at *
  have HLT : ∀ vs : List Value, Hid (∀ z ∈ ((mm, vs) :: [(w.heap.size + 1, [.int .i64 0, .int .i64 0, .slice none 0 0]), (w.heap.size, [.int .i64 (a : Int), .int .i64 (b : Int), .slice (some ⟨bb, off, none⟩) n c])] : List (Nat × List Value)), z.1 < mm + 1) := fun vs => Lib.hid (fun z hz => by
    simp only [List.mem_cons, List.not_mem_nil, or_false] at hz
    rcases hz with rfl | rfl | rfl
    · simp
    · simp only; omega
    · simp only; omega)
  clear J
  go_loopw [7] (fun s7 wr => ∃ (y : Nat) (A1 : Option Addr) (k1 c1 : Nat), y ≤ q ∧ s7 = .int .i64 (y : Int) ∧ Hid (OwnP wr (mm + 1) (.slice A1 k1 c1) (O.take (y * p)) ∧ Held w wr ((mm, [.int .i64 (p : Int), .int .i64 (q : Int), .slice A1 k1 c1]) :: [(w.heap.size + 1, [.int .i64 0, .int .i64 0, .slice none 0 0]), (w.heap.size, [.int .i64 (a : Int), .int .i64 (b : Int), .slice (some ⟨bb, off, none⟩) n c])]))) (fun s7 _ => leftN q s7)
  case atStart => exact ⟨0, none, 0, 0, Nat.zero_le _, rfl, G⟩
  case round =>
    obtain ⟨y, A1, k1, c1, hy, rfl, HR⟩ := hrel
    obtain ⟨m0, m1, m2, _, mt⟩ := HR.out.2.tri (l1 := [])
    by_cases hlt : y < q
    · have q1 : (y : Int) < q := by omega
      obtain ⟨wu, rfl⟩ : ∃ z, z = wr := ⟨_, rfl⟩
      go_wp2_with fail
      clear m0 m1 m2 mt
      go_loopw [8] (fun s8 wr => ∃ (x : Nat) (A1 : Option Addr) (k1 c1 : Nat), x ≤ p ∧ s8 = .int .i64 (x : Int) ∧ Hid (OwnP wr (mm + 1) (.slice A1 k1 c1) (O.take (y * p + x)) ∧ Held w wr ((mm, [.int .i64 (p : Int), .int .i64 (q : Int), .slice A1 k1 c1]) :: [(w.heap.size + 1, [.int .i64 0, .int .i64 0, .slice none 0 0]), (w.heap.size, [.int .i64 (a : Int), .int .i64 (b : Int), .slice (some ⟨bb, off, none⟩) n c])]))) (fun s8 _ => leftN p s8)
      case atStart => exact ⟨0, A1, k1, c1, Nat.zero_le _, rfl, HR⟩
      case round =>
        clear HR
        obtain ⟨x, A1, k1, c1, hx, rfl, HS⟩ := hrel
        obtain ⟨m0, m1, m2, _, mt⟩ := HS.out.2.tri (l1 := [])
        by_cases hxl : x < p
        · have q2 : (x : Int) < p := by omega
          have hnx := HNX x y hxl hlt
          have hry := (HY y hlt).out
          have hrx := (HX x hxl).out
          have hK := idx_lt hrx hry
          obtain ⟨K, hKK⟩ : ∃ K, y / k * a + x / k = K := ⟨_, rfl⟩
          rw [hKK] at hnx hK
          rw [← hnab.out] at hK
          obtain ⟨Mi, hMi⟩ : ∃ Mi : Int, ((y / k * a : Nat) : Int) = Mi := ⟨_, rfl⟩
          have hMb : y / k * a ≤ 65536 := Nat.le_trans (Nat.le_of_lt (Nat.lt_of_le_of_lt (by rw [← hKK]; exact Nat.le_add_right _ _) hK)) h6
          have i1 : (y : Int) / (k : Int) = ((y / k : Nat) : Int) := (Int.natCast_ediv y k).symm
          have i2 : (x : Int) / (k : Int) = ((x / k : Nat) : Int) := (Int.natCast_ediv x k).symm
          generalize y / k = ry at *
          generalize x / k = rx at *
          have F := Lib.hid (show IntKind.i64.wrap ((y : Int) / (k : Int)) = (ry : Int) ∧ IntKind.i64.wrap ((x : Int) / (k : Int)) = (rx : Int) ∧ IntKind.i64.wrap ((ry : Int) * (a : Int)) = Mi ∧ IntKind.i64.wrap (Mi + (rx : Int)) = (K : Int) from by
            refine ⟨?_, ?_, ?_, ?_⟩
            · rw [i1]; exact IntWalk.i64_in _ (by omega)
            · rw [i2]; exact IntWalk.i64_in _ (by omega)
            · rw [← Int.natCast_mul, hMi]; exact IntWalk.i64_in _ (by omega)
            · rw [IntWalk.i64_in _ (by omega)]; omega)
          have g1 : k ≠ 0 := by omega
          obtain ⟨px, hpx⟩ : ∃ px, l[K]? = some px := ⟨_, List.getElem?_eq_getElem (by rw [HN.out]; exact hK)⟩
          have hgd : l.getD K zeroPx = px := getD_of hpx
          rw [hgd] at hnx
          have cB := Lib.hid (HCS.out K px hpx)
          have hlen := Lib.hid (show (O.take (y * p + x)).length + [px].length ≤ 4000000 by
            have := hms
            rw [List.length_take, HL.out, List.length_singleton]
            omega)
          generalize hLk : O.take (y * p + x) = Lk at *
          have hnx2 : Hid (O.take (y * p + (x + 1)) = Lk ++ [px]) := Lib.hid (by rw [← hnx.out, Nat.add_assoc])
          have k0 : (0 : Int) ≤ K := by omega
          have kn : (K : Int) < n := by omega
          clear hnx hLk hgd hpx hKK hMi hMb hry hrx hK i1 i2 HNX HX HY
          have hwm : w.heap.size ≤ mm + 1 := by omega
          go_wp2_with fail
          have J := Lib.hid HS.out.2.drew
          have Ow : Hid (OwnP wr.drew (mm + 1) (.slice A1 k1 c1) Lk) := Lib.hid HS.out.1
          have cA := fun W (hb : Below w.heap.size w W) => Lib.hid (cB.out.keep hb hbb)
          have sk := And.intro (J.out.three (l1 := [_, _])) (cA _ J.out.below).out
          clear HS m0 m1 m2 mt
          obtain ⟨f1, f2, f3, f4⟩ := F.out
          refine wp_region_held_drew (S := (fun W => (W.cell? ⟨w.heap.size, 0, none⟩ = some (.int .i64 (a : Int)) ∧ W.cell? ⟨w.heap.size, 1, none⟩ = some (.int .i64 (b : Int)) ∧ W.cell? ⟨w.heap.size, 2, none⟩ = some (.slice (some ⟨bb, off, none⟩) n c)) ∧ (W.cell? ⟨bb, off + K * 4, none⟩ = some (.int .u8 (px.r : Int)) ∧ W.cell? ⟨bb, off + K * 4 + 1, none⟩ = some (.int .u8 (px.g : Int)) ∧ W.cell? ⟨bb, off + K * 4 + 2, none⟩ = some (.int .u8 (px.b : Int)) ∧ W.cell? ⟨bb, off + K * 4 + 3, none⟩ = some (.int .u8 (px.a : Int))))) (by kernel_rfl) sk (fun hHeld => ?_)
          generalize wr.drew = u0 at *
          refine wpAnyH_take (i := 0) (oi := ({ dst := some 54, op := Go.Op.fieldAddr 24 (Go.Operand.tmp 6) 2, type := 0, pos := "ref.go:113", after := #[], guard := none } : Oper)) (v := ?_) rfl (by kernel_rfl) (by kernel_rfl) (by kernel_rfl) (fun _ _ _ h => h) (Or.inl ⟨by kernel_rfl, ?_⟩) hHeld ?_
          rotate_left 1
          · (intro W hSw; (try dsimp only at hSw); go_simp; try with_reducible rfl)
          try simp only [Act.put, List.setIfInBounds_toArray, List.set_cons_zero, List.set_cons_succ]
          refine wpAnyH_take (i := 2) (oi := ({ dst := some 56, op := Go.Op.fieldAddr 24 (Go.Operand.tmp 2) 2, type := 0, pos := "ref.go:113", after := #[], guard := none } : Oper)) (v := ?_) rfl (by kernel_rfl) (by kernel_rfl) (by kernel_rfl) (fun _ _ _ h => h) (Or.inl ⟨by kernel_rfl, ?_⟩) hHeld ?_
          rotate_left 1
          · (intro W hSw; (try dsimp only at hSw); go_simp; try with_reducible rfl)
          try simp only [Act.put, List.setIfInBounds_toArray, List.set_cons_zero, List.set_cons_succ]
          refine wpAnyH_take (i := 3) (oi := ({ dst := some 57, op := Go.Op.load 22 (Go.Operand.tmp 56), type := 22, pos := "ref.go:113", after := #[{ on := 2, ground := Go.Ground.data }], guard := none } : Oper)) (v := ?_) rfl (by kernel_rfl) (by kernel_rfl) (by kernel_rfl) (fun _ _ _ h => h) (Or.inl ⟨by kernel_rfl, ?_⟩) hHeld ?_
          rotate_left 1
          · (intro W hSw; (try dsimp only at hSw); go_simp; try with_reducible rfl)
          try simp only [Act.put, List.setIfInBounds_toArray, List.set_cons_zero, List.set_cons_succ]
          refine wpAnyH_take (i := 4) (oi := ({ dst := some 58, op := Go.Op.move (Go.Operand.tmp 7), type := 3, pos := "ref.go:113", after := #[], guard := none } : Oper)) (v := ?_) rfl (by kernel_rfl) (by kernel_rfl) (by kernel_rfl) (fun _ _ _ h => h) (Or.inl ⟨by kernel_rfl, ?_⟩) hHeld ?_
          rotate_left 1
          · (intro W hSw; (try dsimp only at hSw); go_simp; try with_reducible rfl)
          try simp only [Act.put, List.setIfInBounds_toArray, List.set_cons_zero, List.set_cons_succ]
          refine wpAnyH_take (i := 5) (oi := ({ dst := some 59, op := Go.Op.move (Go.Operand.tmp 1), type := 3, pos := "ref.go:113", after := #[], guard := none } : Oper)) (v := ?_) rfl (by kernel_rfl) (by kernel_rfl) (by kernel_rfl) (fun _ _ _ h => h) (Or.inl ⟨by kernel_rfl, ?_⟩) hHeld ?_
          rotate_left 1
          · (intro W hSw; (try dsimp only at hSw); go_simp; try with_reducible rfl)
          try simp only [Act.put, List.setIfInBounds_toArray, List.set_cons_zero, List.set_cons_succ]
          refine wpAnyH_take (i := 6) (oi := ({ dst := some 60, op := Go.Op.binOp Go.BinOp.quo 3 (Go.Operand.tmp 58) (Go.Operand.tmp 59) 3, type := 3, pos := "ref.go:113", after := #[{ on := 4, ground := Go.Ground.data }, { on := 5, ground := Go.Ground.data }], guard := none } : Oper)) (v := ?_) rfl (by kernel_rfl) (by kernel_rfl) (by kernel_rfl) (fun _ _ _ h => h) (Or.inl ⟨by kernel_rfl, ?_⟩) hHeld ?_
          rotate_left 1
          · (intro W hSw; (try dsimp only at hSw); go_simp; try with_reducible rfl)
          try simp only [Act.put, List.setIfInBounds_toArray, List.set_cons_zero, List.set_cons_succ]
          refine wpAnyH_take (i := 7) (oi := ({ dst := some 61, op := Go.Op.fieldAddr 24 (Go.Operand.tmp 2) 0, type := 0, pos := "ref.go:113", after := #[], guard := none } : Oper)) (v := ?_) rfl (by kernel_rfl) (by kernel_rfl) (by kernel_rfl) (fun _ _ _ h => h) (Or.inl ⟨by kernel_rfl, ?_⟩) hHeld ?_
          rotate_left 1
          · (intro W hSw; (try dsimp only at hSw); go_simp; try with_reducible rfl)
          try simp only [Act.put, List.setIfInBounds_toArray, List.set_cons_zero, List.set_cons_succ]
          refine wpAnyH_take (i := 8) (oi := ({ dst := some 62, op := Go.Op.load 3 (Go.Operand.tmp 61), type := 3, pos := "ref.go:113", after := #[{ on := 7, ground := Go.Ground.data }], guard := none } : Oper)) (v := ?_) rfl (by kernel_rfl) (by kernel_rfl) (by kernel_rfl) (fun _ _ _ h => h) (Or.inl ⟨by kernel_rfl, ?_⟩) hHeld ?_
          rotate_left 1
          · (intro W hSw; (try dsimp only at hSw); go_simp; try with_reducible rfl)
          try simp only [Act.put, List.setIfInBounds_toArray, List.set_cons_zero, List.set_cons_succ]
          refine wpAnyH_take (i := 9) (oi := ({ dst := some 63, op := Go.Op.binOp Go.BinOp.mul 3 (Go.Operand.tmp 60) (Go.Operand.tmp 62) 3, type := 3, pos := "ref.go:113", after := #[{ on := 6, ground := Go.Ground.data }, { on := 8, ground := Go.Ground.data }], guard := none } : Oper)) (v := ?_) rfl (by kernel_rfl) (by kernel_rfl) (by kernel_rfl) (fun _ _ _ h => h) (Or.inl ⟨by kernel_rfl, ?_⟩) hHeld ?_
          rotate_left 1
          · (intro W hSw; (try dsimp only at hSw); go_simp; try with_reducible rfl)
          try simp only [Act.put, List.setIfInBounds_toArray, List.set_cons_zero, List.set_cons_succ]
          refine wpAnyH_take (i := 10) (oi := ({ dst := some 64, op := Go.Op.move (Go.Operand.tmp 8), type := 3, pos := "ref.go:113", after := #[], guard := none } : Oper)) (v := ?_) rfl (by kernel_rfl) (by kernel_rfl) (by kernel_rfl) (fun _ _ _ h => h) (Or.inl ⟨by kernel_rfl, ?_⟩) hHeld ?_
          rotate_left 1
          · (intro W hSw; (try dsimp only at hSw); go_simp; try with_reducible rfl)
          try simp only [Act.put, List.setIfInBounds_toArray, List.set_cons_zero, List.set_cons_succ]
          refine wpAnyH_take (i := 11) (oi := ({ dst := some 65, op := Go.Op.move (Go.Operand.tmp 1), type := 3, pos := "ref.go:113", after := #[], guard := none } : Oper)) (v := ?_) rfl (by kernel_rfl) (by kernel_rfl) (by kernel_rfl) (fun _ _ _ h => h) (Or.inl ⟨by kernel_rfl, ?_⟩) hHeld ?_
          rotate_left 1
          · (intro W hSw; (try dsimp only at hSw); go_simp; try with_reducible rfl)
          try simp only [Act.put, List.setIfInBounds_toArray, List.set_cons_zero, List.set_cons_succ]
          refine wpAnyH_take (i := 12) (oi := ({ dst := some 66, op := Go.Op.binOp Go.BinOp.quo 3 (Go.Operand.tmp 64) (Go.Operand.tmp 65) 3, type := 3, pos := "ref.go:113", after := #[{ on := 10, ground := Go.Ground.data }, { on := 11, ground := Go.Ground.data }], guard := none } : Oper)) (v := ?_) rfl (by kernel_rfl) (by kernel_rfl) (by kernel_rfl) (fun _ _ _ h => h) (Or.inl ⟨by kernel_rfl, ?_⟩) hHeld ?_
          rotate_left 1
          · (intro W hSw; (try dsimp only at hSw); go_simp; try with_reducible rfl)
          try simp only [Act.put, List.setIfInBounds_toArray, List.set_cons_zero, List.set_cons_succ]
          refine wpAnyH_take (i := 13) (oi := ({ dst := some 67, op := Go.Op.binOp Go.BinOp.add 3 (Go.Operand.tmp 63) (Go.Operand.tmp 66) 3, type := 3, pos := "ref.go:113", after := #[{ on := 9, ground := Go.Ground.data }, { on := 12, ground := Go.Ground.data }], guard := none } : Oper)) (v := ?_) rfl (by kernel_rfl) (by kernel_rfl) (by kernel_rfl) (fun _ _ _ h => h) (Or.inl ⟨by kernel_rfl, ?_⟩) hHeld ?_
          rotate_left 1
          · (intro W hSw; (try dsimp only at hSw); go_simp; try with_reducible rfl)
          try simp only [Act.put, List.setIfInBounds_toArray, List.set_cons_zero, List.set_cons_succ]
          refine wpAnyH_take (i := 14) (oi := ({ dst := some 68, op := Go.Op.indexAddr 22 (Go.Operand.tmp 57) (Go.Operand.tmp 67), type := 0, pos := "ref.go:113", after := #[{ on := 3, ground := Go.Ground.data }, { on := 13, ground := Go.Ground.data }], guard := none } : Oper)) (v := ?_) rfl (by kernel_rfl) (by kernel_rfl) (by kernel_rfl) (fun _ _ _ h => h) (Or.inl ⟨by kernel_rfl, ?_⟩) hHeld ?_
          rotate_left 1
          · (intro W hSw; (try dsimp only at hSw); go_simp; try with_reducible rfl)
          try simp only [Act.put, List.setIfInBounds_toArray, List.set_cons_zero, List.set_cons_succ]
          refine wpAnyH_take (i := 15) (oi := ({ dst := some 69, op := Go.Op.load 43 (Go.Operand.tmp 68), type := 43, pos := "ref.go:113", after := #[{ on := 14, ground := Go.Ground.data }], guard := none } : Oper)) (v := ?_) rfl (by kernel_rfl) (by kernel_rfl) (by kernel_rfl) (fun _ _ _ h => h) (Or.inl ⟨by kernel_rfl, ?_⟩) hHeld ?_
          rotate_left 1
          · (intro W hSw; (try dsimp only at hSw); go_simp; try with_reducible rfl)
          try simp only [Act.put, List.setIfInBounds_toArray, List.set_cons_zero, List.set_cons_succ]
          refine wpAnyH_ready (rs := [1, 16]) (by kernel_rfl) (by simp) (AllReadyH.cons (o := ({ dst := some 55, op := Go.Op.load 22 (Go.Operand.tmp 54), type := 22, pos := "ref.go:113", after := #[{ on := 0, ground := Go.Ground.data }], guard := none } : Oper)) rfl (fun K hK => ?_) (AllReadyH.cons (o := ({ dst := some 70, op := Go.Op.buildSlice 22 1 #[(0, Go.Operand.tmp 69)], type := 22, pos := "ref.go:113", after := #[{ on := 15, ground := Go.Ground.data }], guard := none } : Oper)) rfl (fun K hK => ?_) AllReadyH.nil))
          · obtain ⟨m0, m1, m2, _, mt⟩ := J.out.tri (l1 := [])
            go_simp
            clear m0 m1 m2 mt
            refine hK.out _ _ sk (fun hHeld2 => ?_)
            clear hK K hHeld
            have hHeld := hHeld2
            clear hHeld2
            try simp only [Act.put, List.setIfInBounds_toArray, List.set_cons_zero, List.set_cons_succ]
            refine wpAnyH_ready (rs := [16]) (by kernel_rfl) (by simp) (AllReadyH.cons (o := ({ dst := some 70, op := Go.Op.buildSlice 22 1 #[(0, Go.Operand.tmp 69)], type := 22, pos := "ref.go:113", after := #[{ on := 15, ground := Go.Ground.data }], guard := none } : Oper)) rfl (fun K hK => ?_) AllReadyH.nil)
            go_simp
            replace J := Lib.hid (J.out.made (.cells #[.int .u8 (px.r : Int), .int .u8 (px.g : Int), .int .u8 (px.b : Int), .int .u8 (px.a : Int)] 43))
            replace Ow := Lib.hid (Ow.out.alloc (.cells #[.int .u8 (px.r : Int), .int .u8 (px.g : Int), .int .u8 (px.b : Int), .int .u8 (px.a : Int)] 43))
            have P1 := Lib.hid (pxs_one u0 px)
            generalize u0.alloc (.cells #[.int .u8 (px.r : Int), .int .u8 (px.g : Int), .int .u8 (px.b : Int), .int .u8 (px.a : Int)] 43) = u1 at *
            generalize u0.heap.size = kb at *
            (try clear sk)
            have sk := And.intro (J.out.three (l1 := [_, _])) (cA _ J.out.below).out
            refine hK.out _ _ sk (fun hHeld2 => ?_)
            clear hK K hHeld
            have hHeld := hHeld2
            clear hHeld2
            try simp only [Act.put, List.setIfInBounds_toArray, List.set_cons_zero, List.set_cons_succ]
            refine wpAnyH_ready (rs := [17]) (by kernel_rfl) (by simp) (AllReadyH.cons (o := ({ dst := some 71, op := Go.Op.call { callee := Go.Callee.builtin Go.Builtin.append, args := #[Go.Operand.tmp 55, Go.Operand.tmp 70], argTypes := #[22, 22] }, type := 22, pos := "ref.go:113", after := #[{ on := 1, ground := Go.Ground.data }, { on := 16, ground := Go.Ground.data }], guard := none } : Oper)) rfl (fun K hK => ?_) AllReadyH.nil)
            refine step_appP (by rfl) _ _ (by rfl) (base := mm + 1) (l := Lk) (m := [px]) (by rfl) (by exact Ow.out) (by rfl) (by exact P1.out) (by exact hlen.out) (by exact (J.out.tri (l1 := [])).2.2.2.2) ?_
            intro v6 u2 ho6 hg6 _
            replace J := Lib.hid (J.out.grownO hg6 Ow.out hwm (HLT _).out)
            obtain ⟨A6, c6, rfl, _, _⟩ := ho6.pxs.shape
            rw [List.length_append, List.length_singleton] at ho6
            rw [← hnx2.out] at ho6
            have O6 := Lib.hid ho6
            clear ho6 hg6
            (try clear sk)
            have sk := And.intro (J.out.three (l1 := [_, _])) (cA _ J.out.below).out
            refine hK.out _ _ sk (fun hHeld2 => ?_)
            clear hK K hHeld
            have hHeld := hHeld2
            clear hHeld2
            try simp only [Act.put, List.setIfInBounds_toArray, List.set_cons_zero, List.set_cons_succ]
            refine wpAnyH_take (i := 18) (oi := ({ dst := some 72, op := Go.Op.fieldAddr 24 (Go.Operand.tmp 6) 2, type := 0, pos := "ref.go:113", after := #[{ on := 0, ground := Go.Ground.phase }, { on := 1, ground := Go.Ground.phase }, { on := 2, ground := Go.Ground.phase }, { on := 3, ground := Go.Ground.phase }, { on := 4, ground := Go.Ground.phase }, { on := 5, ground := Go.Ground.phase }, { on := 6, ground := Go.Ground.phase }, { on := 7, ground := Go.Ground.phase }, { on := 8, ground := Go.Ground.phase }, { on := 9, ground := Go.Ground.phase }, { on := 10, ground := Go.Ground.phase }, { on := 11, ground := Go.Ground.phase }, { on := 12, ground := Go.Ground.phase }, { on := 13, ground := Go.Ground.phase }, { on := 14, ground := Go.Ground.phase }, { on := 15, ground := Go.Ground.phase }, { on := 16, ground := Go.Ground.phase }, { on := 17, ground := Go.Ground.phase }], guard := none } : Oper)) (v := ?_) rfl (by kernel_rfl) (by kernel_rfl) (by kernel_rfl) (fun _ _ _ h => h) (Or.inl ⟨by kernel_rfl, ?_⟩) hHeld ?_
            rotate_left 1
            · (intro W hSw; (try dsimp only at hSw); go_simp; try with_reducible rfl)
            try simp only [Act.put, List.setIfInBounds_toArray, List.set_cons_zero, List.set_cons_succ]
            refine wpAnyH_ready (rs := [19]) (by kernel_rfl) (by simp) (AllReadyH.cons (o := ({ dst := none, op := Go.Op.store 22 (Go.Operand.tmp 72) (Go.Operand.tmp 71), type := 0, pos := "ref.go:113", after := #[{ on := 18, ground := Go.Ground.data }, { on := 17, ground := Go.Ground.data }, { on := 17, ground := Go.Ground.chain }, { on := 0, ground := Go.Ground.phase }, { on := 1, ground := Go.Ground.phase }, { on := 2, ground := Go.Ground.phase }, { on := 3, ground := Go.Ground.phase }, { on := 4, ground := Go.Ground.phase }, { on := 5, ground := Go.Ground.phase }, { on := 6, ground := Go.Ground.phase }, { on := 7, ground := Go.Ground.phase }, { on := 8, ground := Go.Ground.phase }, { on := 9, ground := Go.Ground.phase }, { on := 10, ground := Go.Ground.phase }, { on := 11, ground := Go.Ground.phase }, { on := 12, ground := Go.Ground.phase }, { on := 13, ground := Go.Ground.phase }, { on := 14, ground := Go.Ground.phase }, { on := 15, ground := Go.Ground.phase }, { on := 16, ground := Go.Ground.phase }, { on := 17, ground := Go.Ground.phase }], guard := none } : Oper)) rfl (fun K hK => ?_) AllReadyH.nil)
            obtain ⟨z0, z1, z2, zf, zt⟩ := J.out.tri (l1 := [])
            go_simp
            have Z := Lib.hid (And.intro (O6.out.cell (k := mm) (Nat.lt_succ_self mm) 2 (.slice A6 (Lk.length + 1) c6)) (J.out.cell (l1 := []) (i := 2) (by simp) (.slice A6 (Lk.length + 1) c6)))
            replace J := Lib.hid Z.out.2
            clear z0 z1 z2 zf zt
            (try clear sk)
            have sk := And.intro (J.out.three (l1 := [_, _])) (cA _ J.out.below).out
            refine hK.out _ _ sk (fun hHeld2 => ?_)
            clear hK K hHeld
            have hHeld := hHeld2
            clear hHeld2
            try simp only [Act.put, List.setIfInBounds_toArray, List.set_cons_zero, List.set_cons_succ]
            refine wpAnyH_done (by kernel_rfl) ?_ _
            clear f1 f2 f3 f4 F
            go_wp2_with fail
            go_roundw
            case rel => exact ⟨x + 1, A6, Lk.length + 1, c6, by omega, by go_num, Z⟩
            case measure =>
              unfold leftN
              simp [intOf]
              omega
          · go_simp
            replace J := Lib.hid (J.out.made (.cells #[.int .u8 (px.r : Int), .int .u8 (px.g : Int), .int .u8 (px.b : Int), .int .u8 (px.a : Int)] 43))
            replace Ow := Lib.hid (Ow.out.alloc (.cells #[.int .u8 (px.r : Int), .int .u8 (px.g : Int), .int .u8 (px.b : Int), .int .u8 (px.a : Int)] 43))
            have P1 := Lib.hid (pxs_one u0 px)
            generalize u0.alloc (.cells #[.int .u8 (px.r : Int), .int .u8 (px.g : Int), .int .u8 (px.b : Int), .int .u8 (px.a : Int)] 43) = u1 at *
            generalize u0.heap.size = kb at *
            (try clear sk)
            have sk := And.intro (J.out.three (l1 := [_, _])) (cA _ J.out.below).out
            refine hK.out _ _ sk (fun hHeld2 => ?_)
            clear hK K hHeld
            have hHeld := hHeld2
            clear hHeld2
            try simp only [Act.put, List.setIfInBounds_toArray, List.set_cons_zero, List.set_cons_succ]
            refine wpAnyH_ready (rs := [1]) (by kernel_rfl) (by simp) (AllReadyH.cons (o := ({ dst := some 55, op := Go.Op.load 22 (Go.Operand.tmp 54), type := 22, pos := "ref.go:113", after := #[{ on := 0, ground := Go.Ground.data }], guard := none } : Oper)) rfl (fun K hK => ?_) AllReadyH.nil)
            obtain ⟨m0, m1, m2, _, mt⟩ := J.out.tri (l1 := [])
            go_simp
            clear m0 m1 m2 mt
            refine hK.out _ _ sk (fun hHeld2 => ?_)
            clear hK K hHeld
            have hHeld := hHeld2
            clear hHeld2
            try simp only [Act.put, List.setIfInBounds_toArray, List.set_cons_zero, List.set_cons_succ]
            refine wpAnyH_ready (rs := [17]) (by kernel_rfl) (by simp) (AllReadyH.cons (o := ({ dst := some 71, op := Go.Op.call { callee := Go.Callee.builtin Go.Builtin.append, args := #[Go.Operand.tmp 55, Go.Operand.tmp 70], argTypes := #[22, 22] }, type := 22, pos := "ref.go:113", after := #[{ on := 1, ground := Go.Ground.data }, { on := 16, ground := Go.Ground.data }], guard := none } : Oper)) rfl (fun K hK => ?_) AllReadyH.nil)
            refine step_appP (by rfl) _ _ (by rfl) (base := mm + 1) (l := Lk) (m := [px]) (by rfl) (by exact Ow.out) (by rfl) (by exact P1.out) (by exact hlen.out) (by exact (J.out.tri (l1 := [])).2.2.2.2) ?_
            intro v6 u2 ho6 hg6 _
            replace J := Lib.hid (J.out.grownO hg6 Ow.out hwm (HLT _).out)
            obtain ⟨A6, c6, rfl, _, _⟩ := ho6.pxs.shape
            rw [List.length_append, List.length_singleton] at ho6
            rw [← hnx2.out] at ho6
            have O6 := Lib.hid ho6
            clear ho6 hg6
            (try clear sk)
            have sk := And.intro (J.out.three (l1 := [_, _])) (cA _ J.out.below).out
            refine hK.out _ _ sk (fun hHeld2 => ?_)
            clear hK K hHeld
            have hHeld := hHeld2
            clear hHeld2
            try simp only [Act.put, List.setIfInBounds_toArray, List.set_cons_zero, List.set_cons_succ]
            refine wpAnyH_take (i := 18) (oi := ({ dst := some 72, op := Go.Op.fieldAddr 24 (Go.Operand.tmp 6) 2, type := 0, pos := "ref.go:113", after := #[{ on := 0, ground := Go.Ground.phase }, { on := 1, ground := Go.Ground.phase }, { on := 2, ground := Go.Ground.phase }, { on := 3, ground := Go.Ground.phase }, { on := 4, ground := Go.Ground.phase }, { on := 5, ground := Go.Ground.phase }, { on := 6, ground := Go.Ground.phase }, { on := 7, ground := Go.Ground.phase }, { on := 8, ground := Go.Ground.phase }, { on := 9, ground := Go.Ground.phase }, { on := 10, ground := Go.Ground.phase }, { on := 11, ground := Go.Ground.phase }, { on := 12, ground := Go.Ground.phase }, { on := 13, ground := Go.Ground.phase }, { on := 14, ground := Go.Ground.phase }, { on := 15, ground := Go.Ground.phase }, { on := 16, ground := Go.Ground.phase }, { on := 17, ground := Go.Ground.phase }], guard := none } : Oper)) (v := ?_) rfl (by kernel_rfl) (by kernel_rfl) (by kernel_rfl) (fun _ _ _ h => h) (Or.inl ⟨by kernel_rfl, ?_⟩) hHeld ?_
            rotate_left 1
            · (intro W hSw; (try dsimp only at hSw); go_simp; try with_reducible rfl)
            try simp only [Act.put, List.setIfInBounds_toArray, List.set_cons_zero, List.set_cons_succ]
            refine wpAnyH_ready (rs := [19]) (by kernel_rfl) (by simp) (AllReadyH.cons (o := ({ dst := none, op := Go.Op.store 22 (Go.Operand.tmp 72) (Go.Operand.tmp 71), type := 0, pos := "ref.go:113", after := #[{ on := 18, ground := Go.Ground.data }, { on := 17, ground := Go.Ground.data }, { on := 17, ground := Go.Ground.chain }, { on := 0, ground := Go.Ground.phase }, { on := 1, ground := Go.Ground.phase }, { on := 2, ground := Go.Ground.phase }, { on := 3, ground := Go.Ground.phase }, { on := 4, ground := Go.Ground.phase }, { on := 5, ground := Go.Ground.phase }, { on := 6, ground := Go.Ground.phase }, { on := 7, ground := Go.Ground.phase }, { on := 8, ground := Go.Ground.phase }, { on := 9, ground := Go.Ground.phase }, { on := 10, ground := Go.Ground.phase }, { on := 11, ground := Go.Ground.phase }, { on := 12, ground := Go.Ground.phase }, { on := 13, ground := Go.Ground.phase }, { on := 14, ground := Go.Ground.phase }, { on := 15, ground := Go.Ground.phase }, { on := 16, ground := Go.Ground.phase }, { on := 17, ground := Go.Ground.phase }], guard := none } : Oper)) rfl (fun K hK => ?_) AllReadyH.nil)
            obtain ⟨z0, z1, z2, zf, zt⟩ := J.out.tri (l1 := [])
            go_simp
            have Z := Lib.hid (And.intro (O6.out.cell (k := mm) (Nat.lt_succ_self mm) 2 (.slice A6 (Lk.length + 1) c6)) (J.out.cell (l1 := []) (i := 2) (by simp) (.slice A6 (Lk.length + 1) c6)))
            replace J := Lib.hid Z.out.2
            clear z0 z1 z2 zf zt
            (try clear sk)
            have sk := And.intro (J.out.three (l1 := [_, _])) (cA _ J.out.below).out
            refine hK.out _ _ sk (fun hHeld2 => ?_)
            clear hK K hHeld
            have hHeld := hHeld2
            clear hHeld2
            try simp only [Act.put, List.setIfInBounds_toArray, List.set_cons_zero, List.set_cons_succ]
            refine wpAnyH_done (by kernel_rfl) ?_ _
            clear f1 f2 f3 f4 F
            go_wp2_with fail
            go_roundw
            case rel => exact ⟨x + 1, A6, Lk.length + 1, c6, by omega, by go_num, Z⟩
            case measure =>
              unfold leftN
              simp [intOf]
              omega
        · obtain rfl : p = x := by omega
          have q2 : ¬ (p : Int) < p := by omega
          rw [show y * p + p = (y + 1) * p by rw [Nat.add_mul, Nat.one_mul]] at HS
          go_wp2_with fail
          go_roundw
          case rel => exact ⟨y + 1, A1, k1, c1, by omega, by go_num, HS⟩
          case measure =>
            unfold leftN
            simp [intOf]
            omega
    · obtain rfl : q = y := by omega
      have q1 : ¬ (q : Int) < q := by omega
      have hO : O.take (q * p) = O := List.take_of_length_le (by rw [HL.out, Nat.mul_comm]; exact Nat.le_refl _)
      rw [hO] at HR
      have Q := Lib.hid ((HR.out.1.set3 (k := w.heap.size + 1) (by omega) (.int .i64 (p : Int)) (.int .i64 (q : Int)) (.slice A1 k1 c1)).res (w := w) (by omega) (by rw [HL.out]; omega))
      have K := Lib.hid (below_set3 (y0 := .int .i64 (p : Int)) (y1 := .int .i64 (q : Int)) (y2 := .slice A1 k1 c1) HR.out.2.below (by omega : w.heap.size ≤ w.heap.size + 1))
      obtain ⟨z0, z1, z2, zf, zt⟩ := HR.out.2.tri (l1 := [_])
      clear HR hO
      go_wp2_with fail
      exact bodyPost_ret (v := .tuple #[.agg #[.int .i64 (p : Int), .int .i64 (q : Int), .slice A1 k1 c1], .int .i64 0]) (by simp [results, Try.results21, go_sem, z0, z1, z2]) rfl ⟨_, rfl, Q.out, K.out⟩

end Go.Proofs.Ytnkbejbpkjkgeaa
