/-
  MapRect of the reference of package scale.
-/
import Derived.Test.YtnkbejbpkjkgeaaRflo
import Derived.Test.YtnkbejbpkjkgeaaRcan
import Derived.Test.YtnkbejbpkjkgeaaHw
namespace Go.Proofs.Ytnkbejbpkjkgeaa
open Go.RowKit

theorem heldM (w : World) (r : R) : Held w ((w.alloc (.cells #[.int .i64 r.x0, .int .i64 r.y0, .int .i64 r.x1, .int .i64 r.y1] 34)).alloc (.cells #[.int .i64 0, .int .i64 0, .int .i64 0, .int .i64 0] 34)) [(w.heap.size + 1, [.int .i64 0, .int .i64 0, .int .i64 0, .int .i64 0]), (w.heap.size, [.int .i64 r.x0, .int .i64 r.y0, .int .i64 r.x1, .int .i64 r.y1])] := by
  have h := ((Held.nil w).alloc [.int .i64 r.x0, .int .i64 r.y0, .int .i64 r.x1, .int .i64 r.y1] 34).alloc [.int .i64 0, .int .i64 0, .int .i64 0, .int .i64 0] 34
  rw [World.size_alloc] at h
  exact h
theorem four4 {a b c d e f : Prop} (h : a ∧ b ∧ c ∧ d ∧ e ∧ f) : a ∧ b ∧ c ∧ d := ⟨h.1, h.2.1, h.2.2.1, h.2.2.2.1⟩

set_option maxRecDepth 100000 in
set_option maxHeartbeats 4000000 in
theorem rmap_full {r : R} {fw fh tw th : Int} (h1 : empB r = false) (h2 : sizB fw fh = true) (h3 : sizB tw th = true) (w : World) : Calls Try.prog 23 #[.agg #[.int .i64 r.x0, .int .i64 r.y0, .int .i64 r.x1, .int .i64 r.y1], .int .i64 fw, .int .i64 fh, .int .i64 tw, .int .i64 th] w fun e w' => e = .returned (.agg #[.int .i64 (mapR r fw fh tw th).x0, .int .i64 (mapR r fw fh tw th).y0, .int .i64 (mapR r fw fh tw th).x1, .int .i64 (mapR r fw fh tw th).y1]) ∧ Below w.heap.size w w' := by
  have J := Lib.hid (heldM w r)
  have CE := fun W => Lib.hid (rempty_any r W)
  rw [h1] at CE
  have CS := fun W => Lib.hid (rsized_any fw fh W)
  rw [h2] at CS
  have CT := fun W => Lib.hid (rsized_any tw th W)
  rw [h3] at CT
  rw [map_yes h1 h2 h3]
  obtain ⟨b1, b2⟩ := siz_iff.1 h2
  obtain ⟨b3, b4⟩ := siz_iff.1 h3
  have hr := (emp_no r).1 h1
  obtain ⟨X, hX⟩ : ∃ z : Int, -r.x1 = z := ⟨_, rfl⟩
  obtain ⟨Y, hY⟩ : ∃ z : Int, -r.y1 = z := ⟨_, rfl⟩
  have D1 := fun W => Lib.hid (rfloor_any (a := r.x0) (b := tw) (c := fw) (by omega) b3 b1 W)
  have D2 := fun W => Lib.hid (rfloor_any (a := r.y0) (b := th) (c := fh) (by omega) b4 b2 W)
  have D3 := fun W => Lib.hid (rfloor_any (a := X) (b := tw) (c := fw) (by omega) b3 b1 W)
  have D4 := fun W => Lib.hid (rfloor_any (a := Y) (b := th) (c := fh) (by omega) b4 b2 W)
  have e3 : -flI X tw fw = clI r.x1 tw fw := by rw [← hX]; rfl
  have e4 : -flI Y th fh = clI r.y1 th fh := by rw [← hY]; rfl
  have q3 : -5000000 ≤ flI X tw fw ∧ flI X tw fw ≤ 5000000 := by
    have g := ediv_bd (X * tw) (c := fw) (by omega)
    constructor
    · have : -5000000 - 1 < flI X tw fw := by
        rcases Int.lt_or_le (-5000000 - 1) (flI X tw fw) with h | h
        · exact h
        · rw [fl_lt (by omega)] at h
          have h5 := Int.mul_le_mul_of_nonneg_right (show -16384 ≤ X by omega) (show 0 ≤ tw by omega)
          have h6 : (-5000000 - 1 + 1) * fw ≤ -5000000 := by
            have := Int.mul_le_mul_of_nonneg_left (show 1 ≤ fw by omega) (show (0 : Int) ≤ 5000000 by omega)
            omega
          omega
      omega
    · rw [fl_lt (by omega)]
      have h5 := Int.mul_le_mul_of_nonneg_right (show X ≤ 16384 by omega) (show 0 ≤ tw by omega)
      have h6 := Int.mul_le_mul_of_nonneg_left (show 1 ≤ fw by omega) (show (0 : Int) ≤ 5000001 by omega)
      omega
  have q4 : -5000000 ≤ flI Y th fh ∧ flI Y th fh ≤ 5000000 := by
    have g := ediv_bd (Y * th) (c := fh) (by omega)
    constructor
    · have : -5000000 - 1 < flI Y th fh := by
        rcases Int.lt_or_le (-5000000 - 1) (flI Y th fh) with h | h
        · exact h
        · rw [fl_lt (by omega)] at h
          have h5 := Int.mul_le_mul_of_nonneg_right (show -16384 ≤ Y by omega) (show 0 ≤ th by omega)
          have h6 : (-5000000 - 1 + 1) * fh ≤ -5000000 := by
            have := Int.mul_le_mul_of_nonneg_left (show 1 ≤ fh by omega) (show (0 : Int) ≤ 5000000 by omega)
            omega
          omega
      omega
    · rw [fl_lt (by omega)]
      have h5 := Int.mul_le_mul_of_nonneg_right (show Y ≤ 16384 by omega) (show 0 ≤ th by omega)
      have h6 := Int.mul_le_mul_of_nonneg_left (show 1 ≤ fh by omega) (show (0 : Int) ≤ 5000001 by omega)
      omega
  have E1 := fun W => Lib.hid (rlimited_any (flI r.x0 tw fw) W)
  have E2 := fun W => Lib.hid (rlimited_any (flI r.y0 th fh) W)
  have E3 := fun W => Lib.hid (rlimited_any (clI r.x1 tw fw) W)
  have E4 := fun W => Lib.hid (rlimited_any (clI r.y1 th fh) W)
  have F := Lib.hid (show IntKind.i64.wrap (-r.x1) = X ∧ IntKind.i64.wrap (-r.y1) = Y ∧ IntKind.i64.wrap (-flI X tw fw) = clI r.x1 tw fw ∧ IntKind.i64.wrap (-flI Y th fh) = clI r.y1 th fh from by
    refine ⟨?_, ?_, ?_, ?_⟩
    · rw [hX]; exact IntWalk.i64_in _ (by omega)
    · rw [hY]; exact IntWalk.i64_in _ (by omega)
    · rw [← e3]; exact IntWalk.i64_in _ (by omega)
    · rw [← e4]; exact IntWalk.i64_in _ (by omega))
  have DC := fun W => Lib.hid (rcanon_any ⟨limI (flI r.x0 tw fw), limI (flI r.y0 th fh), limI (clI r.x1 tw fw), limI (clI r.y1 th fh)⟩ W)
  clear e3 e4 q3 q4 hX hY b1 b2 b3 b4 hr h1 h2 h3
  generalize limI (flI r.x0 tw fw) = L0 at *
  generalize limI (flI r.y0 th fh) = L1 at *
  generalize limI (clI r.x1 tw fw) = L2 at *
  generalize limI (clI r.y1 th fh) = L3 at *
  generalize canR ⟨L0, L1, L2, L3⟩ = Z at *
  generalize flI r.x0 tw fw = G0 at *
  generalize flI r.y0 th fh = G1 at *
  generalize flI X tw fw = G2 at *
  generalize flI Y th fh = G3 at *
  generalize clI r.x1 tw fw = H2 at *
  generalize clI r.y1 th fh = H3 at *
  go_enter Try.func23, Try.ntmps23
  go_wp2_with fail
  refine (CE _).out.mono ?_
  rintro e w1 ⟨rfl, hb⟩
  replace J := Lib.hid (J.out.step hb)
  clear hb
  go_wp2_with fail
  refine (CS _).out.mono ?_
  rintro e u9 ⟨rfl, rfl⟩
  go_wp2_with fail
  refine (CT _).out.mono ?_
  rintro e u9 ⟨rfl, rfl⟩
  go_wp2_with fail
  replace J := Lib.hid J.out.drew
  have sk := four4 (J.out.four (l1 := [_]))
  obtain ⟨f1, f2, f3, f4⟩ := F.out
  refine wp_region_held_drew (S := (fun W => W.cell? ⟨w.heap.size, 0, none⟩ = some (.int .i64 r.x0) ∧ W.cell? ⟨w.heap.size, 1, none⟩ = some (.int .i64 r.y0) ∧ W.cell? ⟨w.heap.size, 2, none⟩ = some (.int .i64 r.x1) ∧ W.cell? ⟨w.heap.size, 3, none⟩ = some (.int .i64 r.y1))) (by kernel_rfl) sk (fun hHeld => ?_)
  generalize w1.drew = u0 at *
  refine wpAnyH_take (i := 0) (oi := ({ dst := some 26, op := Go.Op.fieldAddr 34 (Go.Operand.tmp 5) 0, type := 0, pos := "ref.go:136", after := #[], guard := none } : Oper)) (v := ?_) rfl (by kernel_rfl) (by kernel_rfl) (by kernel_rfl) (fun _ _ _ h => h) (Or.inl ⟨by kernel_rfl, ?_⟩) hHeld ?_
  rotate_left 1
  · (intro W hSw; (try dsimp only at hSw); go_simp; try with_reducible rfl)
  try simp only [Act.put, List.setIfInBounds_toArray, List.set_cons_zero, List.set_cons_succ]
  refine wpAnyH_take (i := 1) (oi := ({ dst := some 27, op := Go.Op.load 3 (Go.Operand.tmp 26), type := 3, pos := "ref.go:136", after := #[{ on := 0, ground := Go.Ground.data }], guard := none } : Oper)) (v := ?_) rfl (by kernel_rfl) (by kernel_rfl) (by kernel_rfl) (fun _ _ _ h => h) (Or.inl ⟨by kernel_rfl, ?_⟩) hHeld ?_
  rotate_left 1
  · (intro W hSw; (try dsimp only at hSw); go_simp; try with_reducible rfl)
  try simp only [Act.put, List.setIfInBounds_toArray, List.set_cons_zero, List.set_cons_succ]
  refine wpAnyH_take (i := 2) (oi := ({ dst := some 28, op := Go.Op.move (Go.Operand.tmp 3), type := 3, pos := "ref.go:136", after := #[], guard := none } : Oper)) (v := ?_) rfl (by kernel_rfl) (by kernel_rfl) (by kernel_rfl) (fun _ _ _ h => h) (Or.inl ⟨by kernel_rfl, ?_⟩) hHeld ?_
  rotate_left 1
  · (intro W hSw; (try dsimp only at hSw); go_simp; try with_reducible rfl)
  try simp only [Act.put, List.setIfInBounds_toArray, List.set_cons_zero, List.set_cons_succ]
  refine wpAnyH_take (i := 3) (oi := ({ dst := some 29, op := Go.Op.move (Go.Operand.tmp 1), type := 3, pos := "ref.go:136", after := #[], guard := none } : Oper)) (v := ?_) rfl (by kernel_rfl) (by kernel_rfl) (by kernel_rfl) (fun _ _ _ h => h) (Or.inl ⟨by kernel_rfl, ?_⟩) hHeld ?_
  rotate_left 1
  · (intro W hSw; (try dsimp only at hSw); go_simp; try with_reducible rfl)
  try simp only [Act.put, List.setIfInBounds_toArray, List.set_cons_zero, List.set_cons_succ]
  refine wpAnyH_take (i := 6) (oi := ({ dst := some 32, op := Go.Op.fieldAddr 34 (Go.Operand.tmp 5) 1, type := 0, pos := "ref.go:136", after := #[], guard := none } : Oper)) (v := ?_) rfl (by kernel_rfl) (by kernel_rfl) (by kernel_rfl) (fun _ _ _ h => h) (Or.inl ⟨by kernel_rfl, ?_⟩) hHeld ?_
  rotate_left 1
  · (intro W hSw; (try dsimp only at hSw); go_simp; try with_reducible rfl)
  try simp only [Act.put, List.setIfInBounds_toArray, List.set_cons_zero, List.set_cons_succ]
  refine wpAnyH_take (i := 7) (oi := ({ dst := some 33, op := Go.Op.load 3 (Go.Operand.tmp 32), type := 3, pos := "ref.go:136", after := #[{ on := 6, ground := Go.Ground.data }], guard := none } : Oper)) (v := ?_) rfl (by kernel_rfl) (by kernel_rfl) (by kernel_rfl) (fun _ _ _ h => h) (Or.inl ⟨by kernel_rfl, ?_⟩) hHeld ?_
  rotate_left 1
  · (intro W hSw; (try dsimp only at hSw); go_simp; try with_reducible rfl)
  try simp only [Act.put, List.setIfInBounds_toArray, List.set_cons_zero, List.set_cons_succ]
  refine wpAnyH_take (i := 8) (oi := ({ dst := some 34, op := Go.Op.move (Go.Operand.tmp 4), type := 3, pos := "ref.go:136", after := #[], guard := none } : Oper)) (v := ?_) rfl (by kernel_rfl) (by kernel_rfl) (by kernel_rfl) (fun _ _ _ h => h) (Or.inl ⟨by kernel_rfl, ?_⟩) hHeld ?_
  rotate_left 1
  · (intro W hSw; (try dsimp only at hSw); go_simp; try with_reducible rfl)
  try simp only [Act.put, List.setIfInBounds_toArray, List.set_cons_zero, List.set_cons_succ]
  refine wpAnyH_take (i := 9) (oi := ({ dst := some 35, op := Go.Op.move (Go.Operand.tmp 2), type := 3, pos := "ref.go:136", after := #[], guard := none } : Oper)) (v := ?_) rfl (by kernel_rfl) (by kernel_rfl) (by kernel_rfl) (fun _ _ _ h => h) (Or.inl ⟨by kernel_rfl, ?_⟩) hHeld ?_
  rotate_left 1
  · (intro W hSw; (try dsimp only at hSw); go_simp; try with_reducible rfl)
  try simp only [Act.put, List.setIfInBounds_toArray, List.set_cons_zero, List.set_cons_succ]
  refine wpAnyH_take (i := 12) (oi := ({ dst := some 38, op := Go.Op.fieldAddr 34 (Go.Operand.tmp 5) 2, type := 0, pos := "ref.go:136", after := #[], guard := none } : Oper)) (v := ?_) rfl (by kernel_rfl) (by kernel_rfl) (by kernel_rfl) (fun _ _ _ h => h) (Or.inl ⟨by kernel_rfl, ?_⟩) hHeld ?_
  rotate_left 1
  · (intro W hSw; (try dsimp only at hSw); go_simp; try with_reducible rfl)
  try simp only [Act.put, List.setIfInBounds_toArray, List.set_cons_zero, List.set_cons_succ]
  refine wpAnyH_take (i := 13) (oi := ({ dst := some 39, op := Go.Op.load 3 (Go.Operand.tmp 38), type := 3, pos := "ref.go:136", after := #[{ on := 12, ground := Go.Ground.data }], guard := none } : Oper)) (v := ?_) rfl (by kernel_rfl) (by kernel_rfl) (by kernel_rfl) (fun _ _ _ h => h) (Or.inl ⟨by kernel_rfl, ?_⟩) hHeld ?_
  rotate_left 1
  · (intro W hSw; (try dsimp only at hSw); go_simp; try with_reducible rfl)
  try simp only [Act.put, List.setIfInBounds_toArray, List.set_cons_zero, List.set_cons_succ]
  refine wpAnyH_take (i := 14) (oi := ({ dst := some 40, op := Go.Op.unOp Go.UnOp.neg 3 (Go.Operand.tmp 39), type := 3, pos := "ref.go:136", after := #[{ on := 13, ground := Go.Ground.data }], guard := none } : Oper)) (v := ?_) rfl (by kernel_rfl) (by kernel_rfl) (by kernel_rfl) (fun _ _ _ h => h) (Or.inl ⟨by kernel_rfl, ?_⟩) hHeld ?_
  rotate_left 1
  · (intro W hSw; (try dsimp only at hSw); go_simp; try with_reducible rfl)
  try simp only [Act.put, List.setIfInBounds_toArray, List.set_cons_zero, List.set_cons_succ]
  refine wpAnyH_take (i := 15) (oi := ({ dst := some 41, op := Go.Op.move (Go.Operand.tmp 3), type := 3, pos := "ref.go:136", after := #[], guard := none } : Oper)) (v := ?_) rfl (by kernel_rfl) (by kernel_rfl) (by kernel_rfl) (fun _ _ _ h => h) (Or.inl ⟨by kernel_rfl, ?_⟩) hHeld ?_
  rotate_left 1
  · (intro W hSw; (try dsimp only at hSw); go_simp; try with_reducible rfl)
  try simp only [Act.put, List.setIfInBounds_toArray, List.set_cons_zero, List.set_cons_succ]
  refine wpAnyH_take (i := 16) (oi := ({ dst := some 42, op := Go.Op.move (Go.Operand.tmp 1), type := 3, pos := "ref.go:136", after := #[], guard := none } : Oper)) (v := ?_) rfl (by kernel_rfl) (by kernel_rfl) (by kernel_rfl) (fun _ _ _ h => h) (Or.inl ⟨by kernel_rfl, ?_⟩) hHeld ?_
  rotate_left 1
  · (intro W hSw; (try dsimp only at hSw); go_simp; try with_reducible rfl)
  try simp only [Act.put, List.setIfInBounds_toArray, List.set_cons_zero, List.set_cons_succ]
  refine wpAnyH_take (i := 20) (oi := ({ dst := some 46, op := Go.Op.fieldAddr 34 (Go.Operand.tmp 5) 3, type := 0, pos := "ref.go:136", after := #[], guard := none } : Oper)) (v := ?_) rfl (by kernel_rfl) (by kernel_rfl) (by kernel_rfl) (fun _ _ _ h => h) (Or.inl ⟨by kernel_rfl, ?_⟩) hHeld ?_
  rotate_left 1
  · (intro W hSw; (try dsimp only at hSw); go_simp; try with_reducible rfl)
  try simp only [Act.put, List.setIfInBounds_toArray, List.set_cons_zero, List.set_cons_succ]
  refine wpAnyH_take (i := 21) (oi := ({ dst := some 47, op := Go.Op.load 3 (Go.Operand.tmp 46), type := 3, pos := "ref.go:136", after := #[{ on := 20, ground := Go.Ground.data }], guard := none } : Oper)) (v := ?_) rfl (by kernel_rfl) (by kernel_rfl) (by kernel_rfl) (fun _ _ _ h => h) (Or.inl ⟨by kernel_rfl, ?_⟩) hHeld ?_
  rotate_left 1
  · (intro W hSw; (try dsimp only at hSw); go_simp; try with_reducible rfl)
  try simp only [Act.put, List.setIfInBounds_toArray, List.set_cons_zero, List.set_cons_succ]
  refine wpAnyH_take (i := 22) (oi := ({ dst := some 48, op := Go.Op.unOp Go.UnOp.neg 3 (Go.Operand.tmp 47), type := 3, pos := "ref.go:136", after := #[{ on := 21, ground := Go.Ground.data }], guard := none } : Oper)) (v := ?_) rfl (by kernel_rfl) (by kernel_rfl) (by kernel_rfl) (fun _ _ _ h => h) (Or.inl ⟨by kernel_rfl, ?_⟩) hHeld ?_
  rotate_left 1
  · (intro W hSw; (try dsimp only at hSw); go_simp; try with_reducible rfl)
  try simp only [Act.put, List.setIfInBounds_toArray, List.set_cons_zero, List.set_cons_succ]
  refine wpAnyH_take (i := 23) (oi := ({ dst := some 49, op := Go.Op.move (Go.Operand.tmp 4), type := 3, pos := "ref.go:136", after := #[], guard := none } : Oper)) (v := ?_) rfl (by kernel_rfl) (by kernel_rfl) (by kernel_rfl) (fun _ _ _ h => h) (Or.inl ⟨by kernel_rfl, ?_⟩) hHeld ?_
  rotate_left 1
  · (intro W hSw; (try dsimp only at hSw); go_simp; try with_reducible rfl)
  try simp only [Act.put, List.setIfInBounds_toArray, List.set_cons_zero, List.set_cons_succ]
  refine wpAnyH_take (i := 24) (oi := ({ dst := some 50, op := Go.Op.move (Go.Operand.tmp 2), type := 3, pos := "ref.go:136", after := #[], guard := none } : Oper)) (v := ?_) rfl (by kernel_rfl) (by kernel_rfl) (by kernel_rfl) (fun _ _ _ h => h) (Or.inl ⟨by kernel_rfl, ?_⟩) hHeld ?_
  rotate_left 1
  · (intro W hSw; (try dsimp only at hSw); go_simp; try with_reducible rfl)
  try simp only [Act.put, List.setIfInBounds_toArray, List.set_cons_zero, List.set_cons_succ]
  refine wpAnyH_ready (rs := [4]) (by kernel_rfl) (by simp) (AllReadyH.cons (o := ({ dst := some 30, op := Go.Op.call { callee := Go.Callee.value (Go.Operand.func 47), args := #[Go.Operand.tmp 27, Go.Operand.tmp 28, Go.Operand.tmp 29], argTypes := #[3, 3, 3] }, type := 3, pos := "ref.go:137", after := #[{ on := 1, ground := Go.Ground.data }, { on := 2, ground := Go.Ground.data }, { on := 3, ground := Go.Ground.data }], guard := none } : Oper)) rfl (fun K hK => ?_) AllReadyH.nil)
  go_simp
  refine (D1 _).out.mono ?_
  rintro e u9 ⟨rfl, rfl⟩
  refine hK.out _ _ sk (fun hHeld2 => ?_)
  clear hK K hHeld
  have hHeld := hHeld2
  clear hHeld2
  try simp only [Act.put, List.setIfInBounds_toArray, List.set_cons_zero, List.set_cons_succ]
  refine wpAnyH_ready (rs := [5]) (by kernel_rfl) (by simp) (AllReadyH.cons (o := ({ dst := some 31, op := Go.Op.call { callee := Go.Callee.value (Go.Operand.func 46), args := #[Go.Operand.tmp 30], argTypes := #[3] }, type := 3, pos := "ref.go:137", after := #[{ on := 4, ground := Go.Ground.data }, { on := 4, ground := Go.Ground.chain }], guard := none } : Oper)) rfl (fun K hK => ?_) AllReadyH.nil)
  go_simp
  refine (E1 _).out.mono ?_
  rintro e u9 ⟨rfl, rfl⟩
  refine hK.out _ _ sk (fun hHeld2 => ?_)
  clear hK K hHeld
  have hHeld := hHeld2
  clear hHeld2
  try simp only [Act.put, List.setIfInBounds_toArray, List.set_cons_zero, List.set_cons_succ]
  refine wpAnyH_ready (rs := [10]) (by kernel_rfl) (by simp) (AllReadyH.cons (o := ({ dst := some 36, op := Go.Op.call { callee := Go.Callee.value (Go.Operand.func 47), args := #[Go.Operand.tmp 33, Go.Operand.tmp 34, Go.Operand.tmp 35], argTypes := #[3, 3, 3] }, type := 3, pos := "ref.go:138", after := #[{ on := 7, ground := Go.Ground.data }, { on := 8, ground := Go.Ground.data }, { on := 9, ground := Go.Ground.data }, { on := 5, ground := Go.Ground.chain }], guard := none } : Oper)) rfl (fun K hK => ?_) AllReadyH.nil)
  go_simp
  refine (D2 _).out.mono ?_
  rintro e u9 ⟨rfl, rfl⟩
  refine hK.out _ _ sk (fun hHeld2 => ?_)
  clear hK K hHeld
  have hHeld := hHeld2
  clear hHeld2
  try simp only [Act.put, List.setIfInBounds_toArray, List.set_cons_zero, List.set_cons_succ]
  refine wpAnyH_ready (rs := [11]) (by kernel_rfl) (by simp) (AllReadyH.cons (o := ({ dst := some 37, op := Go.Op.call { callee := Go.Callee.value (Go.Operand.func 46), args := #[Go.Operand.tmp 36], argTypes := #[3] }, type := 3, pos := "ref.go:138", after := #[{ on := 10, ground := Go.Ground.data }, { on := 10, ground := Go.Ground.chain }], guard := none } : Oper)) rfl (fun K hK => ?_) AllReadyH.nil)
  go_simp
  refine (E2 _).out.mono ?_
  rintro e u9 ⟨rfl, rfl⟩
  refine hK.out _ _ sk (fun hHeld2 => ?_)
  clear hK K hHeld
  have hHeld := hHeld2
  clear hHeld2
  try simp only [Act.put, List.setIfInBounds_toArray, List.set_cons_zero, List.set_cons_succ]
  refine wpAnyH_ready (rs := [17]) (by kernel_rfl) (by simp) (AllReadyH.cons (o := ({ dst := some 43, op := Go.Op.call { callee := Go.Callee.value (Go.Operand.func 47), args := #[Go.Operand.tmp 40, Go.Operand.tmp 41, Go.Operand.tmp 42], argTypes := #[3, 3, 3] }, type := 3, pos := "ref.go:139", after := #[{ on := 14, ground := Go.Ground.data }, { on := 15, ground := Go.Ground.data }, { on := 16, ground := Go.Ground.data }, { on := 11, ground := Go.Ground.chain }], guard := none } : Oper)) rfl (fun K hK => ?_) AllReadyH.nil)
  go_simp
  refine (D3 _).out.mono ?_
  rintro e u9 ⟨rfl, rfl⟩
  refine hK.out _ _ sk (fun hHeld2 => ?_)
  clear hK K hHeld
  have hHeld := hHeld2
  clear hHeld2
  try simp only [Act.put, List.setIfInBounds_toArray, List.set_cons_zero, List.set_cons_succ]
  refine wpAnyH_take (i := 18) (oi := ({ dst := some 44, op := Go.Op.unOp Go.UnOp.neg 3 (Go.Operand.tmp 43), type := 3, pos := "ref.go:136", after := #[{ on := 17, ground := Go.Ground.data }], guard := none } : Oper)) (v := ?_) rfl (by kernel_rfl) (by kernel_rfl) (by kernel_rfl) (fun _ _ _ h => h) (Or.inl ⟨by kernel_rfl, ?_⟩) hHeld ?_
  rotate_left 1
  · (intro W hSw; (try dsimp only at hSw); go_simp; try with_reducible rfl)
  try simp only [Act.put, List.setIfInBounds_toArray, List.set_cons_zero, List.set_cons_succ]
  refine wpAnyH_ready (rs := [19]) (by kernel_rfl) (by simp) (AllReadyH.cons (o := ({ dst := some 45, op := Go.Op.call { callee := Go.Callee.value (Go.Operand.func 46), args := #[Go.Operand.tmp 44], argTypes := #[3] }, type := 3, pos := "ref.go:139", after := #[{ on := 18, ground := Go.Ground.data }, { on := 17, ground := Go.Ground.chain }], guard := none } : Oper)) rfl (fun K hK => ?_) AllReadyH.nil)
  go_simp
  refine (E3 _).out.mono ?_
  rintro e u9 ⟨rfl, rfl⟩
  refine hK.out _ _ sk (fun hHeld2 => ?_)
  clear hK K hHeld
  have hHeld := hHeld2
  clear hHeld2
  try simp only [Act.put, List.setIfInBounds_toArray, List.set_cons_zero, List.set_cons_succ]
  refine wpAnyH_ready (rs := [25]) (by kernel_rfl) (by simp) (AllReadyH.cons (o := ({ dst := some 51, op := Go.Op.call { callee := Go.Callee.value (Go.Operand.func 47), args := #[Go.Operand.tmp 48, Go.Operand.tmp 49, Go.Operand.tmp 50], argTypes := #[3, 3, 3] }, type := 3, pos := "ref.go:140", after := #[{ on := 22, ground := Go.Ground.data }, { on := 23, ground := Go.Ground.data }, { on := 24, ground := Go.Ground.data }, { on := 19, ground := Go.Ground.chain }], guard := none } : Oper)) rfl (fun K hK => ?_) AllReadyH.nil)
  go_simp
  refine (D4 _).out.mono ?_
  rintro e u9 ⟨rfl, rfl⟩
  refine hK.out _ _ sk (fun hHeld2 => ?_)
  clear hK K hHeld
  have hHeld := hHeld2
  clear hHeld2
  try simp only [Act.put, List.setIfInBounds_toArray, List.set_cons_zero, List.set_cons_succ]
  refine wpAnyH_take (i := 26) (oi := ({ dst := some 52, op := Go.Op.unOp Go.UnOp.neg 3 (Go.Operand.tmp 51), type := 3, pos := "ref.go:136", after := #[{ on := 25, ground := Go.Ground.data }], guard := none } : Oper)) (v := ?_) rfl (by kernel_rfl) (by kernel_rfl) (by kernel_rfl) (fun _ _ _ h => h) (Or.inl ⟨by kernel_rfl, ?_⟩) hHeld ?_
  rotate_left 1
  · (intro W hSw; (try dsimp only at hSw); go_simp; try with_reducible rfl)
  try simp only [Act.put, List.setIfInBounds_toArray, List.set_cons_zero, List.set_cons_succ]
  refine wpAnyH_ready (rs := [27]) (by kernel_rfl) (by simp) (AllReadyH.cons (o := ({ dst := some 53, op := Go.Op.call { callee := Go.Callee.value (Go.Operand.func 46), args := #[Go.Operand.tmp 52], argTypes := #[3] }, type := 3, pos := "ref.go:140", after := #[{ on := 26, ground := Go.Ground.data }, { on := 25, ground := Go.Ground.chain }], guard := none } : Oper)) rfl (fun K hK => ?_) AllReadyH.nil)
  go_simp
  refine (E4 _).out.mono ?_
  rintro e u9 ⟨rfl, rfl⟩
  refine hK.out _ _ sk (fun hHeld2 => ?_)
  clear hK K hHeld
  have hHeld := hHeld2
  clear hHeld2
  try simp only [Act.put, List.setIfInBounds_toArray, List.set_cons_zero, List.set_cons_succ]
  refine wpAnyH_take (i := 28) (oi := ({ dst := some 54, op := Go.Op.build 34 #[(0, Go.Operand.tmp 31), (1, Go.Operand.tmp 37), (2, Go.Operand.tmp 45), (3, Go.Operand.tmp 53)], type := 34, pos := "ref.go:136", after := #[{ on := 5, ground := Go.Ground.data }, { on := 11, ground := Go.Ground.data }, { on := 19, ground := Go.Ground.data }, { on := 27, ground := Go.Ground.data }], guard := none } : Oper)) (v := ?_) rfl (by kernel_rfl) (by kernel_rfl) (by kernel_rfl) (fun _ _ _ h => h) (Or.inl ⟨by kernel_rfl, ?_⟩) hHeld ?_
  rotate_left 1
  · (intro W hSw; (try dsimp only at hSw); go_simp; try with_reducible rfl)
  try simp only [Act.put, List.setIfInBounds_toArray, List.set_cons_zero, List.set_cons_succ]
  refine wpAnyH_ready (rs := [29]) (by kernel_rfl) (by simp) (AllReadyH.cons (o := ({ dst := some 55, op := Go.Op.call { callee := Go.Callee.value (Go.Operand.func 25), args := #[Go.Operand.tmp 54], argTypes := #[34] }, type := 34, pos := "ref.go:136", after := #[{ on := 28, ground := Go.Ground.data }, { on := 27, ground := Go.Ground.chain }], guard := none } : Oper)) rfl (fun K hK => ?_) AllReadyH.nil)
  go_simp
  refine (DC _).out.mono ?_
  rintro e u1 ⟨rfl, hb⟩
  replace J := Lib.hid (J.out.step hb)
  clear hb
  (try clear sk)
  have sk := four4 (J.out.four (l1 := [_]))
  refine hK.out _ _ sk (fun hHeld2 => ?_)
  clear hK K hHeld
  have hHeld := hHeld2
  clear hHeld2
  try simp only [Act.put, List.setIfInBounds_toArray, List.set_cons_zero, List.set_cons_succ]
  refine wpAnyH_ready (rs := [30]) (by kernel_rfl) (by simp) (AllReadyH.cons (o := ({ dst := none, op := Go.Op.store 34 (Go.Operand.tmp 10) (Go.Operand.tmp 55), type := 0, pos := "ref.go:136", after := #[{ on := 29, ground := Go.Ground.data }, { on := 29, ground := Go.Ground.chain }, { on := 0, ground := Go.Ground.phase }, { on := 1, ground := Go.Ground.phase }, { on := 2, ground := Go.Ground.phase }, { on := 3, ground := Go.Ground.phase }, { on := 4, ground := Go.Ground.phase }, { on := 5, ground := Go.Ground.phase }, { on := 6, ground := Go.Ground.phase }, { on := 7, ground := Go.Ground.phase }, { on := 8, ground := Go.Ground.phase }, { on := 9, ground := Go.Ground.phase }, { on := 10, ground := Go.Ground.phase }, { on := 11, ground := Go.Ground.phase }, { on := 12, ground := Go.Ground.phase }, { on := 13, ground := Go.Ground.phase }, { on := 14, ground := Go.Ground.phase }, { on := 15, ground := Go.Ground.phase }, { on := 16, ground := Go.Ground.phase }, { on := 17, ground := Go.Ground.phase }, { on := 18, ground := Go.Ground.phase }, { on := 19, ground := Go.Ground.phase }, { on := 20, ground := Go.Ground.phase }, { on := 21, ground := Go.Ground.phase }, { on := 22, ground := Go.Ground.phase }, { on := 23, ground := Go.Ground.phase }, { on := 24, ground := Go.Ground.phase }, { on := 25, ground := Go.Ground.phase }, { on := 26, ground := Go.Ground.phase }, { on := 27, ground := Go.Ground.phase }, { on := 28, ground := Go.Ground.phase }, { on := 29, ground := Go.Ground.phase }], guard := none } : Oper)) rfl (fun K hK => ?_) AllReadyH.nil)
  obtain ⟨z0, z1, z2, z3, zf, zt⟩ := J.out.four (l1 := [])
  go_simp
  show K _ (set4 u1 (w.heap.size + 1) (.int .i64 Z.x0) (.int .i64 Z.y0) (.int .i64 Z.x1) (.int .i64 Z.y1))
  replace J := Lib.hid (J.out.set4 (l1 := []) (.int .i64 Z.x0) (.int .i64 Z.y0) (.int .i64 Z.x1) (.int .i64 Z.y1))
  clear z0 z1 z2 z3 zf zt
  generalize set4 u1 (w.heap.size + 1) (.int .i64 Z.x0) (.int .i64 Z.y0) (.int .i64 Z.x1) (.int .i64 Z.y1) = u2 at *
  (try clear sk)
  have sk := four4 (J.out.four (l1 := [_]))
  refine hK.out _ _ sk (fun hHeld2 => ?_)
  clear hK K hHeld
  have hHeld := hHeld2
  clear hHeld2
  try simp only [Act.put, List.setIfInBounds_toArray, List.set_cons_zero, List.set_cons_succ]
  refine wpAnyH_done (by kernel_rfl) ?_ _
  clear f1 f2 f3 f4
  obtain ⟨z0, z1, z2, z3, zf, zt⟩ := J.out.four (l1 := [])
  go_wp2_with fail
  exact bodyPost_ret (v := .agg #[.int .i64 Z.x0, .int .i64 Z.y0, .int .i64 Z.x1, .int .i64 Z.y1]) (by simp [results, Try.results23, go_sem, z0, z1, z2, z3]) rfl ⟨rfl, J.out.below⟩

set_option maxRecDepth 100000 in
set_option maxHeartbeats 4000000 in
theorem rmap_empty {r : R} {fw fh tw th : Int} (h1 : empB r = true) (w : World) : Calls Try.prog 23 #[.agg #[.int .i64 r.x0, .int .i64 r.y0, .int .i64 r.x1, .int .i64 r.y1], .int .i64 fw, .int .i64 fh, .int .i64 tw, .int .i64 th] w fun e w' => e = .returned (.agg #[.int .i64 (mapR r fw fh tw th).x0, .int .i64 (mapR r fw fh tw th).y0, .int .i64 (mapR r fw fh tw th).x1, .int .i64 (mapR r fw fh tw th).y1]) ∧ Below w.heap.size w w' := by
  have J := Lib.hid (heldM w r)
  have CE := fun W => Lib.hid (rempty_any r W)
  rw [h1] at CE
  have CS := fun W => Lib.hid (rsized_any fw fh W)
  have CT := fun W => Lib.hid (rsized_any tw th W)
  skip
  rw [map_no (by rw [h1]; simp)]
  go_enter Try.func23, Try.ntmps23
  go_wp2_with fail
  refine (CE _).out.mono ?_
  rintro e w1 ⟨rfl, hb⟩
  replace J := Lib.hid (J.out.step hb)
  clear hb
  obtain ⟨z0, z1, z2, z3, zf, zt⟩ := J.out.four (l1 := [])
  have K := Lib.hid (below_set4 J.out.below (Nat.le_succ w.heap.size) (x0 := .int .i64 0) (x1 := .int .i64 0) (x2 := .int .i64 0) (x3 := .int .i64 0))
  go_wp2_with fail
  exact bodyPost_ret (v := .agg #[.int .i64 0, .int .i64 0, .int .i64 0, .int .i64 0]) (by simp [results, Try.results23, go_sem, z0, z1, z2, z3]) rfl ⟨rfl, K.out⟩

set_option maxRecDepth 100000 in
set_option maxHeartbeats 4000000 in
theorem rmap_from {r : R} {fw fh tw th : Int} (h1 : empB r = false) (h2 : sizB fw fh = false) (w : World) : Calls Try.prog 23 #[.agg #[.int .i64 r.x0, .int .i64 r.y0, .int .i64 r.x1, .int .i64 r.y1], .int .i64 fw, .int .i64 fh, .int .i64 tw, .int .i64 th] w fun e w' => e = .returned (.agg #[.int .i64 (mapR r fw fh tw th).x0, .int .i64 (mapR r fw fh tw th).y0, .int .i64 (mapR r fw fh tw th).x1, .int .i64 (mapR r fw fh tw th).y1]) ∧ Below w.heap.size w w' := by
  have J := Lib.hid (heldM w r)
  have CE := fun W => Lib.hid (rempty_any r W)
  rw [h1] at CE
  have CS := fun W => Lib.hid (rsized_any fw fh W)
  have CT := fun W => Lib.hid (rsized_any tw th W)
  rw [h2] at CS
  rw [map_no (by (rw [h1]; rw [h2]); simp)]
  go_enter Try.func23, Try.ntmps23
  go_wp2_with fail
  refine (CE _).out.mono ?_
  rintro e w1 ⟨rfl, hb⟩
  replace J := Lib.hid (J.out.step hb)
  clear hb
  go_wp2_with fail
  refine (CS _).out.mono ?_
  rintro e u9 ⟨rfl, rfl⟩
  obtain ⟨z0, z1, z2, z3, zf, zt⟩ := J.out.four (l1 := [])
  have K := Lib.hid (below_set4 J.out.below (Nat.le_succ w.heap.size) (x0 := .int .i64 0) (x1 := .int .i64 0) (x2 := .int .i64 0) (x3 := .int .i64 0))
  go_wp2_with fail
  exact bodyPost_ret (v := .agg #[.int .i64 0, .int .i64 0, .int .i64 0, .int .i64 0]) (by simp [results, Try.results23, go_sem, z0, z1, z2, z3]) rfl ⟨rfl, K.out⟩

set_option maxRecDepth 100000 in
set_option maxHeartbeats 4000000 in
theorem rmap_to {r : R} {fw fh tw th : Int} (h1 : empB r = false) (h2 : sizB fw fh = true) (h3 : sizB tw th = false) (w : World) : Calls Try.prog 23 #[.agg #[.int .i64 r.x0, .int .i64 r.y0, .int .i64 r.x1, .int .i64 r.y1], .int .i64 fw, .int .i64 fh, .int .i64 tw, .int .i64 th] w fun e w' => e = .returned (.agg #[.int .i64 (mapR r fw fh tw th).x0, .int .i64 (mapR r fw fh tw th).y0, .int .i64 (mapR r fw fh tw th).x1, .int .i64 (mapR r fw fh tw th).y1]) ∧ Below w.heap.size w w' := by
  have J := Lib.hid (heldM w r)
  have CE := fun W => Lib.hid (rempty_any r W)
  rw [h1] at CE
  have CS := fun W => Lib.hid (rsized_any fw fh W)
  have CT := fun W => Lib.hid (rsized_any tw th W)
  (rw [h2] at CS; rw [h3] at CT)
  rw [map_no (by (rw [h1]; rw [h2]; rw [h3]); simp)]
  go_enter Try.func23, Try.ntmps23
  go_wp2_with fail
  refine (CE _).out.mono ?_
  rintro e w1 ⟨rfl, hb⟩
  replace J := Lib.hid (J.out.step hb)
  clear hb
  go_wp2_with fail
  refine (CS _).out.mono ?_
  rintro e u9 ⟨rfl, rfl⟩
  go_wp2_with fail
  refine (CT _).out.mono ?_
  rintro e u9 ⟨rfl, rfl⟩
  obtain ⟨z0, z1, z2, z3, zf, zt⟩ := J.out.four (l1 := [])
  have K := Lib.hid (below_set4 J.out.below (Nat.le_succ w.heap.size) (x0 := .int .i64 0) (x1 := .int .i64 0) (x2 := .int .i64 0) (x3 := .int .i64 0))
  go_wp2_with fail
  exact bodyPost_ret (v := .agg #[.int .i64 0, .int .i64 0, .int .i64 0, .int .i64 0]) (by simp [results, Try.results23, go_sem, z0, z1, z2, z3]) rfl ⟨rfl, K.out⟩

theorem rmap_any (r : R) (fw fh tw th : Int) (w : World) : Calls Try.prog 23 #[.agg #[.int .i64 r.x0, .int .i64 r.y0, .int .i64 r.x1, .int .i64 r.y1], .int .i64 fw, .int .i64 fh, .int .i64 tw, .int .i64 th] w fun e w' => e = .returned (.agg #[.int .i64 (mapR r fw fh tw th).x0, .int .i64 (mapR r fw fh tw th).y0, .int .i64 (mapR r fw fh tw th).x1, .int .i64 (mapR r fw fh tw th).y1]) ∧ Below w.heap.size w w' := by
  cases h1 : empB r
  · cases h2 : sizB fw fh
    · exact rmap_from h1 h2 w
    · cases h3 : sizB tw th
      · exact rmap_to h1 h2 h3 w
      · exact rmap_full h1 h2 h3 w
  · exact rmap_empty h1 w

end Go.Proofs.Ytnkbejbpkjkgeaa
