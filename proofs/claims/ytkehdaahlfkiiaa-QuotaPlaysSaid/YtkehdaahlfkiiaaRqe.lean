/-
  The reference's bucket: Take, Level.
-/
import Derived.Test.YtkehdaahlfkiiaaRqd
namespace Go.Proofs.Ytkehdaahlfkiiaa
open Go.RowKit

set_option maxRecDepth 100000 in
set_option maxHeartbeats 8000000 in
theorem rtake_any {b : Bk} (hb : BOk b) {now : Int} (hn : I64 now) {n : Int} (hm : I64 n) (w : World) : Calls Try.prog 25 #[bV b, .int .i64 now, .int .i64 n] w fun e w' => e = .returned (.tuple #[bV (takeB b now n).1, .bool (takeB b now n).2]) ∧ Below w.heap.size w w' := by
  obtain ⟨hs1, hs2, hs3⟩ := advB_same b now
  have ha := advB_ok hb hn
  have AD := fun W => Lib.hid (radv_any hb hn W)
  have HB := fun (l m : List Value) => ((Below.refl w.heap.size w).alloc (Nat.le_refl _) (.cells l.toArray 45)).alloc (by simp) (.cells m.toArray 45)
  have J := Lib.hid (show HO w ((w.alloc (.cells #[.bool b.md, .bool b.st, .int .i64 b.rt, .int .i64 b.bu, .int .i64 b.fi, .int .i64 b.la] 45)).alloc (.cells #[.bool false, .bool false, .int .i64 0, .int .i64 0, .int .i64 0, .int .i64 0] 45)) [boxO (w.heap.size + 1) bZ, boxO w.heap.size (bC b)] from by
    have h := ((HO.nil w).alloc (bC b) 45).alloc bZ 45
    rw [World.size_alloc] at h
    exact h)
  unfold takeB
  cases hmd : b.md with
  | false =>
    rw [if_pos rfl]
    obtain ⟨md, st, rt, bu, fi, la⟩ := b
    dsimp only at hmd
    subst hmd
    clear AD J ha hs1 hs2 hs3
    go_enter Try.func25, Try.ntmps25
    go_wp2_with fail
    exact bodyPost_ret (v := .tuple #[bV ⟨false, st, rt, bu, fi, la⟩, .bool false]) (by simp [results, Try.results25, go_sem]) rfl ⟨rfl, HB (bC ⟨false, st, rt, bu, fi, la⟩) (bC ⟨false, st, rt, bu, fi, la⟩)⟩
  | true =>
    rw [if_neg (by simp)]
    rw [hmd] at hs1
    obtain ⟨a, ha2⟩ : ∃ a, advB b now = a := ⟨_, rfl⟩
    rw [ha2] at ha hs1 AD ⊢
    obtain ⟨md0, st0, rt0, bu0, fi0, la0⟩ := b
    dsimp only at hmd
    subst hmd
    obtain ⟨md, st, rt, bu, fi, la⟩ := a
    dsimp only at hs1
    subst hs1
    obtain ⟨⟨r0, r1⟩, ⟨b0, b1⟩, ⟨f0, f1⟩, l0, l1⟩ := ha
    obtain ⟨m0, m1⟩ := hm
    dsimp only at r0 r1 b0 b1 f0 f1 l0 l1 ⊢
    clear ha2 hb hn HB hs2 hs3
    by_cases hbad : n < 0 ∨ bu < n ∨ fi < n * 1000
    · rw [if_pos hbad]
      dsimp only
      go_enter Try.func25, Try.ntmps25
      go_wp2_with fail
      refine (AD _).out.mono ?_
      rintro e w1 ⟨rfl, hb1⟩
      replace J := Lib.hid (J.out.step hb1)
      clear AD hb1
      obtain ⟨x0, x1, x2, x3, x4, x5, xf, xl⟩ := (show HO w w1 ([_] ++ boxO w.heap.size _ :: []) from J.out).c6
      replace J := Lib.hid ((show HO w w1 ([_] ++ boxO w.heap.size [_, _, _, _, _, _] :: []) from J.out).set6 (.bool true) (.bool st) (.int .i64 rt) (.int .i64 bu) (.int .i64 fi) (.int .i64 la))
      go_upto_region 4 with fail
      generalize (((((w1.setCell ⟨w.heap.size, 0, none⟩ (.bool true)).setCell ⟨w.heap.size, 1, none⟩ (.bool st)).setCell ⟨w.heap.size, 2, none⟩ (.int .i64 rt)).setCell ⟨w.heap.size, 3, none⟩ (.int .i64 bu)).setCell ⟨w.heap.size, 4, none⟩ (.int .i64 fi)).setCell ⟨w.heap.size, 5, none⟩ (.int .i64 la) = w2 at *
      clear x0 x1 x2 x3 x4 x5 xf xl
      obtain ⟨x0, x1, x2, x3, x4, x5, xf, xl⟩ := (show HO w w2 ([_] ++ boxO w.heap.size _ :: []) from J.out).c6
      obtain ⟨z0, z1, z2, z3, z4, z5, zf, zl⟩ := (show HO w w2 ([] ++ boxO (w.heap.size + 1) _ :: [_]) from J.out).c6
      have J2 := Lib.hid ((show HO w _ ([] ++ boxO (w.heap.size + 1) bZ :: [_]) from J.out).set6 (.bool true) (.bool st) (.int .i64 rt) (.int .i64 bu) (.int .i64 fi) (.int .i64 la))
      by_cases h1 : n < 0
      · clear hbad
        go_wp2_with fail
        obtain ⟨y0, y1, y2, y3, y4, y5, -, -⟩ := (show HO w _ ([] ++ boxO (w.heap.size + 1) _ :: [_]) from J2.out).c6
        exact bodyPost_ret (v := .tuple #[bV ⟨true, st, rt, bu, fi, la⟩, .bool false]) (by simp [results, Try.results25, go_sem, y0, y1, y2, y3, y4, y5]) rfl ⟨rfl, J2.out.below⟩
      by_cases h2 : bu < n
      · clear hbad
        go_wp2_with fail
        obtain ⟨y0, y1, y2, y3, y4, y5, -, -⟩ := (show HO w _ ([] ++ boxO (w.heap.size + 1) _ :: [_]) from J2.out).c6
        exact bodyPost_ret (v := .tuple #[bV ⟨true, st, rt, bu, fi, la⟩, .bool false]) (by simp [results, Try.results25, go_sem, y0, y1, y2, y3, y4, y5]) rfl ⟨rfl, J2.out.below⟩
      have h3 : fi < n * 1000 := by omega
      clear hbad
      go_wp2_with fail
      obtain ⟨y0, y1, y2, y3, y4, y5, -, -⟩ := (show HO w _ ([] ++ boxO (w.heap.size + 1) _ :: [_]) from J2.out).c6
      exact bodyPost_ret (v := .tuple #[bV ⟨true, st, rt, bu, fi, la⟩, .bool false]) (by simp [results, Try.results25, go_sem, y0, y1, y2, y3, y4, y5]) rfl ⟨rfl, J2.out.below⟩
    · rw [if_neg hbad]
      dsimp only
      go_enter Try.func25, Try.ntmps25
      go_wp2_with fail
      refine (AD _).out.mono ?_
      rintro e w1 ⟨rfl, hb1⟩
      replace J := Lib.hid (J.out.step hb1)
      clear AD hb1
      obtain ⟨x0, x1, x2, x3, x4, x5, xf, xl⟩ := (show HO w w1 ([_] ++ boxO w.heap.size _ :: []) from J.out).c6
      replace J := Lib.hid ((show HO w w1 ([_] ++ boxO w.heap.size [_, _, _, _, _, _] :: []) from J.out).set6 (.bool true) (.bool st) (.int .i64 rt) (.int .i64 bu) (.int .i64 fi) (.int .i64 la))
      go_upto_region 4 with fail
      generalize (((((w1.setCell ⟨w.heap.size, 0, none⟩ (.bool true)).setCell ⟨w.heap.size, 1, none⟩ (.bool st)).setCell ⟨w.heap.size, 2, none⟩ (.int .i64 rt)).setCell ⟨w.heap.size, 3, none⟩ (.int .i64 bu)).setCell ⟨w.heap.size, 4, none⟩ (.int .i64 fi)).setCell ⟨w.heap.size, 5, none⟩ (.int .i64 la) = w2 at *
      clear x0 x1 x2 x3 x4 x5 xf xl
      obtain ⟨x0, x1, x2, x3, x4, x5, xf, xl⟩ := (show HO w w2 ([_] ++ boxO w.heap.size _ :: []) from J.out).c6
      obtain ⟨z0, z1, z2, z3, z4, z5, zf, zl⟩ := (show HO w w2 ([] ++ boxO (w.heap.size + 1) _ :: [_]) from J.out).c6
      have h1 : ¬ n < 0 := by omega
      have h2 : ¬ bu < n := by omega
      have h3 : ¬ fi < n * 1000 := by omega
      clear hbad
      have J9 := Lib.hid ((show HO w w2 ([_] ++ boxO w.heap.size [_, _, _, _, _, _] :: []) from J.out).cell (i := 4) (by simp) (.int .i64 (fi - n * 1000)))
      go_upto_region 7 with fail
      generalize w2.setCell ⟨w.heap.size, 4, none⟩ (.int .i64 (fi - n * 1000)) = w3 at *
      clear x0 x1 x2 x3 x4 x5 xf xl z0 z1 z2 z3 z4 z5 zf zl J
      have J := J9
      clear J9
      obtain ⟨x0, x1, x2, x3, x4, x5, xf, xl⟩ := (show HO w w3 ([_] ++ boxO w.heap.size _ :: []) from J.out).c6
      obtain ⟨z0, z1, z2, z3, z4, z5, zf, zl⟩ := (show HO w w3 ([] ++ boxO (w.heap.size + 1) _ :: [_]) from J.out).c6
      have J2 := Lib.hid ((show HO w _ ([] ++ boxO (w.heap.size + 1) bZ :: [_]) from J.out).set6 (.bool true) (.bool st) (.int .i64 rt) (.int .i64 bu) (.int .i64 (fi - n * 1000)) (.int .i64 la))
      go_wp2_with fail
      obtain ⟨y0, y1, y2, y3, y4, y5, -, -⟩ := (show HO w _ ([] ++ boxO (w.heap.size + 1) _ :: [_]) from J2.out).c6
      exact bodyPost_ret (v := .tuple #[bV ⟨true, st, rt, bu, fi - n * 1000, la⟩, .bool true]) (by simp [results, Try.results25, go_sem, y0, y1, y2, y3, y4, y5]) rfl ⟨rfl, J2.out.below⟩

set_option maxRecDepth 100000 in
set_option maxHeartbeats 8000000 in
theorem rlvl_any {b : Bk} (hb : BOk b) {now : Int} (hn : I64 now) (w : World) : Calls Try.prog 23 #[bV b, .int .i64 now] w fun e w' => e = .returned (.tuple #[bV (lvlB b now).1, .int .i64 (lvlB b now).2]) ∧ Below w.heap.size w w' := by
  obtain ⟨hs1, hs2, hs3⟩ := advB_same b now
  have ha := advB_ok hb hn
  have AD := fun W => Lib.hid (radv_any hb hn W)
  have HB := fun (l m : List Value) => ((Below.refl w.heap.size w).alloc (Nat.le_refl _) (.cells l.toArray 45)).alloc (by simp) (.cells m.toArray 45)
  have J := Lib.hid (show HO w ((w.alloc (.cells #[.bool b.md, .bool b.st, .int .i64 b.rt, .int .i64 b.bu, .int .i64 b.fi, .int .i64 b.la] 45)).alloc (.cells #[.bool false, .bool false, .int .i64 0, .int .i64 0, .int .i64 0, .int .i64 0] 45)) [boxO (w.heap.size + 1) bZ, boxO w.heap.size (bC b)] from by
    have h := ((HO.nil w).alloc (bC b) 45).alloc bZ 45
    rw [World.size_alloc] at h
    exact h)
  unfold lvlB
  cases hmd : b.md with
  | false =>
    rw [if_pos rfl]
    obtain ⟨md, st, rt, bu, fi, la⟩ := b
    dsimp only at hmd
    subst hmd
    clear AD J ha hs1 hs2 hs3
    go_enter Try.func23, Try.ntmps23
    go_wp2_with fail
    exact bodyPost_ret (v := .tuple #[bV ⟨false, st, rt, bu, fi, la⟩, .int .i64 0]) (by simp [results, Try.results23, go_sem]) rfl ⟨rfl, HB (bC ⟨false, st, rt, bu, fi, la⟩) (bC ⟨false, st, rt, bu, fi, la⟩)⟩
  | true =>
    rw [if_neg (by simp)]
    rw [hmd] at hs1
    obtain ⟨a, ha2⟩ : ∃ a, advB b now = a := ⟨_, rfl⟩
    rw [ha2] at ha hs1 AD ⊢
    obtain ⟨md0, st0, rt0, bu0, fi0, la0⟩ := b
    dsimp only at hmd
    subst hmd
    obtain ⟨md, st, rt, bu, fi, la⟩ := a
    dsimp only at hs1
    subst hs1
    obtain ⟨⟨r0, r1⟩, ⟨b0, b1⟩, ⟨f0, f1⟩, l0, l1⟩ := ha
    dsimp only at r0 r1 b0 b1 f0 f1 l0 l1 ⊢
    clear ha2 hb hn HB hs2 hs3
    go_enter Try.func23, Try.ntmps23
    go_wp2_with fail
    refine (AD _).out.mono ?_
    rintro e w1 ⟨rfl, hb1⟩
    replace J := Lib.hid (J.out.step hb1)
    clear AD hb1
    obtain ⟨x0, x1, x2, x3, x4, x5, xf, xl⟩ := (show HO w w1 ([_] ++ boxO w.heap.size _ :: []) from J.out).c6
    replace J := Lib.hid ((show HO w w1 ([_] ++ boxO w.heap.size [_, _, _, _, _, _] :: []) from J.out).set6 (.bool true) (.bool st) (.int .i64 rt) (.int .i64 bu) (.int .i64 fi) (.int .i64 la))
    go_upto_region 4 with fail
    generalize (((((w1.setCell ⟨w.heap.size, 0, none⟩ (.bool true)).setCell ⟨w.heap.size, 1, none⟩ (.bool st)).setCell ⟨w.heap.size, 2, none⟩ (.int .i64 rt)).setCell ⟨w.heap.size, 3, none⟩ (.int .i64 bu)).setCell ⟨w.heap.size, 4, none⟩ (.int .i64 fi)).setCell ⟨w.heap.size, 5, none⟩ (.int .i64 la) = w2 at *
    clear x0 x1 x2 x3 x4 x5 xf xl
    obtain ⟨x0, x1, x2, x3, x4, x5, xf, xl⟩ := (show HO w w2 ([_] ++ boxO w.heap.size _ :: []) from J.out).c6
    obtain ⟨z0, z1, z2, z3, z4, z5, zf, zl⟩ := (show HO w w2 ([] ++ boxO (w.heap.size + 1) _ :: [_]) from J.out).c6
    have uq : fi.tdiv 1000 = fi / 1000 := Int.tdiv_eq_ediv_of_nonneg f0
    have uq2 : IntKind.i64.wrap (fi / 1000) = fi / 1000 := by rw [IntKind.wrap_i64]; omega
    replace J := Lib.hid J.out.drew
    clear x0 x1 x2 x3 x4 x5 xf xl z0 z1 z2 z3 z4 z5 zf zl
    have s3 := (show HO w _ ([_] ++ boxO w.heap.size _ :: []) from J.out).c6
    have sk := And.intro s3.1 (And.intro s3.2.1 (And.intro s3.2.2.1 (And.intro s3.2.2.2.1 (And.intro s3.2.2.2.2.1 s3.2.2.2.2.2.1))))
    clear s3
    refine wp_region_held_drew (S := (fun W => W.cell? ⟨w.heap.size, 0, none⟩ = some (.bool true) ∧ W.cell? ⟨w.heap.size, 1, none⟩ = some (.bool st) ∧ W.cell? ⟨w.heap.size, 2, none⟩ = some (.int .i64 rt) ∧ W.cell? ⟨w.heap.size, 3, none⟩ = some (.int .i64 bu) ∧ W.cell? ⟨w.heap.size, 4, none⟩ = some (.int .i64 fi) ∧ W.cell? ⟨w.heap.size, 5, none⟩ = some (.int .i64 la))) (by kernel_rfl) sk (fun hHeld => ?_)
    generalize w2.drew = u0 at *
    refine wpAnyH_take (i := 0) (oi := ({ dst := some 13, op := Go.Op.load 45 (Go.Operand.tmp 2), type := 45, pos := "ref.go:126", after := #[], guard := none } : Oper)) (v := ?_) rfl (by kernel_rfl) (by kernel_rfl) (by kernel_rfl) (fun _ _ _ h => h) (Or.inl ⟨by kernel_rfl, ?_⟩) hHeld ?_
    rotate_left 1
    · (intro W hSw; (try dsimp only at hSw); go_simp; try with_reducible rfl)
    try simp only [Act.put, List.setIfInBounds_toArray, List.set_cons_zero, List.set_cons_succ]
    refine wpAnyH_take (i := 1) (oi := ({ dst := some 14, op := Go.Op.fieldAddr 45 (Go.Operand.tmp 2) 4, type := 0, pos := "ref.go:126", after := #[{ on := 4, ground := Go.Ground.gcOnly Go.Departure.lateStores }], guard := none } : Oper)) (v := ?_) rfl (by kernel_rfl) (by kernel_rfl) (by kernel_rfl) (fun _ _ _ h => h) (Or.inl ⟨by kernel_rfl, ?_⟩) hHeld ?_
    rotate_left 1
    · (intro W hSw; (try dsimp only at hSw); go_simp; try with_reducible rfl)
    try simp only [Act.put, List.setIfInBounds_toArray, List.set_cons_zero, List.set_cons_succ]
    refine wpAnyH_take (i := 2) (oi := ({ dst := some 15, op := Go.Op.load 3 (Go.Operand.tmp 14), type := 3, pos := "ref.go:126", after := #[{ on := 1, ground := Go.Ground.data }, { on := 4, ground := Go.Ground.gcOnly Go.Departure.lateStores }], guard := none } : Oper)) (v := ?_) rfl (by kernel_rfl) (by kernel_rfl) (by kernel_rfl) (fun _ _ _ h => h) (Or.inl ⟨by kernel_rfl, ?_⟩) hHeld ?_
    rotate_left 1
    · (intro W hSw; (try dsimp only at hSw); go_simp; try with_reducible rfl)
    try simp only [Act.put, List.setIfInBounds_toArray, List.set_cons_zero, List.set_cons_succ]
    refine wpAnyH_take (i := 3) (oi := ({ dst := some 16, op := Go.Op.binOp Go.BinOp.quo 3 (Go.Operand.tmp 15) (Go.Operand.const (Go.Value.int Go.IntKind.i64 1000)) 3, type := 3, pos := "ref.go:126", after := #[{ on := 2, ground := Go.Ground.data }, { on := 4, ground := Go.Ground.gcOnly Go.Departure.lateStores }], guard := none } : Oper)) (v := ?_) rfl (by kernel_rfl) (by kernel_rfl) (by kernel_rfl) (fun _ _ _ h => h) (Or.inl ⟨by kernel_rfl, ?_⟩) hHeld ?_
    rotate_left 1
    · (intro W hSw; (try dsimp only at hSw); go_simp; try with_reducible rfl)
    try simp only [Act.put, List.setIfInBounds_toArray, List.set_cons_zero, List.set_cons_succ]
    refine wpAnyH_ready (rs := [4]) (by kernel_rfl) (by simp) (AllReadyH.cons (o := ({ dst := none, op := Go.Op.store 45 (Go.Operand.tmp 4) (Go.Operand.tmp 13), type := 0, pos := "ref.go:126", after := #[{ on := 0, ground := Go.Ground.data }, { on := 0, ground := Go.Ground.phase }, { on := 1, ground := Go.Ground.textOnly Go.Departure.lateStores }, { on := 2, ground := Go.Ground.textOnly Go.Departure.lateStores }, { on := 3, ground := Go.Ground.textOnly Go.Departure.lateStores }], guard := none } : Oper)) rfl (fun K hK => ?_) AllReadyH.nil)
    obtain ⟨z0, z1, z2, z3, z4, z5, zf, zl⟩ := (show HO w u0 ([] ++ boxO (w.heap.size + 1) _ :: [_]) from J.out).c6
    go_simp
    replace J := Lib.hid ((show HO w u0 ([] ++ boxO (w.heap.size + 1) bZ :: [_]) from J.out).set6 (.bool true) (.bool st) (.int .i64 rt) (.int .i64 bu) (.int .i64 fi) (.int .i64 la))
    clear z0 z1 z2 z3 z4 z5 zf zl sk
    have s3 := (show HO w _ ([_] ++ boxO w.heap.size _ :: []) from J.out).c6
    have sk := And.intro s3.1 (And.intro s3.2.1 (And.intro s3.2.2.1 (And.intro s3.2.2.2.1 (And.intro s3.2.2.2.2.1 s3.2.2.2.2.2.1))))
    refine hK.out _ _ sk (fun hHeld2 => ?_)
    clear hK K hHeld
    have hHeld := hHeld2
    clear hHeld2
    try simp only [Act.put, List.setIfInBounds_toArray, List.set_cons_zero, List.set_cons_succ]
    refine wpAnyH_take (i := 5) (oi := ({ dst := some 5, op := Go.Op.assign (Go.Operand.tmp 16), type := 3, pos := "ref.go:126", after := #[{ on := 3, ground := Go.Ground.data }, { on := 4, ground := Go.Ground.chain }, { on := 0, ground := Go.Ground.phase }, { on := 1, ground := Go.Ground.phase }, { on := 2, ground := Go.Ground.phase }, { on := 3, ground := Go.Ground.phase }, { on := 4, ground := Go.Ground.phase }], guard := none } : Oper)) (v := ?_) rfl (by kernel_rfl) (by kernel_rfl) (by kernel_rfl) (fun _ _ _ h => h) (Or.inl ⟨by kernel_rfl, ?_⟩) hHeld ?_
    rotate_left 1
    · (intro W hSw; (try dsimp only at hSw); go_simp; try with_reducible rfl)
    try simp only [Act.put, List.setIfInBounds_toArray, List.set_cons_zero, List.set_cons_succ]
    refine wpAnyH_done (by kernel_rfl) ?_ _
    obtain ⟨y0, y1, y2, y3, y4, y5, -, -⟩ := (show HO w _ ([] ++ boxO (w.heap.size + 1) _ :: [_]) from J.out).c6
    go_wp2_with fail
    exact bodyPost_ret (v := .tuple #[bV ⟨true, st, rt, bu, fi, la⟩, .int .i64 (fi / 1000)]) (by simp [results, Try.results23, go_sem, y0, y1, y2, y3, y4, y5]) rfl ⟨rfl, J.out.below⟩

end Go.Proofs.Ytkehdaahlfkiiaa
