/-
  The reference's quota: New.
-/
import Derived.Test.YtkehdaahlfkiiaaRqb
namespace Go.Proofs.Ytkehdaahlfkiiaa
open Go.RowKit

theorem rowI {w : World} {base n : Nat} {v : Value} {L : List Int} (h : (rowO base 3 1 v n (ils L)).P w) (hn : L.length = n) : OwnI w base v L := by
  subst hn
  exact h
theorem rowI2 {w : World} {base n : Nat} {v : Value} {L : List Int} (h : OwnI w base v L) (hn : L.length = n) : w.ownsRow base 3 1 v n (ils L) := by
  subst hn
  exact h
theorem newQ_take {L : List Int} {i : Nat} {x : Int} (h : L[i]? = some x) : (newQ (L.take (i + 1))).ls = (newQ (L.take i)).ls ++ [max 0 x] ∧ (newQ (L.take (i + 1))).cs = (newQ (L.take i)).cs ++ [0] := by
  unfold newQ
  rw [List.take_add_one, h]
  simp
set_option maxRecDepth 100000 in
set_option maxHeartbeats 8000000 in
theorem rnew_any {w : World} {v : Value} {L : List Int} (h : Is w v L) (hl : L.length ≤ 100000) :
    Calls Try.prog 13 #[v] w fun e w' => ∃ vl vc, e = .returned (qV vl vc) ∧ OwnI w' w.heap.size vl (newQ L).ls ∧ OwnI w' w.heap.size vc (newQ L).cs ∧ (∀ k, vl.ownBlock = some k → vc.ownBlock ≠ some k) ∧ Below w.heap.size w w' := by
  have HA := Lib.hid h
  have HL := Lib.hid hl
  obtain ⟨A, c, rfl, h1, h2⟩ := h.shape
  simp only [maxLen] at h2
  obtain ⟨n, hn⟩ : ∃ n, L.length = n := ⟨_, rfl⟩
  have HN := Lib.hid hn
  rw [hn] at h1 HA HL ⊢
  have J0 := Lib.hid (show HO w ((w.alloc (.cells #[.bool false, .slice none 0 0, .slice none 0 0] 28)).alloc (.cells #[.bool true, .slice none 0 0, .slice none 0 0] 28)) [rowO w.heap.size 3 1 (.slice none 0 0) 0 (ils (newQ (L.take 0)).ls), rowO w.heap.size 3 1 (.slice none 0 0) 0 (ils (newQ (L.take 0)).cs), boxO (w.heap.size + 1) [.bool true, .slice none 0 0, .slice none 0 0], boxO w.heap.size [.bool false, .slice none 0 0, .slice none 0 0]] from by
    have h := ((((HO.nil w).alloc [.bool false, .slice none 0 0, .slice none 0 0] 28).alloc [.bool true, .slice none 0 0, .slice none 0 0] 28).rowNil w.heap.size 3 1).rowNil w.heap.size 3 1
    rw [World.size_alloc] at h
    exact h)
  clear h hl hn
  go_enter Try.func13, Try.ntmps13
  go_wp2_with fail
  go_loopw [4] (fun s4 wr => ∃ (i : Nat) (Al : Option Addr) (cl : Nat) (Ac : Option Addr) (cc : Nat), i ≤ n ∧ s4 = .int .i64 (i : Int) ∧ Hid (HO w wr [rowO w.heap.size 3 1 (.slice Al i cl) i (ils (newQ (L.take i)).ls), rowO w.heap.size 3 1 (.slice Ac i cc) i (ils (newQ (L.take i)).cs), boxO (w.heap.size + 1) [.bool true, .slice Al i cl, .slice Ac i cc], boxO w.heap.size [.bool false, .slice none 0 0, .slice none 0 0]])) (fun s4 _ => leftN n s4)
  case atStart => exact ⟨0, none, 0, none, 0, Nat.zero_le _, rfl, J0⟩
  case round =>
    clear J0
    obtain ⟨i, Al, cl, Ac, cc, hi, rfl, J⟩ := hrel
    by_cases hlt : i < n
    · have q0 : (0 : Int) ≤ i := by omega
      have q1 : (i : Int) < n := by omega
      obtain ⟨x, hx⟩ : ∃ x, L[i]? = some x := ⟨_, List.getElem?_eq_getElem (by rw [HN.out]; exact hlt)⟩
      obtain ⟨b, off, rfl, hb, -⟩ := is_at HA.out J.out.below hx
      have HA2 := fun (W : World) (hw : Below w.heap.size w W) => Lib.hid (show W.cell? ⟨b, off + i, none⟩ = some (.int .i64 x) from by
        obtain ⟨b9, off9, e9, _, h9⟩ := is_at HA.out hw hx
        simp only [Option.some.injEq, Addr.mk.injEq, and_true] at e9
        obtain ⟨rfl, rfl⟩ := e9
        exact h9)
      have HT : Hid ((newQ (L.take i)).ls.length = i) := Lib.hid (by have := HN.out; simp [newQ]; omega)
      have HT2 : Hid ((newQ (L.take i)).cs.length = i) := Lib.hid (by have := HN.out; simp [newQ]; omega)
      obtain ⟨t1, t2⟩ := newQ_take hx
      have HT1 := Lib.hid t1
      have HT3 := Lib.hid t2
      have hi4 : i ≤ 100000 := by have := HL.out; omega
      clear hx t1 t2
      go_upto_region 5 with fail
      go_cut [] from 12 to 21 (fun wx => ∃ A6 c6, Hid (HO w wx [rowO w.heap.size 3 1 (.slice A6 (i + 1) c6) (i + 1) (ils ((newQ (L.take i)).ls ++ [max 0 x])), rowO w.heap.size 3 1 (.slice Ac i cc) i (ils (newQ (L.take i)).cs), boxO (w.heap.size + 1) [.bool true, .slice A6 (i + 1) c6, .slice Ac i cc], boxO w.heap.size [.bool false, .slice none 0 0, .slice none 0 0]]))
      case first =>
        replace J := Lib.hid J.out.drew
        have sk := (HA2 _ J.out.below).out
        refine wp_region_held_drew (S := (fun W => W.cell? ⟨b, off + i, none⟩ = some (.int .i64 x))) (by kernel_rfl) sk (fun hHeld => ?_)
        generalize wr.drew = u0 at *
        refine wpAnyH_take (i := 0) (oi := ({ dst := some 12, op := Go.Op.fieldAddr 28 (Go.Operand.tmp 3) 1, type := 0, pos := "ref.go:16", after := #[], guard := none } : Oper)) (v := ?_) rfl (by kernel_rfl) (by kernel_rfl) (by kernel_rfl) (fun _ _ _ h => h) (Or.inl ⟨by kernel_rfl, ?_⟩) hHeld ?_
        rotate_left 1
        · (intro W hSw; (try dsimp only at hSw); go_simp; try with_reducible rfl)
        try simp only [Act.put, List.setIfInBounds_toArray, List.set_cons_zero, List.set_cons_succ]
        refine wpAnyH_take (i := 2) (oi := ({ dst := some 14, op := Go.Op.move (Go.Operand.tmp 0), type := 22, pos := "ref.go:16", after := #[], guard := none } : Oper)) (v := ?_) rfl (by kernel_rfl) (by kernel_rfl) (by kernel_rfl) (fun _ _ _ h => h) (Or.inl ⟨by kernel_rfl, ?_⟩) hHeld ?_
        rotate_left 1
        · (intro W hSw; (try dsimp only at hSw); go_simp; try with_reducible rfl)
        try simp only [Act.put, List.setIfInBounds_toArray, List.set_cons_zero, List.set_cons_succ]
        refine wpAnyH_take (i := 3) (oi := ({ dst := some 15, op := Go.Op.move (Go.Operand.tmp 4), type := 3, pos := "ref.go:16", after := #[], guard := none } : Oper)) (v := ?_) rfl (by kernel_rfl) (by kernel_rfl) (by kernel_rfl) (fun _ _ _ h => h) (Or.inl ⟨by kernel_rfl, ?_⟩) hHeld ?_
        rotate_left 1
        · (intro W hSw; (try dsimp only at hSw); go_simp; try with_reducible rfl)
        try simp only [Act.put, List.setIfInBounds_toArray, List.set_cons_zero, List.set_cons_succ]
        refine wpAnyH_take (i := 4) (oi := ({ dst := some 16, op := Go.Op.indexAddr 22 (Go.Operand.tmp 14) (Go.Operand.tmp 15), type := 0, pos := "ref.go:16", after := #[{ on := 2, ground := Go.Ground.data }, { on := 3, ground := Go.Ground.data }], guard := none } : Oper)) (v := ?_) rfl (by kernel_rfl) (by kernel_rfl) (by kernel_rfl) (fun _ _ _ h => h) (Or.inl ⟨by kernel_rfl, ?_⟩) hHeld ?_
        rotate_left 1
        · (intro W hSw; (try dsimp only at hSw); go_simp; try with_reducible rfl)
        try simp only [Act.put, List.setIfInBounds_toArray, List.set_cons_zero, List.set_cons_succ]
        refine wpAnyH_take (i := 5) (oi := ({ dst := some 17, op := Go.Op.load 3 (Go.Operand.tmp 16), type := 3, pos := "ref.go:16", after := #[{ on := 4, ground := Go.Ground.data }], guard := none } : Oper)) (v := ?_) rfl (by kernel_rfl) (by kernel_rfl) (by kernel_rfl) (fun _ _ _ h => h) (Or.inl ⟨by kernel_rfl, ?_⟩) hHeld ?_
        rotate_left 1
        · (intro W hSw; (try dsimp only at hSw); go_simp; try with_reducible rfl)
        try simp only [Act.put, List.setIfInBounds_toArray, List.set_cons_zero, List.set_cons_succ]
        refine wpAnyH_take (i := 6) (oi := ({ dst := some 18, op := Go.Op.call { callee := Go.Callee.builtin Go.Builtin.max, args := #[Go.Operand.const (Go.Value.int Go.IntKind.i64 0), Go.Operand.tmp 17], argTypes := #[3, 3] }, type := 3, pos := "ref.go:16", after := #[{ on := 5, ground := Go.Ground.data }], guard := none } : Oper)) (v := ?_) rfl (by kernel_rfl) (by kernel_rfl) (by kernel_rfl) (fun _ _ _ h => h) (Or.inl ⟨by kernel_rfl, ?_⟩) hHeld ?_
        rotate_left 1
        · (intro W hSw; (try dsimp only at hSw); go_simp; try with_reducible rfl)
        try simp only [Act.put, List.setIfInBounds_toArray, List.set_cons_zero, List.set_cons_succ]
        refine wpAnyH_ready (rs := [1, 7]) (by kernel_rfl) (by simp) (AllReadyH.cons (o := ({ dst := some 13, op := Go.Op.load 22 (Go.Operand.tmp 12), type := 22, pos := "ref.go:16", after := #[{ on := 0, ground := Go.Ground.data }], guard := none } : Oper)) rfl (fun K hK => ?_) (AllReadyH.cons (o := ({ dst := some 19, op := Go.Op.buildSlice 22 1 #[(0, Go.Operand.tmp 18)], type := 22, pos := "ref.go:16", after := #[{ on := 6, ground := Go.Ground.data }], guard := none } : Oper)) rfl (fun K hK => ?_) AllReadyH.nil))
        · obtain ⟨m0, m1, m2, mf, ml⟩ := (show HO w u0 ([_, _] ++ boxO (w.heap.size + 1) _ :: [_]) from J.out).c3
          go_simp
          clear m0 m1 m2 mf ml
          refine hK.out _ _ sk (fun hHeld2 => ?_)
          clear hK K hHeld
          have hHeld := hHeld2
          clear hHeld2
          try simp only [Act.put, List.setIfInBounds_toArray, List.set_cons_zero, List.set_cons_succ]
          refine wpAnyH_ready (rs := [7]) (by kernel_rfl) (by simp) (AllReadyH.cons (o := ({ dst := some 19, op := Go.Op.buildSlice 22 1 #[(0, Go.Operand.tmp 18)], type := 22, pos := "ref.go:16", after := #[{ on := 6, ground := Go.Ground.data }], guard := none } : Oper)) rfl (fun K hK => ?_) AllReadyH.nil)
          go_simp
          replace J := Lib.hid (J.out.made (.cells #[.int .i64 (max 0 x)] 3))
          have P1 := Lib.hid (is_one u0 (max 0 x))
          generalize u0.alloc (.cells #[.int .i64 (max 0 x)] 3) = u1 at *
          generalize u0.heap.size = kb at *
          (try clear sk)
          have sk := (HA2 _ J.out.below).out
          refine hK.out _ _ sk (fun hHeld2 => ?_)
          clear hK K hHeld
          have hHeld := hHeld2
          clear hHeld2
          try simp only [Act.put, List.setIfInBounds_toArray, List.set_cons_zero, List.set_cons_succ]
          refine wpAnyH_ready (rs := [8]) (by kernel_rfl) (by simp) (AllReadyH.cons (o := ({ dst := some 20, op := Go.Op.call { callee := Go.Callee.builtin Go.Builtin.append, args := #[Go.Operand.tmp 13, Go.Operand.tmp 19], argTypes := #[22, 22] }, type := 22, pos := "ref.go:16", after := #[{ on := 1, ground := Go.Ground.data }, { on := 7, ground := Go.Ground.data }], guard := none } : Oper)) rfl (fun K hK => ?_) AllReadyH.nil)
          refine step_appI (by rfl) _ _ (by rfl) (base := w.heap.size) (l := (newQ (L.take i)).ls) (m := [max 0 x]) (by rfl) (by exact rowI (show HO w u1 ([] ++ rowO w.heap.size 3 1 _ _ _ :: _) from J.out).at HT.out) (by rfl) (by exact P1.out) (by have := HT.out; simp only [List.length_singleton]; omega) (by exact J.out.below.size) ?_
          intro v6 u2 ho6 hg6 hw6 _
          obtain ⟨A6, c6, hv6, -, -⟩ := ho6.is.shape
          rw [List.length_append, HT.out, List.length_singleton] at hv6
          subst hv6
          have ho7 := rowI2 ho6 (by rw [List.length_append, HT.out])
          replace J := Lib.hid ((show HO w u1 ([] ++ rowO w.heap.size 3 1 _ _ _ :: _) from J.out).grow ho7 hg6 hw6)
          clear ho6 ho7 hg6 hw6
          (try clear sk)
          have sk := (HA2 _ J.out.below).out
          refine hK.out _ _ sk (fun hHeld2 => ?_)
          clear hK K hHeld
          have hHeld := hHeld2
          clear hHeld2
          try simp only [Act.put, List.setIfInBounds_toArray, List.set_cons_zero, List.set_cons_succ]
          refine wpAnyH_take (i := 9) (oi := ({ dst := some 21, op := Go.Op.fieldAddr 28 (Go.Operand.tmp 3) 1, type := 0, pos := "ref.go:16", after := #[{ on := 0, ground := Go.Ground.phase }, { on := 1, ground := Go.Ground.phase }, { on := 2, ground := Go.Ground.phase }, { on := 3, ground := Go.Ground.phase }, { on := 4, ground := Go.Ground.phase }, { on := 5, ground := Go.Ground.phase }, { on := 6, ground := Go.Ground.phase }, { on := 7, ground := Go.Ground.phase }, { on := 8, ground := Go.Ground.phase }], guard := none } : Oper)) (v := ?_) rfl (by kernel_rfl) (by kernel_rfl) (by kernel_rfl) (fun _ _ _ h => h) (Or.inl ⟨by kernel_rfl, ?_⟩) hHeld ?_
          rotate_left 1
          · (intro W hSw; (try dsimp only at hSw); go_simp; try with_reducible rfl)
          try simp only [Act.put, List.setIfInBounds_toArray, List.set_cons_zero, List.set_cons_succ]
          refine wpAnyH_ready (rs := [10]) (by kernel_rfl) (by simp) (AllReadyH.cons (o := ({ dst := none, op := Go.Op.store 22 (Go.Operand.tmp 21) (Go.Operand.tmp 20), type := 0, pos := "ref.go:16", after := #[{ on := 9, ground := Go.Ground.data }, { on := 8, ground := Go.Ground.data }, { on := 8, ground := Go.Ground.chain }, { on := 0, ground := Go.Ground.phase }, { on := 1, ground := Go.Ground.phase }, { on := 2, ground := Go.Ground.phase }, { on := 3, ground := Go.Ground.phase }, { on := 4, ground := Go.Ground.phase }, { on := 5, ground := Go.Ground.phase }, { on := 6, ground := Go.Ground.phase }, { on := 7, ground := Go.Ground.phase }, { on := 8, ground := Go.Ground.phase }], guard := none } : Oper)) rfl (fun K hK => ?_) AllReadyH.nil)
          obtain ⟨z0, z1, z2, zf, zl⟩ := (show HO w u2 ([_, _] ++ boxO (w.heap.size + 1) _ :: [_]) from J.out).c3
          go_simp
          replace J := Lib.hid ((show HO w u2 ([_, _] ++ boxO (w.heap.size + 1) [.bool true, _, .slice Ac i cc] :: [_]) from J.out).cell (i := 1) (by simp) (.slice A6 (i + 1) c6))
          clear z0 z1 z2 zf zl
          (try clear sk)
          have sk := (HA2 _ J.out.below).out
          refine hK.out _ _ sk (fun hHeld2 => ?_)
          clear hK K hHeld
          have hHeld := hHeld2
          clear hHeld2
          try simp only [Act.put, List.setIfInBounds_toArray, List.set_cons_zero, List.set_cons_succ]
          refine wpAnyH_done (by kernel_rfl) ?_ _
          go_wp2_with fail
          go_meet
          case rel => exact ⟨A6, c6, J⟩
        · go_simp
          replace J := Lib.hid (J.out.made (.cells #[.int .i64 (max 0 x)] 3))
          have P1 := Lib.hid (is_one u0 (max 0 x))
          generalize u0.alloc (.cells #[.int .i64 (max 0 x)] 3) = u1 at *
          generalize u0.heap.size = kb at *
          (try clear sk)
          have sk := (HA2 _ J.out.below).out
          refine hK.out _ _ sk (fun hHeld2 => ?_)
          clear hK K hHeld
          have hHeld := hHeld2
          clear hHeld2
          try simp only [Act.put, List.setIfInBounds_toArray, List.set_cons_zero, List.set_cons_succ]
          refine wpAnyH_ready (rs := [1]) (by kernel_rfl) (by simp) (AllReadyH.cons (o := ({ dst := some 13, op := Go.Op.load 22 (Go.Operand.tmp 12), type := 22, pos := "ref.go:16", after := #[{ on := 0, ground := Go.Ground.data }], guard := none } : Oper)) rfl (fun K hK => ?_) AllReadyH.nil)
          obtain ⟨m0, m1, m2, mf, ml⟩ := (show HO w u1 ([_, _] ++ boxO (w.heap.size + 1) _ :: [_]) from J.out).c3
          go_simp
          clear m0 m1 m2 mf ml
          refine hK.out _ _ sk (fun hHeld2 => ?_)
          clear hK K hHeld
          have hHeld := hHeld2
          clear hHeld2
          try simp only [Act.put, List.setIfInBounds_toArray, List.set_cons_zero, List.set_cons_succ]
          refine wpAnyH_ready (rs := [8]) (by kernel_rfl) (by simp) (AllReadyH.cons (o := ({ dst := some 20, op := Go.Op.call { callee := Go.Callee.builtin Go.Builtin.append, args := #[Go.Operand.tmp 13, Go.Operand.tmp 19], argTypes := #[22, 22] }, type := 22, pos := "ref.go:16", after := #[{ on := 1, ground := Go.Ground.data }, { on := 7, ground := Go.Ground.data }], guard := none } : Oper)) rfl (fun K hK => ?_) AllReadyH.nil)
          refine step_appI (by rfl) _ _ (by rfl) (base := w.heap.size) (l := (newQ (L.take i)).ls) (m := [max 0 x]) (by rfl) (by exact rowI (show HO w u1 ([] ++ rowO w.heap.size 3 1 _ _ _ :: _) from J.out).at HT.out) (by rfl) (by exact P1.out) (by have := HT.out; simp only [List.length_singleton]; omega) (by exact J.out.below.size) ?_
          intro v6 u2 ho6 hg6 hw6 _
          obtain ⟨A6, c6, hv6, -, -⟩ := ho6.is.shape
          rw [List.length_append, HT.out, List.length_singleton] at hv6
          subst hv6
          have ho7 := rowI2 ho6 (by rw [List.length_append, HT.out])
          replace J := Lib.hid ((show HO w u1 ([] ++ rowO w.heap.size 3 1 _ _ _ :: _) from J.out).grow ho7 hg6 hw6)
          clear ho6 ho7 hg6 hw6
          (try clear sk)
          have sk := (HA2 _ J.out.below).out
          refine hK.out _ _ sk (fun hHeld2 => ?_)
          clear hK K hHeld
          have hHeld := hHeld2
          clear hHeld2
          try simp only [Act.put, List.setIfInBounds_toArray, List.set_cons_zero, List.set_cons_succ]
          refine wpAnyH_take (i := 9) (oi := ({ dst := some 21, op := Go.Op.fieldAddr 28 (Go.Operand.tmp 3) 1, type := 0, pos := "ref.go:16", after := #[{ on := 0, ground := Go.Ground.phase }, { on := 1, ground := Go.Ground.phase }, { on := 2, ground := Go.Ground.phase }, { on := 3, ground := Go.Ground.phase }, { on := 4, ground := Go.Ground.phase }, { on := 5, ground := Go.Ground.phase }, { on := 6, ground := Go.Ground.phase }, { on := 7, ground := Go.Ground.phase }, { on := 8, ground := Go.Ground.phase }], guard := none } : Oper)) (v := ?_) rfl (by kernel_rfl) (by kernel_rfl) (by kernel_rfl) (fun _ _ _ h => h) (Or.inl ⟨by kernel_rfl, ?_⟩) hHeld ?_
          rotate_left 1
          · (intro W hSw; (try dsimp only at hSw); go_simp; try with_reducible rfl)
          try simp only [Act.put, List.setIfInBounds_toArray, List.set_cons_zero, List.set_cons_succ]
          refine wpAnyH_ready (rs := [10]) (by kernel_rfl) (by simp) (AllReadyH.cons (o := ({ dst := none, op := Go.Op.store 22 (Go.Operand.tmp 21) (Go.Operand.tmp 20), type := 0, pos := "ref.go:16", after := #[{ on := 9, ground := Go.Ground.data }, { on := 8, ground := Go.Ground.data }, { on := 8, ground := Go.Ground.chain }, { on := 0, ground := Go.Ground.phase }, { on := 1, ground := Go.Ground.phase }, { on := 2, ground := Go.Ground.phase }, { on := 3, ground := Go.Ground.phase }, { on := 4, ground := Go.Ground.phase }, { on := 5, ground := Go.Ground.phase }, { on := 6, ground := Go.Ground.phase }, { on := 7, ground := Go.Ground.phase }, { on := 8, ground := Go.Ground.phase }], guard := none } : Oper)) rfl (fun K hK => ?_) AllReadyH.nil)
          obtain ⟨z0, z1, z2, zf, zl⟩ := (show HO w u2 ([_, _] ++ boxO (w.heap.size + 1) _ :: [_]) from J.out).c3
          go_simp
          replace J := Lib.hid ((show HO w u2 ([_, _] ++ boxO (w.heap.size + 1) [.bool true, _, .slice Ac i cc] :: [_]) from J.out).cell (i := 1) (by simp) (.slice A6 (i + 1) c6))
          clear z0 z1 z2 zf zl
          (try clear sk)
          have sk := (HA2 _ J.out.below).out
          refine hK.out _ _ sk (fun hHeld2 => ?_)
          clear hK K hHeld
          have hHeld := hHeld2
          clear hHeld2
          try simp only [Act.put, List.setIfInBounds_toArray, List.set_cons_zero, List.set_cons_succ]
          refine wpAnyH_done (by kernel_rfl) ?_ _
          go_wp2_with fail
          go_meet
          case rel => exact ⟨A6, c6, J⟩
      case rest =>
        obtain ⟨A6, c6, J1⟩ := hcut
        clear J HA2
        obtain ⟨z0, z1, z2, zf, zl⟩ := (show HO w wc ([_, _] ++ boxO (w.heap.size + 1) _ :: [_]) from J1.out).c3
        have J2 := Lib.hid (J1.out.made (.cells #[.int .i64 0] 3))
        have P0 := Lib.hid (is_one wc 0)
        go_wp2_with (at_builtin; refine wpList_appI rfl _ _ rfl (base := w.heap.size) (l := (newQ (L.take i)).cs) (m := [0]) rfl (rowI (show HO w _ ([_] ++ rowO w.heap.size 3 1 _ _ _ :: _) from J2.out).at HT2.out) rfl P0.out (by have := HT2.out; simp only [List.length_singleton]; omega) J2.out.below.size ?_; intro v6 u6 ho6 hg6 hw6 _; obtain ⟨A7, c7, hv6, -, -⟩ := ho6.is.shape; rw [List.length_append, HT2.out, List.length_singleton] at hv6; subst hv6; have ho7 := rowI2 ho6 (by rw [List.length_append, HT2.out]); have J3 := Lib.hid ((show HO w _ ([_] ++ rowO w.heap.size 3 1 _ _ _ :: _) from J2.out).grow ho7 hg6 hw6); clear ho6 ho7 hg6 hw6 z0 z1 z2 zf zl J1 J2; obtain ⟨z0, z1, z2, zf, zl⟩ := (show HO w u6 ([_, _] ++ boxO (w.heap.size + 1) _ :: [_]) from J3.out).c3)
        have J4 := Lib.hid ((show HO w u6 ([_, _] ++ boxO (w.heap.size + 1) [.bool true, .slice A6 (i + 1) c6, _] :: [_]) from J3.out).cell (i := 2) (by simp) (.slice A7 (i + 1) c7))
        clear J3
        rw [← HT1.out, ← HT3.out] at J4
        go_roundw
        case rel => exact ⟨i + 1, A6, c6, A7, c7, by omega, by go_num, J4⟩
        case measure =>
          unfold leftN
          simp [intOf]
          omega
    · obtain rfl : n = i := by omega
      have e1 : L.take n = L := List.take_of_length_le (by rw [HN.out]; exact Nat.le_refl _)
      rw [e1] at J
      obtain ⟨z0, z1, z2, zf, zl⟩ := (show HO w wr ([_, _] ++ boxO (w.heap.size + 1) _ :: [_]) from J.out).c3
      obtain ⟨y0, y1, y2, yf, yl⟩ := (show HO w wr ([_, _, _] ++ boxO w.heap.size _ :: []) from J.out).c3
      have J2 := Lib.hid ((show HO w wr ([_, _, _] ++ boxO w.heap.size [.bool false, .slice none 0 0, .slice none 0 0] :: []) from J.out).set3 (.bool true) (.slice Al n cl) (.slice Ac n cc))
      clear J e1
      go_wp2_with fail
      obtain ⟨x0, x1, x2, -, -⟩ := (show HO w _ ([_, _, _] ++ boxO w.heap.size _ :: []) from J2.out).c3
      have r1 := rowI (show HO w _ ([] ++ rowO w.heap.size 3 1 _ _ _ :: _) from J2.out).at (by have := HN.out; simp [newQ]; exact this)
      have r2 := rowI (show HO w _ ([_] ++ rowO w.heap.size 3 1 _ _ _ :: _) from J2.out).at (by have := HN.out; simp [newQ]; exact this)
      exact bodyPost_ret (v := qV (.slice Al n cl) (.slice Ac n cc)) (by simp [results, Try.results13, go_sem, x0, x1, x2]) rfl ⟨_, _, rfl, r1, r2, fun k hk => (List.pairwise_cons.1 J2.out.pw).1 _ (List.mem_cons_self ..) k hk, J2.out.below⟩

end Go.Proofs.Ytkehdaahlfkiiaa
