/-
  Package state: Content.
-/
import Derived.Test.YthedglfocjljjaaGreatDoorSct
namespace Go.Proofs.YthedglfocjljjaaGreatDoor
open Go.RowKit

set_option maxRecDepth 100000 in
set_option maxHeartbeats 16000000 in
theorem cont_any (G : RG) {w : World} (T : Trf.Tab w) {s : St} {L : List Bv} {vb vd vo vi vc : Value} (h : StAt w s L vb vd vo vi vc) (hf : Few s) :
    Calls Tryz.prog 22 #[stV s vb vd vo vi vc] w (ConO s w) := by
  have C := fun (W : World) (hb : Below w.heap.size w W) => Lib.hid (chk_any G (h.below hb) hf)
  have D := fun (hc : chkS s = 0) (W : World) (hb : Below w.heap.size w W) => Lib.hid (size_any (h.below hb) hc)
  have HB := Lib.hid h.bf
  have HPX := Lib.hid h.px
  have HEQ := Lib.hid h.eq
  have CI := fun (W : World) (hb : Below w.heap.size w W) => Lib.hid (Trf.invert_any s.tr W (T.below hb))
  obtain ⟨A0, c, rfl, h1, h2⟩ := h.bf.shape
  obtain ⟨Ad, cd, rfl, hd1, hd2⟩ := h.dm.shape
  obtain ⟨Ao, co, rfl, ho1, ho2⟩ := h.op.shape
  obtain ⟨Ai, ci, rfl, hi1, hi2⟩ := h.ip.shape
  obtain ⟨Ac, cc, rfl, hc1, hc2⟩ := h.cb.shape
  simp only [maxLen] at h2 hd2 ho2 hi2 hc2
  have hlen := h.len
  obtain ⟨set, bf, sc, tr, dm, op, is, ip, dx, dy, cb⟩ := s
  dsimp only at HEQ CI hlen hd1 ho1 hi1 hc1 hd2 ho2 hi2 hc2
  have J := Lib.hid (show HO w _ [boxO (w.heap.size + 1) [.int .i64 0, .int .i64 0, .slice none 0 0], boxO w.heap.size _] from by
    have h := ((HO.nil w).alloc (stC ⟨set, bf, sc, tr, dm, op, is, ip, dx, dy, cb⟩ (.slice A0 L.length c) (.slice Ad dm.length cd) (.slice Ao op.length co) (.slice Ai ip.length ci) (.slice Ac cb.length cc)) 28).alloc [.int .i64 0, .int .i64 0, .slice none 0 0] 42
    simp only [World.size_alloc] at h
    exact h)
  clear h hf T
  generalize dm.length = nd at *
  generalize op.length = no at *
  generalize ip.length = ni at *
  generalize cb.length = nc at *
  unfold ConO
  by_cases hn : L.length = 0
  · have a6 : bf = [] := List.eq_nil_of_length_eq_zero (by rw [hlen]; exact hn)
    have ez : sizS ⟨set, bf, sc, tr, dm, op, is, ip, dx, dy, cb⟩ = (0, 0) := by subst a6; unfold sizS; split <;> rfl
    have ec : hasC ⟨set, bf, sc, tr, dm, op, is, ip, dx, dy, cb⟩ = false := by subst a6; simp [hasC]
    rw [ez, ec]
    have er : conR ⟨set, bf, sc, tr, dm, op, is, ip, dx, dy, cb⟩ = [] := by unfold conR; rw [ec]; rfl
    rw [er]
    rw [hn] at J C ⊢
    clear ez ec er
    obtain ⟨x0, x1, x2, x3, x4, x5, x6, x7, x8, x9, x10, xf, xl⟩ := (show HO w _ ([_] ++ boxO w.heap.size [_, _, _, _, _, _, _, _, _, _, _] :: []) from J.out).c11
    go_enter Tryz.func22, Tryz.ntmps22
    go_wp2_with fail
    exact bodyPost_ret (v := .tuple #[.agg #[.int .i64 0, .int .i64 0, .slice none 0 0], .bool false]) (by simp [results, Tryz.results22, go_sem]) rfl ⟨_, rfl, pxs_nil _, ((Below.refl w.heap.size w).alloc (Nat.le_refl _) _).alloc (by simp) _⟩
  · by_cases hc : chkS ⟨set, bf, sc, tr, dm, op, is, ip, dx, dy, cb⟩ = 0
    · obtain ⟨a1, a2, -, -⟩ := chk_ok hc
      obtain ⟨-, -, hl1⟩ := arg_ok a1
      dsimp only at hl1
      rcases one_list (show L.length ≤ 1 by omega) with rfl | ⟨⟨x, v⟩, rfl⟩
      · exact absurd rfl hn
      have a6 : bf = [x] := HEQ.out.symm
      subst a6
      obtain ⟨A, B, p, q, hA, hB, hV, hS, hp, hq, hL, hvb⟩ := con_facts hc rfl
      have ec : hasC ⟨set, [x], sc, tr, dm, op, is, ip, dx, dy, cb⟩ = true := by simp [hasC, hc]
      have er : conR ⟨set, [x], sc, tr, dm, op, is, ip, dx, dy, cb⟩ = nearL A B (imgS ⟨set, [x], sc, tr, dm, op, is, ip, dx, dy, cb⟩ x) p q := by unfold conR; rw [ec, if_pos rfl, hL]
      rw [ec, er]
      replace D := D hc
      rw [hS] at D ⊢
      rw [hc] at C
      unfold imgS at hV ⊢
      dsimp only at hV hA hB D ⊢
      obtain ⟨b0, off, rfl, hb0, -⟩ := bf_cells HB.out (by simp) (Below.refl _ _)
      have HA0 := fun (W : World) (hw : Below w.heap.size w W) => Lib.hid (show W.cell? ⟨b0, off, none⟩ = some (.int .i64 x.a) ∧ W.cell? ⟨b0, off + 1, none⟩ = some (.int .i64 x.b) ∧ W.cell? ⟨b0, off + 2, none⟩ = some v from by
        obtain ⟨b9, off9, e9, hl9, h9⟩ := bf_cells HB.out (by simp) hw
        simp only [Option.some.injEq, Addr.mk.injEq, and_true] at e9
        obtain ⟨rfl, rfl⟩ := e9
        obtain ⟨y0, y1, y2⟩ := h9 0 (x, v) rfl
        simp only [Nat.zero_mul, Nat.add_zero] at y0 y1 y2
        exact ⟨y0, y1, y2⟩)
      have hpx := HPX.out (x, v) (by simp)
      have CP := fun (W : World) (hw : Below w.heap.size w W) => Lib.hid (pix_any (hpx.below hw) hvb hA hB)
      have CN := fun (W : World) (u : Value) (hu : Pxs W u (imgN (Trf.inv tr) x.a x.b x.l)) => Lib.hid (near_good hu hV hp hq)
      obtain ⟨xa, xb, xpl⟩ := x
      obtain ⟨Ap, cp, hvp, -, -⟩ := hpx.shape
      dsimp only at hvp CP HA0 CN hV J C D ⊢
      subst hvp
      unfold PixO at CP
      unfold Outs at CN
      generalize imgN (Trf.inv tr) xa xb xpl = l1 at *
      generalize nearL A B l1 p q = R1 at *
      have HA := HA0
      generalize l1.length = nq at *
      generalize xpl.length = np at *
      simp only [List.length_cons, List.length_nil, Nat.zero_add] at J C D h1 ⊢
      clear HA0 hpx HB HPX HEQ hA hB hS hL hvb a1 a2 hc ec er hlen hn hV
      obtain ⟨x0, x1, x2, x3, x4, x5, x6, x7, x8, x9, x10, xf, xl⟩ := (show HO w _ ([_] ++ boxO w.heap.size [_, _, _, _, _, _, _, _, _, _, _] :: []) from J.out).c11
      go_enter Tryz.func22, Tryz.ntmps22
      go_wp2_with fail
      refine (C _ J.out.below).out.mono ?_
      rintro e w4 ⟨rfl, hb⟩
      replace J := Lib.hid (J.out.step hb)
      clear hb C x0 x1 x2 x3 x4 x5 x6 x7 x8 x9 x10 xf xl
      go_upto_region 3 with fail
      go_cut [4] from 18 to 25 (fun s4 wx => ∃ kb Aq cq, s4 = .pointer (some ⟨kb, 0, none⟩) ∧ Hid (HO w wx [boxO kb [.int .i64 (A : Int), .int .i64 (B : Int), .slice Aq nq cq], pxO1 (.slice Aq nq cq) l1, boxO (w.heap.size + 1) [.int .i64 0, .int .i64 0, .slice none 0 0], boxO w.heap.size (stC ⟨set, [⟨xa, xb, xpl⟩], sc, tr, dm, op, is, ip, dx, dy, cb⟩ (.slice (some ⟨b0, off, none⟩) 1 c) (.slice Ad nd cd) (.slice Ao no co) (.slice Ai ni ci) (.slice Ac nc cc))]))
      case first =>
        replace J := Lib.hid J.out.drew
        have sk : _ ∧ _ ∧ _ ∧ _ ∧ _ := And.intro ((show HO w _ ([_] ++ boxO w.heap.size [_, _, _, _, _, _, _, _, _, _, _] :: _) from J.out).c 3 rfl) (And.intro ((show HO w _ ([_] ++ boxO w.heap.size [_, _, _, _, _, _, _, _, _, _, _] :: _) from J.out).c 1 rfl) (HA _ J.out.below).out)
        refine wp_region_held_drew (S := (fun W => W.cell? ⟨w.heap.size, 3, none⟩ = some (.int .i64 tr) ∧ W.cell? ⟨w.heap.size, 1, none⟩ = some (.slice (some ⟨b0, off, none⟩) 1 c) ∧ W.cell? ⟨b0, off, none⟩ = some (.int .i64 xa) ∧ W.cell? ⟨b0, off + 1, none⟩ = some (.int .i64 xb) ∧ W.cell? ⟨b0, off + 2, none⟩ = some (.slice Ap np cp))) (by kernel_rfl) sk (fun hHeld => ?_)
        generalize w4.drew = u0 at *
        refine wpAnyH_take (i := 0) (oi := ({ dst := some 18, op := Go.Op.fieldAddr 28 (Go.Operand.tmp 1) 3, type := 0, pos := "state.go:119", after := #[], guard := none } : Oper)) (v := ?_) rfl (by kernel_rfl) (by kernel_rfl) (by kernel_rfl) (fun _ _ _ h => h) (Or.inl ⟨by kernel_rfl, ?_⟩) hHeld ?_
        rotate_left 1
        · (intro W hSw; (try dsimp only at hSw); go_simp; try with_reducible rfl)
        try simp only [Act.put, List.setIfInBounds_toArray, List.set_cons_zero, List.set_cons_succ]
        refine wpAnyH_take (i := 1) (oi := ({ dst := some 19, op := Go.Op.load 3 (Go.Operand.tmp 18), type := 3, pos := "state.go:119", after := #[{ on := 0, ground := Go.Ground.data }], guard := none } : Oper)) (v := ?_) rfl (by kernel_rfl) (by kernel_rfl) (by kernel_rfl) (fun _ _ _ h => h) (Or.inl ⟨by kernel_rfl, ?_⟩) hHeld ?_
        rotate_left 1
        · (intro W hSw; (try dsimp only at hSw); go_simp; try with_reducible rfl)
        try simp only [Act.put, List.setIfInBounds_toArray, List.set_cons_zero, List.set_cons_succ]
        refine wpAnyH_take (i := 3) (oi := ({ dst := some 21, op := Go.Op.fieldAddr 28 (Go.Operand.tmp 1) 1, type := 0, pos := "state.go:119", after := #[], guard := none } : Oper)) (v := ?_) rfl (by kernel_rfl) (by kernel_rfl) (by kernel_rfl) (fun _ _ _ h => h) (Or.inl ⟨by kernel_rfl, ?_⟩) hHeld ?_
        rotate_left 1
        · (intro W hSw; (try dsimp only at hSw); go_simp; try with_reducible rfl)
        try simp only [Act.put, List.setIfInBounds_toArray, List.set_cons_zero, List.set_cons_succ]
        refine wpAnyH_take (i := 4) (oi := ({ dst := some 22, op := Go.Op.load 22 (Go.Operand.tmp 21), type := 22, pos := "state.go:119", after := #[{ on := 3, ground := Go.Ground.data }], guard := none } : Oper)) (v := ?_) rfl (by kernel_rfl) (by kernel_rfl) (by kernel_rfl) (fun _ _ _ h => h) (Or.inl ⟨by kernel_rfl, ?_⟩) hHeld ?_
        rotate_left 1
        · (intro W hSw; (try dsimp only at hSw); go_simp; try with_reducible rfl)
        try simp only [Act.put, List.setIfInBounds_toArray, List.set_cons_zero, List.set_cons_succ]
        refine wpAnyH_take (i := 5) (oi := ({ dst := some 23, op := Go.Op.indexAddr 22 (Go.Operand.tmp 22) (Go.Operand.const (Go.Value.int Go.IntKind.i64 0)), type := 0, pos := "state.go:119", after := #[{ on := 4, ground := Go.Ground.data }], guard := none } : Oper)) (v := ?_) rfl (by kernel_rfl) (by kernel_rfl) (by kernel_rfl) (fun _ _ _ h => h) (Or.inl ⟨by kernel_rfl, ?_⟩) hHeld ?_
        rotate_left 1
        · (intro W hSw; (try dsimp only at hSw); go_simp; try with_reducible rfl)
        try simp only [Act.put, List.setIfInBounds_toArray, List.set_cons_zero, List.set_cons_succ]
        refine wpAnyH_take (i := 6) (oi := ({ dst := some 24, op := Go.Op.load 42 (Go.Operand.tmp 23), type := 42, pos := "state.go:119", after := #[{ on := 5, ground := Go.Ground.data }], guard := none } : Oper)) (v := ?_) rfl (by kernel_rfl) (by kernel_rfl) (by kernel_rfl) (fun _ _ _ h => h) (Or.inl ⟨by kernel_rfl, ?_⟩) hHeld ?_
        rotate_left 1
        · (intro W hSw; (try dsimp only at hSw); go_simp; try with_reducible rfl)
        try simp only [Act.put, List.setIfInBounds_toArray, List.set_cons_zero, List.set_cons_succ]
        refine wpAnyH_ready (rs := [2, 8]) (by kernel_rfl) (by simp) (AllReadyH.cons (o := ({ dst := some 20, op := Go.Op.call { callee := Go.Callee.value (Go.Operand.func 53), args := #[Go.Operand.tmp 19], argTypes := #[3] }, type := 3, pos := "state.go:119", after := #[{ on := 1, ground := Go.Ground.data }], guard := none } : Oper)) rfl (fun K hK => ?_) (AllReadyH.cons (o := ({ dst := some 4, op := Go.Op.alloc 42, type := 0, pos := "state.go:119", after := #[], guard := none } : Oper)) rfl (fun K hK => ?_) AllReadyH.nil))
        · go_simp
          refine (CI _ J.out.below).out.mono ?_
          rintro e u1 ⟨rfl, hb⟩
          replace J := Lib.hid (J.out.step hb)
          clear hb sk
          have sk : _ ∧ _ ∧ _ ∧ _ ∧ _ := And.intro ((show HO w _ ([_] ++ boxO w.heap.size [_, _, _, _, _, _, _, _, _, _, _] :: _) from J.out).c 3 rfl) (And.intro ((show HO w _ ([_] ++ boxO w.heap.size [_, _, _, _, _, _, _, _, _, _, _] :: _) from J.out).c 1 rfl) (HA _ J.out.below).out)
          refine hK.out _ _ sk (fun hHeld2 => ?_)
          clear hK K hHeld
          have hHeld := hHeld2
          clear hHeld2
          try simp only [Act.put, List.setIfInBounds_toArray, List.set_cons_zero, List.set_cons_succ]
          refine wpAnyH_ready (rs := [7, 8]) (by kernel_rfl) (by simp) (AllReadyH.cons (o := ({ dst := some 25, op := Go.Op.call { callee := Go.Callee.value (Go.Operand.func 52), args := #[Go.Operand.tmp 20, Go.Operand.tmp 24], argTypes := #[3, 42] }, type := 42, pos := "state.go:119", after := #[{ on := 2, ground := Go.Ground.data }, { on := 6, ground := Go.Ground.data }, { on := 2, ground := Go.Ground.chain }], guard := none } : Oper)) rfl (fun K hK => ?_) (AllReadyH.cons (o := ({ dst := some 4, op := Go.Op.alloc 42, type := 0, pos := "state.go:119", after := #[], guard := none } : Oper)) rfl (fun K hK => ?_) AllReadyH.nil))
          · go_simp
            refine (CP _ J.out.below).out.mono ?_
            rintro e u2 ⟨Aq, cq, rfl, hp9, hb, hn9⟩
            replace J := Lib.hid (J.out.pxs hb hp9 hn9)
            clear hb hp9 hn9 sk
            have sk : _ ∧ _ ∧ _ ∧ _ ∧ _ := And.intro ((show HO w _ ([_, _] ++ boxO w.heap.size [_, _, _, _, _, _, _, _, _, _, _] :: _) from J.out).c 3 rfl) (And.intro ((show HO w _ ([_, _] ++ boxO w.heap.size [_, _, _, _, _, _, _, _, _, _, _] :: _) from J.out).c 1 rfl) (HA _ J.out.below).out)
            refine hK.out _ _ sk (fun hHeld2 => ?_)
            clear hK K hHeld
            have hHeld := hHeld2
            clear hHeld2
            try simp only [Act.put, List.setIfInBounds_toArray, List.set_cons_zero, List.set_cons_succ]
            refine wpAnyH_ready (rs := [8]) (by kernel_rfl) (by simp) (AllReadyH.cons (o := ({ dst := some 4, op := Go.Op.alloc 42, type := 0, pos := "state.go:119", after := #[], guard := none } : Oper)) rfl (fun K hK => ?_) AllReadyH.nil)
            go_simp
            replace J := Lib.hid (J.out.alloc [.int .i64 0, .int .i64 0, .slice none 0 0] 42)
            generalize u2.alloc (.cells #[.int .i64 0, .int .i64 0, .slice none 0 0] 42) = u3 at *
            generalize u2.heap.size = kb at *
            clear sk
            have sk : _ ∧ _ ∧ _ ∧ _ ∧ _ := And.intro ((show HO w _ ([_, _, _] ++ boxO w.heap.size [_, _, _, _, _, _, _, _, _, _, _] :: _) from J.out).c 3 rfl) (And.intro ((show HO w _ ([_, _, _] ++ boxO w.heap.size [_, _, _, _, _, _, _, _, _, _, _] :: _) from J.out).c 1 rfl) (HA _ J.out.below).out)
            refine hK.out _ _ sk (fun hHeld2 => ?_)
            clear hK K hHeld
            have hHeld := hHeld2
            clear hHeld2
            try simp only [Act.put, List.setIfInBounds_toArray, List.set_cons_zero, List.set_cons_succ]
            refine wpAnyH_ready (rs := [9]) (by kernel_rfl) (by simp) (AllReadyH.cons (o := ({ dst := none, op := Go.Op.store 42 (Go.Operand.tmp 4) (Go.Operand.tmp 25), type := 0, pos := "state.go:119", after := #[{ on := 8, ground := Go.Ground.data }, { on := 7, ground := Go.Ground.data }, { on := 7, ground := Go.Ground.chain }, { on := 0, ground := Go.Ground.phase }, { on := 1, ground := Go.Ground.phase }, { on := 2, ground := Go.Ground.phase }, { on := 3, ground := Go.Ground.phase }, { on := 4, ground := Go.Ground.phase }, { on := 5, ground := Go.Ground.phase }, { on := 6, ground := Go.Ground.phase }, { on := 7, ground := Go.Ground.phase }, { on := 8, ground := Go.Ground.phase }], guard := none } : Oper)) rfl (fun K hK => ?_) AllReadyH.nil)
            obtain ⟨q0, q1, q2, qf, ql⟩ := (show HO w u3 ([] ++ boxO kb [_, _, _] :: _) from J.out).c3
            go_simp
            replace J := Lib.hid ((show HO w _ ([] ++ boxO kb [_, _, _] :: _) from J.out).set3 (.int .i64 (A : Int)) (.int .i64 (B : Int)) (.slice Aq nq cq))
            clear q0 q1 q2 qf ql sk
            have sk : _ ∧ _ ∧ _ ∧ _ ∧ _ := And.intro ((show HO w _ ([_, _, _] ++ boxO w.heap.size [_, _, _, _, _, _, _, _, _, _, _] :: _) from J.out).c 3 rfl) (And.intro ((show HO w _ ([_, _, _] ++ boxO w.heap.size [_, _, _, _, _, _, _, _, _, _, _] :: _) from J.out).c 1 rfl) (HA _ J.out.below).out)
            refine hK.out _ _ sk (fun hHeld2 => ?_)
            clear hK K hHeld
            have hHeld := hHeld2
            clear hHeld2
            try simp only [Act.put, List.setIfInBounds_toArray, List.set_cons_zero, List.set_cons_succ]
            refine wpAnyH_done (by kernel_rfl) ?_ _
            clear sk
            go_wp2_with fail
            go_meet
            case rel => exact ⟨kb, Aq, cq, rfl, J⟩
          · go_simp
            replace J := Lib.hid (J.out.alloc [.int .i64 0, .int .i64 0, .slice none 0 0] 42)
            generalize u1.alloc (.cells #[.int .i64 0, .int .i64 0, .slice none 0 0] 42) = u2 at *
            generalize u1.heap.size = kb at *
            clear sk
            have sk : _ ∧ _ ∧ _ ∧ _ ∧ _ := And.intro ((show HO w _ ([_, _] ++ boxO w.heap.size [_, _, _, _, _, _, _, _, _, _, _] :: _) from J.out).c 3 rfl) (And.intro ((show HO w _ ([_, _] ++ boxO w.heap.size [_, _, _, _, _, _, _, _, _, _, _] :: _) from J.out).c 1 rfl) (HA _ J.out.below).out)
            refine hK.out _ _ sk (fun hHeld2 => ?_)
            clear hK K hHeld
            have hHeld := hHeld2
            clear hHeld2
            try simp only [Act.put, List.setIfInBounds_toArray, List.set_cons_zero, List.set_cons_succ]
            refine wpAnyH_ready (rs := [7]) (by kernel_rfl) (by simp) (AllReadyH.cons (o := ({ dst := some 25, op := Go.Op.call { callee := Go.Callee.value (Go.Operand.func 52), args := #[Go.Operand.tmp 20, Go.Operand.tmp 24], argTypes := #[3, 42] }, type := 42, pos := "state.go:119", after := #[{ on := 2, ground := Go.Ground.data }, { on := 6, ground := Go.Ground.data }, { on := 2, ground := Go.Ground.chain }], guard := none } : Oper)) rfl (fun K hK => ?_) AllReadyH.nil)
            go_simp
            refine (CP _ J.out.below).out.mono ?_
            rintro e u3 ⟨Aq, cq, rfl, hp9, hb, hn9⟩
            replace J := Lib.hid (J.out.pxs hb hp9 hn9)
            clear hb hp9 hn9 sk
            have sk : _ ∧ _ ∧ _ ∧ _ ∧ _ := And.intro ((show HO w _ ([_, _, _] ++ boxO w.heap.size [_, _, _, _, _, _, _, _, _, _, _] :: _) from J.out).c 3 rfl) (And.intro ((show HO w _ ([_, _, _] ++ boxO w.heap.size [_, _, _, _, _, _, _, _, _, _, _] :: _) from J.out).c 1 rfl) (HA _ J.out.below).out)
            refine hK.out _ _ sk (fun hHeld2 => ?_)
            clear hK K hHeld
            have hHeld := hHeld2
            clear hHeld2
            try simp only [Act.put, List.setIfInBounds_toArray, List.set_cons_zero, List.set_cons_succ]
            refine wpAnyH_ready (rs := [9]) (by kernel_rfl) (by simp) (AllReadyH.cons (o := ({ dst := none, op := Go.Op.store 42 (Go.Operand.tmp 4) (Go.Operand.tmp 25), type := 0, pos := "state.go:119", after := #[{ on := 8, ground := Go.Ground.data }, { on := 7, ground := Go.Ground.data }, { on := 7, ground := Go.Ground.chain }, { on := 0, ground := Go.Ground.phase }, { on := 1, ground := Go.Ground.phase }, { on := 2, ground := Go.Ground.phase }, { on := 3, ground := Go.Ground.phase }, { on := 4, ground := Go.Ground.phase }, { on := 5, ground := Go.Ground.phase }, { on := 6, ground := Go.Ground.phase }, { on := 7, ground := Go.Ground.phase }, { on := 8, ground := Go.Ground.phase }], guard := none } : Oper)) rfl (fun K hK => ?_) AllReadyH.nil)
            replace J := Lib.hid J.out.swap
            obtain ⟨q0, q1, q2, qf, ql⟩ := (show HO w u3 ([] ++ boxO kb [_, _, _] :: _) from J.out).c3
            go_simp
            replace J := Lib.hid ((show HO w _ ([] ++ boxO kb [_, _, _] :: _) from J.out).set3 (.int .i64 (A : Int)) (.int .i64 (B : Int)) (.slice Aq nq cq))
            clear q0 q1 q2 qf ql sk
            have sk : _ ∧ _ ∧ _ ∧ _ ∧ _ := And.intro ((show HO w _ ([_, _, _] ++ boxO w.heap.size [_, _, _, _, _, _, _, _, _, _, _] :: _) from J.out).c 3 rfl) (And.intro ((show HO w _ ([_, _, _] ++ boxO w.heap.size [_, _, _, _, _, _, _, _, _, _, _] :: _) from J.out).c 1 rfl) (HA _ J.out.below).out)
            refine hK.out _ _ sk (fun hHeld2 => ?_)
            clear hK K hHeld
            have hHeld := hHeld2
            clear hHeld2
            try simp only [Act.put, List.setIfInBounds_toArray, List.set_cons_zero, List.set_cons_succ]
            refine wpAnyH_done (by kernel_rfl) ?_ _
            clear sk
            go_wp2_with fail
            go_meet
            case rel => exact ⟨kb, Aq, cq, rfl, J⟩
        · go_simp
          replace J := Lib.hid (J.out.alloc [.int .i64 0, .int .i64 0, .slice none 0 0] 42)
          generalize u0.alloc (.cells #[.int .i64 0, .int .i64 0, .slice none 0 0] 42) = u1 at *
          generalize u0.heap.size = kb at *
          clear sk
          have sk : _ ∧ _ ∧ _ ∧ _ ∧ _ := And.intro ((show HO w _ ([_, _] ++ boxO w.heap.size [_, _, _, _, _, _, _, _, _, _, _] :: _) from J.out).c 3 rfl) (And.intro ((show HO w _ ([_, _] ++ boxO w.heap.size [_, _, _, _, _, _, _, _, _, _, _] :: _) from J.out).c 1 rfl) (HA _ J.out.below).out)
          refine hK.out _ _ sk (fun hHeld2 => ?_)
          clear hK K hHeld
          have hHeld := hHeld2
          clear hHeld2
          try simp only [Act.put, List.setIfInBounds_toArray, List.set_cons_zero, List.set_cons_succ]
          refine wpAnyH_ready (rs := [2]) (by kernel_rfl) (by simp) (AllReadyH.cons (o := ({ dst := some 20, op := Go.Op.call { callee := Go.Callee.value (Go.Operand.func 53), args := #[Go.Operand.tmp 19], argTypes := #[3] }, type := 3, pos := "state.go:119", after := #[{ on := 1, ground := Go.Ground.data }], guard := none } : Oper)) rfl (fun K hK => ?_) AllReadyH.nil)
          go_simp
          refine (CI _ J.out.below).out.mono ?_
          rintro e u2 ⟨rfl, hb⟩
          replace J := Lib.hid (J.out.step hb)
          clear hb sk
          have sk : _ ∧ _ ∧ _ ∧ _ ∧ _ := And.intro ((show HO w _ ([_, _] ++ boxO w.heap.size [_, _, _, _, _, _, _, _, _, _, _] :: _) from J.out).c 3 rfl) (And.intro ((show HO w _ ([_, _] ++ boxO w.heap.size [_, _, _, _, _, _, _, _, _, _, _] :: _) from J.out).c 1 rfl) (HA _ J.out.below).out)
          refine hK.out _ _ sk (fun hHeld2 => ?_)
          clear hK K hHeld
          have hHeld := hHeld2
          clear hHeld2
          try simp only [Act.put, List.setIfInBounds_toArray, List.set_cons_zero, List.set_cons_succ]
          refine wpAnyH_ready (rs := [7]) (by kernel_rfl) (by simp) (AllReadyH.cons (o := ({ dst := some 25, op := Go.Op.call { callee := Go.Callee.value (Go.Operand.func 52), args := #[Go.Operand.tmp 20, Go.Operand.tmp 24], argTypes := #[3, 42] }, type := 42, pos := "state.go:119", after := #[{ on := 2, ground := Go.Ground.data }, { on := 6, ground := Go.Ground.data }, { on := 2, ground := Go.Ground.chain }], guard := none } : Oper)) rfl (fun K hK => ?_) AllReadyH.nil)
          go_simp
          refine (CP _ J.out.below).out.mono ?_
          rintro e u3 ⟨Aq, cq, rfl, hp9, hb, hn9⟩
          replace J := Lib.hid (J.out.pxs hb hp9 hn9)
          clear hb hp9 hn9 sk
          have sk : _ ∧ _ ∧ _ ∧ _ ∧ _ := And.intro ((show HO w _ ([_, _, _] ++ boxO w.heap.size [_, _, _, _, _, _, _, _, _, _, _] :: _) from J.out).c 3 rfl) (And.intro ((show HO w _ ([_, _, _] ++ boxO w.heap.size [_, _, _, _, _, _, _, _, _, _, _] :: _) from J.out).c 1 rfl) (HA _ J.out.below).out)
          refine hK.out _ _ sk (fun hHeld2 => ?_)
          clear hK K hHeld
          have hHeld := hHeld2
          clear hHeld2
          try simp only [Act.put, List.setIfInBounds_toArray, List.set_cons_zero, List.set_cons_succ]
          refine wpAnyH_ready (rs := [9]) (by kernel_rfl) (by simp) (AllReadyH.cons (o := ({ dst := none, op := Go.Op.store 42 (Go.Operand.tmp 4) (Go.Operand.tmp 25), type := 0, pos := "state.go:119", after := #[{ on := 8, ground := Go.Ground.data }, { on := 7, ground := Go.Ground.data }, { on := 7, ground := Go.Ground.chain }, { on := 0, ground := Go.Ground.phase }, { on := 1, ground := Go.Ground.phase }, { on := 2, ground := Go.Ground.phase }, { on := 3, ground := Go.Ground.phase }, { on := 4, ground := Go.Ground.phase }, { on := 5, ground := Go.Ground.phase }, { on := 6, ground := Go.Ground.phase }, { on := 7, ground := Go.Ground.phase }, { on := 8, ground := Go.Ground.phase }], guard := none } : Oper)) rfl (fun K hK => ?_) AllReadyH.nil)
          replace J := Lib.hid J.out.swap
          obtain ⟨q0, q1, q2, qf, ql⟩ := (show HO w u3 ([] ++ boxO kb [_, _, _] :: _) from J.out).c3
          go_simp
          replace J := Lib.hid ((show HO w _ ([] ++ boxO kb [_, _, _] :: _) from J.out).set3 (.int .i64 (A : Int)) (.int .i64 (B : Int)) (.slice Aq nq cq))
          clear q0 q1 q2 qf ql sk
          have sk : _ ∧ _ ∧ _ ∧ _ ∧ _ := And.intro ((show HO w _ ([_, _, _] ++ boxO w.heap.size [_, _, _, _, _, _, _, _, _, _, _] :: _) from J.out).c 3 rfl) (And.intro ((show HO w _ ([_, _, _] ++ boxO w.heap.size [_, _, _, _, _, _, _, _, _, _, _] :: _) from J.out).c 1 rfl) (HA _ J.out.below).out)
          refine hK.out _ _ sk (fun hHeld2 => ?_)
          clear hK K hHeld
          have hHeld := hHeld2
          clear hHeld2
          try simp only [Act.put, List.setIfInBounds_toArray, List.set_cons_zero, List.set_cons_succ]
          refine wpAnyH_done (by kernel_rfl) ?_ _
          clear sk
          go_wp2_with fail
          go_meet
          case rel => exact ⟨kb, Aq, cq, rfl, J⟩

      case rest =>
        obtain ⟨kb, Aq, cq, rfl, J⟩ := hcut
        clear CP CI
        obtain ⟨x0, x1, x2, x3, x4, x5, x6, x7, x8, x9, x10, xf, xl⟩ := (show HO w _ ([_, _, _] ++ boxO w.heap.size [_, _, _, _, _, _, _, _, _, _, _] :: []) from J.out).c11
        go_wp2_with fail
        refine (D _ J.out.below).out.mono ?_
        rintro e w5 ⟨rfl, hb⟩
        replace J := Lib.hid ((J.out.step hb).alloc [.int .i64 (p : Int), .int .i64 (q : Int)] 25)
        clear hb D x0 x1 x2 x3 x4 x5 x6 x7 x8 x9 x10 xf xl
        go_upto_region 5 with fail
        generalize w5.alloc (.cells #[.int .i64 (p : Int), .int .i64 (q : Int)] 25) = u5 at *
        generalize w5.heap.size = k5 at *
        obtain ⟨d0, d1, -, -⟩ := (show HO w _ ([] ++ boxO k5 [_, _] :: _) from J.out).c2
        obtain ⟨y0, y1, y2, -, -⟩ := (show HO w _ ([_] ++ boxO kb [_, _, _] :: _) from J.out).c3
        have CN2 := CN _ _ (show HO w _ ([_, _] ++ pxO1 _ l1 :: _) from J.out).at
        go_wp2_with fail
        refine CN2.out.mono ?_
        rintro e w6 ⟨v6, rfl, hr, hb⟩
        have HR := Lib.hid hr
        obtain ⟨A6, c6, hv6, hn6⟩ := res_shape hr
        subst hv6
        replace J := Lib.hid (((J.out.pxs hb HR.out.pxs hn6)).alloc [.int .i64 (p : Int), .int .i64 (q : Int), .slice A6 R1.length c6] 42)
        clear hb hr hn6 CN CN2 d0 d1 y0 y1 y2 HR
        generalize R1.length = n1 at *
        go_upto_region 6 with fail
        generalize w6.alloc (.cells #[.int .i64 (p : Int), .int .i64 (q : Int), .slice A6 n1 c6] 42) = u6 at *
        generalize w6.heap.size = k6 at *
        obtain ⟨y0, y1, y2, -, -⟩ := (show HO w _ ([] ++ boxO k6 [_, _, _] :: _) from J.out).c3
        obtain ⟨z0, z1, z2, zf, zl⟩ := (show HO w _ ([_, _, _, _, _] ++ boxO (w.heap.size + 1) [_, _, _] :: _) from J.out).c3
        have J2 := Lib.hid ((show HO w _ ([_, _, _, _, _] ++ boxO (w.heap.size + 1) [_, _, _] :: _) from J.out).set3 (.int .i64 (p : Int)) (.int .i64 (q : Int)) (.slice A6 n1 c6))
        go_wp2_with fail
        obtain ⟨t0, t1, t2, -, -⟩ := (show HO w _ ([_, _, _, _, _] ++ boxO (w.heap.size + 1) [_, _, _] :: _) from J2.out).c3
        exact bodyPost_ret (v := .tuple #[.agg #[.int .i64 (p : Int), .int .i64 (q : Int), .slice A6 n1 c6], .bool true]) (by simp [results, Tryz.results22, go_sem, t0, t1, t2]) rfl ⟨_, rfl, (show HO w _ ([_] ++ pxO1 _ R1 :: _) from J2.out).at, J2.out.below⟩
    · have ec : hasC ⟨set, bf, sc, tr, dm, op, is, ip, dx, dy, cb⟩ = false := by simp [hasC, hc]
      have er : conR ⟨set, bf, sc, tr, dm, op, is, ip, dx, dy, cb⟩ = [] := by unfold conR; rw [ec]; rfl
      have ez : sizS ⟨set, bf, sc, tr, dm, op, is, ip, dx, dy, cb⟩ = (0, 0) := by unfold sizS; rw [if_pos hc]
      rw [ez, ec, er]
      generalize chkS ⟨set, bf, sc, tr, dm, op, is, ip, dx, dy, cb⟩ = kc at *
      have hz : (kc == 0) = false := by simpa using hc
      have hz2 : ((L.length : Int) == 0) = false := by simpa using hn
      generalize L.length = n at *
      clear ez ec er D
      obtain ⟨x0, x1, x2, x3, x4, x5, x6, x7, x8, x9, x10, xf, xl⟩ := (show HO w _ ([_] ++ boxO w.heap.size [_, _, _, _, _, _, _, _, _, _, _] :: []) from J.out).c11
      go_enter Tryz.func22, Tryz.ntmps22
      go_wp2_with fail
      refine (C _ J.out.below).out.mono ?_
      rintro e w4 ⟨rfl, hb⟩
      replace J := Lib.hid (J.out.step hb)
      clear hb C x0 x1 x2 x3 x4 x5 x6 x7 x8 x9 x10 xf xl
      obtain ⟨z0, z1, z2, zf, zl⟩ := (show HO w _ ([] ++ boxO (w.heap.size + 1) [_, _, _] :: _) from J.out).c3
      have J2 := Lib.hid ((show HO w _ ([] ++ boxO (w.heap.size + 1) [_, _, _] :: _) from J.out).set3 (.int .i64 0) (.int .i64 0) (.slice none 0 0))
      go_wp2_with fail
      obtain ⟨t0, t1, t2, -, -⟩ := (show HO w _ ([] ++ boxO (w.heap.size + 1) [_, _, _] :: _) from J2.out).c3
      exact bodyPost_ret (v := .tuple #[.agg #[.int .i64 0, .int .i64 0, .slice none 0 0], .bool false]) (by simp [results, Tryz.results22, go_sem, t0, t1, t2]) rfl ⟨_, rfl, pxs_nil _, J2.out.below⟩

end Go.Proofs.YthedglfocjljjaaGreatDoor
