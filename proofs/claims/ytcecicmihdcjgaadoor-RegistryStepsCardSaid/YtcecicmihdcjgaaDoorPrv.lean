/-
  Package registry: Remove.
-/
import Derived.Test.YtcecicmihdcjgaaDoorPad
namespace Go.Proofs.YtcecicmihdcjgaaDoor
open Go.RowKit

theorem kept_all (p : Gl → Bool) (l : List Gl) : keptG p l l.length = l.filter fun r => !p r := by
  unfold keptG
  rw [List.take_length]
theorem gsT_mono {W : World} {base base' : Nat} {v : Value} {T : List Gl} (h : GsT W base v T) (hb : base' ≤ base) : GsT W base' v T := by
  obtain ⟨hl, h | ⟨h0, b, off, rfl, hg, hlt, hc⟩⟩ := h
  · exact ⟨hl, .inl h⟩
  · exact ⟨hl, .inr ⟨h0, b, off, rfl, by omega, hlt, hc⟩⟩
theorem own_form {w : World} {base : Nat} {v : Value} {L : List Gl} (h : OwnG w base v L) (h0 : 0 < L.length) : ∃ b c, v = .slice (some ⟨b, 0, none⟩) L.length c := by
  rcases h.2 with ⟨_, h1⟩ | ⟨g, cap, cur, hv, _⟩
  · omega
  · exact ⟨g, cap, hv⟩
set_option maxRecDepth 100000 in
set_option maxHeartbeats 8000000 in
theorem p_rem_any {w0 W : World} {rv : Value} {l : List Gl} {S : Nat → Prop} (R : R0 w0 W rv l S) (hl : l.length ≤ 1000) (q : Nat) :
    Calls Tryd.prog 14 #[rv, .int .u32 (q : Int)] W (TurnR w0 W S rv (remF l q).1 (.returned (.int .i64 (remF l q).2))) := by
  obtain ⟨p, va, vr, vl, M, rfl, hR, J0, hz⟩ := R.enter
  have HR := Lib.hid hR
  obtain ⟨x0, x1, x2, x3, x4, xf, xl⟩ := (show RM W S _ W ([] ++ (p, _) :: []) _ _ _ _ _ _ from J0).five
  have C := Lib.hid (p_created_own x4)
  have D := Lib.hid (p_find_any J0.rb.oa.gs q)
  obtain ⟨fl1, fl2⟩ := fst_list hR q
  cases hq : (annF l q).2 with
  | false =>
    have hr : remF l q = (l, 8) := by unfold remF; rw [hq]; simp
    rw [hr]
    have hf : (fstF q (listF l)).1 = zeroG := by rw [(fstF_false (fl1.trans hq)).1]
    rw [hf] at D
    have J := Lib.hid J0
    obtain ⟨A, ca, rfl, -, -⟩ := J0.rb.oa.gs.shape
    obtain ⟨n, hn⟩ : ∃ n, (listF l).length = n := ⟨_, rfl⟩
    rw [hn] at x1 J D
    have Z := fun W => (by have h := eq_glz zeroG W; rw [(eqG_iff _ _).2 rfl] at h; exact h : (binOp .eql 49 (glVal zeroG) (.agg #[.int .u32 0, .string ⟨#[]⟩, .int .i64 0])).run Tryd.prog W = .ok (.bool true) W)
    clear R J0 hR hl fl1 fl2 hq hr hf hn x0 x2 x3 x4
    go_enter Tryd.func14, Tryd.ntmps14
    go_wp2_with fail
    refine C.out.mono ?_
    rintro e w1 ⟨rfl, rfl⟩
    clear C
    go_wp2_with fail
    refine D.out.mono ?_
    rintro e w1 ⟨rfl, hb⟩
    replace J := Lib.hid ((J.out.step hb).alloc hz (glC zeroG) 49)
    obtain ⟨y0, y1, y2, yf, yl⟩ := (show RM _ S _ _ ([] ++ (w1.heap.size, glC zeroG) :: [_]) _ _ _ _ _ _ from J.out).tri
    have hJ := Lib.hid (J.out.sub (List.sublist_cons_self _ _))
    clear D hb xf xl x1
    go_wp2_with fail
    exact bodyPost_ret (v := .int .i64 8) (by simp [results, Tryd.results14, go_sem]) rfl (TurnR.of HR.out hJ.out)
  | true =>
    have hok := rgOk_rem hR hq
    have hr : remF l q = (l ++ [⟨q, (annF l q).1.it, 0⟩], 0) := by
      unfold remF
      rw [if_pos hq, (ann_mem hq).2.1]
    rw [hr]
    have hf : (fstF q (listF l)).1 = (annF l q).1 := by rw [fl2 hq]
    rw [hf] at D
    have hdel := del_list hR hq
    rw [← list_rem l q (annF l q).1.it] at hdel
    have hmem := ann_list hR.wf hq
    have hnm := (ann_mem hq).2.1
    have haf : addedF (l ++ [⟨q, (annF l q).1.it, 0⟩]) = addedF l := by rw [addedF_append]; simp
    have hne : eqG (annF l q).1 zeroG = false := by
      have := (hR.ok _ (List.mem_append_left _ hmem)).2.1
      have h0 : ¬ (annF l q).1.nm = 0 := by omega
      simp [eqG, zeroG, h0]
    obtain ⟨g, hg⟩ : ∃ g : Gl, (annF l q).1 = g := ⟨_, rfl⟩
    rw [hg] at hok D hdel hmem hnm haf hne ⊢
    have HOK := Lib.hid hok
    have HAF := Lib.hid haf
    have HDEL : Hid (keptG (fun r => eqG r g) (listF l) (listF l).length = listF (l ++ [⟨q, g.it, 0⟩])) := Lib.hid (by rw [kept_all, hdel])
    have HMEM : Hid (∃ r ∈ listF l, (fun r => eqG r g) r = true) := Lib.hid ⟨g, hmem, (eqG_iff _ _).2 rfl⟩
    obtain ⟨b, ca, rfl⟩ := own_form J0.rb.oa (List.length_pos_of_mem hmem)
    obtain ⟨A', cl, rfl, hcl, hml⟩ := J0.rb.ol.gs.shape
    obtain ⟨Ar, cr, rfl, -, -⟩ := J0.rb.tr.gs.shape
    have J := Lib.hid J0
    have HT17 := Lib.hid (lastR_len M)
    obtain ⟨t, ht⟩ : ∃ t, (lastR M).length = t := ⟨_, rfl⟩
    have HT := Lib.hid ht
    rw [ht] at x2 J HT17
    have HL := Lib.hid hl
    have eg : ∀ args w, (callFunc 35 args).run Tryd.prog w = .ok (.enter 35 args) w := enters_of Tryd.func35 (by kernel_rfl) rfl
    have DL := fun (W' : World) (k : Nat) (ho : OwnG W' w0.heap.size (.slice (some ⟨b, 0, none⟩) (listF l).length ca) (listF l)) (hc : GlAt W' k 0 g) (hk : k < W'.heap.size) (hkb : k ≠ b) =>
      Lib.hid (p_delete_any ho 35 (.pointer (some ⟨k, 0, none⟩)) (fun r => eqG r g) (fun W2 hg2 x _ => p_equal_any (⟨(cell_of_block (hg2.block k hk (fun e => hkb (by injection e))) _).trans hc.1, (cell_of_block (hg2.block k hk (fun e => hkb (by injection e))) _).trans hc.2.1, (cell_of_block (hg2.block k hk (fun e => hkb (by injection e))) _).trans hc.2.2⟩ : GlAt W2 k 0 g) (Nat.lt_of_lt_of_le hk hg2.size) x) eg HMEM.out)
    rw [HDEL.out] at DL
    have Z := fun W => (by have h := eq_glz g W; rw [hne] at h; exact h : (binOp .eql 49 (glVal g) (.agg #[.int .u32 0, .string ⟨#[]⟩, .int .i64 0])).run Tryd.prog W = .ok (.bool false) W)
    obtain ⟨B, hB⟩ : ∃ B, listF (l ++ [⟨q, g.it, 0⟩]) = B := ⟨_, rfl⟩
    have HB := Lib.hid hB
    rw [hB] at DL
    obtain ⟨n, hn⟩ : ∃ n, (listF l).length = n := ⟨_, rfl⟩
    rw [hn] at x1 J D DL
    obtain ⟨m, hm⟩ : ∃ m, l.length = m := ⟨_, rfl⟩
    have HM := Lib.hid hm
    rw [hm] at x3 J hcl
    obtain ⟨c, hc⟩ : ∃ c, addedF l = c := ⟨_, rfl⟩
    rw [hc] at x0 J HAF
    obtain ⟨gn, gi, gv⟩ := g
    obtain rfl : gn = q := hnm
    clear R J0 hR hl fl1 fl2 hq hr hf ht hok haf hdel HDEL HMEM hmem hne hg hB hn hm hc eg x0 x2 x3 x4
    go_enter Tryd.func14, Tryd.ntmps14
    go_wp2_with fail
    refine C.out.mono ?_
    rintro e w1 ⟨rfl, rfl⟩
    clear C
    go_wp2_with fail
    refine D.out.mono ?_
    rintro e w1 ⟨rfl, hb⟩
    replace J := Lib.hid ((J.out.step hb).alloc hz (glC ⟨gn, gi, gv⟩) 49)
    obtain ⟨k, hk⟩ : ∃ k, w1.heap.size = k := ⟨_, rfl⟩
    clear D hb xf xl x1
    obtain ⟨y0, y1, y2, yf, yl⟩ := (show RM _ S _ _ ([] ++ (w1.heap.size, glC ⟨gn, gi, gv⟩) :: [_]) _ _ _ _ _ _ from J.out).tri
    obtain ⟨x0, x1, x2, x3, x4, xf, xl⟩ := (show RM _ S _ _ ([_] ++ (p, _) :: []) _ _ _ _ _ _ from J.out).five
    have hkb : w1.heap.size ≠ b := fun e => J.out.rb.na (w1.heap.size, glC ⟨gn, gi, gv⟩) (by simp) (by rw [e]; rfl)
    have DD := DL _ w1.heap.size J.out.rb.oa ⟨y0, y1, y2⟩ yl hkb
    clear DL hk
    go_wp2_with fail
    refine DD.out.mono ?_
    rintro e w2 ⟨rfl, ho, hg2⟩
    have J1 := Lib.hid (J.out.setA ho hg2 (.inl rfl))
    clear DD J ho hg2 y0 y1 y2 yf yl x0 x1 x2 x3 x4 xf xl
    generalize w1.heap.size = k at *
    obtain ⟨x0, x1, x2, x3, x4, xf, xl⟩ := (show RM _ S _ _ ([_] ++ (p, _) :: []) _ _ _ _ _ _ from J1.out).five
    have J := Lib.hid (J1.out.put (i := 1) (by decide) (.slice (some ⟨b, 0, none⟩) B.length ca))
    clear J1 hkb
    go_wp2_with fail
    generalize w2.setCell ⟨p, 1, none⟩ (.slice (some ⟨b, 0, none⟩) B.length ca) = wd at *
    clear x0 x1 x2 x3 x4 xf xl
    go_cut [] from 27 to 37 (fun wx => ∃ b6 o6 z6, Hid (RM W S w0.heap.size wx [(k, glC ⟨gn, gi, gv⟩), (p, regC p c (.slice (some ⟨b, 0, none⟩) B.length ca) (.slice (some ⟨b6, o6, none⟩) z6 z6) (.slice A' m cl))] (.slice (some ⟨b, 0, none⟩) B.length ca) (.slice (some ⟨b6, o6, none⟩) z6 z6) (.slice A' m cl) B (lastR (M ++ [⟨gn, gi, gv⟩])) l))
    case first =>
      replace J := Lib.hid J.out.drew
      have sk := (ad_s1 J.out).2
      refine wp_region_held_drew (S := (fun W => W.cell? ⟨k, 0, none⟩ = some (.int .u32 (gn : Int)) ∧ W.cell? ⟨k, 1, none⟩ = some (.string gi) ∧ W.cell? ⟨k, 2, none⟩ = some (.int .i64 gv))) (by kernel_rfl) sk (fun hHeld => ?_)
      generalize wd.drew = u0 at *
      refine wpAnyH_take (i := 0) (oi := ({ dst := some 27, op := Go.Op.move (Go.Operand.tmp 0), type := 24, pos := "registry.go:72", after := #[], guard := none } : Oper)) (v := ?_) rfl (by kernel_rfl) (by kernel_rfl) (by kernel_rfl) (fun _ _ _ h => h) (Or.inl ⟨by kernel_rfl, ?_⟩) hHeld ?_
      rotate_left 1
      · (intro W hSw; (try dsimp only at hSw); go_simp; try with_reducible rfl)
      try simp only [Act.put, List.setIfInBounds_toArray, List.set_cons_zero, List.set_cons_succ]
      refine wpAnyH_take (i := 1) (oi := ({ dst := some 28, op := Go.Op.move (Go.Operand.tmp 0), type := 24, pos := "registry.go:72", after := #[], guard := none } : Oper)) (v := ?_) rfl (by kernel_rfl) (by kernel_rfl) (by kernel_rfl) (fun _ _ _ h => h) (Or.inl ⟨by kernel_rfl, ?_⟩) hHeld ?_
      rotate_left 1
      · (intro W hSw; (try dsimp only at hSw); go_simp; try with_reducible rfl)
      try simp only [Act.put, List.setIfInBounds_toArray, List.set_cons_zero, List.set_cons_succ]
      refine wpAnyH_take (i := 2) (oi := ({ dst := some 29, op := Go.Op.nilCheck (Go.Operand.tmp 28), type := 0, pos := "registry.go:72", after := #[{ on := 1, ground := Go.Ground.data }], guard := none } : Oper)) (v := ?_) rfl (by kernel_rfl) (by kernel_rfl) (by kernel_rfl) (fun _ _ _ h => h) (Or.inl ⟨by kernel_rfl, ?_⟩) hHeld ?_
      rotate_left 1
      · (intro W hSw; (try dsimp only at hSw); go_simp; try with_reducible rfl)
      try simp only [Act.put, List.setIfInBounds_toArray, List.set_cons_zero, List.set_cons_succ]
      refine wpAnyH_take (i := 3) (oi := ({ dst := some 30, op := Go.Op.fieldAddr 60 (Go.Operand.tmp 29) 2, type := 0, pos := "registry.go:72", after := #[{ on := 2, ground := Go.Ground.data }], guard := none } : Oper)) (v := ?_) rfl (by kernel_rfl) (by kernel_rfl) (by kernel_rfl) (fun _ _ _ h => h) (Or.inl ⟨by kernel_rfl, ?_⟩) hHeld ?_
      rotate_left 1
      · (intro W hSw; (try dsimp only at hSw); go_simp; try with_reducible rfl)
      try simp only [Act.put, List.setIfInBounds_toArray, List.set_cons_zero, List.set_cons_succ]
      refine wpAnyH_take (i := 5) (oi := ({ dst := some 32, op := Go.Op.load 49 (Go.Operand.tmp 5), type := 49, pos := "registry.go:72", after := #[], guard := none } : Oper)) (v := ?_) rfl (by kernel_rfl) (by kernel_rfl) (by kernel_rfl) (fun _ _ _ h => h) (Or.inl ⟨by kernel_rfl, ?_⟩) hHeld ?_
      rotate_left 1
      · (intro W hSw; (try dsimp only at hSw); go_simp; try with_reducible rfl)
      try simp only [Act.put, List.setIfInBounds_toArray, List.set_cons_zero, List.set_cons_succ]
      refine wpAnyH_ready (rs := [4, 6]) (by kernel_rfl) (by simp) (AllReadyH.cons (o := ({ dst := some 31, op := Go.Op.load 26 (Go.Operand.tmp 30), type := 26, pos := "registry.go:72", after := #[{ on := 3, ground := Go.Ground.data }], guard := none } : Oper)) rfl (fun K hK => ?_) (AllReadyH.cons (o := ({ dst := some 33, op := Go.Op.buildSlice 26 1 #[(0, Go.Operand.tmp 32)], type := 26, pos := "registry.go:72", after := #[{ on := 5, ground := Go.Ground.data }], guard := none } : Oper)) rfl (fun K hK => ?_) AllReadyH.nil))
      · obtain ⟨m0, m1, m2, m3, m4, mf, ml⟩ := (show RM _ S _ u0 ([_] ++ (p, _) :: []) _ _ _ _ _ _ from J.out).five
        go_simp
        clear m0 m1 m2 m3 m4 mf ml
        refine hK.out _ _ sk (fun hHeld2 => ?_)
        clear hK K hHeld
        have hHeld := hHeld2
        clear hHeld2
        try simp only [Act.put, List.setIfInBounds_toArray, List.set_cons_zero, List.set_cons_succ]
        refine wpAnyH_ready (rs := [6]) (by kernel_rfl) (by simp) (AllReadyH.cons (o := ({ dst := some 33, op := Go.Op.buildSlice 26 1 #[(0, Go.Operand.tmp 32)], type := 26, pos := "registry.go:72", after := #[{ on := 5, ground := Go.Ground.data }], guard := none } : Oper)) rfl (fun K hK => ?_) AllReadyH.nil)
        go_simp
        replace J := Lib.hid (J.out.made (.cells #[.int .u32 (gn : Int), .string gi, .int .i64 gv] 49))
        have P1 := Lib.hid (gs_one u0 ⟨gn, gi, gv⟩)
        generalize u0.alloc (.cells #[.int .u32 (gn : Int), .string gi, .int .i64 gv] 49) = u1 at *
        generalize u0.heap.size = kb at *
        (try clear sk)
        have sk := (ad_s1 J.out).2
        refine hK.out _ _ sk (fun hHeld2 => ?_)
        clear hK K hHeld
        have hHeld := hHeld2
        clear hHeld2
        try simp only [Act.put, List.setIfInBounds_toArray, List.set_cons_zero, List.set_cons_succ]
        refine wpAnyH_ready (rs := [7]) (by kernel_rfl) (by simp) (AllReadyH.cons (o := ({ dst := some 34, op := Go.Op.call { callee := Go.Callee.builtin Go.Builtin.append, args := #[Go.Operand.tmp 31, Go.Operand.tmp 33], argTypes := #[26, 26] }, type := 26, pos := "registry.go:72", after := #[{ on := 4, ground := Go.Ground.data }, { on := 6, ground := Go.Ground.data }], guard := none } : Oper)) rfl (fun K hK => ?_) AllReadyH.nil)
        refine step_appT (by rfl) _ _ (by rfl) (T := lastR M) (by rfl) (by exact J.out.rb.tr) (by exact lastR_len _) (by rfl) (by exact P1.out) ?_
        intro v6 u2 ho6 hb6
        obtain ⟨b6, c6, hv6, hn6, hm6, hg6, ht6⟩ := gsT_short ho6 (by simp) (by have := lastR_len M; simp; omega)
        rw [← lastR_app M ⟨gn, gi, gv⟩] at ht6
        rw [List.length_append, HT.out, List.length_singleton] at hv6 hn6 ht6
        have CS := Lib.hid (p_shorten_any (b := b6) (off := 0) (Nat.succ_pos t) (by have := HT17.out; omega) hn6 hm6)
        generalize 0 + (t + 1 - 16) * 3 = o6 at CS ht6
        generalize t + 1 - (t + 1 - 16) = z6 at CS ht6
        subst hv6
        replace J := Lib.hid (J.out.setR hb6 (gsT_mono ht6 (by have := J.out.turn.size; omega)) (fun k hk => (ht6.block k hk).1))
        clear ho6 hb6 ht6 hg6
        (try clear sk)
        have sk := (ad_s1 J.out).2
        refine hK.out _ _ sk (fun hHeld2 => ?_)
        clear hK K hHeld
        have hHeld := hHeld2
        clear hHeld2
        try simp only [Act.put, List.setIfInBounds_toArray, List.set_cons_zero, List.set_cons_succ]
        refine wpAnyH_ready (rs := [8]) (by kernel_rfl) (by simp) (AllReadyH.cons (o := ({ dst := some 35, op := Go.Op.call { callee := Go.Callee.value (Go.Operand.func 36), args := #[Go.Operand.tmp 34], argTypes := #[26] }, type := 26, pos := "registry.go:72", after := #[{ on := 7, ground := Go.Ground.data }, { on := 7, ground := Go.Ground.chain }], guard := none } : Oper)) rfl (fun K hK => ?_) AllReadyH.nil)
        go_simp
        refine (CS.out _).mono ?_
        rintro e ux ⟨rfl, rfl⟩
        refine hK.out _ _ sk (fun hHeld2 => ?_)
        clear hK K hHeld
        have hHeld := hHeld2
        clear hHeld2
        try simp only [Act.put, List.setIfInBounds_toArray, List.set_cons_zero, List.set_cons_succ]
        refine wpAnyH_take (i := 9) (oi := ({ dst := some 36, op := Go.Op.nilCheck (Go.Operand.tmp 27), type := 0, pos := "registry.go:72", after := #[{ on := 0, ground := Go.Ground.data }, { on := 0, ground := Go.Ground.phase }, { on := 1, ground := Go.Ground.phase }, { on := 2, ground := Go.Ground.phase }, { on := 3, ground := Go.Ground.phase }, { on := 4, ground := Go.Ground.phase }, { on := 5, ground := Go.Ground.phase }, { on := 6, ground := Go.Ground.phase }, { on := 7, ground := Go.Ground.phase }, { on := 8, ground := Go.Ground.phase }], guard := none } : Oper)) (v := ?_) rfl (by kernel_rfl) (by kernel_rfl) (by kernel_rfl) (fun _ _ _ h => h) (Or.inl ⟨by kernel_rfl, ?_⟩) hHeld ?_
        rotate_left 1
        · (intro W hSw; (try dsimp only at hSw); go_simp; try with_reducible rfl)
        try simp only [Act.put, List.setIfInBounds_toArray, List.set_cons_zero, List.set_cons_succ]
        refine wpAnyH_take (i := 10) (oi := ({ dst := some 37, op := Go.Op.fieldAddr 60 (Go.Operand.tmp 36) 2, type := 0, pos := "registry.go:72", after := #[{ on := 9, ground := Go.Ground.data }, { on := 0, ground := Go.Ground.phase }, { on := 1, ground := Go.Ground.phase }, { on := 2, ground := Go.Ground.phase }, { on := 3, ground := Go.Ground.phase }, { on := 4, ground := Go.Ground.phase }, { on := 5, ground := Go.Ground.phase }, { on := 6, ground := Go.Ground.phase }, { on := 7, ground := Go.Ground.phase }, { on := 8, ground := Go.Ground.phase }], guard := none } : Oper)) (v := ?_) rfl (by kernel_rfl) (by kernel_rfl) (by kernel_rfl) (fun _ _ _ h => h) (Or.inl ⟨by kernel_rfl, ?_⟩) hHeld ?_
        rotate_left 1
        · (intro W hSw; (try dsimp only at hSw); go_simp; try with_reducible rfl)
        try simp only [Act.put, List.setIfInBounds_toArray, List.set_cons_zero, List.set_cons_succ]
        refine wpAnyH_ready (rs := [11]) (by kernel_rfl) (by simp) (AllReadyH.cons (o := ({ dst := none, op := Go.Op.store 26 (Go.Operand.tmp 37) (Go.Operand.tmp 35), type := 0, pos := "registry.go:72", after := #[{ on := 10, ground := Go.Ground.data }, { on := 8, ground := Go.Ground.data }, { on := 8, ground := Go.Ground.chain }, { on := 0, ground := Go.Ground.phase }, { on := 1, ground := Go.Ground.phase }, { on := 2, ground := Go.Ground.phase }, { on := 3, ground := Go.Ground.phase }, { on := 4, ground := Go.Ground.phase }, { on := 5, ground := Go.Ground.phase }, { on := 6, ground := Go.Ground.phase }, { on := 7, ground := Go.Ground.phase }, { on := 8, ground := Go.Ground.phase }], guard := none } : Oper)) rfl (fun K hK => ?_) AllReadyH.nil)
        obtain ⟨z0, z1, z2, z3, z4, zf, zl⟩ := (show RM _ S _ u2 ([_] ++ (p, _) :: []) _ _ _ _ _ _ from J.out).five
        go_simp
        have Z := Lib.hid (J.out.put (i := 2) (by decide) (.slice (some ⟨b6, o6, none⟩) z6 z6))
        clear z0 z1 z2 z3 z4 zf zl
        replace J := Z
        (try clear sk)
        have sk := (ad_s1 J.out).2
        refine hK.out _ _ sk (fun hHeld2 => ?_)
        clear hK K hHeld
        have hHeld := hHeld2
        clear hHeld2
        try simp only [Act.put, List.setIfInBounds_toArray, List.set_cons_zero, List.set_cons_succ]
        refine wpAnyH_done (by kernel_rfl) ?_ _
        go_wp2_with fail
        go_meet
        case rel => exact ⟨b6, o6, z6, Z⟩
      · go_simp
        replace J := Lib.hid (J.out.made (.cells #[.int .u32 (gn : Int), .string gi, .int .i64 gv] 49))
        have P1 := Lib.hid (gs_one u0 ⟨gn, gi, gv⟩)
        generalize u0.alloc (.cells #[.int .u32 (gn : Int), .string gi, .int .i64 gv] 49) = u1 at *
        generalize u0.heap.size = kb at *
        (try clear sk)
        have sk := (ad_s1 J.out).2
        refine hK.out _ _ sk (fun hHeld2 => ?_)
        clear hK K hHeld
        have hHeld := hHeld2
        clear hHeld2
        try simp only [Act.put, List.setIfInBounds_toArray, List.set_cons_zero, List.set_cons_succ]
        refine wpAnyH_ready (rs := [4]) (by kernel_rfl) (by simp) (AllReadyH.cons (o := ({ dst := some 31, op := Go.Op.load 26 (Go.Operand.tmp 30), type := 26, pos := "registry.go:72", after := #[{ on := 3, ground := Go.Ground.data }], guard := none } : Oper)) rfl (fun K hK => ?_) AllReadyH.nil)
        obtain ⟨m0, m1, m2, m3, m4, mf, ml⟩ := (show RM _ S _ u1 ([_] ++ (p, _) :: []) _ _ _ _ _ _ from J.out).five
        go_simp
        clear m0 m1 m2 m3 m4 mf ml
        refine hK.out _ _ sk (fun hHeld2 => ?_)
        clear hK K hHeld
        have hHeld := hHeld2
        clear hHeld2
        try simp only [Act.put, List.setIfInBounds_toArray, List.set_cons_zero, List.set_cons_succ]
        refine wpAnyH_ready (rs := [7]) (by kernel_rfl) (by simp) (AllReadyH.cons (o := ({ dst := some 34, op := Go.Op.call { callee := Go.Callee.builtin Go.Builtin.append, args := #[Go.Operand.tmp 31, Go.Operand.tmp 33], argTypes := #[26, 26] }, type := 26, pos := "registry.go:72", after := #[{ on := 4, ground := Go.Ground.data }, { on := 6, ground := Go.Ground.data }], guard := none } : Oper)) rfl (fun K hK => ?_) AllReadyH.nil)
        refine step_appT (by rfl) _ _ (by rfl) (T := lastR M) (by rfl) (by exact J.out.rb.tr) (by exact lastR_len _) (by rfl) (by exact P1.out) ?_
        intro v6 u2 ho6 hb6
        obtain ⟨b6, c6, hv6, hn6, hm6, hg6, ht6⟩ := gsT_short ho6 (by simp) (by have := lastR_len M; simp; omega)
        rw [← lastR_app M ⟨gn, gi, gv⟩] at ht6
        rw [List.length_append, HT.out, List.length_singleton] at hv6 hn6 ht6
        have CS := Lib.hid (p_shorten_any (b := b6) (off := 0) (Nat.succ_pos t) (by have := HT17.out; omega) hn6 hm6)
        generalize 0 + (t + 1 - 16) * 3 = o6 at CS ht6
        generalize t + 1 - (t + 1 - 16) = z6 at CS ht6
        subst hv6
        replace J := Lib.hid (J.out.setR hb6 (gsT_mono ht6 (by have := J.out.turn.size; omega)) (fun k hk => (ht6.block k hk).1))
        clear ho6 hb6 ht6 hg6
        (try clear sk)
        have sk := (ad_s1 J.out).2
        refine hK.out _ _ sk (fun hHeld2 => ?_)
        clear hK K hHeld
        have hHeld := hHeld2
        clear hHeld2
        try simp only [Act.put, List.setIfInBounds_toArray, List.set_cons_zero, List.set_cons_succ]
        refine wpAnyH_ready (rs := [8]) (by kernel_rfl) (by simp) (AllReadyH.cons (o := ({ dst := some 35, op := Go.Op.call { callee := Go.Callee.value (Go.Operand.func 36), args := #[Go.Operand.tmp 34], argTypes := #[26] }, type := 26, pos := "registry.go:72", after := #[{ on := 7, ground := Go.Ground.data }, { on := 7, ground := Go.Ground.chain }], guard := none } : Oper)) rfl (fun K hK => ?_) AllReadyH.nil)
        go_simp
        refine (CS.out _).mono ?_
        rintro e ux ⟨rfl, rfl⟩
        refine hK.out _ _ sk (fun hHeld2 => ?_)
        clear hK K hHeld
        have hHeld := hHeld2
        clear hHeld2
        try simp only [Act.put, List.setIfInBounds_toArray, List.set_cons_zero, List.set_cons_succ]
        refine wpAnyH_take (i := 9) (oi := ({ dst := some 36, op := Go.Op.nilCheck (Go.Operand.tmp 27), type := 0, pos := "registry.go:72", after := #[{ on := 0, ground := Go.Ground.data }, { on := 0, ground := Go.Ground.phase }, { on := 1, ground := Go.Ground.phase }, { on := 2, ground := Go.Ground.phase }, { on := 3, ground := Go.Ground.phase }, { on := 4, ground := Go.Ground.phase }, { on := 5, ground := Go.Ground.phase }, { on := 6, ground := Go.Ground.phase }, { on := 7, ground := Go.Ground.phase }, { on := 8, ground := Go.Ground.phase }], guard := none } : Oper)) (v := ?_) rfl (by kernel_rfl) (by kernel_rfl) (by kernel_rfl) (fun _ _ _ h => h) (Or.inl ⟨by kernel_rfl, ?_⟩) hHeld ?_
        rotate_left 1
        · (intro W hSw; (try dsimp only at hSw); go_simp; try with_reducible rfl)
        try simp only [Act.put, List.setIfInBounds_toArray, List.set_cons_zero, List.set_cons_succ]
        refine wpAnyH_take (i := 10) (oi := ({ dst := some 37, op := Go.Op.fieldAddr 60 (Go.Operand.tmp 36) 2, type := 0, pos := "registry.go:72", after := #[{ on := 9, ground := Go.Ground.data }, { on := 0, ground := Go.Ground.phase }, { on := 1, ground := Go.Ground.phase }, { on := 2, ground := Go.Ground.phase }, { on := 3, ground := Go.Ground.phase }, { on := 4, ground := Go.Ground.phase }, { on := 5, ground := Go.Ground.phase }, { on := 6, ground := Go.Ground.phase }, { on := 7, ground := Go.Ground.phase }, { on := 8, ground := Go.Ground.phase }], guard := none } : Oper)) (v := ?_) rfl (by kernel_rfl) (by kernel_rfl) (by kernel_rfl) (fun _ _ _ h => h) (Or.inl ⟨by kernel_rfl, ?_⟩) hHeld ?_
        rotate_left 1
        · (intro W hSw; (try dsimp only at hSw); go_simp; try with_reducible rfl)
        try simp only [Act.put, List.setIfInBounds_toArray, List.set_cons_zero, List.set_cons_succ]
        refine wpAnyH_ready (rs := [11]) (by kernel_rfl) (by simp) (AllReadyH.cons (o := ({ dst := none, op := Go.Op.store 26 (Go.Operand.tmp 37) (Go.Operand.tmp 35), type := 0, pos := "registry.go:72", after := #[{ on := 10, ground := Go.Ground.data }, { on := 8, ground := Go.Ground.data }, { on := 8, ground := Go.Ground.chain }, { on := 0, ground := Go.Ground.phase }, { on := 1, ground := Go.Ground.phase }, { on := 2, ground := Go.Ground.phase }, { on := 3, ground := Go.Ground.phase }, { on := 4, ground := Go.Ground.phase }, { on := 5, ground := Go.Ground.phase }, { on := 6, ground := Go.Ground.phase }, { on := 7, ground := Go.Ground.phase }, { on := 8, ground := Go.Ground.phase }], guard := none } : Oper)) rfl (fun K hK => ?_) AllReadyH.nil)
        obtain ⟨z0, z1, z2, z3, z4, zf, zl⟩ := (show RM _ S _ u2 ([_] ++ (p, _) :: []) _ _ _ _ _ _ from J.out).five
        go_simp
        have Z := Lib.hid (J.out.put (i := 2) (by decide) (.slice (some ⟨b6, o6, none⟩) z6 z6))
        clear z0 z1 z2 z3 z4 zf zl
        replace J := Z
        (try clear sk)
        have sk := (ad_s1 J.out).2
        refine hK.out _ _ sk (fun hHeld2 => ?_)
        clear hK K hHeld
        have hHeld := hHeld2
        clear hHeld2
        try simp only [Act.put, List.setIfInBounds_toArray, List.set_cons_zero, List.set_cons_succ]
        refine wpAnyH_done (by kernel_rfl) ?_ _
        go_wp2_with fail
        go_meet
        case rel => exact ⟨b6, o6, z6, Z⟩
    case rest =>
      obtain ⟨b6, o6, z6, J1⟩ := hcut
      clear J
      obtain ⟨y0, y1, y2, yf, yl⟩ := (show RM _ S _ wc ([] ++ (k, _) :: [_]) _ _ _ _ _ _ from J1.out).tri
      have J := Lib.hid (show RM W S w0.heap.size _ [(k, glC ⟨gn, gi, 0⟩), (p, regC p c (.slice (some ⟨b, 0, none⟩) B.length ca) (.slice (some ⟨b6, o6, none⟩) z6 z6) (.slice A' m cl))] (.slice (some ⟨b, 0, none⟩) B.length ca) (.slice (some ⟨b6, o6, none⟩) z6 z6) (.slice A' m cl) B (lastR (M ++ [⟨gn, gi, gv⟩])) l from (show RM _ S _ wc ([] ++ (k, _) :: [_]) _ _ _ _ _ _ from J1.out).cell (i := 2) (by simp) (.int .i64 0))
      clear J1
      go_wp2_with fail
      generalize wc.setCell ⟨k, 2, none⟩ (.int .i64 0) = we at *
      clear y0 y1 y2 yf yl
      go_cut [] from 39 to 48 (fun wx => ∃ Al el, Hid (RM W S w0.heap.size wx [(k, glC ⟨gn, gi, 0⟩), (p, regC p c (.slice (some ⟨b, 0, none⟩) B.length ca) (.slice (some ⟨b6, o6, none⟩) z6 z6) (.slice Al (m + 1) el))] (.slice (some ⟨b, 0, none⟩) B.length ca) (.slice (some ⟨b6, o6, none⟩) z6 z6) (.slice Al (m + 1) el) B (lastR (M ++ [⟨gn, gi, gv⟩])) (l ++ [⟨gn, gi, 0⟩])))
      case first =>
        replace J := Lib.hid J.out.drew
        have sk := (ad_s1 J.out).2
        refine wp_region_held_drew (S := (fun W => W.cell? ⟨k, 0, none⟩ = some (.int .u32 (gn : Int)) ∧ W.cell? ⟨k, 1, none⟩ = some (.string gi) ∧ W.cell? ⟨k, 2, none⟩ = some (.int .i64 0))) (by kernel_rfl) sk (fun hHeld => ?_)
        generalize we.drew = u0 at *
        refine wpAnyH_take (i := 0) (oi := ({ dst := some 39, op := Go.Op.move (Go.Operand.tmp 0), type := 24, pos := "registry.go:74", after := #[], guard := none } : Oper)) (v := ?_) rfl (by kernel_rfl) (by kernel_rfl) (by kernel_rfl) (fun _ _ _ h => h) (Or.inl ⟨by kernel_rfl, ?_⟩) hHeld ?_
        rotate_left 1
        · (intro W hSw; (try dsimp only at hSw); go_simp; try with_reducible rfl)
        try simp only [Act.put, List.setIfInBounds_toArray, List.set_cons_zero, List.set_cons_succ]
        refine wpAnyH_take (i := 1) (oi := ({ dst := some 40, op := Go.Op.move (Go.Operand.tmp 0), type := 24, pos := "registry.go:74", after := #[], guard := none } : Oper)) (v := ?_) rfl (by kernel_rfl) (by kernel_rfl) (by kernel_rfl) (fun _ _ _ h => h) (Or.inl ⟨by kernel_rfl, ?_⟩) hHeld ?_
        rotate_left 1
        · (intro W hSw; (try dsimp only at hSw); go_simp; try with_reducible rfl)
        try simp only [Act.put, List.setIfInBounds_toArray, List.set_cons_zero, List.set_cons_succ]
        refine wpAnyH_take (i := 2) (oi := ({ dst := some 41, op := Go.Op.nilCheck (Go.Operand.tmp 40), type := 0, pos := "registry.go:74", after := #[{ on := 1, ground := Go.Ground.data }], guard := none } : Oper)) (v := ?_) rfl (by kernel_rfl) (by kernel_rfl) (by kernel_rfl) (fun _ _ _ h => h) (Or.inl ⟨by kernel_rfl, ?_⟩) hHeld ?_
        rotate_left 1
        · (intro W hSw; (try dsimp only at hSw); go_simp; try with_reducible rfl)
        try simp only [Act.put, List.setIfInBounds_toArray, List.set_cons_zero, List.set_cons_succ]
        refine wpAnyH_take (i := 3) (oi := ({ dst := some 42, op := Go.Op.fieldAddr 60 (Go.Operand.tmp 41) 3, type := 0, pos := "registry.go:74", after := #[{ on := 2, ground := Go.Ground.data }], guard := none } : Oper)) (v := ?_) rfl (by kernel_rfl) (by kernel_rfl) (by kernel_rfl) (fun _ _ _ h => h) (Or.inl ⟨by kernel_rfl, ?_⟩) hHeld ?_
        rotate_left 1
        · (intro W hSw; (try dsimp only at hSw); go_simp; try with_reducible rfl)
        try simp only [Act.put, List.setIfInBounds_toArray, List.set_cons_zero, List.set_cons_succ]
        refine wpAnyH_take (i := 5) (oi := ({ dst := some 44, op := Go.Op.load 49 (Go.Operand.tmp 5), type := 49, pos := "registry.go:74", after := #[], guard := none } : Oper)) (v := ?_) rfl (by kernel_rfl) (by kernel_rfl) (by kernel_rfl) (fun _ _ _ h => h) (Or.inl ⟨by kernel_rfl, ?_⟩) hHeld ?_
        rotate_left 1
        · (intro W hSw; (try dsimp only at hSw); go_simp; try with_reducible rfl)
        try simp only [Act.put, List.setIfInBounds_toArray, List.set_cons_zero, List.set_cons_succ]
        refine wpAnyH_ready (rs := [4, 6]) (by kernel_rfl) (by simp) (AllReadyH.cons (o := ({ dst := some 43, op := Go.Op.load 26 (Go.Operand.tmp 42), type := 26, pos := "registry.go:74", after := #[{ on := 3, ground := Go.Ground.data }], guard := none } : Oper)) rfl (fun K hK => ?_) (AllReadyH.cons (o := ({ dst := some 45, op := Go.Op.buildSlice 26 1 #[(0, Go.Operand.tmp 44)], type := 26, pos := "registry.go:74", after := #[{ on := 5, ground := Go.Ground.data }], guard := none } : Oper)) rfl (fun K hK => ?_) AllReadyH.nil))
        · obtain ⟨m0, m1, m2, m3, m4, mf, ml⟩ := (show RM _ S _ u0 ([_] ++ (p, _) :: []) _ _ _ _ _ _ from J.out).five
          go_simp
          clear m0 m1 m2 m3 m4 mf ml
          refine hK.out _ _ sk (fun hHeld2 => ?_)
          clear hK K hHeld
          have hHeld := hHeld2
          clear hHeld2
          try simp only [Act.put, List.setIfInBounds_toArray, List.set_cons_zero, List.set_cons_succ]
          refine wpAnyH_ready (rs := [6]) (by kernel_rfl) (by simp) (AllReadyH.cons (o := ({ dst := some 45, op := Go.Op.buildSlice 26 1 #[(0, Go.Operand.tmp 44)], type := 26, pos := "registry.go:74", after := #[{ on := 5, ground := Go.Ground.data }], guard := none } : Oper)) rfl (fun K hK => ?_) AllReadyH.nil)
          go_simp
          replace J := Lib.hid (J.out.made (.cells #[.int .u32 (gn : Int), .string gi, .int .i64 0] 49))
          have P1 := Lib.hid (gs_one u0 ⟨gn, gi, 0⟩)
          generalize u0.alloc (.cells #[.int .u32 (gn : Int), .string gi, .int .i64 0] 49) = u1 at *
          generalize u0.heap.size = kb at *
          (try clear sk)
          have sk := (ad_s1 J.out).2
          refine hK.out _ _ sk (fun hHeld2 => ?_)
          clear hK K hHeld
          have hHeld := hHeld2
          clear hHeld2
          try simp only [Act.put, List.setIfInBounds_toArray, List.set_cons_zero, List.set_cons_succ]
          refine wpAnyH_ready (rs := [7]) (by kernel_rfl) (by simp) (AllReadyH.cons (o := ({ dst := some 46, op := Go.Op.call { callee := Go.Callee.builtin Go.Builtin.append, args := #[Go.Operand.tmp 43, Go.Operand.tmp 45], argTypes := #[26, 26] }, type := 26, pos := "registry.go:74", after := #[{ on := 4, ground := Go.Ground.data }, { on := 6, ground := Go.Ground.data }], guard := none } : Oper)) rfl (fun K hK => ?_) AllReadyH.nil)
          refine step_appG (by rfl) _ _ (by rfl) (base := w0.heap.size) (l := l) (m := [⟨gn, gi, 0⟩]) (by rfl) (by exact J.out.rb.ol) (by rfl) (by exact P1.out) (by have := HL.out; simp; omega) (by have := J.out.turn.size; omega) ?_
          intro v6 u2 ho6 hg6 hw6
          replace J := Lib.hid (J.out.setL ho6 hg6 hw6)
          obtain ⟨A6, c6, hv6, -, -⟩ := ho6.gs.shape
          rw [List.length_append, HM.out, List.length_singleton] at hv6
          subst hv6
          clear ho6 hg6 hw6
          (try clear sk)
          have sk := (ad_s1 J.out).2
          refine hK.out _ _ sk (fun hHeld2 => ?_)
          clear hK K hHeld
          have hHeld := hHeld2
          clear hHeld2
          try simp only [Act.put, List.setIfInBounds_toArray, List.set_cons_zero, List.set_cons_succ]
          refine wpAnyH_take (i := 8) (oi := ({ dst := some 47, op := Go.Op.nilCheck (Go.Operand.tmp 39), type := 0, pos := "registry.go:74", after := #[{ on := 0, ground := Go.Ground.data }, { on := 0, ground := Go.Ground.phase }, { on := 1, ground := Go.Ground.phase }, { on := 2, ground := Go.Ground.phase }, { on := 3, ground := Go.Ground.phase }, { on := 4, ground := Go.Ground.phase }, { on := 5, ground := Go.Ground.phase }, { on := 6, ground := Go.Ground.phase }, { on := 7, ground := Go.Ground.phase }], guard := none } : Oper)) (v := ?_) rfl (by kernel_rfl) (by kernel_rfl) (by kernel_rfl) (fun _ _ _ h => h) (Or.inl ⟨by kernel_rfl, ?_⟩) hHeld ?_
          rotate_left 1
          · (intro W hSw; (try dsimp only at hSw); go_simp; try with_reducible rfl)
          try simp only [Act.put, List.setIfInBounds_toArray, List.set_cons_zero, List.set_cons_succ]
          refine wpAnyH_take (i := 9) (oi := ({ dst := some 48, op := Go.Op.fieldAddr 60 (Go.Operand.tmp 47) 3, type := 0, pos := "registry.go:74", after := #[{ on := 8, ground := Go.Ground.data }, { on := 0, ground := Go.Ground.phase }, { on := 1, ground := Go.Ground.phase }, { on := 2, ground := Go.Ground.phase }, { on := 3, ground := Go.Ground.phase }, { on := 4, ground := Go.Ground.phase }, { on := 5, ground := Go.Ground.phase }, { on := 6, ground := Go.Ground.phase }, { on := 7, ground := Go.Ground.phase }], guard := none } : Oper)) (v := ?_) rfl (by kernel_rfl) (by kernel_rfl) (by kernel_rfl) (fun _ _ _ h => h) (Or.inl ⟨by kernel_rfl, ?_⟩) hHeld ?_
          rotate_left 1
          · (intro W hSw; (try dsimp only at hSw); go_simp; try with_reducible rfl)
          try simp only [Act.put, List.setIfInBounds_toArray, List.set_cons_zero, List.set_cons_succ]
          refine wpAnyH_ready (rs := [10]) (by kernel_rfl) (by simp) (AllReadyH.cons (o := ({ dst := none, op := Go.Op.store 26 (Go.Operand.tmp 48) (Go.Operand.tmp 46), type := 0, pos := "registry.go:74", after := #[{ on := 9, ground := Go.Ground.data }, { on := 7, ground := Go.Ground.data }, { on := 7, ground := Go.Ground.chain }, { on := 0, ground := Go.Ground.phase }, { on := 1, ground := Go.Ground.phase }, { on := 2, ground := Go.Ground.phase }, { on := 3, ground := Go.Ground.phase }, { on := 4, ground := Go.Ground.phase }, { on := 5, ground := Go.Ground.phase }, { on := 6, ground := Go.Ground.phase }, { on := 7, ground := Go.Ground.phase }], guard := none } : Oper)) rfl (fun K hK => ?_) AllReadyH.nil)
          obtain ⟨z0, z1, z2, z3, z4, zf, zl⟩ := (show RM _ S _ u2 ([_] ++ (p, _) :: []) _ _ _ _ _ _ from J.out).five
          go_simp
          have Z := Lib.hid (J.out.put (i := 3) (by decide) (.slice A6 (m + 1) c6))
          clear z0 z1 z2 z3 z4 zf zl
          replace J := Z
          (try clear sk)
          have sk := (ad_s1 J.out).2
          refine hK.out _ _ sk (fun hHeld2 => ?_)
          clear hK K hHeld
          have hHeld := hHeld2
          clear hHeld2
          try simp only [Act.put, List.setIfInBounds_toArray, List.set_cons_zero, List.set_cons_succ]
          refine wpAnyH_done (by kernel_rfl) ?_ _
          go_wp2_with fail
          go_meet
          case rel => exact ⟨A6, c6, Z⟩
        · go_simp
          replace J := Lib.hid (J.out.made (.cells #[.int .u32 (gn : Int), .string gi, .int .i64 0] 49))
          have P1 := Lib.hid (gs_one u0 ⟨gn, gi, 0⟩)
          generalize u0.alloc (.cells #[.int .u32 (gn : Int), .string gi, .int .i64 0] 49) = u1 at *
          generalize u0.heap.size = kb at *
          (try clear sk)
          have sk := (ad_s1 J.out).2
          refine hK.out _ _ sk (fun hHeld2 => ?_)
          clear hK K hHeld
          have hHeld := hHeld2
          clear hHeld2
          try simp only [Act.put, List.setIfInBounds_toArray, List.set_cons_zero, List.set_cons_succ]
          refine wpAnyH_ready (rs := [4]) (by kernel_rfl) (by simp) (AllReadyH.cons (o := ({ dst := some 43, op := Go.Op.load 26 (Go.Operand.tmp 42), type := 26, pos := "registry.go:74", after := #[{ on := 3, ground := Go.Ground.data }], guard := none } : Oper)) rfl (fun K hK => ?_) AllReadyH.nil)
          obtain ⟨m0, m1, m2, m3, m4, mf, ml⟩ := (show RM _ S _ u1 ([_] ++ (p, _) :: []) _ _ _ _ _ _ from J.out).five
          go_simp
          clear m0 m1 m2 m3 m4 mf ml
          refine hK.out _ _ sk (fun hHeld2 => ?_)
          clear hK K hHeld
          have hHeld := hHeld2
          clear hHeld2
          try simp only [Act.put, List.setIfInBounds_toArray, List.set_cons_zero, List.set_cons_succ]
          refine wpAnyH_ready (rs := [7]) (by kernel_rfl) (by simp) (AllReadyH.cons (o := ({ dst := some 46, op := Go.Op.call { callee := Go.Callee.builtin Go.Builtin.append, args := #[Go.Operand.tmp 43, Go.Operand.tmp 45], argTypes := #[26, 26] }, type := 26, pos := "registry.go:74", after := #[{ on := 4, ground := Go.Ground.data }, { on := 6, ground := Go.Ground.data }], guard := none } : Oper)) rfl (fun K hK => ?_) AllReadyH.nil)
          refine step_appG (by rfl) _ _ (by rfl) (base := w0.heap.size) (l := l) (m := [⟨gn, gi, 0⟩]) (by rfl) (by exact J.out.rb.ol) (by rfl) (by exact P1.out) (by have := HL.out; simp; omega) (by have := J.out.turn.size; omega) ?_
          intro v6 u2 ho6 hg6 hw6
          replace J := Lib.hid (J.out.setL ho6 hg6 hw6)
          obtain ⟨A6, c6, hv6, -, -⟩ := ho6.gs.shape
          rw [List.length_append, HM.out, List.length_singleton] at hv6
          subst hv6
          clear ho6 hg6 hw6
          (try clear sk)
          have sk := (ad_s1 J.out).2
          refine hK.out _ _ sk (fun hHeld2 => ?_)
          clear hK K hHeld
          have hHeld := hHeld2
          clear hHeld2
          try simp only [Act.put, List.setIfInBounds_toArray, List.set_cons_zero, List.set_cons_succ]
          refine wpAnyH_take (i := 8) (oi := ({ dst := some 47, op := Go.Op.nilCheck (Go.Operand.tmp 39), type := 0, pos := "registry.go:74", after := #[{ on := 0, ground := Go.Ground.data }, { on := 0, ground := Go.Ground.phase }, { on := 1, ground := Go.Ground.phase }, { on := 2, ground := Go.Ground.phase }, { on := 3, ground := Go.Ground.phase }, { on := 4, ground := Go.Ground.phase }, { on := 5, ground := Go.Ground.phase }, { on := 6, ground := Go.Ground.phase }, { on := 7, ground := Go.Ground.phase }], guard := none } : Oper)) (v := ?_) rfl (by kernel_rfl) (by kernel_rfl) (by kernel_rfl) (fun _ _ _ h => h) (Or.inl ⟨by kernel_rfl, ?_⟩) hHeld ?_
          rotate_left 1
          · (intro W hSw; (try dsimp only at hSw); go_simp; try with_reducible rfl)
          try simp only [Act.put, List.setIfInBounds_toArray, List.set_cons_zero, List.set_cons_succ]
          refine wpAnyH_take (i := 9) (oi := ({ dst := some 48, op := Go.Op.fieldAddr 60 (Go.Operand.tmp 47) 3, type := 0, pos := "registry.go:74", after := #[{ on := 8, ground := Go.Ground.data }, { on := 0, ground := Go.Ground.phase }, { on := 1, ground := Go.Ground.phase }, { on := 2, ground := Go.Ground.phase }, { on := 3, ground := Go.Ground.phase }, { on := 4, ground := Go.Ground.phase }, { on := 5, ground := Go.Ground.phase }, { on := 6, ground := Go.Ground.phase }, { on := 7, ground := Go.Ground.phase }], guard := none } : Oper)) (v := ?_) rfl (by kernel_rfl) (by kernel_rfl) (by kernel_rfl) (fun _ _ _ h => h) (Or.inl ⟨by kernel_rfl, ?_⟩) hHeld ?_
          rotate_left 1
          · (intro W hSw; (try dsimp only at hSw); go_simp; try with_reducible rfl)
          try simp only [Act.put, List.setIfInBounds_toArray, List.set_cons_zero, List.set_cons_succ]
          refine wpAnyH_ready (rs := [10]) (by kernel_rfl) (by simp) (AllReadyH.cons (o := ({ dst := none, op := Go.Op.store 26 (Go.Operand.tmp 48) (Go.Operand.tmp 46), type := 0, pos := "registry.go:74", after := #[{ on := 9, ground := Go.Ground.data }, { on := 7, ground := Go.Ground.data }, { on := 7, ground := Go.Ground.chain }, { on := 0, ground := Go.Ground.phase }, { on := 1, ground := Go.Ground.phase }, { on := 2, ground := Go.Ground.phase }, { on := 3, ground := Go.Ground.phase }, { on := 4, ground := Go.Ground.phase }, { on := 5, ground := Go.Ground.phase }, { on := 6, ground := Go.Ground.phase }, { on := 7, ground := Go.Ground.phase }], guard := none } : Oper)) rfl (fun K hK => ?_) AllReadyH.nil)
          obtain ⟨z0, z1, z2, z3, z4, zf, zl⟩ := (show RM _ S _ u2 ([_] ++ (p, _) :: []) _ _ _ _ _ _ from J.out).five
          go_simp
          have Z := Lib.hid (J.out.put (i := 3) (by decide) (.slice A6 (m + 1) c6))
          clear z0 z1 z2 z3 z4 zf zl
          replace J := Z
          (try clear sk)
          have sk := (ad_s1 J.out).2
          refine hK.out _ _ sk (fun hHeld2 => ?_)
          clear hK K hHeld
          have hHeld := hHeld2
          clear hHeld2
          try simp only [Act.put, List.setIfInBounds_toArray, List.set_cons_zero, List.set_cons_succ]
          refine wpAnyH_done (by kernel_rfl) ?_ _
          go_wp2_with fail
          go_meet
          case rel => exact ⟨A6, c6, Z⟩
      case rest =>
        obtain ⟨Al, el, J1⟩ := hcut
        clear J
        go_wp2_with fail
        exact bodyPost_ret (v := .int .i64 0) (by simp [results, Tryd.results14, go_sem]) rfl (TurnR.mk' HOK.out HAF.out HB.out rfl (J1.out.sub (List.sublist_cons_self _ _)))

end Go.Proofs.YtcecicmihdcjgaaDoor
