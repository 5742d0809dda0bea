/-
  Package state: Clone.
-/
import Derived.Test.YthedglfocjljjaaGreatDoorSca
import Derived.Test.YthedglfocjljjaaGreatDoorSrd
namespace Go.Proofs.YthedglfocjljjaaGreatDoor
open Go.RowKit

theorem uL_length (l : List Nat) : (uL l).length = l.length * 1 := by simp
theorem sb_perm (a : Ob) (l : List Ob) (m : List Ob) : (l ++ (m ++ [a])).Perm (a :: (l ++ m)) := by
  rw [← List.append_assoc]
  exact List.perm_append_singleton a (l ++ m)
theorem oneCell_bfL : ∀ (L : List Bv), (∀ p ∈ L, ∃ A n c, p.2 = .slice A n c) → ∀ u ∈ bfL L, u.oneCell' = true := by
  intro L h u hu
  obtain ⟨p, hp, hu⟩ := List.mem_flatMap.1 hu
  obtain ⟨A, n, c, e⟩ := h p hp
  rw [bfC, e] at hu
  simp only [List.mem_cons, List.not_mem_nil, or_false] at hu
  rcases hu with rfl | rfl | rfl <;> rfl
theorem bfL_set : ∀ (M N : List Bv) (p : Bv) (v : Value), (bfL (M ++ p :: N)).set (M.length * 3 + 2) v = bfL (M ++ (p.1, v) :: N)
  | [], N, p, v => rfl
  | q :: M, N, p, v => by
    have e : ∀ X : List Bv, bfL (q :: X) = .int .i64 q.1.a :: .int .i64 q.1.b :: q.2 :: bfL X := fun _ => rfl
    rw [List.cons_append, e, List.length_cons, show (M.length + 1) * 3 + 2 = M.length * 3 + 2 + 1 + 1 + 1 by omega, List.set_cons_succ, List.set_cons_succ, List.set_cons_succ, bfL_set M N p v, List.cons_append, e]

set_option maxRecDepth 100000 in
set_option maxHeartbeats 8000000 in
theorem clone_any {w : World} {s : St} {L : List Bv} {vb vd vo vi vc : Value} (h : StAt w s L vb vd vo vi vc) (hl : L.length ≤ 1000) (hp : ∀ p ∈ L, p.1.l.length ≤ 100000) (hd : s.dm.length ≤ 1000) (ho : s.op.length ≤ 1000) (hi : s.ip.length ≤ 1000) (hc : s.cb.length ≤ 1000) :
    Calls Tryz.prog 17 #[stV s vb vd vo vi vc] w (ClO w s L) := by
  have hone := oneCell_bfL L (fun p hp => by obtain ⟨A, c, e, _⟩ := (h.px p hp).shape; exact ⟨A, _, c, e⟩)
  have CB := fun (W : World) (hw : Below w.heap.size w W) => Lib.hid (cloneB_any (h.bf.below hw) hone (by omega))
  have CD := fun (W : World) (hw : Below w.heap.size w W) => Lib.hid (cloneR_any (h.dm.below hw) (oneCell_rflat s.dm) (by omega))
  have CO := fun (W : World) (hw : Below w.heap.size w W) => Lib.hid (cloneR_any (h.op.below hw) (oneCell_rflat s.op) (by omega))
  have CI := fun (W : World) (hw : Below w.heap.size w W) => Lib.hid (cloneR_any (h.ip.below hw) (oneCell_rflat s.ip) (by omega))
  have CC := fun (W : World) (hw : Below w.heap.size w W) => Lib.hid (cloneU_any (h.cb.below hw) (oneCell_uL s.cb) (by omega))
  have LCD := Lib.hid (rflat_length s.dm)
  have LCO := Lib.hid (rflat_length s.op)
  have LCI := Lib.hid (rflat_length s.ip)
  have LCC := Lib.hid (uL_length s.cb)
  have LCB := Lib.hid (bfL_len L)
  have HPX := Lib.hid (And.intro h.px hp)
  obtain ⟨A, c, rfl, h1, h2⟩ := h.bf.shape
  obtain ⟨Ad, cd, rfl, hd1, hd2⟩ := h.dm.shape
  obtain ⟨Ao, co, rfl, ho1, ho2⟩ := h.op.shape
  obtain ⟨Ai, ci, rfl, hi1, hi2⟩ := h.ip.shape
  obtain ⟨Ac, cc, rfl, hc1, hc2⟩ := h.cb.shape
  simp only [maxLen] at h2 hd2 ho2 hi2 hc2
  unfold ClO
  clear h hp hone
  obtain ⟨n, hn⟩ : ∃ n, L.length = n := ⟨_, rfl⟩
  have HN := Lib.hid hn
  rw [hn] at h1 hl CB LCB ⊢
  generalize s.dm.length = nd at *
  generalize s.op.length = no at *
  generalize s.ip.length = ni at *
  generalize s.cb.length = nc at *
  clear hn
  have J0 := Lib.hid (show HO w ((w.alloc (.cells (stC s (.slice A n c) (.slice Ad nd cd) (.slice Ao no co) (.slice Ai ni ci) (.slice Ac nc cc)).toArray 28)).alloc (.cells [.int .i64 0, .slice none 0 0, .int .i64 0, .int .i64 0, .slice none 0 0, .slice none 0 0, .bool false, .slice none 0 0, .int .i64 0, .int .i64 0, .slice none 0 0].toArray 28)) ([boxO w.heap.size (stC s (.slice A n c) (.slice Ad nd cd) (.slice Ao no co) (.slice Ai ni ci) (.slice Ac nc cc)), boxO (w.heap.size + 1) [.int .i64 0, .slice none 0 0, .int .i64 0, .int .i64 0, .slice none 0 0, .slice none 0 0, .bool false, .slice none 0 0, .int .i64 0, .int .i64 0, .slice none 0 0]] ++ pxO w.heap.size []) from by
    have h := (((HO.nil w).alloc (stC s (.slice A n c) (.slice Ad nd cd) (.slice Ao no co) (.slice Ai ni ci) (.slice Ac nc cc)) 28).alloc [.int .i64 0, .slice none 0 0, .int .i64 0, .int .i64 0, .slice none 0 0, .slice none 0 0, .bool false, .slice none 0 0, .int .i64 0, .int .i64 0, .slice none 0 0] 28)
    simp only [World.size_alloc] at h
    exact h.swap)
  go_enter Tryz.func17, Tryz.ntmps17
  go_wp2_with fail
  refine (CB _ J0.out.below).out.mono ?_
  rintro e x9 ⟨r9, rfl, hr9, hb⟩
  obtain ⟨A0, c0, hv9, hc01, hc02⟩ := (sn_owned hr9 LCB.out).shape
  subst hv9
  simp only [maxLen] at hc02
  have J1 := Lib.hid (J0.out.rowB hb (ownO_mono hr9 J0.out.below.size) (fun k hk => (World.ownsRow.lt hr9 k hk).1))
  clear hb hr9 J0 CB
  obtain ⟨zf, zl⟩ := (show HO w x9 ([_] ++ boxO w.heap.size _ :: _) from J1.out).f
  have m0 := (show HO w x9 ([_] ++ boxO w.heap.size _ :: _) from J1.out).c 1 rfl
  go_upto_region 2 with fail
  replace J1 := Lib.hid ((show HO w x9 ([_] ++ boxO w.heap.size [_, _, _, _, _, _, _, _, _, _, _] :: _) from J1.out).cell (i := 1) (by simp) (.slice A0 n c0))
  generalize x9.setCell ⟨w.heap.size, 1, none⟩ (.slice A0 n c0) = y9 at *
  clear m0 zf zl
  have k1 := (show HO w y9 ([_] ++ boxO w.heap.size _ :: _) from J1.out).c 1 rfl
  go_wp2_with fail
  clear k1
  go_loopw [11] (fun s11 wr => ∃ (i : Nat) (M : List Bv), i ≤ n ∧ s11 = .int .i64 (i : Int) ∧ Hid (M.length = i) ∧ Hid (M.map Prod.fst = (L.take i).map Prod.fst) ∧ Hid (HO w wr ([boxO w.heap.size (stC s (.slice A0 n c0) (.slice Ad nd cd) (.slice Ao no co) (.slice Ai ni ci) (.slice Ac nc cc)), boxO (w.heap.size + 1) [.int .i64 0, .slice none 0 0, .int .i64 0, .int .i64 0, .slice none 0 0, .slice none 0 0, .bool false, .slice none 0 0, .int .i64 0, .int .i64 0, .slice none 0 0], rowO w.heap.size 42 3 (.slice A0 n c0) n (bfL (M ++ L.drop i))] ++ pxO w.heap.size M))) (fun s11 _ => leftN n s11)
  case atStart => exact ⟨0, [], Nat.zero_le _, rfl, Lib.hid rfl, Lib.hid rfl, Lib.hid (J1.out.perm (List.perm_append_comm (l₁ := [_, _]) (l₂ := [_])))⟩
  case round =>
    clear J1
    obtain ⟨i, M, hin, rfl, HM, HE, J⟩ := hrel
    have k1 := (show HO w wr ([] ++ boxO w.heap.size _ :: _) from J.out).c 1 rfl
    by_cases hlt : i < n
    · have q0 : (0 : Int) ≤ i := by omega
      have q1 : (i : Int) < n := by omega
      obtain ⟨p, hp⟩ : ∃ p, L[i]? = some p := ⟨_, List.getElem?_eq_getElem (by rw [HN.out]; exact hlt)⟩
      have hdrop : L.drop i = p :: L.drop (i + 1) := by
        rw [List.drop_eq_getElem_cons (by rw [HN.out]; exact hlt)]
        congr 1
        have := (List.getElem?_eq_some_iff.1 hp).2
        exact this
      have hpx := HPX.out.1 p (List.mem_of_getElem? hp)
      have CP := fun (W : World) (hw : Below w.heap.size w W) => Lib.hid (cloneP_any (pxs_sn (hpx.below hw)) (oneCell_flat p.1.l) (Nat.le_trans (HPX.out.2 p (List.mem_of_getElem? hp)) (by decide)))
      obtain ⟨Ap, cp, hvp, -, -⟩ := hpx.shape
      have HT : Hid ((L.take i).map Prod.fst ++ [(p.1, Value.bool true)].map Prod.fst = (L.take (i + 1)).map Prod.fst) := Lib.hid (by rw [List.take_add_one, hp]; simp)
      have HB9 := Lib.hid (fun (v : Value) (M : List Bv) (hm : M.length = i) => show (bfL (M ++ L.drop i)).set (i * 3 + 2) v = bfL ((M ++ [(p.1, v)]) ++ L.drop (i + 1)) by rw [hdrop, ← hm, bfL_set, List.append_assoc, List.singleton_append])
      obtain ⟨gb, hgb⟩ : ∃ gb, A0 = some ⟨gb, 0, none⟩ := by
        rcases (show HO w wr ([_, _] ++ rowO w.heap.size 42 3 _ n _ :: _) from J.out).at.2 with ⟨e, _⟩ | ⟨g, cap, cur, e, _⟩
        · injection e with _ e2 _
          omega
        · injection e with e1 _ _
          exact ⟨g, e1⟩
      subst hgb
      have hrow : ∀ W : World, Below w.heap.size w W → W.ownsRow w.heap.size 42 3 (.slice (some ⟨gb, 0, none⟩) n c0) n (bfL (M ++ L.drop i)) → (∀ k, W.frozen? ⟨gb, k, none⟩ = false) ∧ W.cell? ⟨gb, i * 3 + 2, none⟩ = some p.2 := fun W _ ho => by
        refine ⟨fun k => World.ownsRow.frozenAt ho k, ?_⟩
        rw [World.ownsRow.cellAt ho (i * 3 + 2) (by omega)]
        have := (bfL_at (M ++ L.drop i) i p (by rw [List.getElem?_append_right (by rw [HM.out]; exact Nat.le_refl _), HM.out, Nat.sub_self, hdrop]; rfl)).2.2
        exact this
      obtain ⟨⟨pa, pb, pl⟩, pv⟩ := p
      dsimp only at hvp hrow CP
      subst hvp
      clear hpx hp hdrop
      go_upto_region 5 with fail
      replace J := Lib.hid J.out.drew
      have sk := (show HO w _ ([] ++ boxO w.heap.size _ :: _) from J.out).c 1 rfl
      refine wp_region_held_drew (S := (fun W => W.cell? ⟨w.heap.size, 1, none⟩ = some (.slice (some ⟨gb, 0, none⟩) n c0))) (by kernel_rfl) sk (fun hHeld => ?_)
      generalize wr.drew = u0 at *
      refine wpAnyH_take (i := 0) (oi := ({ dst := some 14, op := Go.Op.fieldAddr 28 (Go.Operand.tmp 1) 1, type := 0, pos := "state.go:154", after := #[], guard := none } : Oper)) (v := ?_) rfl (by kernel_rfl) (by kernel_rfl) (by kernel_rfl) (fun _ _ _ h => h) (Or.inl ⟨by kernel_rfl, ?_⟩) hHeld ?_
      rotate_left 1
      · (intro W hSw; (try dsimp only at hSw); go_simp; try with_reducible rfl)
      try simp only [Act.put, List.setIfInBounds_toArray, List.set_cons_zero, List.set_cons_succ]
      refine wpAnyH_take (i := 1) (oi := ({ dst := some 15, op := Go.Op.load 22 (Go.Operand.tmp 14), type := 22, pos := "state.go:154", after := #[{ on := 0, ground := Go.Ground.data }], guard := none } : Oper)) (v := ?_) rfl (by kernel_rfl) (by kernel_rfl) (by kernel_rfl) (fun _ _ _ h => h) (Or.inl ⟨by kernel_rfl, ?_⟩) hHeld ?_
      rotate_left 1
      · (intro W hSw; (try dsimp only at hSw); go_simp; try with_reducible rfl)
      try simp only [Act.put, List.setIfInBounds_toArray, List.set_cons_zero, List.set_cons_succ]
      refine wpAnyH_take (i := 2) (oi := ({ dst := some 16, op := Go.Op.move (Go.Operand.tmp 3), type := 3, pos := "state.go:154", after := #[], guard := none } : Oper)) (v := ?_) rfl (by kernel_rfl) (by kernel_rfl) (by kernel_rfl) (fun _ _ _ h => h) (Or.inl ⟨by kernel_rfl, ?_⟩) hHeld ?_
      rotate_left 1
      · (intro W hSw; (try dsimp only at hSw); go_simp; try with_reducible rfl)
      try simp only [Act.put, List.setIfInBounds_toArray, List.set_cons_zero, List.set_cons_succ]
      refine wpAnyH_take (i := 3) (oi := ({ dst := some 17, op := Go.Op.fieldAddr 28 (Go.Operand.tmp 1) 1, type := 0, pos := "state.go:154", after := #[], guard := none } : Oper)) (v := ?_) rfl (by kernel_rfl) (by kernel_rfl) (by kernel_rfl) (fun _ _ _ h => h) (Or.inl ⟨by kernel_rfl, ?_⟩) hHeld ?_
      rotate_left 1
      · (intro W hSw; (try dsimp only at hSw); go_simp; try with_reducible rfl)
      try simp only [Act.put, List.setIfInBounds_toArray, List.set_cons_zero, List.set_cons_succ]
      refine wpAnyH_take (i := 4) (oi := ({ dst := some 18, op := Go.Op.load 22 (Go.Operand.tmp 17), type := 22, pos := "state.go:154", after := #[{ on := 3, ground := Go.Ground.data }], guard := none } : Oper)) (v := ?_) rfl (by kernel_rfl) (by kernel_rfl) (by kernel_rfl) (fun _ _ _ h => h) (Or.inl ⟨by kernel_rfl, ?_⟩) hHeld ?_
      rotate_left 1
      · (intro W hSw; (try dsimp only at hSw); go_simp; try with_reducible rfl)
      try simp only [Act.put, List.setIfInBounds_toArray, List.set_cons_zero, List.set_cons_succ]
      refine wpAnyH_take (i := 5) (oi := ({ dst := some 19, op := Go.Op.move (Go.Operand.tmp 3), type := 3, pos := "state.go:154", after := #[], guard := none } : Oper)) (v := ?_) rfl (by kernel_rfl) (by kernel_rfl) (by kernel_rfl) (fun _ _ _ h => h) (Or.inl ⟨by kernel_rfl, ?_⟩) hHeld ?_
      rotate_left 1
      · (intro W hSw; (try dsimp only at hSw); go_simp; try with_reducible rfl)
      try simp only [Act.put, List.setIfInBounds_toArray, List.set_cons_zero, List.set_cons_succ]
      refine wpAnyH_take (i := 6) (oi := ({ dst := some 20, op := Go.Op.indexAddr 22 (Go.Operand.tmp 18) (Go.Operand.tmp 19), type := 0, pos := "state.go:154", after := #[{ on := 4, ground := Go.Ground.data }, { on := 5, ground := Go.Ground.data }], guard := none } : Oper)) (v := ?_) rfl (by kernel_rfl) (by kernel_rfl) (by kernel_rfl) (fun _ _ _ h => h) (Or.inl ⟨by kernel_rfl, ?_⟩) hHeld ?_
      rotate_left 1
      · (intro W hSw; (try dsimp only at hSw); go_simp; try with_reducible rfl)
      try simp only [Act.put, List.setIfInBounds_toArray, List.set_cons_zero, List.set_cons_succ]
      refine wpAnyH_take (i := 7) (oi := ({ dst := some 21, op := Go.Op.fieldAddr 42 (Go.Operand.tmp 20) 2, type := 0, pos := "state.go:154", after := #[{ on := 6, ground := Go.Ground.data }], guard := none } : Oper)) (v := ?_) rfl (by kernel_rfl) (by kernel_rfl) (by kernel_rfl) (fun _ _ _ h => h) (Or.inl ⟨by kernel_rfl, ?_⟩) hHeld ?_
      rotate_left 1
      · (intro W hSw; (try dsimp only at hSw); go_simp; try with_reducible rfl)
      try simp only [Act.put, List.setIfInBounds_toArray, List.set_cons_zero, List.set_cons_succ]
      refine wpAnyH_ready (rs := [8]) (by kernel_rfl) (by simp) (AllReadyH.cons (o := ({ dst := some 22, op := Go.Op.load 40 (Go.Operand.tmp 21), type := 40, pos := "state.go:154", after := #[{ on := 7, ground := Go.Ground.data }], guard := none } : Oper)) rfl (fun K hK => ?_) AllReadyH.nil)
      have m2 := (hrow _ J.out.below (show HO w _ ([_, _] ++ rowO w.heap.size 42 3 (.slice (some ⟨gb, 0, none⟩) n c0) n _ :: _) from J.out).at).2
      go_simp
      clear m2
      refine hK.out _ _ sk (fun hHeld2 => ?_)
      clear hK K hHeld
      have hHeld := hHeld2
      clear hHeld2
      try simp only [Act.put, List.setIfInBounds_toArray, List.set_cons_zero, List.set_cons_succ]
      refine wpAnyH_ready (rs := [9]) (by kernel_rfl) (by simp) (AllReadyH.cons (o := ({ dst := some 23, op := Go.Op.call { callee := Go.Callee.value (Go.Operand.func 46), args := #[Go.Operand.tmp 22], argTypes := #[40] }, type := 40, pos := "state.go:154", after := #[{ on := 8, ground := Go.Ground.data }], guard := none } : Oper)) rfl (fun K hK => ?_) AllReadyH.nil)
      go_simp
      refine (CP _ J.out.below).out.mono ?_
      rintro e u1 ⟨r9, rfl, hr9, hb⟩
      obtain ⟨Ar, cr, hv9, -, -⟩ := (sn_owned hr9 (flat_length _)).shape
      subst hv9
      replace J := Lib.hid (J.out.rowB hb (ownO_mono hr9 J.out.below.size) (fun k hk => (World.ownsRow.lt hr9 k hk).1))
      clear hb hr9 sk
      have sk := (show HO w _ ([_] ++ boxO w.heap.size _ :: _) from J.out).c 1 rfl
      refine hK.out _ _ sk (fun hHeld2 => ?_)
      clear hK K hHeld
      have hHeld := hHeld2
      clear hHeld2
      try simp only [Act.put, List.setIfInBounds_toArray, List.set_cons_zero, List.set_cons_succ]
      refine wpAnyH_take (i := 10) (oi := ({ dst := some 24, op := Go.Op.indexAddr 22 (Go.Operand.tmp 15) (Go.Operand.tmp 16), type := 0, pos := "state.go:154", after := #[{ on := 1, ground := Go.Ground.data }, { on := 2, ground := Go.Ground.data }, { on := 0, ground := Go.Ground.phase }, { on := 1, ground := Go.Ground.phase }, { on := 2, ground := Go.Ground.phase }, { on := 3, ground := Go.Ground.phase }, { on := 4, ground := Go.Ground.phase }, { on := 5, ground := Go.Ground.phase }, { on := 6, ground := Go.Ground.phase }, { on := 7, ground := Go.Ground.phase }, { on := 8, ground := Go.Ground.phase }, { on := 9, ground := Go.Ground.phase }], guard := none } : Oper)) (v := ?_) rfl (by kernel_rfl) (by kernel_rfl) (by kernel_rfl) (fun _ _ _ h => h) (Or.inl ⟨by kernel_rfl, ?_⟩) hHeld ?_
      rotate_left 1
      · (intro W hSw; (try dsimp only at hSw); go_simp; try with_reducible rfl)
      try simp only [Act.put, List.setIfInBounds_toArray, List.set_cons_zero, List.set_cons_succ]
      refine wpAnyH_take (i := 11) (oi := ({ dst := some 25, op := Go.Op.fieldAddr 42 (Go.Operand.tmp 24) 2, type := 0, pos := "state.go:154", after := #[{ on := 10, ground := Go.Ground.data }, { on := 0, ground := Go.Ground.phase }, { on := 1, ground := Go.Ground.phase }, { on := 2, ground := Go.Ground.phase }, { on := 3, ground := Go.Ground.phase }, { on := 4, ground := Go.Ground.phase }, { on := 5, ground := Go.Ground.phase }, { on := 6, ground := Go.Ground.phase }, { on := 7, ground := Go.Ground.phase }, { on := 8, ground := Go.Ground.phase }, { on := 9, ground := Go.Ground.phase }], guard := none } : Oper)) (v := ?_) rfl (by kernel_rfl) (by kernel_rfl) (by kernel_rfl) (fun _ _ _ h => h) (Or.inl ⟨by kernel_rfl, ?_⟩) hHeld ?_
      rotate_left 1
      · (intro W hSw; (try dsimp only at hSw); go_simp; try with_reducible rfl)
      try simp only [Act.put, List.setIfInBounds_toArray, List.set_cons_zero, List.set_cons_succ]
      refine wpAnyH_ready (rs := [12]) (by kernel_rfl) (by simp) (AllReadyH.cons (o := ({ dst := none, op := Go.Op.store 40 (Go.Operand.tmp 25) (Go.Operand.tmp 23), type := 0, pos := "state.go:154", after := #[{ on := 11, ground := Go.Ground.data }, { on := 9, ground := Go.Ground.data }, { on := 9, ground := Go.Ground.chain }, { on := 0, ground := Go.Ground.phase }, { on := 1, ground := Go.Ground.phase }, { on := 2, ground := Go.Ground.phase }, { on := 3, ground := Go.Ground.phase }, { on := 4, ground := Go.Ground.phase }, { on := 5, ground := Go.Ground.phase }, { on := 6, ground := Go.Ground.phase }, { on := 7, ground := Go.Ground.phase }, { on := 8, ground := Go.Ground.phase }, { on := 9, ground := Go.Ground.phase }], guard := none } : Oper)) rfl (fun K hK => ?_) AllReadyH.nil)
      have m2 := hrow _ J.out.below (show HO w u1 ([_, _, _] ++ rowO w.heap.size 42 3 (.slice (some ⟨gb, 0, none⟩) n c0) n _ :: _) from J.out).at
      go_simp
      have hst := World.ownsRow.stored (show HO w u1 ([_, _, _] ++ rowO w.heap.size 42 3 (.slice (some ⟨gb, 0, none⟩) n c0) n _ :: _) from J.out).at (i * 3 + 2) (.slice Ar pl.length cr)
      replace J := Lib.hid ((show HO w u1 ([_, _, _] ++ rowO w.heap.size 42 3 (.slice (some ⟨gb, 0, none⟩) n c0) n _ :: _) from J.out).grow hst.1 hst.2 (.inl rfl))
      clear m2 hst
      (try clear sk)
      have sk := (show HO w _ ([_] ++ boxO w.heap.size _ :: _) from J.out).c 1 rfl
      refine hK.out _ _ sk (fun hHeld2 => ?_)
      clear hK K hHeld
      have hHeld := hHeld2
      clear hHeld2
      try simp only [Act.put, List.setIfInBounds_toArray, List.set_cons_zero, List.set_cons_succ]
      refine wpAnyH_done (by kernel_rfl) ?_ _
      clear sk k1 CP hrow
      go_wp2_with fail
      go_roundw
      case rel => exact ⟨i + 1, M ++ [((⟨pa, pb, pl⟩ : Bf), .slice Ar pl.length cr)], by omega, by go_num, Lib.hid (by simp [HM.out]), Lib.hid (by rw [List.map_append, HE.out]; exact HT.out), Lib.hid (by have h := J.out; rw [HB9.out (.slice Ar pl.length cr) M HM.out] at h; have h := h.perm (sb_perm _ [_, _, _] _); rw [pxO_append]; exact h)⟩
      case measure =>
        unfold leftN
        simp [RowKit.intOf]
        omega

    · obtain rfl : i = n := by omega
      have m0 := (show HO w wr ([] ++ boxO w.heap.size _ :: _) from J.out).c 4 rfl
      go_wp2_with fail
      refine (CD _ J.out.below).out.mono ?_
      rintro e x0 ⟨r9, rfl, hr9, hb⟩
      obtain ⟨Ad6, cd6, hv9, -, -⟩ := (sn_owned hr9 LCD.out).shape
      subst hv9
      replace J := Lib.hid (J.out.rowB hb (ownO_mono hr9 J.out.below.size) (fun k hk => (World.ownsRow.lt hr9 k hk).1))
      clear hb hr9 m0
      obtain ⟨zf, zl⟩ := (show HO w x0 ([_] ++ boxO w.heap.size _ :: _) from J.out).f
      have m0 := (show HO w x0 ([_] ++ boxO w.heap.size _ :: _) from J.out).c 4 rfl
      go_upto_region 8 with fail
      replace J := Lib.hid ((show HO w x0 ([_] ++ boxO w.heap.size [_, _, _, _, _, _, _, _, _, _, _] :: _) from J.out).cell (i := 4) (by simp) (.slice Ad6 nd cd6))
      generalize x0.setCell ⟨w.heap.size, 4, none⟩ (.slice Ad6 nd cd6) = y0 at *
      clear m0 zf zl
      have m0 := (show HO w y0 ([_] ++ boxO w.heap.size _ :: _) from J.out).c 5 rfl
      go_wp2_with fail
      refine (CO _ J.out.below).out.mono ?_
      rintro e x1 ⟨r9, rfl, hr9, hb⟩
      obtain ⟨Ao6, co6, hv9, -, -⟩ := (sn_owned hr9 LCO.out).shape
      subst hv9
      replace J := Lib.hid (J.out.rowB hb (ownO_mono hr9 J.out.below.size) (fun k hk => (World.ownsRow.lt hr9 k hk).1))
      clear hb hr9 m0
      obtain ⟨zf, zl⟩ := (show HO w x1 ([_, _] ++ boxO w.heap.size _ :: _) from J.out).f
      have m0 := (show HO w x1 ([_, _] ++ boxO w.heap.size _ :: _) from J.out).c 5 rfl
      go_upto_region 9 with fail
      replace J := Lib.hid ((show HO w x1 ([_, _] ++ boxO w.heap.size [_, _, _, _, _, _, _, _, _, _, _] :: _) from J.out).cell (i := 5) (by simp) (.slice Ao6 no co6))
      generalize x1.setCell ⟨w.heap.size, 5, none⟩ (.slice Ao6 no co6) = y1 at *
      clear m0 zf zl
      have m0 := (show HO w y1 ([_, _] ++ boxO w.heap.size _ :: _) from J.out).c 7 rfl
      go_wp2_with fail
      refine (CI _ J.out.below).out.mono ?_
      rintro e x2 ⟨r9, rfl, hr9, hb⟩
      obtain ⟨Ai6, ci6, hv9, -, -⟩ := (sn_owned hr9 LCI.out).shape
      subst hv9
      replace J := Lib.hid (J.out.rowB hb (ownO_mono hr9 J.out.below.size) (fun k hk => (World.ownsRow.lt hr9 k hk).1))
      clear hb hr9 m0
      obtain ⟨zf, zl⟩ := (show HO w x2 ([_, _, _] ++ boxO w.heap.size _ :: _) from J.out).f
      have m0 := (show HO w x2 ([_, _, _] ++ boxO w.heap.size _ :: _) from J.out).c 7 rfl
      go_upto_region 10 with fail
      replace J := Lib.hid ((show HO w x2 ([_, _, _] ++ boxO w.heap.size [_, _, _, _, _, _, _, _, _, _, _] :: _) from J.out).cell (i := 7) (by simp) (.slice Ai6 ni ci6))
      generalize x2.setCell ⟨w.heap.size, 7, none⟩ (.slice Ai6 ni ci6) = y2 at *
      clear m0 zf zl
      have m0 := (show HO w y2 ([_, _, _] ++ boxO w.heap.size _ :: _) from J.out).c 10 rfl
      go_wp2_with fail
      refine (CC _ J.out.below).out.mono ?_
      rintro e x3 ⟨r9, rfl, hr9, hb⟩
      obtain ⟨Ac6, cc6, hv9, -, -⟩ := (sn_owned hr9 LCC.out).shape
      subst hv9
      replace J := Lib.hid (J.out.rowB hb (ownO_mono hr9 J.out.below.size) (fun k hk => (World.ownsRow.lt hr9 k hk).1))
      clear hb hr9 m0
      obtain ⟨zf, zl⟩ := (show HO w x3 ([_, _, _, _] ++ boxO w.heap.size _ :: _) from J.out).f
      have m0 := (show HO w x3 ([_, _, _, _] ++ boxO w.heap.size _ :: _) from J.out).c 10 rfl
      go_upto_region 11 with fail
      replace J := Lib.hid ((show HO w x3 ([_, _, _, _] ++ boxO w.heap.size [_, _, _, _, _, _, _, _, _, _, _] :: _) from J.out).cell (i := 10) (by simp) (.slice Ac6 nc cc6))
      generalize x3.setCell ⟨w.heap.size, 10, none⟩ (.slice Ac6 nc cc6) = y3 at *
      clear m0 zf zl
      obtain ⟨p0, p1, p2, p3, p4, p5, p6, p7, p8, p9, p10, pf, pl⟩ := (show HO w y3 ([_, _, _, _] ++ boxO w.heap.size [_, _, _, _, _, _, _, _, _, _, _] :: _) from J.out).c11
      obtain ⟨z0, z1, z2, z3, z4, z5, z6, z7, z8, z9, z10, zf, zl⟩ := (show HO w y3 ([_, _, _, _, _] ++ boxO (w.heap.size + 1) [_, _, _, _, _, _, _, _, _, _, _] :: _) from J.out).c11
      have J2 := Lib.hid ((show HO w y3 ([_, _, _, _, _] ++ boxO (w.heap.size + 1) [_, _, _, _, _, _, _, _, _, _, _] :: _) from J.out).set11 (.int .i64 s.set) (.slice A0 i c0) (.int .i64 s.sc) (.int .i64 s.tr) (.slice Ad6 nd cd6) (.slice Ao6 no co6) (.bool s.is) (.slice Ai6 ni ci6) (.int .i64 s.dx) (.int .i64 s.dy) (.slice Ac6 nc cc6))
      go_wp2_with fail
      obtain ⟨t0, t1, t2, t3, t4, t5, t6, t7, t8, t9, t10, -, -⟩ := (show HO w _ ([_, _, _, _, _] ++ boxO (w.heap.size + 1) [_, _, _, _, _, _, _, _, _, _, _] :: _) from J2.out).c11
      refine bodyPost_ret (v := stV s (.slice A0 i c0) (.slice Ad6 nd cd6) (.slice Ao6 no co6) (.slice Ai6 ni ci6) (.slice Ac6 nc cc6)) (by simp [results, Tryz.results17, go_sem, t0, t1, t2, t3, t4, t5, t6, t7, t8, t9, t10]) rfl
        ⟨M, _, _, _, _, _, rfl, by rw [HE.out, ← HN.out, List.take_length], ?_⟩
      have h := J2.out
      rw [show M ++ L.drop i = M by rw [← HN.out, List.drop_length, List.append_nil]] at h
      rw [HM.out]
      exact h.sub (.cons_cons _ (.cons_cons _ (.cons_cons _ (.cons_cons _ (.cons _ (.cons _ (List.Sublist.refl _)))))))

end Go.Proofs.YthedglfocjljjaaGreatDoor
