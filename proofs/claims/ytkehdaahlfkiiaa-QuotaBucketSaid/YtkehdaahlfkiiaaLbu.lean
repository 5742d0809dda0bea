/-
  QuotaBucket, over the contracts of the package's functions.
-/
import Derived.Test.YtkehdaahlfkiiaaTls
namespace Go.Proofs.Ytkehdaahlfkiiaa
open Go.RowKit

theorem take_md (b : Bk) (t n : Int) : (takeB b t n).1.md = b.md := by
  unfold takeB
  split
  · rfl
  · split <;> exact (advB_same b t).1
theorem lvl_md (b : Bk) (t : Int) : (lvlB b t).1.md = b.md := by
  unfold lvlB
  split
  · rfl
  · exact (advB_same b t).1
theorem bk_sk {w W : World} {l1 l2 : List Ob} {k8 bb o : Nat} {b : Bk} {x : Tr} (h : HO w W (l1 ++ boxO k8 (bC b) :: l2)) (ht : TrAt W bb o x) :
    (W.cell? ⟨k8, 0, none⟩ = some (.bool b.md) ∧ W.cell? ⟨k8, 1, none⟩ = some (.bool b.st) ∧ W.cell? ⟨k8, 2, none⟩ = some (.int .i64 b.rt) ∧ W.cell? ⟨k8, 3, none⟩ = some (.int .i64 b.bu) ∧ W.cell? ⟨k8, 4, none⟩ = some (.int .i64 b.fi) ∧ W.cell? ⟨k8, 5, none⟩ = some (.int .i64 b.la)) ∧ (W.cell? ⟨bb, o, none⟩ = some (.int .i64 x.a) ∧ W.cell? ⟨bb, o + 1, none⟩ = some (.int .i64 x.b)) := by
  obtain ⟨a0, a1, a2, a3, a4, a5, -, -⟩ := h.c6
  exact ⟨⟨a0, a1, a2, a3, a4, a5⟩, ht.1, ht.2.1⟩
section
variable {T : World → Prop} {R : World → World → Value → Qs → (Nat → Prop) → Prop} {RB : World → World → Value → Bk → (Nat → Prop) → Prop}
set_option maxRecDepth 100000 in
set_option maxHeartbeats 16000000 in
theorem bucket_walk (K : PQ T R) (KB : PB T RB) {w : World} (hT : T w) {r b : Int} (hr0 : I64 r) (hb0 : I64 b) {v : Value} {l : List Tr} (hl : Trs w v l) : Calls Try.prog 6 #[.int .i64 r, .int .i64 b, v] w (SaysB true w) := by
  have HT := Lib.hid hT
  have EX := fun (W : World) (hb : Below w.heap.size w W) => Lib.hid (ex_any K KB (K.below HT.out hb))
  have J := Lib.hid (HO.nil w)
  have HA := Lib.hid hl
  obtain ⟨A, cap, rfl, hcap, hm⟩ := hl.shape
  simp only [maxLen] at hm
  obtain ⟨n, hn⟩ : ∃ n, l.length = n := ⟨_, rfl⟩
  have HN := Lib.hid hn
  rw [hn] at hcap HA ⊢
  clear hT hl hn
  by_cases h1 : 300 < n
  · have q1 : (300 : Int) < n := by omega
    go_enter Try.func6, Try.ntmps6
    go_wp2_with fail
    refine (EX _ J.out.below).out.mono ?_
    rintro e wq2 ⟨rfl, hb⟩
    replace J := Lib.hid (J.out.step hb)
    clear hb
    go_wp2_with fail
    go_ret
    exact ⟨rfl, J.out.below⟩
  have q1 : ¬ (300 : Int) < n := by omega
  obtain ⟨b0, hb9⟩ : ∃ q, newB r b = q := ⟨_, rfl⟩
  have HB0 := Lib.hid (by have := newB_ok r b; rw [hb9] at this; exact this)
  have NB := fun (W : World) => Lib.hid (by have := rnewb_any r b W; rw [hb9] at this; exact this)
  cases hmd : b0.md with
  | true =>
    go_enter Try.func6, Try.ntmps6
    go_wp2_with fail
    refine (KB.new (K.below HT.out J.out.below) J.out.below r b hr0 hb0).mono ?_
    rintro e w1 ⟨rv, Sq, rfl, hr, hs, hb⟩
    rw [hb9] at hr
    obtain ⟨pa, rfl⟩ := KB.made hr hmd
    replace J := Lib.hid (J.out.newB KB hr hs hb)
    clear hr hs hb hb9
    go_wp2_with fail
    refine (NB _).out.mono ?_
    rintro e w2 ⟨rfl, hb⟩
    replace J := Lib.hid ((J.out.step hb).alloc (bC b0) 45)
    obtain ⟨z0, -, -, -, -, -, -, -⟩ := (show HO w _ ([] ++ boxO w2.heap.size _ :: _) from J.out).c6
    obtain ⟨md, st, rt, bu, fi, la⟩ := b0
    dsimp only at hmd
    subst hmd
    clear hb NB
    go_wp2_with fail
    generalize w2.heap.size = k8 at *
    go_loopw [9] (fun s9 wr => ∃ (i : Nat) (b : Bk) (Sq : Nat → Prop), i ≤ n ∧ s9 = .int .i64 (i : Int) ∧ Hid (BOk b) ∧ Hid (b.md = true) ∧ Hid (HO w wr [boxO k8 (bC b), objO RB w (.pointer (some pa)) b Sq])) (fun s9 _ => leftN n s9)
    case atStart => exact ⟨0, _, _, Nat.zero_le _, rfl, HB0, Lib.hid rfl, J⟩
    case round =>
      clear J HB0
      obtain ⟨i, b, Sq, hi, rfl, HB, HMD, J⟩ := hrel
      obtain ⟨md, st, rt, bu, fi, la⟩ := b
      by_cases hlt : i < n
      · have q0 : (0 : Int) ≤ i := by omega
        have q2 : (i : Int) < n := by omega
        obtain ⟨x, hx⟩ : ∃ x, l[i]? = some x := ⟨_, List.getElem?_eq_getElem (by rw [HN.out]; exact hlt)⟩
        obtain ⟨ia, ib, bb, off, rfl, TR⟩ := trs_at HA.out hx
        obtain ⟨t, m, c⟩ := x
        dsimp only at ia ib HMD
        obtain ⟨c0, c1, c2⟩ := TR _ J.out.below
        clear hx
        cases c with
        | true =>
          obtain ⟨⟨x, z⟩, hk⟩ : ∃ q, lvlB ⟨md, st, rt, bu, fi, la⟩ t = q := ⟨_, rfl⟩
          have D := Lib.hid (fun (W : World) => by have := rlvl_any HB.out ia W; rw [hk] at this; exact this)
          have HB2 := Lib.hid (by have := lvlB_ok HB.out ia; rw [hk] at this; exact this)
          have HM2 := Lib.hid (by have := lvl_md ⟨md, st, rt, bu, fi, la⟩ t; rw [hk] at this; exact this)
          have HK := Lib.hid hk
          obtain ⟨xmd, xst, xrt, xbu, xfi, xla⟩ := x
          dsimp only at D HB2 HM2
          have ez : (z != z) = false := by simp
          clear hk
          go_upto_region 10 with fail
          go_cut [10, 11] from 40 to 49 (fun s10 s11 wx => ∃ kz, s10 = .pointer (some ⟨kz, 0, none⟩) ∧ s11 = .int .i64 z ∧ Hid (HO w wx [boxO kz (bC ⟨xmd, xst, xrt, xbu, xfi, xla⟩), boxO k8 (bC ⟨md, st, rt, bu, fi, la⟩), objO RB w (.pointer (some pa)) ⟨md, st, rt, bu, fi, la⟩ Sq]))
          case first =>
            replace J := Lib.hid J.out.drew
            have sk := bk_sk (show HO w _ ([] ++ boxO k8 (bC ⟨md, st, rt, bu, fi, la⟩) :: _) from J.out) (TR _ J.out.below)
            clear c0 c1 c2
            refine wp_region_held_drew (S := (fun W => (W.cell? ⟨k8, 0, none⟩ = some (.bool md) ∧ W.cell? ⟨k8, 1, none⟩ = some (.bool st) ∧ W.cell? ⟨k8, 2, none⟩ = some (.int .i64 rt) ∧ W.cell? ⟨k8, 3, none⟩ = some (.int .i64 bu) ∧ W.cell? ⟨k8, 4, none⟩ = some (.int .i64 fi) ∧ W.cell? ⟨k8, 5, none⟩ = some (.int .i64 la)) ∧ (W.cell? ⟨bb, off + i * 3, none⟩ = some (.int .i64 t) ∧ W.cell? ⟨bb, off + i * 3 + 1, none⟩ = some (.int .i64 m)))) (by kernel_rfl) sk (fun hHeld => ?_)
            generalize wr.drew = u0 at *
            refine wpAnyH_take (i := 0) (oi := ({ dst := some 41, op := Go.Op.load 45 (Go.Operand.tmp 8), type := 45, pos := "law.go:136", after := #[], guard := none } : Oper)) (v := ?_) rfl (by kernel_rfl) (by kernel_rfl) (by kernel_rfl) (fun _ _ _ h => h) (Or.inl ⟨by kernel_rfl, ?_⟩) hHeld ?_
            rotate_left 1
            · (intro W hSw; (try dsimp only at hSw); go_simp; try with_reducible rfl)
            try simp only [Act.put, List.setIfInBounds_toArray, List.set_cons_zero, List.set_cons_succ]
            refine wpAnyH_take (i := 1) (oi := ({ dst := some 42, op := Go.Op.move (Go.Operand.tmp 2), type := 41, pos := "law.go:136", after := #[], guard := none } : Oper)) (v := ?_) rfl (by kernel_rfl) (by kernel_rfl) (by kernel_rfl) (fun _ _ _ h => h) (Or.inl ⟨by kernel_rfl, ?_⟩) hHeld ?_
            rotate_left 1
            · (intro W hSw; (try dsimp only at hSw); go_simp; try with_reducible rfl)
            try simp only [Act.put, List.setIfInBounds_toArray, List.set_cons_zero, List.set_cons_succ]
            refine wpAnyH_take (i := 2) (oi := ({ dst := some 43, op := Go.Op.move (Go.Operand.tmp 9), type := 3, pos := "law.go:136", after := #[], guard := none } : Oper)) (v := ?_) rfl (by kernel_rfl) (by kernel_rfl) (by kernel_rfl) (fun _ _ _ h => h) (Or.inl ⟨by kernel_rfl, ?_⟩) hHeld ?_
            rotate_left 1
            · (intro W hSw; (try dsimp only at hSw); go_simp; try with_reducible rfl)
            try simp only [Act.put, List.setIfInBounds_toArray, List.set_cons_zero, List.set_cons_succ]
            refine wpAnyH_take (i := 3) (oi := ({ dst := some 44, op := Go.Op.indexAddr 41 (Go.Operand.tmp 42) (Go.Operand.tmp 43), type := 0, pos := "law.go:136", after := #[{ on := 1, ground := Go.Ground.data }, { on := 2, ground := Go.Ground.data }], guard := none } : Oper)) (v := ?_) rfl (by kernel_rfl) (by kernel_rfl) (by kernel_rfl) (fun _ _ _ h => h) (Or.inl ⟨by kernel_rfl, ?_⟩) hHeld ?_
            rotate_left 1
            · (intro W hSw; (try dsimp only at hSw); go_simp; try with_reducible rfl)
            try simp only [Act.put, List.setIfInBounds_toArray, List.set_cons_zero, List.set_cons_succ]
            refine wpAnyH_take (i := 4) (oi := ({ dst := some 45, op := Go.Op.fieldAddr 48 (Go.Operand.tmp 44) 0, type := 0, pos := "law.go:136", after := #[{ on := 3, ground := Go.Ground.data }], guard := none } : Oper)) (v := ?_) rfl (by kernel_rfl) (by kernel_rfl) (by kernel_rfl) (fun _ _ _ h => h) (Or.inl ⟨by kernel_rfl, ?_⟩) hHeld ?_
            rotate_left 1
            · (intro W hSw; (try dsimp only at hSw); go_simp; try with_reducible rfl)
            try simp only [Act.put, List.setIfInBounds_toArray, List.set_cons_zero, List.set_cons_succ]
            refine wpAnyH_take (i := 5) (oi := ({ dst := some 46, op := Go.Op.load 3 (Go.Operand.tmp 45), type := 3, pos := "law.go:136", after := #[{ on := 4, ground := Go.Ground.data }], guard := none } : Oper)) (v := ?_) rfl (by kernel_rfl) (by kernel_rfl) (by kernel_rfl) (fun _ _ _ h => h) (Or.inl ⟨by kernel_rfl, ?_⟩) hHeld ?_
            rotate_left 1
            · (intro W hSw; (try dsimp only at hSw); go_simp; try with_reducible rfl)
            try simp only [Act.put, List.setIfInBounds_toArray, List.set_cons_zero, List.set_cons_succ]
            refine wpAnyH_ready (rs := [6, 10]) (by kernel_rfl) (by simp) (AllReadyH.cons (o := ({ dst := some 47, op := Go.Op.call { callee := Go.Callee.value (Go.Operand.func 23), args := #[Go.Operand.tmp 41, Go.Operand.tmp 46], argTypes := #[45, 3] }, type := 49, pos := "law.go:136", after := #[{ on := 0, ground := Go.Ground.data }, { on := 5, ground := Go.Ground.data }], guard := none } : Oper)) rfl (fun K hK => ?_) (AllReadyH.cons (o := ({ dst := some 10, op := Go.Op.alloc 45, type := 0, pos := "law.go:136", after := #[], guard := none } : Oper)) rfl (fun K hK => ?_) AllReadyH.nil))
            · go_simp
              refine (D.out _).mono ?_
              rintro e u1 ⟨rfl, hb⟩
              replace J := Lib.hid (J.out.step hb)
              clear hb sk
              have sk := bk_sk (show HO w _ ([] ++ boxO k8 (bC ⟨md, st, rt, bu, fi, la⟩) :: _) from J.out) (TR _ J.out.below)
              refine hK.out _ _ sk (fun hHeld2 => ?_)
              clear hK K hHeld
              have hHeld := hHeld2
              clear hHeld2
              try simp only [Act.put, List.setIfInBounds_toArray, List.set_cons_zero, List.set_cons_succ]
              refine wpAnyH_take (i := 7) (oi := ({ dst := some 40, op := Go.Op.move (Go.Operand.tmp 47), type := 49, pos := "law.go:136", after := #[{ on := 6, ground := Go.Ground.data }], guard := none } : Oper)) (v := ?_) rfl (by kernel_rfl) (by kernel_rfl) (by kernel_rfl) (fun _ _ _ h => h) (Or.inl ⟨by kernel_rfl, ?_⟩) hHeld ?_
              rotate_left 1
              · (intro W hSw; (try dsimp only at hSw); go_simp; try with_reducible rfl)
              try simp only [Act.put, List.setIfInBounds_toArray, List.set_cons_zero, List.set_cons_succ]
              refine wpAnyH_take (i := 8) (oi := ({ dst := some 48, op := Go.Op.extract (Go.Operand.tmp 40) 0, type := 45, pos := "law.go:136", after := #[{ on := 7, ground := Go.Ground.data }], guard := none } : Oper)) (v := ?_) rfl (by kernel_rfl) (by kernel_rfl) (by kernel_rfl) (fun _ _ _ h => h) (Or.inl ⟨by kernel_rfl, ?_⟩) hHeld ?_
              rotate_left 1
              · (intro W hSw; (try dsimp only at hSw); go_simp; try with_reducible rfl)
              try simp only [Act.put, List.setIfInBounds_toArray, List.set_cons_zero, List.set_cons_succ]
              refine wpAnyH_take (i := 9) (oi := ({ dst := some 49, op := Go.Op.extract (Go.Operand.tmp 40) 1, type := 3, pos := "law.go:136", after := #[{ on := 7, ground := Go.Ground.data }, { on := 11, ground := Go.Ground.gcOnly Go.Departure.lateStores }], guard := none } : Oper)) (v := ?_) rfl (by kernel_rfl) (by kernel_rfl) (by kernel_rfl) (fun _ _ _ h => h) (Or.inl ⟨by kernel_rfl, ?_⟩) hHeld ?_
              rotate_left 1
              · (intro W hSw; (try dsimp only at hSw); go_simp; try with_reducible rfl)
              try simp only [Act.put, List.setIfInBounds_toArray, List.set_cons_zero, List.set_cons_succ]
              refine wpAnyH_ready (rs := [10]) (by kernel_rfl) (by simp) (AllReadyH.cons (o := ({ dst := some 10, op := Go.Op.alloc 45, type := 0, pos := "law.go:136", after := #[], guard := none } : Oper)) rfl (fun K hK => ?_) AllReadyH.nil)
              go_simp
              replace J := Lib.hid (J.out.alloc [.bool false, .bool false, .int .i64 0, .int .i64 0, .int .i64 0, .int .i64 0] 45)
              generalize u1.alloc (.cells #[.bool false, .bool false, .int .i64 0, .int .i64 0, .int .i64 0, .int .i64 0] 45) = u2 at *
              generalize u1.heap.size = kz at *
              clear sk
              have sk := bk_sk (show HO w _ ([_] ++ boxO k8 (bC ⟨md, st, rt, bu, fi, la⟩) :: _) from J.out) (TR _ J.out.below)
              refine hK.out _ _ sk (fun hHeld2 => ?_)
              clear hK K hHeld
              have hHeld := hHeld2
              clear hHeld2
              try simp only [Act.put, List.setIfInBounds_toArray, List.set_cons_zero, List.set_cons_succ]
              refine wpAnyH_ready (rs := [11]) (by kernel_rfl) (by simp) (AllReadyH.cons (o := ({ dst := none, op := Go.Op.store 45 (Go.Operand.tmp 10) (Go.Operand.tmp 48), type := 0, pos := "law.go:136", after := #[{ on := 10, ground := Go.Ground.data }, { on := 8, ground := Go.Ground.data }, { on := 6, ground := Go.Ground.chain }, { on := 0, ground := Go.Ground.phase }, { on := 1, ground := Go.Ground.phase }, { on := 2, ground := Go.Ground.phase }, { on := 3, ground := Go.Ground.phase }, { on := 4, ground := Go.Ground.phase }, { on := 5, ground := Go.Ground.phase }, { on := 6, ground := Go.Ground.phase }, { on := 7, ground := Go.Ground.phase }, { on := 8, ground := Go.Ground.phase }, { on := 9, ground := Go.Ground.textOnly Go.Departure.lateStores }, { on := 10, ground := Go.Ground.phase }], guard := none } : Oper)) rfl (fun K hK => ?_) AllReadyH.nil)
              obtain ⟨z0, z1, z2, z3, z4, z5, zf, zl⟩ := (show HO w u2 ([] ++ boxO kz _ :: _) from J.out).c6
              go_simp
              replace J := Lib.hid ((show HO w u2 ([] ++ boxO kz [.bool false, .bool false, .int .i64 0, .int .i64 0, .int .i64 0, .int .i64 0] :: _) from J.out).set6 (.bool xmd) (.bool xst) (.int .i64 xrt) (.int .i64 xbu) (.int .i64 xfi) (.int .i64 xla))
              clear z0 z1 z2 z3 z4 z5 zf zl sk
              have sk := bk_sk (show HO w _ ([_] ++ boxO k8 (bC ⟨md, st, rt, bu, fi, la⟩) :: _) from J.out) (TR _ J.out.below)
              refine hK.out _ _ sk (fun hHeld2 => ?_)
              clear hK K hHeld
              have hHeld := hHeld2
              clear hHeld2
              try simp only [Act.put, List.setIfInBounds_toArray, List.set_cons_zero, List.set_cons_succ]
              refine wpAnyH_take (i := 12) (oi := ({ dst := some 11, op := Go.Op.assign (Go.Operand.tmp 49), type := 3, pos := "law.go:136", after := #[{ on := 9, ground := Go.Ground.data }, { on := 11, ground := Go.Ground.chain }, { on := 0, ground := Go.Ground.phase }, { on := 1, ground := Go.Ground.phase }, { on := 2, ground := Go.Ground.phase }, { on := 3, ground := Go.Ground.phase }, { on := 4, ground := Go.Ground.phase }, { on := 5, ground := Go.Ground.phase }, { on := 6, ground := Go.Ground.phase }, { on := 7, ground := Go.Ground.phase }, { on := 8, ground := Go.Ground.phase }, { on := 9, ground := Go.Ground.phase }, { on := 10, ground := Go.Ground.phase }, { on := 11, ground := Go.Ground.phase }], guard := none } : Oper)) (v := ?_) rfl (by kernel_rfl) (by kernel_rfl) (by kernel_rfl) (fun _ _ _ h => h) (Or.inl ⟨by kernel_rfl, ?_⟩) hHeld ?_
              rotate_left 1
              · (intro W hSw; (try dsimp only at hSw); go_simp; try with_reducible rfl)
              try simp only [Act.put, List.setIfInBounds_toArray, List.set_cons_zero, List.set_cons_succ]
              refine wpAnyH_done (by kernel_rfl) ?_ _
              go_wp2_with fail
              go_meet
              case rel => exact ⟨kz, rfl, rfl, J⟩
            · go_simp
              replace J := Lib.hid (J.out.alloc [.bool false, .bool false, .int .i64 0, .int .i64 0, .int .i64 0, .int .i64 0] 45)
              generalize u0.alloc (.cells #[.bool false, .bool false, .int .i64 0, .int .i64 0, .int .i64 0, .int .i64 0] 45) = u1 at *
              generalize u0.heap.size = kz at *
              clear sk
              have sk := bk_sk (show HO w _ ([_] ++ boxO k8 (bC ⟨md, st, rt, bu, fi, la⟩) :: _) from J.out) (TR _ J.out.below)
              refine hK.out _ _ sk (fun hHeld2 => ?_)
              clear hK K hHeld
              have hHeld := hHeld2
              clear hHeld2
              try simp only [Act.put, List.setIfInBounds_toArray, List.set_cons_zero, List.set_cons_succ]
              refine wpAnyH_ready (rs := [6]) (by kernel_rfl) (by simp) (AllReadyH.cons (o := ({ dst := some 47, op := Go.Op.call { callee := Go.Callee.value (Go.Operand.func 23), args := #[Go.Operand.tmp 41, Go.Operand.tmp 46], argTypes := #[45, 3] }, type := 49, pos := "law.go:136", after := #[{ on := 0, ground := Go.Ground.data }, { on := 5, ground := Go.Ground.data }], guard := none } : Oper)) rfl (fun K hK => ?_) AllReadyH.nil)
              go_simp
              refine (D.out _).mono ?_
              rintro e u2 ⟨rfl, hb⟩
              replace J := Lib.hid (J.out.step hb)
              clear hb sk
              have sk := bk_sk (show HO w _ ([_] ++ boxO k8 (bC ⟨md, st, rt, bu, fi, la⟩) :: _) from J.out) (TR _ J.out.below)
              refine hK.out _ _ sk (fun hHeld2 => ?_)
              clear hK K hHeld
              have hHeld := hHeld2
              clear hHeld2
              try simp only [Act.put, List.setIfInBounds_toArray, List.set_cons_zero, List.set_cons_succ]
              refine wpAnyH_take (i := 7) (oi := ({ dst := some 40, op := Go.Op.move (Go.Operand.tmp 47), type := 49, pos := "law.go:136", after := #[{ on := 6, ground := Go.Ground.data }], guard := none } : Oper)) (v := ?_) rfl (by kernel_rfl) (by kernel_rfl) (by kernel_rfl) (fun _ _ _ h => h) (Or.inl ⟨by kernel_rfl, ?_⟩) hHeld ?_
              rotate_left 1
              · (intro W hSw; (try dsimp only at hSw); go_simp; try with_reducible rfl)
              try simp only [Act.put, List.setIfInBounds_toArray, List.set_cons_zero, List.set_cons_succ]
              refine wpAnyH_take (i := 8) (oi := ({ dst := some 48, op := Go.Op.extract (Go.Operand.tmp 40) 0, type := 45, pos := "law.go:136", after := #[{ on := 7, ground := Go.Ground.data }], guard := none } : Oper)) (v := ?_) rfl (by kernel_rfl) (by kernel_rfl) (by kernel_rfl) (fun _ _ _ h => h) (Or.inl ⟨by kernel_rfl, ?_⟩) hHeld ?_
              rotate_left 1
              · (intro W hSw; (try dsimp only at hSw); go_simp; try with_reducible rfl)
              try simp only [Act.put, List.setIfInBounds_toArray, List.set_cons_zero, List.set_cons_succ]
              refine wpAnyH_take (i := 9) (oi := ({ dst := some 49, op := Go.Op.extract (Go.Operand.tmp 40) 1, type := 3, pos := "law.go:136", after := #[{ on := 7, ground := Go.Ground.data }, { on := 11, ground := Go.Ground.gcOnly Go.Departure.lateStores }], guard := none } : Oper)) (v := ?_) rfl (by kernel_rfl) (by kernel_rfl) (by kernel_rfl) (fun _ _ _ h => h) (Or.inl ⟨by kernel_rfl, ?_⟩) hHeld ?_
              rotate_left 1
              · (intro W hSw; (try dsimp only at hSw); go_simp; try with_reducible rfl)
              try simp only [Act.put, List.setIfInBounds_toArray, List.set_cons_zero, List.set_cons_succ]
              refine wpAnyH_ready (rs := [11]) (by kernel_rfl) (by simp) (AllReadyH.cons (o := ({ dst := none, op := Go.Op.store 45 (Go.Operand.tmp 10) (Go.Operand.tmp 48), type := 0, pos := "law.go:136", after := #[{ on := 10, ground := Go.Ground.data }, { on := 8, ground := Go.Ground.data }, { on := 6, ground := Go.Ground.chain }, { on := 0, ground := Go.Ground.phase }, { on := 1, ground := Go.Ground.phase }, { on := 2, ground := Go.Ground.phase }, { on := 3, ground := Go.Ground.phase }, { on := 4, ground := Go.Ground.phase }, { on := 5, ground := Go.Ground.phase }, { on := 6, ground := Go.Ground.phase }, { on := 7, ground := Go.Ground.phase }, { on := 8, ground := Go.Ground.phase }, { on := 9, ground := Go.Ground.textOnly Go.Departure.lateStores }, { on := 10, ground := Go.Ground.phase }], guard := none } : Oper)) rfl (fun K hK => ?_) AllReadyH.nil)
              obtain ⟨z0, z1, z2, z3, z4, z5, zf, zl⟩ := (show HO w u2 ([] ++ boxO kz _ :: _) from J.out).c6
              go_simp
              replace J := Lib.hid ((show HO w u2 ([] ++ boxO kz [.bool false, .bool false, .int .i64 0, .int .i64 0, .int .i64 0, .int .i64 0] :: _) from J.out).set6 (.bool xmd) (.bool xst) (.int .i64 xrt) (.int .i64 xbu) (.int .i64 xfi) (.int .i64 xla))
              clear z0 z1 z2 z3 z4 z5 zf zl sk
              have sk := bk_sk (show HO w _ ([_] ++ boxO k8 (bC ⟨md, st, rt, bu, fi, la⟩) :: _) from J.out) (TR _ J.out.below)
              refine hK.out _ _ sk (fun hHeld2 => ?_)
              clear hK K hHeld
              have hHeld := hHeld2
              clear hHeld2
              try simp only [Act.put, List.setIfInBounds_toArray, List.set_cons_zero, List.set_cons_succ]
              refine wpAnyH_take (i := 12) (oi := ({ dst := some 11, op := Go.Op.assign (Go.Operand.tmp 49), type := 3, pos := "law.go:136", after := #[{ on := 9, ground := Go.Ground.data }, { on := 11, ground := Go.Ground.chain }, { on := 0, ground := Go.Ground.phase }, { on := 1, ground := Go.Ground.phase }, { on := 2, ground := Go.Ground.phase }, { on := 3, ground := Go.Ground.phase }, { on := 4, ground := Go.Ground.phase }, { on := 5, ground := Go.Ground.phase }, { on := 6, ground := Go.Ground.phase }, { on := 7, ground := Go.Ground.phase }, { on := 8, ground := Go.Ground.phase }, { on := 9, ground := Go.Ground.phase }, { on := 10, ground := Go.Ground.phase }, { on := 11, ground := Go.Ground.phase }], guard := none } : Oper)) (v := ?_) rfl (by kernel_rfl) (by kernel_rfl) (by kernel_rfl) (fun _ _ _ h => h) (Or.inl ⟨by kernel_rfl, ?_⟩) hHeld ?_
              rotate_left 1
              · (intro W hSw; (try dsimp only at hSw); go_simp; try with_reducible rfl)
              try simp only [Act.put, List.setIfInBounds_toArray, List.set_cons_zero, List.set_cons_succ]
              refine wpAnyH_done (by kernel_rfl) ?_ _
              go_wp2_with fail
              go_meet
              case rel => exact ⟨kz, rfl, rfl, J⟩
          case rest =>
            obtain ⟨kz, rfl, rfl, J1⟩ := hcut
            clear J c0 c1 c2
            obtain ⟨z0, z1, z2, z3, z4, z5, zf, zl⟩ := (show HO w wc ([] ++ boxO kz _ :: _) from J1.out).c6
            obtain ⟨y0, y1, y2, y3, y4, y5, yf, yl⟩ := (show HO w wc ([_] ++ boxO k8 _ :: _) from J1.out).c6
            have J := Lib.hid (((show HO w wc ([_] ++ boxO k8 [_, _, _, _, _, _] :: _) from J1.out).set6 (.bool xmd) (.bool xst) (.int .i64 xrt) (.int .i64 xbu) (.int .i64 xfi) (.int .i64 xla)).tail)
            clear J1
            go_upto_region 12 with fail
            generalize (((((wc.setCell ⟨k8, 0, none⟩ (.bool xmd)).setCell ⟨k8, 1, none⟩ (.bool xst)).setCell ⟨k8, 2, none⟩ (.int .i64 xrt)).setCell ⟨k8, 3, none⟩ (.int .i64 xbu)).setCell ⟨k8, 4, none⟩ (.int .i64 xfi)).setCell ⟨k8, 5, none⟩ (.int .i64 xla) = w2 at *
            clear z0 z1 z2 z3 z4 z5 zf zl y0 y1 y2 y3 y4 y5 yf yl
            obtain ⟨c0, c1, c2⟩ := TR _ J.out.below
            have R1 : RB w _ (.pointer (some pa)) ⟨md, st, rt, bu, fi, la⟩ _ := (show HO w _ ([_] ++ objO RB w (.pointer (some pa)) ⟨md, st, rt, bu, fi, la⟩ _ :: _) from J.out).at
            go_wp2_with fail
            refine (KB.lvl (K.below HT.out J.out.below) R1 HB.out t ia).mono ?_
            rintro e wq ⟨Sq2, he, hr, hs, ht⟩; rw [HK.out] at he hr; obtain rfl := he; have J3 := Lib.hid ((show HO w _ ([_] ++ objO RB w (.pointer (some pa)) ⟨md, st, rt, bu, fi, la⟩ _ :: _) from J.out).turnB KB hr hs ht)
            clear hr hs ht R1 J
            go_wp2_with fail
            go_roundw
            case rel => exact ⟨i + 1, ⟨xmd, xst, xrt, xbu, xfi, xla⟩, _, by omega, by go_num, HB2, Lib.hid (HM2.out.trans HMD.out), J3⟩
            case measure =>
              unfold leftN
              simp [intOf]
              omega
        | false =>
          obtain ⟨⟨x, z⟩, hk⟩ : ∃ q, takeB ⟨md, st, rt, bu, fi, la⟩ t m = q := ⟨_, rfl⟩
          have D := Lib.hid (fun (W : World) => by have := rtake_any HB.out ia ib W; rw [hk] at this; exact this)
          have HB2 := Lib.hid (by have := takeB_ok HB.out ia m; rw [hk] at this; exact this)
          have HM2 := Lib.hid (by have := take_md ⟨md, st, rt, bu, fi, la⟩ t m; rw [hk] at this; exact this)
          have HK := Lib.hid hk
          obtain ⟨xmd, xst, xrt, xbu, xfi, xla⟩ := x
          dsimp only at D HB2 HM2
          have ez : (z != z) = false := by cases z <;> rfl
          clear hk
          go_upto_region 14 with fail
          go_cut [12, 13] from 60 to 74 (fun s12 s13 wx => ∃ kz, s12 = .pointer (some ⟨kz, 0, none⟩) ∧ s13 = .bool z ∧ Hid (HO w wx [boxO kz (bC ⟨xmd, xst, xrt, xbu, xfi, xla⟩), boxO k8 (bC ⟨md, st, rt, bu, fi, la⟩), objO RB w (.pointer (some pa)) ⟨md, st, rt, bu, fi, la⟩ Sq]))
          case first =>
            replace J := Lib.hid J.out.drew
            have sk := bk_sk (show HO w _ ([] ++ boxO k8 (bC ⟨md, st, rt, bu, fi, la⟩) :: _) from J.out) (TR _ J.out.below)
            clear c0 c1 c2
            refine wp_region_held_drew (S := (fun W => (W.cell? ⟨k8, 0, none⟩ = some (.bool md) ∧ W.cell? ⟨k8, 1, none⟩ = some (.bool st) ∧ W.cell? ⟨k8, 2, none⟩ = some (.int .i64 rt) ∧ W.cell? ⟨k8, 3, none⟩ = some (.int .i64 bu) ∧ W.cell? ⟨k8, 4, none⟩ = some (.int .i64 fi) ∧ W.cell? ⟨k8, 5, none⟩ = some (.int .i64 la)) ∧ (W.cell? ⟨bb, off + i * 3, none⟩ = some (.int .i64 t) ∧ W.cell? ⟨bb, off + i * 3 + 1, none⟩ = some (.int .i64 m)))) (by kernel_rfl) sk (fun hHeld => ?_)
            generalize wr.drew = u0 at *
            refine wpAnyH_take (i := 0) (oi := ({ dst := some 61, op := Go.Op.load 45 (Go.Operand.tmp 8), type := 45, pos := "law.go:142", after := #[], guard := none } : Oper)) (v := ?_) rfl (by kernel_rfl) (by kernel_rfl) (by kernel_rfl) (fun _ _ _ h => h) (Or.inl ⟨by kernel_rfl, ?_⟩) hHeld ?_
            rotate_left 1
            · (intro W hSw; (try dsimp only at hSw); go_simp; try with_reducible rfl)
            try simp only [Act.put, List.setIfInBounds_toArray, List.set_cons_zero, List.set_cons_succ]
            refine wpAnyH_take (i := 1) (oi := ({ dst := some 62, op := Go.Op.move (Go.Operand.tmp 2), type := 41, pos := "law.go:142", after := #[], guard := none } : Oper)) (v := ?_) rfl (by kernel_rfl) (by kernel_rfl) (by kernel_rfl) (fun _ _ _ h => h) (Or.inl ⟨by kernel_rfl, ?_⟩) hHeld ?_
            rotate_left 1
            · (intro W hSw; (try dsimp only at hSw); go_simp; try with_reducible rfl)
            try simp only [Act.put, List.setIfInBounds_toArray, List.set_cons_zero, List.set_cons_succ]
            refine wpAnyH_take (i := 2) (oi := ({ dst := some 63, op := Go.Op.move (Go.Operand.tmp 9), type := 3, pos := "law.go:142", after := #[], guard := none } : Oper)) (v := ?_) rfl (by kernel_rfl) (by kernel_rfl) (by kernel_rfl) (fun _ _ _ h => h) (Or.inl ⟨by kernel_rfl, ?_⟩) hHeld ?_
            rotate_left 1
            · (intro W hSw; (try dsimp only at hSw); go_simp; try with_reducible rfl)
            try simp only [Act.put, List.setIfInBounds_toArray, List.set_cons_zero, List.set_cons_succ]
            refine wpAnyH_take (i := 3) (oi := ({ dst := some 64, op := Go.Op.indexAddr 41 (Go.Operand.tmp 62) (Go.Operand.tmp 63), type := 0, pos := "law.go:142", after := #[{ on := 1, ground := Go.Ground.data }, { on := 2, ground := Go.Ground.data }], guard := none } : Oper)) (v := ?_) rfl (by kernel_rfl) (by kernel_rfl) (by kernel_rfl) (fun _ _ _ h => h) (Or.inl ⟨by kernel_rfl, ?_⟩) hHeld ?_
            rotate_left 1
            · (intro W hSw; (try dsimp only at hSw); go_simp; try with_reducible rfl)
            try simp only [Act.put, List.setIfInBounds_toArray, List.set_cons_zero, List.set_cons_succ]
            refine wpAnyH_take (i := 4) (oi := ({ dst := some 65, op := Go.Op.fieldAddr 48 (Go.Operand.tmp 64) 0, type := 0, pos := "law.go:142", after := #[{ on := 3, ground := Go.Ground.data }], guard := none } : Oper)) (v := ?_) rfl (by kernel_rfl) (by kernel_rfl) (by kernel_rfl) (fun _ _ _ h => h) (Or.inl ⟨by kernel_rfl, ?_⟩) hHeld ?_
            rotate_left 1
            · (intro W hSw; (try dsimp only at hSw); go_simp; try with_reducible rfl)
            try simp only [Act.put, List.setIfInBounds_toArray, List.set_cons_zero, List.set_cons_succ]
            refine wpAnyH_take (i := 5) (oi := ({ dst := some 66, op := Go.Op.load 3 (Go.Operand.tmp 65), type := 3, pos := "law.go:142", after := #[{ on := 4, ground := Go.Ground.data }], guard := none } : Oper)) (v := ?_) rfl (by kernel_rfl) (by kernel_rfl) (by kernel_rfl) (fun _ _ _ h => h) (Or.inl ⟨by kernel_rfl, ?_⟩) hHeld ?_
            rotate_left 1
            · (intro W hSw; (try dsimp only at hSw); go_simp; try with_reducible rfl)
            try simp only [Act.put, List.setIfInBounds_toArray, List.set_cons_zero, List.set_cons_succ]
            refine wpAnyH_take (i := 6) (oi := ({ dst := some 67, op := Go.Op.move (Go.Operand.tmp 2), type := 41, pos := "law.go:142", after := #[], guard := none } : Oper)) (v := ?_) rfl (by kernel_rfl) (by kernel_rfl) (by kernel_rfl) (fun _ _ _ h => h) (Or.inl ⟨by kernel_rfl, ?_⟩) hHeld ?_
            rotate_left 1
            · (intro W hSw; (try dsimp only at hSw); go_simp; try with_reducible rfl)
            try simp only [Act.put, List.setIfInBounds_toArray, List.set_cons_zero, List.set_cons_succ]
            refine wpAnyH_take (i := 7) (oi := ({ dst := some 68, op := Go.Op.move (Go.Operand.tmp 9), type := 3, pos := "law.go:142", after := #[], guard := none } : Oper)) (v := ?_) rfl (by kernel_rfl) (by kernel_rfl) (by kernel_rfl) (fun _ _ _ h => h) (Or.inl ⟨by kernel_rfl, ?_⟩) hHeld ?_
            rotate_left 1
            · (intro W hSw; (try dsimp only at hSw); go_simp; try with_reducible rfl)
            try simp only [Act.put, List.setIfInBounds_toArray, List.set_cons_zero, List.set_cons_succ]
            refine wpAnyH_take (i := 8) (oi := ({ dst := some 69, op := Go.Op.indexAddr 41 (Go.Operand.tmp 67) (Go.Operand.tmp 68), type := 0, pos := "law.go:142", after := #[{ on := 6, ground := Go.Ground.data }, { on := 7, ground := Go.Ground.data }], guard := none } : Oper)) (v := ?_) rfl (by kernel_rfl) (by kernel_rfl) (by kernel_rfl) (fun _ _ _ h => h) (Or.inl ⟨by kernel_rfl, ?_⟩) hHeld ?_
            rotate_left 1
            · (intro W hSw; (try dsimp only at hSw); go_simp; try with_reducible rfl)
            try simp only [Act.put, List.setIfInBounds_toArray, List.set_cons_zero, List.set_cons_succ]
            refine wpAnyH_take (i := 9) (oi := ({ dst := some 70, op := Go.Op.fieldAddr 48 (Go.Operand.tmp 69) 1, type := 0, pos := "law.go:142", after := #[{ on := 8, ground := Go.Ground.data }], guard := none } : Oper)) (v := ?_) rfl (by kernel_rfl) (by kernel_rfl) (by kernel_rfl) (fun _ _ _ h => h) (Or.inl ⟨by kernel_rfl, ?_⟩) hHeld ?_
            rotate_left 1
            · (intro W hSw; (try dsimp only at hSw); go_simp; try with_reducible rfl)
            try simp only [Act.put, List.setIfInBounds_toArray, List.set_cons_zero, List.set_cons_succ]
            refine wpAnyH_take (i := 10) (oi := ({ dst := some 71, op := Go.Op.load 3 (Go.Operand.tmp 70), type := 3, pos := "law.go:142", after := #[{ on := 9, ground := Go.Ground.data }], guard := none } : Oper)) (v := ?_) rfl (by kernel_rfl) (by kernel_rfl) (by kernel_rfl) (fun _ _ _ h => h) (Or.inl ⟨by kernel_rfl, ?_⟩) hHeld ?_
            rotate_left 1
            · (intro W hSw; (try dsimp only at hSw); go_simp; try with_reducible rfl)
            try simp only [Act.put, List.setIfInBounds_toArray, List.set_cons_zero, List.set_cons_succ]
            refine wpAnyH_ready (rs := [11, 15]) (by kernel_rfl) (by simp) (AllReadyH.cons (o := ({ dst := some 72, op := Go.Op.call { callee := Go.Callee.value (Go.Operand.func 25), args := #[Go.Operand.tmp 61, Go.Operand.tmp 66, Go.Operand.tmp 71], argTypes := #[45, 3, 3] }, type := 51, pos := "law.go:142", after := #[{ on := 0, ground := Go.Ground.data }, { on := 5, ground := Go.Ground.data }, { on := 10, ground := Go.Ground.data }], guard := none } : Oper)) rfl (fun K hK => ?_) (AllReadyH.cons (o := ({ dst := some 12, op := Go.Op.alloc 45, type := 0, pos := "law.go:142", after := #[], guard := none } : Oper)) rfl (fun K hK => ?_) AllReadyH.nil))
            · go_simp
              refine (D.out _).mono ?_
              rintro e u1 ⟨rfl, hb⟩
              replace J := Lib.hid (J.out.step hb)
              clear hb sk
              have sk := bk_sk (show HO w _ ([] ++ boxO k8 (bC ⟨md, st, rt, bu, fi, la⟩) :: _) from J.out) (TR _ J.out.below)
              refine hK.out _ _ sk (fun hHeld2 => ?_)
              clear hK K hHeld
              have hHeld := hHeld2
              clear hHeld2
              try simp only [Act.put, List.setIfInBounds_toArray, List.set_cons_zero, List.set_cons_succ]
              refine wpAnyH_take (i := 12) (oi := ({ dst := some 60, op := Go.Op.move (Go.Operand.tmp 72), type := 51, pos := "law.go:142", after := #[{ on := 11, ground := Go.Ground.data }], guard := none } : Oper)) (v := ?_) rfl (by kernel_rfl) (by kernel_rfl) (by kernel_rfl) (fun _ _ _ h => h) (Or.inl ⟨by kernel_rfl, ?_⟩) hHeld ?_
              rotate_left 1
              · (intro W hSw; (try dsimp only at hSw); go_simp; try with_reducible rfl)
              try simp only [Act.put, List.setIfInBounds_toArray, List.set_cons_zero, List.set_cons_succ]
              refine wpAnyH_take (i := 13) (oi := ({ dst := some 73, op := Go.Op.extract (Go.Operand.tmp 60) 0, type := 45, pos := "law.go:142", after := #[{ on := 12, ground := Go.Ground.data }], guard := none } : Oper)) (v := ?_) rfl (by kernel_rfl) (by kernel_rfl) (by kernel_rfl) (fun _ _ _ h => h) (Or.inl ⟨by kernel_rfl, ?_⟩) hHeld ?_
              rotate_left 1
              · (intro W hSw; (try dsimp only at hSw); go_simp; try with_reducible rfl)
              try simp only [Act.put, List.setIfInBounds_toArray, List.set_cons_zero, List.set_cons_succ]
              refine wpAnyH_take (i := 14) (oi := ({ dst := some 74, op := Go.Op.extract (Go.Operand.tmp 60) 1, type := 4, pos := "law.go:142", after := #[{ on := 12, ground := Go.Ground.data }, { on := 16, ground := Go.Ground.gcOnly Go.Departure.lateStores }], guard := none } : Oper)) (v := ?_) rfl (by kernel_rfl) (by kernel_rfl) (by kernel_rfl) (fun _ _ _ h => h) (Or.inl ⟨by kernel_rfl, ?_⟩) hHeld ?_
              rotate_left 1
              · (intro W hSw; (try dsimp only at hSw); go_simp; try with_reducible rfl)
              try simp only [Act.put, List.setIfInBounds_toArray, List.set_cons_zero, List.set_cons_succ]
              refine wpAnyH_ready (rs := [15]) (by kernel_rfl) (by simp) (AllReadyH.cons (o := ({ dst := some 12, op := Go.Op.alloc 45, type := 0, pos := "law.go:142", after := #[], guard := none } : Oper)) rfl (fun K hK => ?_) AllReadyH.nil)
              go_simp
              replace J := Lib.hid (J.out.alloc [.bool false, .bool false, .int .i64 0, .int .i64 0, .int .i64 0, .int .i64 0] 45)
              generalize u1.alloc (.cells #[.bool false, .bool false, .int .i64 0, .int .i64 0, .int .i64 0, .int .i64 0] 45) = u2 at *
              generalize u1.heap.size = kz at *
              clear sk
              have sk := bk_sk (show HO w _ ([_] ++ boxO k8 (bC ⟨md, st, rt, bu, fi, la⟩) :: _) from J.out) (TR _ J.out.below)
              refine hK.out _ _ sk (fun hHeld2 => ?_)
              clear hK K hHeld
              have hHeld := hHeld2
              clear hHeld2
              try simp only [Act.put, List.setIfInBounds_toArray, List.set_cons_zero, List.set_cons_succ]
              refine wpAnyH_ready (rs := [16]) (by kernel_rfl) (by simp) (AllReadyH.cons (o := ({ dst := none, op := Go.Op.store 45 (Go.Operand.tmp 12) (Go.Operand.tmp 73), type := 0, pos := "law.go:142", after := #[{ on := 15, ground := Go.Ground.data }, { on := 13, ground := Go.Ground.data }, { on := 11, ground := Go.Ground.chain }, { on := 0, ground := Go.Ground.phase }, { on := 1, ground := Go.Ground.phase }, { on := 2, ground := Go.Ground.phase }, { on := 3, ground := Go.Ground.phase }, { on := 4, ground := Go.Ground.phase }, { on := 5, ground := Go.Ground.phase }, { on := 6, ground := Go.Ground.phase }, { on := 7, ground := Go.Ground.phase }, { on := 8, ground := Go.Ground.phase }, { on := 9, ground := Go.Ground.phase }, { on := 10, ground := Go.Ground.phase }, { on := 11, ground := Go.Ground.phase }, { on := 12, ground := Go.Ground.phase }, { on := 13, ground := Go.Ground.phase }, { on := 14, ground := Go.Ground.textOnly Go.Departure.lateStores }, { on := 15, ground := Go.Ground.phase }], guard := none } : Oper)) rfl (fun K hK => ?_) AllReadyH.nil)
              obtain ⟨z0, z1, z2, z3, z4, z5, zf, zl⟩ := (show HO w u2 ([] ++ boxO kz _ :: _) from J.out).c6
              go_simp
              replace J := Lib.hid ((show HO w u2 ([] ++ boxO kz [.bool false, .bool false, .int .i64 0, .int .i64 0, .int .i64 0, .int .i64 0] :: _) from J.out).set6 (.bool xmd) (.bool xst) (.int .i64 xrt) (.int .i64 xbu) (.int .i64 xfi) (.int .i64 xla))
              clear z0 z1 z2 z3 z4 z5 zf zl sk
              have sk := bk_sk (show HO w _ ([_] ++ boxO k8 (bC ⟨md, st, rt, bu, fi, la⟩) :: _) from J.out) (TR _ J.out.below)
              refine hK.out _ _ sk (fun hHeld2 => ?_)
              clear hK K hHeld
              have hHeld := hHeld2
              clear hHeld2
              try simp only [Act.put, List.setIfInBounds_toArray, List.set_cons_zero, List.set_cons_succ]
              refine wpAnyH_take (i := 17) (oi := ({ dst := some 13, op := Go.Op.assign (Go.Operand.tmp 74), type := 4, pos := "law.go:142", after := #[{ on := 14, ground := Go.Ground.data }, { on := 16, ground := Go.Ground.chain }, { on := 0, ground := Go.Ground.phase }, { on := 1, ground := Go.Ground.phase }, { on := 2, ground := Go.Ground.phase }, { on := 3, ground := Go.Ground.phase }, { on := 4, ground := Go.Ground.phase }, { on := 5, ground := Go.Ground.phase }, { on := 6, ground := Go.Ground.phase }, { on := 7, ground := Go.Ground.phase }, { on := 8, ground := Go.Ground.phase }, { on := 9, ground := Go.Ground.phase }, { on := 10, ground := Go.Ground.phase }, { on := 11, ground := Go.Ground.phase }, { on := 12, ground := Go.Ground.phase }, { on := 13, ground := Go.Ground.phase }, { on := 14, ground := Go.Ground.phase }, { on := 15, ground := Go.Ground.phase }, { on := 16, ground := Go.Ground.phase }], guard := none } : Oper)) (v := ?_) rfl (by kernel_rfl) (by kernel_rfl) (by kernel_rfl) (fun _ _ _ h => h) (Or.inl ⟨by kernel_rfl, ?_⟩) hHeld ?_
              rotate_left 1
              · (intro W hSw; (try dsimp only at hSw); go_simp; try with_reducible rfl)
              try simp only [Act.put, List.setIfInBounds_toArray, List.set_cons_zero, List.set_cons_succ]
              refine wpAnyH_done (by kernel_rfl) ?_ _
              go_wp2_with fail
              go_meet
              case rel => exact ⟨kz, rfl, rfl, J⟩
            · go_simp
              replace J := Lib.hid (J.out.alloc [.bool false, .bool false, .int .i64 0, .int .i64 0, .int .i64 0, .int .i64 0] 45)
              generalize u0.alloc (.cells #[.bool false, .bool false, .int .i64 0, .int .i64 0, .int .i64 0, .int .i64 0] 45) = u1 at *
              generalize u0.heap.size = kz at *
              clear sk
              have sk := bk_sk (show HO w _ ([_] ++ boxO k8 (bC ⟨md, st, rt, bu, fi, la⟩) :: _) from J.out) (TR _ J.out.below)
              refine hK.out _ _ sk (fun hHeld2 => ?_)
              clear hK K hHeld
              have hHeld := hHeld2
              clear hHeld2
              try simp only [Act.put, List.setIfInBounds_toArray, List.set_cons_zero, List.set_cons_succ]
              refine wpAnyH_ready (rs := [11]) (by kernel_rfl) (by simp) (AllReadyH.cons (o := ({ dst := some 72, op := Go.Op.call { callee := Go.Callee.value (Go.Operand.func 25), args := #[Go.Operand.tmp 61, Go.Operand.tmp 66, Go.Operand.tmp 71], argTypes := #[45, 3, 3] }, type := 51, pos := "law.go:142", after := #[{ on := 0, ground := Go.Ground.data }, { on := 5, ground := Go.Ground.data }, { on := 10, ground := Go.Ground.data }], guard := none } : Oper)) rfl (fun K hK => ?_) AllReadyH.nil)
              go_simp
              refine (D.out _).mono ?_
              rintro e u2 ⟨rfl, hb⟩
              replace J := Lib.hid (J.out.step hb)
              clear hb sk
              have sk := bk_sk (show HO w _ ([_] ++ boxO k8 (bC ⟨md, st, rt, bu, fi, la⟩) :: _) from J.out) (TR _ J.out.below)
              refine hK.out _ _ sk (fun hHeld2 => ?_)
              clear hK K hHeld
              have hHeld := hHeld2
              clear hHeld2
              try simp only [Act.put, List.setIfInBounds_toArray, List.set_cons_zero, List.set_cons_succ]
              refine wpAnyH_take (i := 12) (oi := ({ dst := some 60, op := Go.Op.move (Go.Operand.tmp 72), type := 51, pos := "law.go:142", after := #[{ on := 11, ground := Go.Ground.data }], guard := none } : Oper)) (v := ?_) rfl (by kernel_rfl) (by kernel_rfl) (by kernel_rfl) (fun _ _ _ h => h) (Or.inl ⟨by kernel_rfl, ?_⟩) hHeld ?_
              rotate_left 1
              · (intro W hSw; (try dsimp only at hSw); go_simp; try with_reducible rfl)
              try simp only [Act.put, List.setIfInBounds_toArray, List.set_cons_zero, List.set_cons_succ]
              refine wpAnyH_take (i := 13) (oi := ({ dst := some 73, op := Go.Op.extract (Go.Operand.tmp 60) 0, type := 45, pos := "law.go:142", after := #[{ on := 12, ground := Go.Ground.data }], guard := none } : Oper)) (v := ?_) rfl (by kernel_rfl) (by kernel_rfl) (by kernel_rfl) (fun _ _ _ h => h) (Or.inl ⟨by kernel_rfl, ?_⟩) hHeld ?_
              rotate_left 1
              · (intro W hSw; (try dsimp only at hSw); go_simp; try with_reducible rfl)
              try simp only [Act.put, List.setIfInBounds_toArray, List.set_cons_zero, List.set_cons_succ]
              refine wpAnyH_take (i := 14) (oi := ({ dst := some 74, op := Go.Op.extract (Go.Operand.tmp 60) 1, type := 4, pos := "law.go:142", after := #[{ on := 12, ground := Go.Ground.data }, { on := 16, ground := Go.Ground.gcOnly Go.Departure.lateStores }], guard := none } : Oper)) (v := ?_) rfl (by kernel_rfl) (by kernel_rfl) (by kernel_rfl) (fun _ _ _ h => h) (Or.inl ⟨by kernel_rfl, ?_⟩) hHeld ?_
              rotate_left 1
              · (intro W hSw; (try dsimp only at hSw); go_simp; try with_reducible rfl)
              try simp only [Act.put, List.setIfInBounds_toArray, List.set_cons_zero, List.set_cons_succ]
              refine wpAnyH_ready (rs := [16]) (by kernel_rfl) (by simp) (AllReadyH.cons (o := ({ dst := none, op := Go.Op.store 45 (Go.Operand.tmp 12) (Go.Operand.tmp 73), type := 0, pos := "law.go:142", after := #[{ on := 15, ground := Go.Ground.data }, { on := 13, ground := Go.Ground.data }, { on := 11, ground := Go.Ground.chain }, { on := 0, ground := Go.Ground.phase }, { on := 1, ground := Go.Ground.phase }, { on := 2, ground := Go.Ground.phase }, { on := 3, ground := Go.Ground.phase }, { on := 4, ground := Go.Ground.phase }, { on := 5, ground := Go.Ground.phase }, { on := 6, ground := Go.Ground.phase }, { on := 7, ground := Go.Ground.phase }, { on := 8, ground := Go.Ground.phase }, { on := 9, ground := Go.Ground.phase }, { on := 10, ground := Go.Ground.phase }, { on := 11, ground := Go.Ground.phase }, { on := 12, ground := Go.Ground.phase }, { on := 13, ground := Go.Ground.phase }, { on := 14, ground := Go.Ground.textOnly Go.Departure.lateStores }, { on := 15, ground := Go.Ground.phase }], guard := none } : Oper)) rfl (fun K hK => ?_) AllReadyH.nil)
              obtain ⟨z0, z1, z2, z3, z4, z5, zf, zl⟩ := (show HO w u2 ([] ++ boxO kz _ :: _) from J.out).c6
              go_simp
              replace J := Lib.hid ((show HO w u2 ([] ++ boxO kz [.bool false, .bool false, .int .i64 0, .int .i64 0, .int .i64 0, .int .i64 0] :: _) from J.out).set6 (.bool xmd) (.bool xst) (.int .i64 xrt) (.int .i64 xbu) (.int .i64 xfi) (.int .i64 xla))
              clear z0 z1 z2 z3 z4 z5 zf zl sk
              have sk := bk_sk (show HO w _ ([_] ++ boxO k8 (bC ⟨md, st, rt, bu, fi, la⟩) :: _) from J.out) (TR _ J.out.below)
              refine hK.out _ _ sk (fun hHeld2 => ?_)
              clear hK K hHeld
              have hHeld := hHeld2
              clear hHeld2
              try simp only [Act.put, List.setIfInBounds_toArray, List.set_cons_zero, List.set_cons_succ]
              refine wpAnyH_take (i := 17) (oi := ({ dst := some 13, op := Go.Op.assign (Go.Operand.tmp 74), type := 4, pos := "law.go:142", after := #[{ on := 14, ground := Go.Ground.data }, { on := 16, ground := Go.Ground.chain }, { on := 0, ground := Go.Ground.phase }, { on := 1, ground := Go.Ground.phase }, { on := 2, ground := Go.Ground.phase }, { on := 3, ground := Go.Ground.phase }, { on := 4, ground := Go.Ground.phase }, { on := 5, ground := Go.Ground.phase }, { on := 6, ground := Go.Ground.phase }, { on := 7, ground := Go.Ground.phase }, { on := 8, ground := Go.Ground.phase }, { on := 9, ground := Go.Ground.phase }, { on := 10, ground := Go.Ground.phase }, { on := 11, ground := Go.Ground.phase }, { on := 12, ground := Go.Ground.phase }, { on := 13, ground := Go.Ground.phase }, { on := 14, ground := Go.Ground.phase }, { on := 15, ground := Go.Ground.phase }, { on := 16, ground := Go.Ground.phase }], guard := none } : Oper)) (v := ?_) rfl (by kernel_rfl) (by kernel_rfl) (by kernel_rfl) (fun _ _ _ h => h) (Or.inl ⟨by kernel_rfl, ?_⟩) hHeld ?_
              rotate_left 1
              · (intro W hSw; (try dsimp only at hSw); go_simp; try with_reducible rfl)
              try simp only [Act.put, List.setIfInBounds_toArray, List.set_cons_zero, List.set_cons_succ]
              refine wpAnyH_done (by kernel_rfl) ?_ _
              go_wp2_with fail
              go_meet
              case rel => exact ⟨kz, rfl, rfl, J⟩
          case rest =>
            obtain ⟨kz, rfl, rfl, J1⟩ := hcut
            clear J c0 c1 c2
            obtain ⟨z0, z1, z2, z3, z4, z5, zf, zl⟩ := (show HO w wc ([] ++ boxO kz _ :: _) from J1.out).c6
            obtain ⟨y0, y1, y2, y3, y4, y5, yf, yl⟩ := (show HO w wc ([_] ++ boxO k8 _ :: _) from J1.out).c6
            have J := Lib.hid (((show HO w wc ([_] ++ boxO k8 [_, _, _, _, _, _] :: _) from J1.out).set6 (.bool xmd) (.bool xst) (.int .i64 xrt) (.int .i64 xbu) (.int .i64 xfi) (.int .i64 xla)).tail)
            clear J1
            go_upto_region 16 with fail
            generalize (((((wc.setCell ⟨k8, 0, none⟩ (.bool xmd)).setCell ⟨k8, 1, none⟩ (.bool xst)).setCell ⟨k8, 2, none⟩ (.int .i64 xrt)).setCell ⟨k8, 3, none⟩ (.int .i64 xbu)).setCell ⟨k8, 4, none⟩ (.int .i64 xfi)).setCell ⟨k8, 5, none⟩ (.int .i64 xla) = w2 at *
            clear z0 z1 z2 z3 z4 z5 zf zl y0 y1 y2 y3 y4 y5 yf yl
            obtain ⟨c0, c1, c2⟩ := TR _ J.out.below
            have R1 : RB w _ (.pointer (some pa)) ⟨md, st, rt, bu, fi, la⟩ _ := (show HO w _ ([_] ++ objO RB w (.pointer (some pa)) ⟨md, st, rt, bu, fi, la⟩ _ :: _) from J.out).at
            have J4 := J
            replace J := Lib.hid J.out.drew
            clear R1
            have R1 : RB w _ (.pointer (some pa)) ⟨md, st, rt, bu, fi, la⟩ _ := (show HO w _ ([_] ++ objO RB w (.pointer (some pa)) ⟨md, st, rt, bu, fi, la⟩ _ :: _) from J.out).at
            have sk := And.intro c0 c1
            go_region_held3 (fun W => W.cell? ⟨bb, off + i * 3, none⟩ = some (.int .i64 t) ∧ W.cell? ⟨bb, off + i * 3 + 1, none⟩ = some (.int .i64 m))
              (first
                | exact sk
                | go_keep)
              (first
                | (go_at_call 26; (with_reducible refine (KB.take (K.below HT.out J.out.below) R1 HB.out t m ia ib).mono ?_); rintro e wq ⟨Sq2, he, hr, hs, ht⟩; rw [HK.out] at he hr; obtain rfl := he; have J3 := Lib.hid ((show HO w _ ([_] ++ objO RB w (.pointer (some pa)) ⟨md, st, rt, bu, fi, la⟩ _ :: _) from J.out).turnB KB hr hs ht); clear sk; have sk := And.intro (TR _ J3.out.below).1 (TR _ J3.out.below).2.1; clear hr hs ht R1 J)
                | fail)
            go_wp2_with fail
            go_roundw
            case rel => exact ⟨i + 1, ⟨xmd, xst, xrt, xbu, xfi, xla⟩, _, by omega, by go_num, HB2, Lib.hid (HM2.out.trans HMD.out), J3⟩
            case measure =>
              unfold leftN
              simp [intOf]
              omega
      · obtain rfl : n = i := by omega
        go_wp2_with fail
        refine (EX _ J.out.below).out.mono ?_
        rintro e wq2 ⟨rfl, hb⟩
        replace J := Lib.hid (J.out.step hb)
        clear hb
        go_wp2_with fail
        go_ret
        exact ⟨rfl, J.out.below⟩
  | false =>
    go_enter Try.func6, Try.ntmps6
    go_wp2_with fail
    refine (KB.new (K.below HT.out J.out.below) J.out.below r b hr0 hb0).mono ?_
    rintro e w1 ⟨rv, Sq, rfl, hr, hs, hb⟩
    rw [hb9] at hr
    obtain rfl := KB.nil hr hmd
    replace J := Lib.hid (J.out.newB KB hr hs hb)
    clear hr hs hb hb9
    go_wp2_with fail
    refine (NB _).out.mono ?_
    rintro e w2 ⟨rfl, hb⟩
    replace J := Lib.hid ((J.out.step hb).alloc (bC b0) 45)
    obtain ⟨z0, -, -, -, -, -, -, -⟩ := (show HO w _ ([] ++ boxO w2.heap.size _ :: _) from J.out).c6
    obtain ⟨md, st, rt, bu, fi, la⟩ := b0
    dsimp only at hmd
    subst hmd
    clear hb NB
    go_wp2_with fail
    generalize w2.heap.size = k8 at *
    go_loopw [9] (fun s9 wr => ∃ (i : Nat) (b : Bk) (Sq : Nat → Prop), i ≤ n ∧ s9 = .int .i64 (i : Int) ∧ Hid (BOk b) ∧ Hid (b.md = false) ∧ Hid (HO w wr [boxO k8 (bC b), objO RB w (.pointer none) b Sq])) (fun s9 _ => leftN n s9)
    case atStart => exact ⟨0, _, _, Nat.zero_le _, rfl, HB0, Lib.hid rfl, J⟩
    case round =>
      clear J HB0
      obtain ⟨i, b, Sq, hi, rfl, HB, HMD, J⟩ := hrel
      obtain ⟨md, st, rt, bu, fi, la⟩ := b
      by_cases hlt : i < n
      · have q0 : (0 : Int) ≤ i := by omega
        have q2 : (i : Int) < n := by omega
        obtain ⟨x, hx⟩ : ∃ x, l[i]? = some x := ⟨_, List.getElem?_eq_getElem (by rw [HN.out]; exact hlt)⟩
        obtain ⟨ia, ib, bb, off, rfl, TR⟩ := trs_at HA.out hx
        obtain ⟨t, m, c⟩ := x
        dsimp only at ia ib HMD
        obtain ⟨c0, c1, c2⟩ := TR _ J.out.below
        clear hx
        cases c with
        | true =>
          obtain ⟨⟨x, z⟩, hk⟩ : ∃ q, lvlB ⟨md, st, rt, bu, fi, la⟩ t = q := ⟨_, rfl⟩
          have D := Lib.hid (fun (W : World) => by have := rlvl_any HB.out ia W; rw [hk] at this; exact this)
          have HB2 := Lib.hid (by have := lvlB_ok HB.out ia; rw [hk] at this; exact this)
          have HM2 := Lib.hid (by have := lvl_md ⟨md, st, rt, bu, fi, la⟩ t; rw [hk] at this; exact this)
          have HK := Lib.hid hk
          obtain ⟨xmd, xst, xrt, xbu, xfi, xla⟩ := x
          dsimp only at D HB2 HM2
          have ez : (z != z) = false := by simp
          clear hk
          go_upto_region 10 with fail
          go_cut [10, 11] from 40 to 49 (fun s10 s11 wx => ∃ kz, s10 = .pointer (some ⟨kz, 0, none⟩) ∧ s11 = .int .i64 z ∧ Hid (HO w wx [boxO kz (bC ⟨xmd, xst, xrt, xbu, xfi, xla⟩), boxO k8 (bC ⟨md, st, rt, bu, fi, la⟩), objO RB w (.pointer none) ⟨md, st, rt, bu, fi, la⟩ Sq]))
          case first =>
            replace J := Lib.hid J.out.drew
            have sk := bk_sk (show HO w _ ([] ++ boxO k8 (bC ⟨md, st, rt, bu, fi, la⟩) :: _) from J.out) (TR _ J.out.below)
            clear c0 c1 c2
            refine wp_region_held_drew (S := (fun W => (W.cell? ⟨k8, 0, none⟩ = some (.bool md) ∧ W.cell? ⟨k8, 1, none⟩ = some (.bool st) ∧ W.cell? ⟨k8, 2, none⟩ = some (.int .i64 rt) ∧ W.cell? ⟨k8, 3, none⟩ = some (.int .i64 bu) ∧ W.cell? ⟨k8, 4, none⟩ = some (.int .i64 fi) ∧ W.cell? ⟨k8, 5, none⟩ = some (.int .i64 la)) ∧ (W.cell? ⟨bb, off + i * 3, none⟩ = some (.int .i64 t) ∧ W.cell? ⟨bb, off + i * 3 + 1, none⟩ = some (.int .i64 m)))) (by kernel_rfl) sk (fun hHeld => ?_)
            generalize wr.drew = u0 at *
            refine wpAnyH_take (i := 0) (oi := ({ dst := some 41, op := Go.Op.load 45 (Go.Operand.tmp 8), type := 45, pos := "law.go:136", after := #[], guard := none } : Oper)) (v := ?_) rfl (by kernel_rfl) (by kernel_rfl) (by kernel_rfl) (fun _ _ _ h => h) (Or.inl ⟨by kernel_rfl, ?_⟩) hHeld ?_
            rotate_left 1
            · (intro W hSw; (try dsimp only at hSw); go_simp; try with_reducible rfl)
            try simp only [Act.put, List.setIfInBounds_toArray, List.set_cons_zero, List.set_cons_succ]
            refine wpAnyH_take (i := 1) (oi := ({ dst := some 42, op := Go.Op.move (Go.Operand.tmp 2), type := 41, pos := "law.go:136", after := #[], guard := none } : Oper)) (v := ?_) rfl (by kernel_rfl) (by kernel_rfl) (by kernel_rfl) (fun _ _ _ h => h) (Or.inl ⟨by kernel_rfl, ?_⟩) hHeld ?_
            rotate_left 1
            · (intro W hSw; (try dsimp only at hSw); go_simp; try with_reducible rfl)
            try simp only [Act.put, List.setIfInBounds_toArray, List.set_cons_zero, List.set_cons_succ]
            refine wpAnyH_take (i := 2) (oi := ({ dst := some 43, op := Go.Op.move (Go.Operand.tmp 9), type := 3, pos := "law.go:136", after := #[], guard := none } : Oper)) (v := ?_) rfl (by kernel_rfl) (by kernel_rfl) (by kernel_rfl) (fun _ _ _ h => h) (Or.inl ⟨by kernel_rfl, ?_⟩) hHeld ?_
            rotate_left 1
            · (intro W hSw; (try dsimp only at hSw); go_simp; try with_reducible rfl)
            try simp only [Act.put, List.setIfInBounds_toArray, List.set_cons_zero, List.set_cons_succ]
            refine wpAnyH_take (i := 3) (oi := ({ dst := some 44, op := Go.Op.indexAddr 41 (Go.Operand.tmp 42) (Go.Operand.tmp 43), type := 0, pos := "law.go:136", after := #[{ on := 1, ground := Go.Ground.data }, { on := 2, ground := Go.Ground.data }], guard := none } : Oper)) (v := ?_) rfl (by kernel_rfl) (by kernel_rfl) (by kernel_rfl) (fun _ _ _ h => h) (Or.inl ⟨by kernel_rfl, ?_⟩) hHeld ?_
            rotate_left 1
            · (intro W hSw; (try dsimp only at hSw); go_simp; try with_reducible rfl)
            try simp only [Act.put, List.setIfInBounds_toArray, List.set_cons_zero, List.set_cons_succ]
            refine wpAnyH_take (i := 4) (oi := ({ dst := some 45, op := Go.Op.fieldAddr 48 (Go.Operand.tmp 44) 0, type := 0, pos := "law.go:136", after := #[{ on := 3, ground := Go.Ground.data }], guard := none } : Oper)) (v := ?_) rfl (by kernel_rfl) (by kernel_rfl) (by kernel_rfl) (fun _ _ _ h => h) (Or.inl ⟨by kernel_rfl, ?_⟩) hHeld ?_
            rotate_left 1
            · (intro W hSw; (try dsimp only at hSw); go_simp; try with_reducible rfl)
            try simp only [Act.put, List.setIfInBounds_toArray, List.set_cons_zero, List.set_cons_succ]
            refine wpAnyH_take (i := 5) (oi := ({ dst := some 46, op := Go.Op.load 3 (Go.Operand.tmp 45), type := 3, pos := "law.go:136", after := #[{ on := 4, ground := Go.Ground.data }], guard := none } : Oper)) (v := ?_) rfl (by kernel_rfl) (by kernel_rfl) (by kernel_rfl) (fun _ _ _ h => h) (Or.inl ⟨by kernel_rfl, ?_⟩) hHeld ?_
            rotate_left 1
            · (intro W hSw; (try dsimp only at hSw); go_simp; try with_reducible rfl)
            try simp only [Act.put, List.setIfInBounds_toArray, List.set_cons_zero, List.set_cons_succ]
            refine wpAnyH_ready (rs := [6, 10]) (by kernel_rfl) (by simp) (AllReadyH.cons (o := ({ dst := some 47, op := Go.Op.call { callee := Go.Callee.value (Go.Operand.func 23), args := #[Go.Operand.tmp 41, Go.Operand.tmp 46], argTypes := #[45, 3] }, type := 49, pos := "law.go:136", after := #[{ on := 0, ground := Go.Ground.data }, { on := 5, ground := Go.Ground.data }], guard := none } : Oper)) rfl (fun K hK => ?_) (AllReadyH.cons (o := ({ dst := some 10, op := Go.Op.alloc 45, type := 0, pos := "law.go:136", after := #[], guard := none } : Oper)) rfl (fun K hK => ?_) AllReadyH.nil))
            · go_simp
              refine (D.out _).mono ?_
              rintro e u1 ⟨rfl, hb⟩
              replace J := Lib.hid (J.out.step hb)
              clear hb sk
              have sk := bk_sk (show HO w _ ([] ++ boxO k8 (bC ⟨md, st, rt, bu, fi, la⟩) :: _) from J.out) (TR _ J.out.below)
              refine hK.out _ _ sk (fun hHeld2 => ?_)
              clear hK K hHeld
              have hHeld := hHeld2
              clear hHeld2
              try simp only [Act.put, List.setIfInBounds_toArray, List.set_cons_zero, List.set_cons_succ]
              refine wpAnyH_take (i := 7) (oi := ({ dst := some 40, op := Go.Op.move (Go.Operand.tmp 47), type := 49, pos := "law.go:136", after := #[{ on := 6, ground := Go.Ground.data }], guard := none } : Oper)) (v := ?_) rfl (by kernel_rfl) (by kernel_rfl) (by kernel_rfl) (fun _ _ _ h => h) (Or.inl ⟨by kernel_rfl, ?_⟩) hHeld ?_
              rotate_left 1
              · (intro W hSw; (try dsimp only at hSw); go_simp; try with_reducible rfl)
              try simp only [Act.put, List.setIfInBounds_toArray, List.set_cons_zero, List.set_cons_succ]
              refine wpAnyH_take (i := 8) (oi := ({ dst := some 48, op := Go.Op.extract (Go.Operand.tmp 40) 0, type := 45, pos := "law.go:136", after := #[{ on := 7, ground := Go.Ground.data }], guard := none } : Oper)) (v := ?_) rfl (by kernel_rfl) (by kernel_rfl) (by kernel_rfl) (fun _ _ _ h => h) (Or.inl ⟨by kernel_rfl, ?_⟩) hHeld ?_
              rotate_left 1
              · (intro W hSw; (try dsimp only at hSw); go_simp; try with_reducible rfl)
              try simp only [Act.put, List.setIfInBounds_toArray, List.set_cons_zero, List.set_cons_succ]
              refine wpAnyH_take (i := 9) (oi := ({ dst := some 49, op := Go.Op.extract (Go.Operand.tmp 40) 1, type := 3, pos := "law.go:136", after := #[{ on := 7, ground := Go.Ground.data }, { on := 11, ground := Go.Ground.gcOnly Go.Departure.lateStores }], guard := none } : Oper)) (v := ?_) rfl (by kernel_rfl) (by kernel_rfl) (by kernel_rfl) (fun _ _ _ h => h) (Or.inl ⟨by kernel_rfl, ?_⟩) hHeld ?_
              rotate_left 1
              · (intro W hSw; (try dsimp only at hSw); go_simp; try with_reducible rfl)
              try simp only [Act.put, List.setIfInBounds_toArray, List.set_cons_zero, List.set_cons_succ]
              refine wpAnyH_ready (rs := [10]) (by kernel_rfl) (by simp) (AllReadyH.cons (o := ({ dst := some 10, op := Go.Op.alloc 45, type := 0, pos := "law.go:136", after := #[], guard := none } : Oper)) rfl (fun K hK => ?_) AllReadyH.nil)
              go_simp
              replace J := Lib.hid (J.out.alloc [.bool false, .bool false, .int .i64 0, .int .i64 0, .int .i64 0, .int .i64 0] 45)
              generalize u1.alloc (.cells #[.bool false, .bool false, .int .i64 0, .int .i64 0, .int .i64 0, .int .i64 0] 45) = u2 at *
              generalize u1.heap.size = kz at *
              clear sk
              have sk := bk_sk (show HO w _ ([_] ++ boxO k8 (bC ⟨md, st, rt, bu, fi, la⟩) :: _) from J.out) (TR _ J.out.below)
              refine hK.out _ _ sk (fun hHeld2 => ?_)
              clear hK K hHeld
              have hHeld := hHeld2
              clear hHeld2
              try simp only [Act.put, List.setIfInBounds_toArray, List.set_cons_zero, List.set_cons_succ]
              refine wpAnyH_ready (rs := [11]) (by kernel_rfl) (by simp) (AllReadyH.cons (o := ({ dst := none, op := Go.Op.store 45 (Go.Operand.tmp 10) (Go.Operand.tmp 48), type := 0, pos := "law.go:136", after := #[{ on := 10, ground := Go.Ground.data }, { on := 8, ground := Go.Ground.data }, { on := 6, ground := Go.Ground.chain }, { on := 0, ground := Go.Ground.phase }, { on := 1, ground := Go.Ground.phase }, { on := 2, ground := Go.Ground.phase }, { on := 3, ground := Go.Ground.phase }, { on := 4, ground := Go.Ground.phase }, { on := 5, ground := Go.Ground.phase }, { on := 6, ground := Go.Ground.phase }, { on := 7, ground := Go.Ground.phase }, { on := 8, ground := Go.Ground.phase }, { on := 9, ground := Go.Ground.textOnly Go.Departure.lateStores }, { on := 10, ground := Go.Ground.phase }], guard := none } : Oper)) rfl (fun K hK => ?_) AllReadyH.nil)
              obtain ⟨z0, z1, z2, z3, z4, z5, zf, zl⟩ := (show HO w u2 ([] ++ boxO kz _ :: _) from J.out).c6
              go_simp
              replace J := Lib.hid ((show HO w u2 ([] ++ boxO kz [.bool false, .bool false, .int .i64 0, .int .i64 0, .int .i64 0, .int .i64 0] :: _) from J.out).set6 (.bool xmd) (.bool xst) (.int .i64 xrt) (.int .i64 xbu) (.int .i64 xfi) (.int .i64 xla))
              clear z0 z1 z2 z3 z4 z5 zf zl sk
              have sk := bk_sk (show HO w _ ([_] ++ boxO k8 (bC ⟨md, st, rt, bu, fi, la⟩) :: _) from J.out) (TR _ J.out.below)
              refine hK.out _ _ sk (fun hHeld2 => ?_)
              clear hK K hHeld
              have hHeld := hHeld2
              clear hHeld2
              try simp only [Act.put, List.setIfInBounds_toArray, List.set_cons_zero, List.set_cons_succ]
              refine wpAnyH_take (i := 12) (oi := ({ dst := some 11, op := Go.Op.assign (Go.Operand.tmp 49), type := 3, pos := "law.go:136", after := #[{ on := 9, ground := Go.Ground.data }, { on := 11, ground := Go.Ground.chain }, { on := 0, ground := Go.Ground.phase }, { on := 1, ground := Go.Ground.phase }, { on := 2, ground := Go.Ground.phase }, { on := 3, ground := Go.Ground.phase }, { on := 4, ground := Go.Ground.phase }, { on := 5, ground := Go.Ground.phase }, { on := 6, ground := Go.Ground.phase }, { on := 7, ground := Go.Ground.phase }, { on := 8, ground := Go.Ground.phase }, { on := 9, ground := Go.Ground.phase }, { on := 10, ground := Go.Ground.phase }, { on := 11, ground := Go.Ground.phase }], guard := none } : Oper)) (v := ?_) rfl (by kernel_rfl) (by kernel_rfl) (by kernel_rfl) (fun _ _ _ h => h) (Or.inl ⟨by kernel_rfl, ?_⟩) hHeld ?_
              rotate_left 1
              · (intro W hSw; (try dsimp only at hSw); go_simp; try with_reducible rfl)
              try simp only [Act.put, List.setIfInBounds_toArray, List.set_cons_zero, List.set_cons_succ]
              refine wpAnyH_done (by kernel_rfl) ?_ _
              go_wp2_with fail
              go_meet
              case rel => exact ⟨kz, rfl, rfl, J⟩
            · go_simp
              replace J := Lib.hid (J.out.alloc [.bool false, .bool false, .int .i64 0, .int .i64 0, .int .i64 0, .int .i64 0] 45)
              generalize u0.alloc (.cells #[.bool false, .bool false, .int .i64 0, .int .i64 0, .int .i64 0, .int .i64 0] 45) = u1 at *
              generalize u0.heap.size = kz at *
              clear sk
              have sk := bk_sk (show HO w _ ([_] ++ boxO k8 (bC ⟨md, st, rt, bu, fi, la⟩) :: _) from J.out) (TR _ J.out.below)
              refine hK.out _ _ sk (fun hHeld2 => ?_)
              clear hK K hHeld
              have hHeld := hHeld2
              clear hHeld2
              try simp only [Act.put, List.setIfInBounds_toArray, List.set_cons_zero, List.set_cons_succ]
              refine wpAnyH_ready (rs := [6]) (by kernel_rfl) (by simp) (AllReadyH.cons (o := ({ dst := some 47, op := Go.Op.call { callee := Go.Callee.value (Go.Operand.func 23), args := #[Go.Operand.tmp 41, Go.Operand.tmp 46], argTypes := #[45, 3] }, type := 49, pos := "law.go:136", after := #[{ on := 0, ground := Go.Ground.data }, { on := 5, ground := Go.Ground.data }], guard := none } : Oper)) rfl (fun K hK => ?_) AllReadyH.nil)
              go_simp
              refine (D.out _).mono ?_
              rintro e u2 ⟨rfl, hb⟩
              replace J := Lib.hid (J.out.step hb)
              clear hb sk
              have sk := bk_sk (show HO w _ ([_] ++ boxO k8 (bC ⟨md, st, rt, bu, fi, la⟩) :: _) from J.out) (TR _ J.out.below)
              refine hK.out _ _ sk (fun hHeld2 => ?_)
              clear hK K hHeld
              have hHeld := hHeld2
              clear hHeld2
              try simp only [Act.put, List.setIfInBounds_toArray, List.set_cons_zero, List.set_cons_succ]
              refine wpAnyH_take (i := 7) (oi := ({ dst := some 40, op := Go.Op.move (Go.Operand.tmp 47), type := 49, pos := "law.go:136", after := #[{ on := 6, ground := Go.Ground.data }], guard := none } : Oper)) (v := ?_) rfl (by kernel_rfl) (by kernel_rfl) (by kernel_rfl) (fun _ _ _ h => h) (Or.inl ⟨by kernel_rfl, ?_⟩) hHeld ?_
              rotate_left 1
              · (intro W hSw; (try dsimp only at hSw); go_simp; try with_reducible rfl)
              try simp only [Act.put, List.setIfInBounds_toArray, List.set_cons_zero, List.set_cons_succ]
              refine wpAnyH_take (i := 8) (oi := ({ dst := some 48, op := Go.Op.extract (Go.Operand.tmp 40) 0, type := 45, pos := "law.go:136", after := #[{ on := 7, ground := Go.Ground.data }], guard := none } : Oper)) (v := ?_) rfl (by kernel_rfl) (by kernel_rfl) (by kernel_rfl) (fun _ _ _ h => h) (Or.inl ⟨by kernel_rfl, ?_⟩) hHeld ?_
              rotate_left 1
              · (intro W hSw; (try dsimp only at hSw); go_simp; try with_reducible rfl)
              try simp only [Act.put, List.setIfInBounds_toArray, List.set_cons_zero, List.set_cons_succ]
              refine wpAnyH_take (i := 9) (oi := ({ dst := some 49, op := Go.Op.extract (Go.Operand.tmp 40) 1, type := 3, pos := "law.go:136", after := #[{ on := 7, ground := Go.Ground.data }, { on := 11, ground := Go.Ground.gcOnly Go.Departure.lateStores }], guard := none } : Oper)) (v := ?_) rfl (by kernel_rfl) (by kernel_rfl) (by kernel_rfl) (fun _ _ _ h => h) (Or.inl ⟨by kernel_rfl, ?_⟩) hHeld ?_
              rotate_left 1
              · (intro W hSw; (try dsimp only at hSw); go_simp; try with_reducible rfl)
              try simp only [Act.put, List.setIfInBounds_toArray, List.set_cons_zero, List.set_cons_succ]
              refine wpAnyH_ready (rs := [11]) (by kernel_rfl) (by simp) (AllReadyH.cons (o := ({ dst := none, op := Go.Op.store 45 (Go.Operand.tmp 10) (Go.Operand.tmp 48), type := 0, pos := "law.go:136", after := #[{ on := 10, ground := Go.Ground.data }, { on := 8, ground := Go.Ground.data }, { on := 6, ground := Go.Ground.chain }, { on := 0, ground := Go.Ground.phase }, { on := 1, ground := Go.Ground.phase }, { on := 2, ground := Go.Ground.phase }, { on := 3, ground := Go.Ground.phase }, { on := 4, ground := Go.Ground.phase }, { on := 5, ground := Go.Ground.phase }, { on := 6, ground := Go.Ground.phase }, { on := 7, ground := Go.Ground.phase }, { on := 8, ground := Go.Ground.phase }, { on := 9, ground := Go.Ground.textOnly Go.Departure.lateStores }, { on := 10, ground := Go.Ground.phase }], guard := none } : Oper)) rfl (fun K hK => ?_) AllReadyH.nil)
              obtain ⟨z0, z1, z2, z3, z4, z5, zf, zl⟩ := (show HO w u2 ([] ++ boxO kz _ :: _) from J.out).c6
              go_simp
              replace J := Lib.hid ((show HO w u2 ([] ++ boxO kz [.bool false, .bool false, .int .i64 0, .int .i64 0, .int .i64 0, .int .i64 0] :: _) from J.out).set6 (.bool xmd) (.bool xst) (.int .i64 xrt) (.int .i64 xbu) (.int .i64 xfi) (.int .i64 xla))
              clear z0 z1 z2 z3 z4 z5 zf zl sk
              have sk := bk_sk (show HO w _ ([_] ++ boxO k8 (bC ⟨md, st, rt, bu, fi, la⟩) :: _) from J.out) (TR _ J.out.below)
              refine hK.out _ _ sk (fun hHeld2 => ?_)
              clear hK K hHeld
              have hHeld := hHeld2
              clear hHeld2
              try simp only [Act.put, List.setIfInBounds_toArray, List.set_cons_zero, List.set_cons_succ]
              refine wpAnyH_take (i := 12) (oi := ({ dst := some 11, op := Go.Op.assign (Go.Operand.tmp 49), type := 3, pos := "law.go:136", after := #[{ on := 9, ground := Go.Ground.data }, { on := 11, ground := Go.Ground.chain }, { on := 0, ground := Go.Ground.phase }, { on := 1, ground := Go.Ground.phase }, { on := 2, ground := Go.Ground.phase }, { on := 3, ground := Go.Ground.phase }, { on := 4, ground := Go.Ground.phase }, { on := 5, ground := Go.Ground.phase }, { on := 6, ground := Go.Ground.phase }, { on := 7, ground := Go.Ground.phase }, { on := 8, ground := Go.Ground.phase }, { on := 9, ground := Go.Ground.phase }, { on := 10, ground := Go.Ground.phase }, { on := 11, ground := Go.Ground.phase }], guard := none } : Oper)) (v := ?_) rfl (by kernel_rfl) (by kernel_rfl) (by kernel_rfl) (fun _ _ _ h => h) (Or.inl ⟨by kernel_rfl, ?_⟩) hHeld ?_
              rotate_left 1
              · (intro W hSw; (try dsimp only at hSw); go_simp; try with_reducible rfl)
              try simp only [Act.put, List.setIfInBounds_toArray, List.set_cons_zero, List.set_cons_succ]
              refine wpAnyH_done (by kernel_rfl) ?_ _
              go_wp2_with fail
              go_meet
              case rel => exact ⟨kz, rfl, rfl, J⟩
          case rest =>
            obtain ⟨kz, rfl, rfl, J1⟩ := hcut
            clear J c0 c1 c2
            obtain ⟨z0, z1, z2, z3, z4, z5, zf, zl⟩ := (show HO w wc ([] ++ boxO kz _ :: _) from J1.out).c6
            obtain ⟨y0, y1, y2, y3, y4, y5, yf, yl⟩ := (show HO w wc ([_] ++ boxO k8 _ :: _) from J1.out).c6
            have J := Lib.hid (((show HO w wc ([_] ++ boxO k8 [_, _, _, _, _, _] :: _) from J1.out).set6 (.bool xmd) (.bool xst) (.int .i64 xrt) (.int .i64 xbu) (.int .i64 xfi) (.int .i64 xla)).tail)
            clear J1
            go_upto_region 12 with fail
            generalize (((((wc.setCell ⟨k8, 0, none⟩ (.bool xmd)).setCell ⟨k8, 1, none⟩ (.bool xst)).setCell ⟨k8, 2, none⟩ (.int .i64 xrt)).setCell ⟨k8, 3, none⟩ (.int .i64 xbu)).setCell ⟨k8, 4, none⟩ (.int .i64 xfi)).setCell ⟨k8, 5, none⟩ (.int .i64 xla) = w2 at *
            clear z0 z1 z2 z3 z4 z5 zf zl y0 y1 y2 y3 y4 y5 yf yl
            obtain ⟨c0, c1, c2⟩ := TR _ J.out.below
            have R1 : RB w _ (.pointer none) ⟨md, st, rt, bu, fi, la⟩ _ := (show HO w _ ([_] ++ objO RB w (.pointer none) ⟨md, st, rt, bu, fi, la⟩ _ :: _) from J.out).at
            go_wp2_with fail
            refine (KB.lvl (K.below HT.out J.out.below) R1 HB.out t ia).mono ?_
            rintro e wq ⟨Sq2, he, hr, hs, ht⟩; rw [HK.out] at he hr; obtain rfl := he; have J3 := Lib.hid ((show HO w _ ([_] ++ objO RB w (.pointer none) ⟨md, st, rt, bu, fi, la⟩ _ :: _) from J.out).turnB KB hr hs ht)
            clear hr hs ht R1 J
            go_wp2_with fail
            go_roundw
            case rel => exact ⟨i + 1, ⟨xmd, xst, xrt, xbu, xfi, xla⟩, _, by omega, by go_num, HB2, Lib.hid (HM2.out.trans HMD.out), J3⟩
            case measure =>
              unfold leftN
              simp [intOf]
              omega
        | false =>
          obtain ⟨⟨x, z⟩, hk⟩ : ∃ q, takeB ⟨md, st, rt, bu, fi, la⟩ t m = q := ⟨_, rfl⟩
          have D := Lib.hid (fun (W : World) => by have := rtake_any HB.out ia ib W; rw [hk] at this; exact this)
          have HB2 := Lib.hid (by have := takeB_ok HB.out ia m; rw [hk] at this; exact this)
          have HM2 := Lib.hid (by have := take_md ⟨md, st, rt, bu, fi, la⟩ t m; rw [hk] at this; exact this)
          have HK := Lib.hid hk
          obtain ⟨xmd, xst, xrt, xbu, xfi, xla⟩ := x
          dsimp only at D HB2 HM2
          have ez : (z != z) = false := by cases z <;> rfl
          clear hk
          go_upto_region 14 with fail
          go_cut [12, 13] from 60 to 74 (fun s12 s13 wx => ∃ kz, s12 = .pointer (some ⟨kz, 0, none⟩) ∧ s13 = .bool z ∧ Hid (HO w wx [boxO kz (bC ⟨xmd, xst, xrt, xbu, xfi, xla⟩), boxO k8 (bC ⟨md, st, rt, bu, fi, la⟩), objO RB w (.pointer none) ⟨md, st, rt, bu, fi, la⟩ Sq]))
          case first =>
            replace J := Lib.hid J.out.drew
            have sk := bk_sk (show HO w _ ([] ++ boxO k8 (bC ⟨md, st, rt, bu, fi, la⟩) :: _) from J.out) (TR _ J.out.below)
            clear c0 c1 c2
            refine wp_region_held_drew (S := (fun W => (W.cell? ⟨k8, 0, none⟩ = some (.bool md) ∧ W.cell? ⟨k8, 1, none⟩ = some (.bool st) ∧ W.cell? ⟨k8, 2, none⟩ = some (.int .i64 rt) ∧ W.cell? ⟨k8, 3, none⟩ = some (.int .i64 bu) ∧ W.cell? ⟨k8, 4, none⟩ = some (.int .i64 fi) ∧ W.cell? ⟨k8, 5, none⟩ = some (.int .i64 la)) ∧ (W.cell? ⟨bb, off + i * 3, none⟩ = some (.int .i64 t) ∧ W.cell? ⟨bb, off + i * 3 + 1, none⟩ = some (.int .i64 m)))) (by kernel_rfl) sk (fun hHeld => ?_)
            generalize wr.drew = u0 at *
            refine wpAnyH_take (i := 0) (oi := ({ dst := some 61, op := Go.Op.load 45 (Go.Operand.tmp 8), type := 45, pos := "law.go:142", after := #[], guard := none } : Oper)) (v := ?_) rfl (by kernel_rfl) (by kernel_rfl) (by kernel_rfl) (fun _ _ _ h => h) (Or.inl ⟨by kernel_rfl, ?_⟩) hHeld ?_
            rotate_left 1
            · (intro W hSw; (try dsimp only at hSw); go_simp; try with_reducible rfl)
            try simp only [Act.put, List.setIfInBounds_toArray, List.set_cons_zero, List.set_cons_succ]
            refine wpAnyH_take (i := 1) (oi := ({ dst := some 62, op := Go.Op.move (Go.Operand.tmp 2), type := 41, pos := "law.go:142", after := #[], guard := none } : Oper)) (v := ?_) rfl (by kernel_rfl) (by kernel_rfl) (by kernel_rfl) (fun _ _ _ h => h) (Or.inl ⟨by kernel_rfl, ?_⟩) hHeld ?_
            rotate_left 1
            · (intro W hSw; (try dsimp only at hSw); go_simp; try with_reducible rfl)
            try simp only [Act.put, List.setIfInBounds_toArray, List.set_cons_zero, List.set_cons_succ]
            refine wpAnyH_take (i := 2) (oi := ({ dst := some 63, op := Go.Op.move (Go.Operand.tmp 9), type := 3, pos := "law.go:142", after := #[], guard := none } : Oper)) (v := ?_) rfl (by kernel_rfl) (by kernel_rfl) (by kernel_rfl) (fun _ _ _ h => h) (Or.inl ⟨by kernel_rfl, ?_⟩) hHeld ?_
            rotate_left 1
            · (intro W hSw; (try dsimp only at hSw); go_simp; try with_reducible rfl)
            try simp only [Act.put, List.setIfInBounds_toArray, List.set_cons_zero, List.set_cons_succ]
            refine wpAnyH_take (i := 3) (oi := ({ dst := some 64, op := Go.Op.indexAddr 41 (Go.Operand.tmp 62) (Go.Operand.tmp 63), type := 0, pos := "law.go:142", after := #[{ on := 1, ground := Go.Ground.data }, { on := 2, ground := Go.Ground.data }], guard := none } : Oper)) (v := ?_) rfl (by kernel_rfl) (by kernel_rfl) (by kernel_rfl) (fun _ _ _ h => h) (Or.inl ⟨by kernel_rfl, ?_⟩) hHeld ?_
            rotate_left 1
            · (intro W hSw; (try dsimp only at hSw); go_simp; try with_reducible rfl)
            try simp only [Act.put, List.setIfInBounds_toArray, List.set_cons_zero, List.set_cons_succ]
            refine wpAnyH_take (i := 4) (oi := ({ dst := some 65, op := Go.Op.fieldAddr 48 (Go.Operand.tmp 64) 0, type := 0, pos := "law.go:142", after := #[{ on := 3, ground := Go.Ground.data }], guard := none } : Oper)) (v := ?_) rfl (by kernel_rfl) (by kernel_rfl) (by kernel_rfl) (fun _ _ _ h => h) (Or.inl ⟨by kernel_rfl, ?_⟩) hHeld ?_
            rotate_left 1
            · (intro W hSw; (try dsimp only at hSw); go_simp; try with_reducible rfl)
            try simp only [Act.put, List.setIfInBounds_toArray, List.set_cons_zero, List.set_cons_succ]
            refine wpAnyH_take (i := 5) (oi := ({ dst := some 66, op := Go.Op.load 3 (Go.Operand.tmp 65), type := 3, pos := "law.go:142", after := #[{ on := 4, ground := Go.Ground.data }], guard := none } : Oper)) (v := ?_) rfl (by kernel_rfl) (by kernel_rfl) (by kernel_rfl) (fun _ _ _ h => h) (Or.inl ⟨by kernel_rfl, ?_⟩) hHeld ?_
            rotate_left 1
            · (intro W hSw; (try dsimp only at hSw); go_simp; try with_reducible rfl)
            try simp only [Act.put, List.setIfInBounds_toArray, List.set_cons_zero, List.set_cons_succ]
            refine wpAnyH_take (i := 6) (oi := ({ dst := some 67, op := Go.Op.move (Go.Operand.tmp 2), type := 41, pos := "law.go:142", after := #[], guard := none } : Oper)) (v := ?_) rfl (by kernel_rfl) (by kernel_rfl) (by kernel_rfl) (fun _ _ _ h => h) (Or.inl ⟨by kernel_rfl, ?_⟩) hHeld ?_
            rotate_left 1
            · (intro W hSw; (try dsimp only at hSw); go_simp; try with_reducible rfl)
            try simp only [Act.put, List.setIfInBounds_toArray, List.set_cons_zero, List.set_cons_succ]
            refine wpAnyH_take (i := 7) (oi := ({ dst := some 68, op := Go.Op.move (Go.Operand.tmp 9), type := 3, pos := "law.go:142", after := #[], guard := none } : Oper)) (v := ?_) rfl (by kernel_rfl) (by kernel_rfl) (by kernel_rfl) (fun _ _ _ h => h) (Or.inl ⟨by kernel_rfl, ?_⟩) hHeld ?_
            rotate_left 1
            · (intro W hSw; (try dsimp only at hSw); go_simp; try with_reducible rfl)
            try simp only [Act.put, List.setIfInBounds_toArray, List.set_cons_zero, List.set_cons_succ]
            refine wpAnyH_take (i := 8) (oi := ({ dst := some 69, op := Go.Op.indexAddr 41 (Go.Operand.tmp 67) (Go.Operand.tmp 68), type := 0, pos := "law.go:142", after := #[{ on := 6, ground := Go.Ground.data }, { on := 7, ground := Go.Ground.data }], guard := none } : Oper)) (v := ?_) rfl (by kernel_rfl) (by kernel_rfl) (by kernel_rfl) (fun _ _ _ h => h) (Or.inl ⟨by kernel_rfl, ?_⟩) hHeld ?_
            rotate_left 1
            · (intro W hSw; (try dsimp only at hSw); go_simp; try with_reducible rfl)
            try simp only [Act.put, List.setIfInBounds_toArray, List.set_cons_zero, List.set_cons_succ]
            refine wpAnyH_take (i := 9) (oi := ({ dst := some 70, op := Go.Op.fieldAddr 48 (Go.Operand.tmp 69) 1, type := 0, pos := "law.go:142", after := #[{ on := 8, ground := Go.Ground.data }], guard := none } : Oper)) (v := ?_) rfl (by kernel_rfl) (by kernel_rfl) (by kernel_rfl) (fun _ _ _ h => h) (Or.inl ⟨by kernel_rfl, ?_⟩) hHeld ?_
            rotate_left 1
            · (intro W hSw; (try dsimp only at hSw); go_simp; try with_reducible rfl)
            try simp only [Act.put, List.setIfInBounds_toArray, List.set_cons_zero, List.set_cons_succ]
            refine wpAnyH_take (i := 10) (oi := ({ dst := some 71, op := Go.Op.load 3 (Go.Operand.tmp 70), type := 3, pos := "law.go:142", after := #[{ on := 9, ground := Go.Ground.data }], guard := none } : Oper)) (v := ?_) rfl (by kernel_rfl) (by kernel_rfl) (by kernel_rfl) (fun _ _ _ h => h) (Or.inl ⟨by kernel_rfl, ?_⟩) hHeld ?_
            rotate_left 1
            · (intro W hSw; (try dsimp only at hSw); go_simp; try with_reducible rfl)
            try simp only [Act.put, List.setIfInBounds_toArray, List.set_cons_zero, List.set_cons_succ]
            refine wpAnyH_ready (rs := [11, 15]) (by kernel_rfl) (by simp) (AllReadyH.cons (o := ({ dst := some 72, op := Go.Op.call { callee := Go.Callee.value (Go.Operand.func 25), args := #[Go.Operand.tmp 61, Go.Operand.tmp 66, Go.Operand.tmp 71], argTypes := #[45, 3, 3] }, type := 51, pos := "law.go:142", after := #[{ on := 0, ground := Go.Ground.data }, { on := 5, ground := Go.Ground.data }, { on := 10, ground := Go.Ground.data }], guard := none } : Oper)) rfl (fun K hK => ?_) (AllReadyH.cons (o := ({ dst := some 12, op := Go.Op.alloc 45, type := 0, pos := "law.go:142", after := #[], guard := none } : Oper)) rfl (fun K hK => ?_) AllReadyH.nil))
            · go_simp
              refine (D.out _).mono ?_
              rintro e u1 ⟨rfl, hb⟩
              replace J := Lib.hid (J.out.step hb)
              clear hb sk
              have sk := bk_sk (show HO w _ ([] ++ boxO k8 (bC ⟨md, st, rt, bu, fi, la⟩) :: _) from J.out) (TR _ J.out.below)
              refine hK.out _ _ sk (fun hHeld2 => ?_)
              clear hK K hHeld
              have hHeld := hHeld2
              clear hHeld2
              try simp only [Act.put, List.setIfInBounds_toArray, List.set_cons_zero, List.set_cons_succ]
              refine wpAnyH_take (i := 12) (oi := ({ dst := some 60, op := Go.Op.move (Go.Operand.tmp 72), type := 51, pos := "law.go:142", after := #[{ on := 11, ground := Go.Ground.data }], guard := none } : Oper)) (v := ?_) rfl (by kernel_rfl) (by kernel_rfl) (by kernel_rfl) (fun _ _ _ h => h) (Or.inl ⟨by kernel_rfl, ?_⟩) hHeld ?_
              rotate_left 1
              · (intro W hSw; (try dsimp only at hSw); go_simp; try with_reducible rfl)
              try simp only [Act.put, List.setIfInBounds_toArray, List.set_cons_zero, List.set_cons_succ]
              refine wpAnyH_take (i := 13) (oi := ({ dst := some 73, op := Go.Op.extract (Go.Operand.tmp 60) 0, type := 45, pos := "law.go:142", after := #[{ on := 12, ground := Go.Ground.data }], guard := none } : Oper)) (v := ?_) rfl (by kernel_rfl) (by kernel_rfl) (by kernel_rfl) (fun _ _ _ h => h) (Or.inl ⟨by kernel_rfl, ?_⟩) hHeld ?_
              rotate_left 1
              · (intro W hSw; (try dsimp only at hSw); go_simp; try with_reducible rfl)
              try simp only [Act.put, List.setIfInBounds_toArray, List.set_cons_zero, List.set_cons_succ]
              refine wpAnyH_take (i := 14) (oi := ({ dst := some 74, op := Go.Op.extract (Go.Operand.tmp 60) 1, type := 4, pos := "law.go:142", after := #[{ on := 12, ground := Go.Ground.data }, { on := 16, ground := Go.Ground.gcOnly Go.Departure.lateStores }], guard := none } : Oper)) (v := ?_) rfl (by kernel_rfl) (by kernel_rfl) (by kernel_rfl) (fun _ _ _ h => h) (Or.inl ⟨by kernel_rfl, ?_⟩) hHeld ?_
              rotate_left 1
              · (intro W hSw; (try dsimp only at hSw); go_simp; try with_reducible rfl)
              try simp only [Act.put, List.setIfInBounds_toArray, List.set_cons_zero, List.set_cons_succ]
              refine wpAnyH_ready (rs := [15]) (by kernel_rfl) (by simp) (AllReadyH.cons (o := ({ dst := some 12, op := Go.Op.alloc 45, type := 0, pos := "law.go:142", after := #[], guard := none } : Oper)) rfl (fun K hK => ?_) AllReadyH.nil)
              go_simp
              replace J := Lib.hid (J.out.alloc [.bool false, .bool false, .int .i64 0, .int .i64 0, .int .i64 0, .int .i64 0] 45)
              generalize u1.alloc (.cells #[.bool false, .bool false, .int .i64 0, .int .i64 0, .int .i64 0, .int .i64 0] 45) = u2 at *
              generalize u1.heap.size = kz at *
              clear sk
              have sk := bk_sk (show HO w _ ([_] ++ boxO k8 (bC ⟨md, st, rt, bu, fi, la⟩) :: _) from J.out) (TR _ J.out.below)
              refine hK.out _ _ sk (fun hHeld2 => ?_)
              clear hK K hHeld
              have hHeld := hHeld2
              clear hHeld2
              try simp only [Act.put, List.setIfInBounds_toArray, List.set_cons_zero, List.set_cons_succ]
              refine wpAnyH_ready (rs := [16]) (by kernel_rfl) (by simp) (AllReadyH.cons (o := ({ dst := none, op := Go.Op.store 45 (Go.Operand.tmp 12) (Go.Operand.tmp 73), type := 0, pos := "law.go:142", after := #[{ on := 15, ground := Go.Ground.data }, { on := 13, ground := Go.Ground.data }, { on := 11, ground := Go.Ground.chain }, { on := 0, ground := Go.Ground.phase }, { on := 1, ground := Go.Ground.phase }, { on := 2, ground := Go.Ground.phase }, { on := 3, ground := Go.Ground.phase }, { on := 4, ground := Go.Ground.phase }, { on := 5, ground := Go.Ground.phase }, { on := 6, ground := Go.Ground.phase }, { on := 7, ground := Go.Ground.phase }, { on := 8, ground := Go.Ground.phase }, { on := 9, ground := Go.Ground.phase }, { on := 10, ground := Go.Ground.phase }, { on := 11, ground := Go.Ground.phase }, { on := 12, ground := Go.Ground.phase }, { on := 13, ground := Go.Ground.phase }, { on := 14, ground := Go.Ground.textOnly Go.Departure.lateStores }, { on := 15, ground := Go.Ground.phase }], guard := none } : Oper)) rfl (fun K hK => ?_) AllReadyH.nil)
              obtain ⟨z0, z1, z2, z3, z4, z5, zf, zl⟩ := (show HO w u2 ([] ++ boxO kz _ :: _) from J.out).c6
              go_simp
              replace J := Lib.hid ((show HO w u2 ([] ++ boxO kz [.bool false, .bool false, .int .i64 0, .int .i64 0, .int .i64 0, .int .i64 0] :: _) from J.out).set6 (.bool xmd) (.bool xst) (.int .i64 xrt) (.int .i64 xbu) (.int .i64 xfi) (.int .i64 xla))
              clear z0 z1 z2 z3 z4 z5 zf zl sk
              have sk := bk_sk (show HO w _ ([_] ++ boxO k8 (bC ⟨md, st, rt, bu, fi, la⟩) :: _) from J.out) (TR _ J.out.below)
              refine hK.out _ _ sk (fun hHeld2 => ?_)
              clear hK K hHeld
              have hHeld := hHeld2
              clear hHeld2
              try simp only [Act.put, List.setIfInBounds_toArray, List.set_cons_zero, List.set_cons_succ]
              refine wpAnyH_take (i := 17) (oi := ({ dst := some 13, op := Go.Op.assign (Go.Operand.tmp 74), type := 4, pos := "law.go:142", after := #[{ on := 14, ground := Go.Ground.data }, { on := 16, ground := Go.Ground.chain }, { on := 0, ground := Go.Ground.phase }, { on := 1, ground := Go.Ground.phase }, { on := 2, ground := Go.Ground.phase }, { on := 3, ground := Go.Ground.phase }, { on := 4, ground := Go.Ground.phase }, { on := 5, ground := Go.Ground.phase }, { on := 6, ground := Go.Ground.phase }, { on := 7, ground := Go.Ground.phase }, { on := 8, ground := Go.Ground.phase }, { on := 9, ground := Go.Ground.phase }, { on := 10, ground := Go.Ground.phase }, { on := 11, ground := Go.Ground.phase }, { on := 12, ground := Go.Ground.phase }, { on := 13, ground := Go.Ground.phase }, { on := 14, ground := Go.Ground.phase }, { on := 15, ground := Go.Ground.phase }, { on := 16, ground := Go.Ground.phase }], guard := none } : Oper)) (v := ?_) rfl (by kernel_rfl) (by kernel_rfl) (by kernel_rfl) (fun _ _ _ h => h) (Or.inl ⟨by kernel_rfl, ?_⟩) hHeld ?_
              rotate_left 1
              · (intro W hSw; (try dsimp only at hSw); go_simp; try with_reducible rfl)
              try simp only [Act.put, List.setIfInBounds_toArray, List.set_cons_zero, List.set_cons_succ]
              refine wpAnyH_done (by kernel_rfl) ?_ _
              go_wp2_with fail
              go_meet
              case rel => exact ⟨kz, rfl, rfl, J⟩
            · go_simp
              replace J := Lib.hid (J.out.alloc [.bool false, .bool false, .int .i64 0, .int .i64 0, .int .i64 0, .int .i64 0] 45)
              generalize u0.alloc (.cells #[.bool false, .bool false, .int .i64 0, .int .i64 0, .int .i64 0, .int .i64 0] 45) = u1 at *
              generalize u0.heap.size = kz at *
              clear sk
              have sk := bk_sk (show HO w _ ([_] ++ boxO k8 (bC ⟨md, st, rt, bu, fi, la⟩) :: _) from J.out) (TR _ J.out.below)
              refine hK.out _ _ sk (fun hHeld2 => ?_)
              clear hK K hHeld
              have hHeld := hHeld2
              clear hHeld2
              try simp only [Act.put, List.setIfInBounds_toArray, List.set_cons_zero, List.set_cons_succ]
              refine wpAnyH_ready (rs := [11]) (by kernel_rfl) (by simp) (AllReadyH.cons (o := ({ dst := some 72, op := Go.Op.call { callee := Go.Callee.value (Go.Operand.func 25), args := #[Go.Operand.tmp 61, Go.Operand.tmp 66, Go.Operand.tmp 71], argTypes := #[45, 3, 3] }, type := 51, pos := "law.go:142", after := #[{ on := 0, ground := Go.Ground.data }, { on := 5, ground := Go.Ground.data }, { on := 10, ground := Go.Ground.data }], guard := none } : Oper)) rfl (fun K hK => ?_) AllReadyH.nil)
              go_simp
              refine (D.out _).mono ?_
              rintro e u2 ⟨rfl, hb⟩
              replace J := Lib.hid (J.out.step hb)
              clear hb sk
              have sk := bk_sk (show HO w _ ([_] ++ boxO k8 (bC ⟨md, st, rt, bu, fi, la⟩) :: _) from J.out) (TR _ J.out.below)
              refine hK.out _ _ sk (fun hHeld2 => ?_)
              clear hK K hHeld
              have hHeld := hHeld2
              clear hHeld2
              try simp only [Act.put, List.setIfInBounds_toArray, List.set_cons_zero, List.set_cons_succ]
              refine wpAnyH_take (i := 12) (oi := ({ dst := some 60, op := Go.Op.move (Go.Operand.tmp 72), type := 51, pos := "law.go:142", after := #[{ on := 11, ground := Go.Ground.data }], guard := none } : Oper)) (v := ?_) rfl (by kernel_rfl) (by kernel_rfl) (by kernel_rfl) (fun _ _ _ h => h) (Or.inl ⟨by kernel_rfl, ?_⟩) hHeld ?_
              rotate_left 1
              · (intro W hSw; (try dsimp only at hSw); go_simp; try with_reducible rfl)
              try simp only [Act.put, List.setIfInBounds_toArray, List.set_cons_zero, List.set_cons_succ]
              refine wpAnyH_take (i := 13) (oi := ({ dst := some 73, op := Go.Op.extract (Go.Operand.tmp 60) 0, type := 45, pos := "law.go:142", after := #[{ on := 12, ground := Go.Ground.data }], guard := none } : Oper)) (v := ?_) rfl (by kernel_rfl) (by kernel_rfl) (by kernel_rfl) (fun _ _ _ h => h) (Or.inl ⟨by kernel_rfl, ?_⟩) hHeld ?_
              rotate_left 1
              · (intro W hSw; (try dsimp only at hSw); go_simp; try with_reducible rfl)
              try simp only [Act.put, List.setIfInBounds_toArray, List.set_cons_zero, List.set_cons_succ]
              refine wpAnyH_take (i := 14) (oi := ({ dst := some 74, op := Go.Op.extract (Go.Operand.tmp 60) 1, type := 4, pos := "law.go:142", after := #[{ on := 12, ground := Go.Ground.data }, { on := 16, ground := Go.Ground.gcOnly Go.Departure.lateStores }], guard := none } : Oper)) (v := ?_) rfl (by kernel_rfl) (by kernel_rfl) (by kernel_rfl) (fun _ _ _ h => h) (Or.inl ⟨by kernel_rfl, ?_⟩) hHeld ?_
              rotate_left 1
              · (intro W hSw; (try dsimp only at hSw); go_simp; try with_reducible rfl)
              try simp only [Act.put, List.setIfInBounds_toArray, List.set_cons_zero, List.set_cons_succ]
              refine wpAnyH_ready (rs := [16]) (by kernel_rfl) (by simp) (AllReadyH.cons (o := ({ dst := none, op := Go.Op.store 45 (Go.Operand.tmp 12) (Go.Operand.tmp 73), type := 0, pos := "law.go:142", after := #[{ on := 15, ground := Go.Ground.data }, { on := 13, ground := Go.Ground.data }, { on := 11, ground := Go.Ground.chain }, { on := 0, ground := Go.Ground.phase }, { on := 1, ground := Go.Ground.phase }, { on := 2, ground := Go.Ground.phase }, { on := 3, ground := Go.Ground.phase }, { on := 4, ground := Go.Ground.phase }, { on := 5, ground := Go.Ground.phase }, { on := 6, ground := Go.Ground.phase }, { on := 7, ground := Go.Ground.phase }, { on := 8, ground := Go.Ground.phase }, { on := 9, ground := Go.Ground.phase }, { on := 10, ground := Go.Ground.phase }, { on := 11, ground := Go.Ground.phase }, { on := 12, ground := Go.Ground.phase }, { on := 13, ground := Go.Ground.phase }, { on := 14, ground := Go.Ground.textOnly Go.Departure.lateStores }, { on := 15, ground := Go.Ground.phase }], guard := none } : Oper)) rfl (fun K hK => ?_) AllReadyH.nil)
              obtain ⟨z0, z1, z2, z3, z4, z5, zf, zl⟩ := (show HO w u2 ([] ++ boxO kz _ :: _) from J.out).c6
              go_simp
              replace J := Lib.hid ((show HO w u2 ([] ++ boxO kz [.bool false, .bool false, .int .i64 0, .int .i64 0, .int .i64 0, .int .i64 0] :: _) from J.out).set6 (.bool xmd) (.bool xst) (.int .i64 xrt) (.int .i64 xbu) (.int .i64 xfi) (.int .i64 xla))
              clear z0 z1 z2 z3 z4 z5 zf zl sk
              have sk := bk_sk (show HO w _ ([_] ++ boxO k8 (bC ⟨md, st, rt, bu, fi, la⟩) :: _) from J.out) (TR _ J.out.below)
              refine hK.out _ _ sk (fun hHeld2 => ?_)
              clear hK K hHeld
              have hHeld := hHeld2
              clear hHeld2
              try simp only [Act.put, List.setIfInBounds_toArray, List.set_cons_zero, List.set_cons_succ]
              refine wpAnyH_take (i := 17) (oi := ({ dst := some 13, op := Go.Op.assign (Go.Operand.tmp 74), type := 4, pos := "law.go:142", after := #[{ on := 14, ground := Go.Ground.data }, { on := 16, ground := Go.Ground.chain }, { on := 0, ground := Go.Ground.phase }, { on := 1, ground := Go.Ground.phase }, { on := 2, ground := Go.Ground.phase }, { on := 3, ground := Go.Ground.phase }, { on := 4, ground := Go.Ground.phase }, { on := 5, ground := Go.Ground.phase }, { on := 6, ground := Go.Ground.phase }, { on := 7, ground := Go.Ground.phase }, { on := 8, ground := Go.Ground.phase }, { on := 9, ground := Go.Ground.phase }, { on := 10, ground := Go.Ground.phase }, { on := 11, ground := Go.Ground.phase }, { on := 12, ground := Go.Ground.phase }, { on := 13, ground := Go.Ground.phase }, { on := 14, ground := Go.Ground.phase }, { on := 15, ground := Go.Ground.phase }, { on := 16, ground := Go.Ground.phase }], guard := none } : Oper)) (v := ?_) rfl (by kernel_rfl) (by kernel_rfl) (by kernel_rfl) (fun _ _ _ h => h) (Or.inl ⟨by kernel_rfl, ?_⟩) hHeld ?_
              rotate_left 1
              · (intro W hSw; (try dsimp only at hSw); go_simp; try with_reducible rfl)
              try simp only [Act.put, List.setIfInBounds_toArray, List.set_cons_zero, List.set_cons_succ]
              refine wpAnyH_done (by kernel_rfl) ?_ _
              go_wp2_with fail
              go_meet
              case rel => exact ⟨kz, rfl, rfl, J⟩
          case rest =>
            obtain ⟨kz, rfl, rfl, J1⟩ := hcut
            clear J c0 c1 c2
            obtain ⟨z0, z1, z2, z3, z4, z5, zf, zl⟩ := (show HO w wc ([] ++ boxO kz _ :: _) from J1.out).c6
            obtain ⟨y0, y1, y2, y3, y4, y5, yf, yl⟩ := (show HO w wc ([_] ++ boxO k8 _ :: _) from J1.out).c6
            have J := Lib.hid (((show HO w wc ([_] ++ boxO k8 [_, _, _, _, _, _] :: _) from J1.out).set6 (.bool xmd) (.bool xst) (.int .i64 xrt) (.int .i64 xbu) (.int .i64 xfi) (.int .i64 xla)).tail)
            clear J1
            go_upto_region 16 with fail
            generalize (((((wc.setCell ⟨k8, 0, none⟩ (.bool xmd)).setCell ⟨k8, 1, none⟩ (.bool xst)).setCell ⟨k8, 2, none⟩ (.int .i64 xrt)).setCell ⟨k8, 3, none⟩ (.int .i64 xbu)).setCell ⟨k8, 4, none⟩ (.int .i64 xfi)).setCell ⟨k8, 5, none⟩ (.int .i64 xla) = w2 at *
            clear z0 z1 z2 z3 z4 z5 zf zl y0 y1 y2 y3 y4 y5 yf yl
            obtain ⟨c0, c1, c2⟩ := TR _ J.out.below
            have R1 : RB w _ (.pointer none) ⟨md, st, rt, bu, fi, la⟩ _ := (show HO w _ ([_] ++ objO RB w (.pointer none) ⟨md, st, rt, bu, fi, la⟩ _ :: _) from J.out).at
            have J4 := J
            replace J := Lib.hid J.out.drew
            clear R1
            have R1 : RB w _ (.pointer none) ⟨md, st, rt, bu, fi, la⟩ _ := (show HO w _ ([_] ++ objO RB w (.pointer none) ⟨md, st, rt, bu, fi, la⟩ _ :: _) from J.out).at
            have sk := And.intro c0 c1
            go_region_held3 (fun W => W.cell? ⟨bb, off + i * 3, none⟩ = some (.int .i64 t) ∧ W.cell? ⟨bb, off + i * 3 + 1, none⟩ = some (.int .i64 m))
              (first
                | exact sk
                | go_keep)
              (first
                | (go_at_call 26; (with_reducible refine (KB.take (K.below HT.out J.out.below) R1 HB.out t m ia ib).mono ?_); rintro e wq ⟨Sq2, he, hr, hs, ht⟩; rw [HK.out] at he hr; obtain rfl := he; have J3 := Lib.hid ((show HO w _ ([_] ++ objO RB w (.pointer none) ⟨md, st, rt, bu, fi, la⟩ _ :: _) from J.out).turnB KB hr hs ht); clear sk; have sk := And.intro (TR _ J3.out.below).1 (TR _ J3.out.below).2.1; clear hr hs ht R1 J)
                | fail)
            go_wp2_with fail
            go_roundw
            case rel => exact ⟨i + 1, ⟨xmd, xst, xrt, xbu, xfi, xla⟩, _, by omega, by go_num, HB2, Lib.hid (HM2.out.trans HMD.out), J3⟩
            case measure =>
              unfold leftN
              simp [intOf]
              omega
      · obtain rfl : n = i := by omega
        go_wp2_with fail
        refine (EX _ J.out.below).out.mono ?_
        rintro e wq2 ⟨rfl, hb⟩
        replace J := Lib.hid (J.out.step hb)
        clear hb
        go_wp2_with fail
        go_ret
        exact ⟨rfl, J.out.below⟩
end

end Go.Proofs.Ytkehdaahlfkiiaa
