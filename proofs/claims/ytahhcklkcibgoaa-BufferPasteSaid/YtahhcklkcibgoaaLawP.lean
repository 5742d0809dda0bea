/-
  The walk of the law BufferPaste.
-/
import Derived.Test.YtahhcklkcibgoaaZed
import Derived.Deep.DeepCutAuto
namespace Go.Proofs.Ytahhcklkcibgoaa
open Go.RowKit Mem

def op1 : Oper := { dst := some 30, op := Go.Op.call { callee := Go.Callee.value (Go.Operand.func 30), args := #[Go.Operand.tmp 29], argTypes := #[24] }, type := 24, pos := "law.go:114", after := #[{ on := 0, ground := Go.Ground.data }], guard := none }
def op3 : Oper := { dst := some 32, op := Go.Op.call { callee := Go.Callee.value (Go.Operand.func 30), args := #[Go.Operand.tmp 31], argTypes := #[24] }, type := 24, pos := "law.go:114", after := #[{ on := 2, ground := Go.Ground.data }, { on := 1, ground := Go.Ground.chain }], guard := none }
def op4 : Oper := { dst := some 9, op := Go.Op.alloc 24, type := 0, pos := "law.go:114", after := #[], guard := none }
def op5 : Oper := { dst := some 10, op := Go.Op.alloc 24, type := 0, pos := "law.go:114", after := #[], guard := none }
def op6 : Oper := { dst := none, op := Go.Op.store 24 (Go.Operand.tmp 9) (Go.Operand.tmp 30), type := 0, pos := "law.go:114", after := #[{ on := 4, ground := Go.Ground.data }, { on := 1, ground := Go.Ground.data }, { on := 3, ground := Go.Ground.chain }, { on := 0, ground := Go.Ground.phase }, { on := 1, ground := Go.Ground.phase }, { on := 2, ground := Go.Ground.textOnly Go.Departure.lateStores }, { on := 3, ground := Go.Ground.textOnly Go.Departure.lateStoresUnsure }, { on := 4, ground := Go.Ground.phase }, { on := 5, ground := Go.Ground.phase }], guard := none }
def op7 : Oper := { dst := none, op := Go.Op.store 24 (Go.Operand.tmp 10) (Go.Operand.tmp 32), type := 0, pos := "law.go:114", after := #[{ on := 5, ground := Go.Ground.data }, { on := 3, ground := Go.Ground.data }, { on := 6, ground := Go.Ground.chain }, { on := 0, ground := Go.Ground.phase }, { on := 1, ground := Go.Ground.phase }, { on := 2, ground := Go.Ground.phase }, { on := 3, ground := Go.Ground.phase }, { on := 4, ground := Go.Ground.phase }, { on := 5, ground := Go.Ground.phase }, { on := 6, ground := Go.Ground.phase }], guard := none }





set_option maxRecDepth 100000 in
set_option maxHeartbeats 40000000 in
theorem paste_walk (a b c d x y : Int) {v u : Value} {l m : List Px} {w : World} (h1 : Pxs w v l) (h2 : Pxs w u m) (hlb : ∀ p ∈ l, Byt p) (hmb : ∀ p ∈ m, Byt p) : Calls Try.prog 8 #[.agg #[.int .i64 a, .int .i64 b, v], .agg #[.int .i64 c, .int .i64 d, u], .agg #[.int .i64 x, .int .i64 y]] w (Says true w) := by
  have H1 := Lib.hid h1
  have H2 := Lib.hid h2
  obtain ⟨A, n, rfl, _⟩ := h1.shape
  obtain ⟨A', n', rfl, _⟩ := h2.shape
  have J : Hid (HeldZ w _ _ []) := Lib.hid (heldL3 w a b (.slice A l.length n) c d (.slice A' m.length n') x y h1 h2).held.toZ
  have C14 := fun W => Lib.hid (example_any W)
  have HB := Lib.hid hlb
  have HB' := Lib.hid hmb
  by_cases hs : l.length ≤ 400
  · have C13 := fun W => Lib.hid (few_any hs a b A n W)
    by_cases hs' : m.length ≤ 400
    · have C13' := fun W => Lib.hid (few_any hs' c d A' n' W)
      have C30 := fun W (hb : Below w.heap.size w W) => Lib.hid (lclone_row a b (H1.out.below hb) (by omega))
      have C30' := fun W (hb : Below w.heap.size w W) => Lib.hid (lclone_row c d (H2.out.below hb) (by omega))
      obtain ⟨ln, hln⟩ : ∃ ln, l.length = ln := ⟨_, rfl⟩
      obtain ⟨lm, hlm⟩ : ∃ lm, m.length = lm := ⟨_, rfl⟩
      have HLN := Lib.hid hln
      have HLM := Lib.hid hlm
      rw [hln] at J C13 C30 H1 ⊢
      rw [hlm] at J C13' C30' H2 ⊢
      clear h1 h2 hlb hmb hs hs' hln hlm
      go_enter Try.func8, Try.ntmps8
      go_wp2_with fail
      refine (C13 _).out.mono ?_
      rintro e wq ⟨rfl, hb⟩
      replace J := Lib.hid (J.out.step hb)
      clear hb
      obtain ⟨_, _, _, b0, b1, b2, _, _⟩ := J.out.held.b332
      go_wp2_with fail
      refine (C13' _).out.mono ?_
      rintro e wq ⟨rfl, hb⟩
      replace J := Lib.hid (J.out.step hb)
      clear hb
      clear b0 b1 b2 C13 C13'
      obtain ⟨_, _, _, _, _, _, b0, b1⟩ := J.out.held.b332
      go_wp2_with fail
      go_quiet (fail)
      clear b0 b1
      replace J := Lib.hid (J.out.step (below_draws (Below.refl _ _) nq))
      generalize World.drewN _ nq = wz at *
      go_upto_region 4 with fail
      go_cut [9, 10] from 29 to 32 (fun s9 s10 wx => ∃ M N A9 A8 c9 c8, s9 = .pointer (some ⟨M, 0, none⟩) ∧ s10 = .pointer (some ⟨N, 0, none⟩) ∧ Hid (HeldQ w wx (some (M, [.int .i64 a, .int .i64 b, .slice A9 ln c9])) (some (N, [.int .i64 c, .int .i64 d, .slice A8 lm c8])) [(w.heap.size + 1 + 1, [.int .i64 x, .int .i64 y]), (w.heap.size + 1, [.int .i64 c, .int .i64 d, .slice A' lm n']), (w.heap.size, [.int .i64 a, .int .i64 b, .slice A ln n])] [(.slice A8 lm c8, m), (.slice A9 ln c9, l)]))
      case first =>
        replace J : Hid (HeldQ w wz.drew none none [(w.heap.size + 1 + 1, [.int .i64 x, .int .i64 y]), (w.heap.size + 1, [.int .i64 c, .int .i64 d, .slice A' lm n']), (w.heap.size, [.int .i64 a, .int .i64 b, .slice A ln n])] []) := Lib.hid J.out.drew
        have sk := J.out.rest.b332
        refine wp_region_held_drew (S := (fun W => W.cell? ⟨w.heap.size, 0, none⟩ = some (.int .i64 a) ∧ W.cell? ⟨w.heap.size, 1, none⟩ = some (.int .i64 b) ∧ W.cell? ⟨w.heap.size, 2, none⟩ = some (.slice A ln n) ∧ W.cell? ⟨w.heap.size + 1, 0, none⟩ = some (.int .i64 c) ∧ W.cell? ⟨w.heap.size + 1, 1, none⟩ = some (.int .i64 d) ∧ W.cell? ⟨w.heap.size + 1, 2, none⟩ = some (.slice A' lm n') ∧ W.cell? ⟨w.heap.size + 1 + 1, 0, none⟩ = some (.int .i64 x) ∧ W.cell? ⟨w.heap.size + 1 + 1, 1, none⟩ = some (.int .i64 y))) (by kernel_rfl) sk (fun hHeld => ?_)
        generalize wz.drew = u0 at *
        refine wpAnyH_take (i := 0) (oi := ({ dst := some 29, op := Go.Op.load 24 (Go.Operand.tmp 3), type := 24, pos := "law.go:114", after := #[], guard := none } : Oper)) (v := ?_) rfl (by kernel_rfl) (by kernel_rfl) (by kernel_rfl) (fun _ _ _ h => h) (Or.inl ⟨by kernel_rfl, ?_⟩) hHeld ?_
        rotate_left 1
        · (intro W hSw; (try dsimp only at hSw); go_simp; try with_reducible rfl)
        try simp only [Act.put, List.setIfInBounds_toArray, List.set_cons_zero, List.set_cons_succ]
        refine wpAnyH_take (i := 2) (oi := ({ dst := some 31, op := Go.Op.load 24 (Go.Operand.tmp 4), type := 24, pos := "law.go:114", after := #[], guard := none } : Oper)) (v := ?_) rfl (by kernel_rfl) (by kernel_rfl) (by kernel_rfl) (fun _ _ _ h => h) (Or.inl ⟨by kernel_rfl, ?_⟩) hHeld ?_
        rotate_left 1
        · (intro W hSw; (try dsimp only at hSw); go_simp; try with_reducible rfl)
        try simp only [Act.put, List.setIfInBounds_toArray, List.set_cons_zero, List.set_cons_succ]
        refine wpAnyH_ready (rs := [1, 4, 5]) (by kernel_rfl) (by simp) (AllReadyH.cons (o := op1) rfl (fun K hK => ?_) (AllReadyH.cons (o := op4) rfl (fun K hK => ?_) (AllReadyH.cons (o := op5) rfl (fun K hK => ?_) AllReadyH.nil)))
        · unfold op1
          go_simp
          refine (C30 _ J.out.rest.below).out.mono ?_
          rintro e u1 ⟨v9, rfl, hr, hb⟩
          obtain ⟨A9, c9, rfl, _⟩ := hr.pxs.shape
          rw [HLN.out] at hr ⊢
          replace J := Lib.hid (J.out.call hb hr)
          (try clear sk)
          have sk := J.out.rest.b332
          clear hb hr
          refine hK.out _ _ sk (fun hHeld2 => ?_)
          clear hK K hHeld
          have hHeld := hHeld2
          clear hHeld2
          try simp only [Act.put, List.setIfInBounds_toArray, List.set_cons_zero, List.set_cons_succ]
          refine wpAnyH_ready (rs := [3, 4, 5]) (by kernel_rfl) (by simp) (AllReadyH.cons (o := op3) rfl (fun K hK => ?_) (AllReadyH.cons (o := op4) rfl (fun K hK => ?_) (AllReadyH.cons (o := op5) rfl (fun K hK => ?_) AllReadyH.nil)))
          · unfold op3
            go_simp
            refine (C30' _ J.out.rest.below).out.mono ?_
            rintro e u2 ⟨v8, rfl, hr, hb⟩
            obtain ⟨A8, c8, rfl, _⟩ := hr.pxs.shape
            rw [HLM.out] at hr ⊢
            replace J := Lib.hid (J.out.call hb hr)
            (try clear sk)
            have sk := J.out.rest.b332
            clear hb hr
            refine hK.out _ _ sk (fun hHeld2 => ?_)
            clear hK K hHeld
            have hHeld := hHeld2
            clear hHeld2
            try simp only [Act.put, List.setIfInBounds_toArray, List.set_cons_zero, List.set_cons_succ]
            refine wpAnyH_ready (rs := [4, 5]) (by kernel_rfl) (by simp) (AllReadyH.cons (o := op4) rfl (fun K hK => ?_) (AllReadyH.cons (o := op5) rfl (fun K hK => ?_) AllReadyH.nil))
            · unfold op4
              go_simp
              replace J := Lib.hid (J.out.newX [.int .i64 0, .int .i64 0, .slice none 0 0] 24)
              generalize u2.alloc (.cells #[.int .i64 0, .int .i64 0, .slice none 0 0] 24) = u3 at *
              generalize u2.heap.size = M at *
              (try clear sk)
              have sk := J.out.rest.b332
              refine hK.out _ _ sk (fun hHeld2 => ?_)
              clear hK K hHeld
              have hHeld := hHeld2
              clear hHeld2
              try simp only [Act.put, List.setIfInBounds_toArray, List.set_cons_zero, List.set_cons_succ]
              refine wpAnyH_ready (rs := [5]) (by kernel_rfl) (by simp) (AllReadyH.cons (o := op5) rfl (fun K hK => ?_) AllReadyH.nil)
              unfold op5
              go_simp
              replace J := Lib.hid (J.out.newY [.int .i64 0, .int .i64 0, .slice none 0 0] 24)
              generalize u3.alloc (.cells #[.int .i64 0, .int .i64 0, .slice none 0 0] 24) = u4 at *
              generalize u3.heap.size = N at *
              (try clear sk)
              have sk := J.out.rest.b332
              refine hK.out _ _ sk (fun hHeld2 => ?_)
              clear hK K hHeld
              have hHeld := hHeld2
              clear hHeld2
              try simp only [Act.put, List.setIfInBounds_toArray, List.set_cons_zero, List.set_cons_succ]
              refine wpAnyH_ready (rs := [6]) (by kernel_rfl) (by simp) (AllReadyH.cons (o := op6) rfl (fun K hK => ?_) AllReadyH.nil)
              unfold op6
              obtain ⟨z0, z1, z2, zf, _⟩ := J.out.cX
              go_simp
              show K _ (set3 u4 M (.int .i64 a) (.int .i64 b) (.slice A9 ln c9))
              replace J := Lib.hid (J.out.setX (.int .i64 a) (.int .i64 b) (.slice A9 ln c9))
              clear z0 z1 z2 zf
              generalize set3 u4 M (.int .i64 a) (.int .i64 b) (.slice A9 ln c9) = u5 at *
              (try clear sk)
              have sk := J.out.rest.b332
              refine hK.out _ _ sk (fun hHeld2 => ?_)
              clear hK K hHeld
              have hHeld := hHeld2
              clear hHeld2
              try simp only [Act.put, List.setIfInBounds_toArray, List.set_cons_zero, List.set_cons_succ]
              refine wpAnyH_ready (rs := [7]) (by kernel_rfl) (by simp) (AllReadyH.cons (o := op7) rfl (fun K hK => ?_) AllReadyH.nil)
              unfold op7
              obtain ⟨z0, z1, z2, zf, _⟩ := J.out.cY
              go_simp
              show K _ (set3 u5 N (.int .i64 c) (.int .i64 d) (.slice A8 lm c8))
              replace J := Lib.hid (J.out.setY (.int .i64 c) (.int .i64 d) (.slice A8 lm c8))
              clear z0 z1 z2 zf
              generalize set3 u5 N (.int .i64 c) (.int .i64 d) (.slice A8 lm c8) = u6 at *
              (try clear sk)
              have sk := J.out.rest.b332
              refine hK.out _ _ sk (fun hHeld2 => ?_)
              clear hK K hHeld
              have hHeld := hHeld2
              clear hHeld2
              try simp only [Act.put, List.setIfInBounds_toArray, List.set_cons_zero, List.set_cons_succ]
              refine wpAnyH_done (by kernel_rfl) ?_ _
              go_wp2_with fail
              go_meet
              exact ⟨M, N, A9, A8, c9, c8, rfl, rfl, J⟩
            · unfold op5
              go_simp
              replace J := Lib.hid (J.out.newY [.int .i64 0, .int .i64 0, .slice none 0 0] 24)
              generalize u2.alloc (.cells #[.int .i64 0, .int .i64 0, .slice none 0 0] 24) = u3 at *
              generalize u2.heap.size = N at *
              (try clear sk)
              have sk := J.out.rest.b332
              refine hK.out _ _ sk (fun hHeld2 => ?_)
              clear hK K hHeld
              have hHeld := hHeld2
              clear hHeld2
              try simp only [Act.put, List.setIfInBounds_toArray, List.set_cons_zero, List.set_cons_succ]
              refine wpAnyH_ready (rs := [4]) (by kernel_rfl) (by simp) (AllReadyH.cons (o := op4) rfl (fun K hK => ?_) AllReadyH.nil)
              unfold op4
              go_simp
              replace J := Lib.hid (J.out.newX [.int .i64 0, .int .i64 0, .slice none 0 0] 24)
              generalize u3.alloc (.cells #[.int .i64 0, .int .i64 0, .slice none 0 0] 24) = u4 at *
              generalize u3.heap.size = M at *
              (try clear sk)
              have sk := J.out.rest.b332
              refine hK.out _ _ sk (fun hHeld2 => ?_)
              clear hK K hHeld
              have hHeld := hHeld2
              clear hHeld2
              try simp only [Act.put, List.setIfInBounds_toArray, List.set_cons_zero, List.set_cons_succ]
              refine wpAnyH_ready (rs := [6]) (by kernel_rfl) (by simp) (AllReadyH.cons (o := op6) rfl (fun K hK => ?_) AllReadyH.nil)
              unfold op6
              obtain ⟨z0, z1, z2, zf, _⟩ := J.out.cX
              go_simp
              show K _ (set3 u4 M (.int .i64 a) (.int .i64 b) (.slice A9 ln c9))
              replace J := Lib.hid (J.out.setX (.int .i64 a) (.int .i64 b) (.slice A9 ln c9))
              clear z0 z1 z2 zf
              generalize set3 u4 M (.int .i64 a) (.int .i64 b) (.slice A9 ln c9) = u5 at *
              (try clear sk)
              have sk := J.out.rest.b332
              refine hK.out _ _ sk (fun hHeld2 => ?_)
              clear hK K hHeld
              have hHeld := hHeld2
              clear hHeld2
              try simp only [Act.put, List.setIfInBounds_toArray, List.set_cons_zero, List.set_cons_succ]
              refine wpAnyH_ready (rs := [7]) (by kernel_rfl) (by simp) (AllReadyH.cons (o := op7) rfl (fun K hK => ?_) AllReadyH.nil)
              unfold op7
              obtain ⟨z0, z1, z2, zf, _⟩ := J.out.cY
              go_simp
              show K _ (set3 u5 N (.int .i64 c) (.int .i64 d) (.slice A8 lm c8))
              replace J := Lib.hid (J.out.setY (.int .i64 c) (.int .i64 d) (.slice A8 lm c8))
              clear z0 z1 z2 zf
              generalize set3 u5 N (.int .i64 c) (.int .i64 d) (.slice A8 lm c8) = u6 at *
              (try clear sk)
              have sk := J.out.rest.b332
              refine hK.out _ _ sk (fun hHeld2 => ?_)
              clear hK K hHeld
              have hHeld := hHeld2
              clear hHeld2
              try simp only [Act.put, List.setIfInBounds_toArray, List.set_cons_zero, List.set_cons_succ]
              refine wpAnyH_done (by kernel_rfl) ?_ _
              go_wp2_with fail
              go_meet
              exact ⟨M, N, A9, A8, c9, c8, rfl, rfl, J⟩
          · unfold op4
            go_simp
            replace J := Lib.hid (J.out.newX [.int .i64 0, .int .i64 0, .slice none 0 0] 24)
            generalize u1.alloc (.cells #[.int .i64 0, .int .i64 0, .slice none 0 0] 24) = u2 at *
            generalize u1.heap.size = M at *
            (try clear sk)
            have sk := J.out.rest.b332
            refine hK.out _ _ sk (fun hHeld2 => ?_)
            clear hK K hHeld
            have hHeld := hHeld2
            clear hHeld2
            try simp only [Act.put, List.setIfInBounds_toArray, List.set_cons_zero, List.set_cons_succ]
            refine wpAnyH_ready (rs := [3, 5]) (by kernel_rfl) (by simp) (AllReadyH.cons (o := op3) rfl (fun K hK => ?_) (AllReadyH.cons (o := op5) rfl (fun K hK => ?_) AllReadyH.nil))
            · unfold op3
              go_simp
              refine (C30' _ J.out.rest.below).out.mono ?_
              rintro e u3 ⟨v8, rfl, hr, hb⟩
              obtain ⟨A8, c8, rfl, _⟩ := hr.pxs.shape
              rw [HLM.out] at hr ⊢
              replace J := Lib.hid (J.out.call hb hr)
              (try clear sk)
              have sk := J.out.rest.b332
              clear hb hr
              refine hK.out _ _ sk (fun hHeld2 => ?_)
              clear hK K hHeld
              have hHeld := hHeld2
              clear hHeld2
              try simp only [Act.put, List.setIfInBounds_toArray, List.set_cons_zero, List.set_cons_succ]
              refine wpAnyH_ready (rs := [5]) (by kernel_rfl) (by simp) (AllReadyH.cons (o := op5) rfl (fun K hK => ?_) AllReadyH.nil)
              unfold op5
              go_simp
              replace J := Lib.hid (J.out.newY [.int .i64 0, .int .i64 0, .slice none 0 0] 24)
              generalize u3.alloc (.cells #[.int .i64 0, .int .i64 0, .slice none 0 0] 24) = u4 at *
              generalize u3.heap.size = N at *
              (try clear sk)
              have sk := J.out.rest.b332
              refine hK.out _ _ sk (fun hHeld2 => ?_)
              clear hK K hHeld
              have hHeld := hHeld2
              clear hHeld2
              try simp only [Act.put, List.setIfInBounds_toArray, List.set_cons_zero, List.set_cons_succ]
              refine wpAnyH_ready (rs := [6]) (by kernel_rfl) (by simp) (AllReadyH.cons (o := op6) rfl (fun K hK => ?_) AllReadyH.nil)
              unfold op6
              obtain ⟨z0, z1, z2, zf, _⟩ := J.out.cX
              go_simp
              show K _ (set3 u4 M (.int .i64 a) (.int .i64 b) (.slice A9 ln c9))
              replace J := Lib.hid (J.out.setX (.int .i64 a) (.int .i64 b) (.slice A9 ln c9))
              clear z0 z1 z2 zf
              generalize set3 u4 M (.int .i64 a) (.int .i64 b) (.slice A9 ln c9) = u5 at *
              (try clear sk)
              have sk := J.out.rest.b332
              refine hK.out _ _ sk (fun hHeld2 => ?_)
              clear hK K hHeld
              have hHeld := hHeld2
              clear hHeld2
              try simp only [Act.put, List.setIfInBounds_toArray, List.set_cons_zero, List.set_cons_succ]
              refine wpAnyH_ready (rs := [7]) (by kernel_rfl) (by simp) (AllReadyH.cons (o := op7) rfl (fun K hK => ?_) AllReadyH.nil)
              unfold op7
              obtain ⟨z0, z1, z2, zf, _⟩ := J.out.cY
              go_simp
              show K _ (set3 u5 N (.int .i64 c) (.int .i64 d) (.slice A8 lm c8))
              replace J := Lib.hid (J.out.setY (.int .i64 c) (.int .i64 d) (.slice A8 lm c8))
              clear z0 z1 z2 zf
              generalize set3 u5 N (.int .i64 c) (.int .i64 d) (.slice A8 lm c8) = u6 at *
              (try clear sk)
              have sk := J.out.rest.b332
              refine hK.out _ _ sk (fun hHeld2 => ?_)
              clear hK K hHeld
              have hHeld := hHeld2
              clear hHeld2
              try simp only [Act.put, List.setIfInBounds_toArray, List.set_cons_zero, List.set_cons_succ]
              refine wpAnyH_done (by kernel_rfl) ?_ _
              go_wp2_with fail
              go_meet
              exact ⟨M, N, A9, A8, c9, c8, rfl, rfl, J⟩
            · unfold op5
              go_simp
              replace J := Lib.hid (J.out.newY [.int .i64 0, .int .i64 0, .slice none 0 0] 24)
              generalize u2.alloc (.cells #[.int .i64 0, .int .i64 0, .slice none 0 0] 24) = u3 at *
              generalize u2.heap.size = N at *
              (try clear sk)
              have sk := J.out.rest.b332
              refine hK.out _ _ sk (fun hHeld2 => ?_)
              clear hK K hHeld
              have hHeld := hHeld2
              clear hHeld2
              try simp only [Act.put, List.setIfInBounds_toArray, List.set_cons_zero, List.set_cons_succ]
              refine wpAnyH_ready (rs := [3]) (by kernel_rfl) (by simp) (AllReadyH.cons (o := op3) rfl (fun K hK => ?_) AllReadyH.nil)
              unfold op3
              go_simp
              refine (C30' _ J.out.rest.below).out.mono ?_
              rintro e u4 ⟨v8, rfl, hr, hb⟩
              obtain ⟨A8, c8, rfl, _⟩ := hr.pxs.shape
              rw [HLM.out] at hr ⊢
              replace J := Lib.hid (J.out.call hb hr)
              (try clear sk)
              have sk := J.out.rest.b332
              clear hb hr
              refine hK.out _ _ sk (fun hHeld2 => ?_)
              clear hK K hHeld
              have hHeld := hHeld2
              clear hHeld2
              try simp only [Act.put, List.setIfInBounds_toArray, List.set_cons_zero, List.set_cons_succ]
              refine wpAnyH_ready (rs := [6]) (by kernel_rfl) (by simp) (AllReadyH.cons (o := op6) rfl (fun K hK => ?_) AllReadyH.nil)
              unfold op6
              obtain ⟨z0, z1, z2, zf, _⟩ := J.out.cX
              go_simp
              show K _ (set3 u4 M (.int .i64 a) (.int .i64 b) (.slice A9 ln c9))
              replace J := Lib.hid (J.out.setX (.int .i64 a) (.int .i64 b) (.slice A9 ln c9))
              clear z0 z1 z2 zf
              generalize set3 u4 M (.int .i64 a) (.int .i64 b) (.slice A9 ln c9) = u5 at *
              (try clear sk)
              have sk := J.out.rest.b332
              refine hK.out _ _ sk (fun hHeld2 => ?_)
              clear hK K hHeld
              have hHeld := hHeld2
              clear hHeld2
              try simp only [Act.put, List.setIfInBounds_toArray, List.set_cons_zero, List.set_cons_succ]
              refine wpAnyH_ready (rs := [7]) (by kernel_rfl) (by simp) (AllReadyH.cons (o := op7) rfl (fun K hK => ?_) AllReadyH.nil)
              unfold op7
              obtain ⟨z0, z1, z2, zf, _⟩ := J.out.cY
              go_simp
              show K _ (set3 u5 N (.int .i64 c) (.int .i64 d) (.slice A8 lm c8))
              replace J := Lib.hid (J.out.setY (.int .i64 c) (.int .i64 d) (.slice A8 lm c8))
              clear z0 z1 z2 zf
              generalize set3 u5 N (.int .i64 c) (.int .i64 d) (.slice A8 lm c8) = u6 at *
              (try clear sk)
              have sk := J.out.rest.b332
              refine hK.out _ _ sk (fun hHeld2 => ?_)
              clear hK K hHeld
              have hHeld := hHeld2
              clear hHeld2
              try simp only [Act.put, List.setIfInBounds_toArray, List.set_cons_zero, List.set_cons_succ]
              refine wpAnyH_done (by kernel_rfl) ?_ _
              go_wp2_with fail
              go_meet
              exact ⟨M, N, A9, A8, c9, c8, rfl, rfl, J⟩
          · unfold op5
            go_simp
            replace J := Lib.hid (J.out.newY [.int .i64 0, .int .i64 0, .slice none 0 0] 24)
            generalize u1.alloc (.cells #[.int .i64 0, .int .i64 0, .slice none 0 0] 24) = u2 at *
            generalize u1.heap.size = N at *
            (try clear sk)
            have sk := J.out.rest.b332
            refine hK.out _ _ sk (fun hHeld2 => ?_)
            clear hK K hHeld
            have hHeld := hHeld2
            clear hHeld2
            try simp only [Act.put, List.setIfInBounds_toArray, List.set_cons_zero, List.set_cons_succ]
            refine wpAnyH_ready (rs := [3, 4]) (by kernel_rfl) (by simp) (AllReadyH.cons (o := op3) rfl (fun K hK => ?_) (AllReadyH.cons (o := op4) rfl (fun K hK => ?_) AllReadyH.nil))
            · unfold op3
              go_simp
              refine (C30' _ J.out.rest.below).out.mono ?_
              rintro e u3 ⟨v8, rfl, hr, hb⟩
              obtain ⟨A8, c8, rfl, _⟩ := hr.pxs.shape
              rw [HLM.out] at hr ⊢
              replace J := Lib.hid (J.out.call hb hr)
              (try clear sk)
              have sk := J.out.rest.b332
              clear hb hr
              refine hK.out _ _ sk (fun hHeld2 => ?_)
              clear hK K hHeld
              have hHeld := hHeld2
              clear hHeld2
              try simp only [Act.put, List.setIfInBounds_toArray, List.set_cons_zero, List.set_cons_succ]
              refine wpAnyH_ready (rs := [4]) (by kernel_rfl) (by simp) (AllReadyH.cons (o := op4) rfl (fun K hK => ?_) AllReadyH.nil)
              unfold op4
              go_simp
              replace J := Lib.hid (J.out.newX [.int .i64 0, .int .i64 0, .slice none 0 0] 24)
              generalize u3.alloc (.cells #[.int .i64 0, .int .i64 0, .slice none 0 0] 24) = u4 at *
              generalize u3.heap.size = M at *
              (try clear sk)
              have sk := J.out.rest.b332
              refine hK.out _ _ sk (fun hHeld2 => ?_)
              clear hK K hHeld
              have hHeld := hHeld2
              clear hHeld2
              try simp only [Act.put, List.setIfInBounds_toArray, List.set_cons_zero, List.set_cons_succ]
              refine wpAnyH_ready (rs := [6]) (by kernel_rfl) (by simp) (AllReadyH.cons (o := op6) rfl (fun K hK => ?_) AllReadyH.nil)
              unfold op6
              obtain ⟨z0, z1, z2, zf, _⟩ := J.out.cX
              go_simp
              show K _ (set3 u4 M (.int .i64 a) (.int .i64 b) (.slice A9 ln c9))
              replace J := Lib.hid (J.out.setX (.int .i64 a) (.int .i64 b) (.slice A9 ln c9))
              clear z0 z1 z2 zf
              generalize set3 u4 M (.int .i64 a) (.int .i64 b) (.slice A9 ln c9) = u5 at *
              (try clear sk)
              have sk := J.out.rest.b332
              refine hK.out _ _ sk (fun hHeld2 => ?_)
              clear hK K hHeld
              have hHeld := hHeld2
              clear hHeld2
              try simp only [Act.put, List.setIfInBounds_toArray, List.set_cons_zero, List.set_cons_succ]
              refine wpAnyH_ready (rs := [7]) (by kernel_rfl) (by simp) (AllReadyH.cons (o := op7) rfl (fun K hK => ?_) AllReadyH.nil)
              unfold op7
              obtain ⟨z0, z1, z2, zf, _⟩ := J.out.cY
              go_simp
              show K _ (set3 u5 N (.int .i64 c) (.int .i64 d) (.slice A8 lm c8))
              replace J := Lib.hid (J.out.setY (.int .i64 c) (.int .i64 d) (.slice A8 lm c8))
              clear z0 z1 z2 zf
              generalize set3 u5 N (.int .i64 c) (.int .i64 d) (.slice A8 lm c8) = u6 at *
              (try clear sk)
              have sk := J.out.rest.b332
              refine hK.out _ _ sk (fun hHeld2 => ?_)
              clear hK K hHeld
              have hHeld := hHeld2
              clear hHeld2
              try simp only [Act.put, List.setIfInBounds_toArray, List.set_cons_zero, List.set_cons_succ]
              refine wpAnyH_done (by kernel_rfl) ?_ _
              go_wp2_with fail
              go_meet
              exact ⟨M, N, A9, A8, c9, c8, rfl, rfl, J⟩
            · unfold op4
              go_simp
              replace J := Lib.hid (J.out.newX [.int .i64 0, .int .i64 0, .slice none 0 0] 24)
              generalize u2.alloc (.cells #[.int .i64 0, .int .i64 0, .slice none 0 0] 24) = u3 at *
              generalize u2.heap.size = M at *
              (try clear sk)
              have sk := J.out.rest.b332
              refine hK.out _ _ sk (fun hHeld2 => ?_)
              clear hK K hHeld
              have hHeld := hHeld2
              clear hHeld2
              try simp only [Act.put, List.setIfInBounds_toArray, List.set_cons_zero, List.set_cons_succ]
              refine wpAnyH_ready (rs := [3]) (by kernel_rfl) (by simp) (AllReadyH.cons (o := op3) rfl (fun K hK => ?_) AllReadyH.nil)
              unfold op3
              go_simp
              refine (C30' _ J.out.rest.below).out.mono ?_
              rintro e u4 ⟨v8, rfl, hr, hb⟩
              obtain ⟨A8, c8, rfl, _⟩ := hr.pxs.shape
              rw [HLM.out] at hr ⊢
              replace J := Lib.hid (J.out.call hb hr)
              (try clear sk)
              have sk := J.out.rest.b332
              clear hb hr
              refine hK.out _ _ sk (fun hHeld2 => ?_)
              clear hK K hHeld
              have hHeld := hHeld2
              clear hHeld2
              try simp only [Act.put, List.setIfInBounds_toArray, List.set_cons_zero, List.set_cons_succ]
              refine wpAnyH_ready (rs := [6]) (by kernel_rfl) (by simp) (AllReadyH.cons (o := op6) rfl (fun K hK => ?_) AllReadyH.nil)
              unfold op6
              obtain ⟨z0, z1, z2, zf, _⟩ := J.out.cX
              go_simp
              show K _ (set3 u4 M (.int .i64 a) (.int .i64 b) (.slice A9 ln c9))
              replace J := Lib.hid (J.out.setX (.int .i64 a) (.int .i64 b) (.slice A9 ln c9))
              clear z0 z1 z2 zf
              generalize set3 u4 M (.int .i64 a) (.int .i64 b) (.slice A9 ln c9) = u5 at *
              (try clear sk)
              have sk := J.out.rest.b332
              refine hK.out _ _ sk (fun hHeld2 => ?_)
              clear hK K hHeld
              have hHeld := hHeld2
              clear hHeld2
              try simp only [Act.put, List.setIfInBounds_toArray, List.set_cons_zero, List.set_cons_succ]
              refine wpAnyH_ready (rs := [7]) (by kernel_rfl) (by simp) (AllReadyH.cons (o := op7) rfl (fun K hK => ?_) AllReadyH.nil)
              unfold op7
              obtain ⟨z0, z1, z2, zf, _⟩ := J.out.cY
              go_simp
              show K _ (set3 u5 N (.int .i64 c) (.int .i64 d) (.slice A8 lm c8))
              replace J := Lib.hid (J.out.setY (.int .i64 c) (.int .i64 d) (.slice A8 lm c8))
              clear z0 z1 z2 zf
              generalize set3 u5 N (.int .i64 c) (.int .i64 d) (.slice A8 lm c8) = u6 at *
              (try clear sk)
              have sk := J.out.rest.b332
              refine hK.out _ _ sk (fun hHeld2 => ?_)
              clear hK K hHeld
              have hHeld := hHeld2
              clear hHeld2
              try simp only [Act.put, List.setIfInBounds_toArray, List.set_cons_zero, List.set_cons_succ]
              refine wpAnyH_done (by kernel_rfl) ?_ _
              go_wp2_with fail
              go_meet
              exact ⟨M, N, A9, A8, c9, c8, rfl, rfl, J⟩
        · unfold op4
          go_simp
          replace J := Lib.hid (J.out.newX [.int .i64 0, .int .i64 0, .slice none 0 0] 24)
          generalize u0.alloc (.cells #[.int .i64 0, .int .i64 0, .slice none 0 0] 24) = u1 at *
          generalize u0.heap.size = M at *
          (try clear sk)
          have sk := J.out.rest.b332
          refine hK.out _ _ sk (fun hHeld2 => ?_)
          clear hK K hHeld
          have hHeld := hHeld2
          clear hHeld2
          try simp only [Act.put, List.setIfInBounds_toArray, List.set_cons_zero, List.set_cons_succ]
          refine wpAnyH_ready (rs := [1, 5]) (by kernel_rfl) (by simp) (AllReadyH.cons (o := op1) rfl (fun K hK => ?_) (AllReadyH.cons (o := op5) rfl (fun K hK => ?_) AllReadyH.nil))
          · unfold op1
            go_simp
            refine (C30 _ J.out.rest.below).out.mono ?_
            rintro e u2 ⟨v9, rfl, hr, hb⟩
            obtain ⟨A9, c9, rfl, _⟩ := hr.pxs.shape
            rw [HLN.out] at hr ⊢
            replace J := Lib.hid (J.out.call hb hr)
            (try clear sk)
            have sk := J.out.rest.b332
            clear hb hr
            refine hK.out _ _ sk (fun hHeld2 => ?_)
            clear hK K hHeld
            have hHeld := hHeld2
            clear hHeld2
            try simp only [Act.put, List.setIfInBounds_toArray, List.set_cons_zero, List.set_cons_succ]
            refine wpAnyH_ready (rs := [3, 5]) (by kernel_rfl) (by simp) (AllReadyH.cons (o := op3) rfl (fun K hK => ?_) (AllReadyH.cons (o := op5) rfl (fun K hK => ?_) AllReadyH.nil))
            · unfold op3
              go_simp
              refine (C30' _ J.out.rest.below).out.mono ?_
              rintro e u3 ⟨v8, rfl, hr, hb⟩
              obtain ⟨A8, c8, rfl, _⟩ := hr.pxs.shape
              rw [HLM.out] at hr ⊢
              replace J := Lib.hid (J.out.call hb hr)
              (try clear sk)
              have sk := J.out.rest.b332
              clear hb hr
              refine hK.out _ _ sk (fun hHeld2 => ?_)
              clear hK K hHeld
              have hHeld := hHeld2
              clear hHeld2
              try simp only [Act.put, List.setIfInBounds_toArray, List.set_cons_zero, List.set_cons_succ]
              refine wpAnyH_ready (rs := [5]) (by kernel_rfl) (by simp) (AllReadyH.cons (o := op5) rfl (fun K hK => ?_) AllReadyH.nil)
              unfold op5
              go_simp
              replace J := Lib.hid (J.out.newY [.int .i64 0, .int .i64 0, .slice none 0 0] 24)
              generalize u3.alloc (.cells #[.int .i64 0, .int .i64 0, .slice none 0 0] 24) = u4 at *
              generalize u3.heap.size = N at *
              (try clear sk)
              have sk := J.out.rest.b332
              refine hK.out _ _ sk (fun hHeld2 => ?_)
              clear hK K hHeld
              have hHeld := hHeld2
              clear hHeld2
              try simp only [Act.put, List.setIfInBounds_toArray, List.set_cons_zero, List.set_cons_succ]
              refine wpAnyH_ready (rs := [6]) (by kernel_rfl) (by simp) (AllReadyH.cons (o := op6) rfl (fun K hK => ?_) AllReadyH.nil)
              unfold op6
              obtain ⟨z0, z1, z2, zf, _⟩ := J.out.cX
              go_simp
              show K _ (set3 u4 M (.int .i64 a) (.int .i64 b) (.slice A9 ln c9))
              replace J := Lib.hid (J.out.setX (.int .i64 a) (.int .i64 b) (.slice A9 ln c9))
              clear z0 z1 z2 zf
              generalize set3 u4 M (.int .i64 a) (.int .i64 b) (.slice A9 ln c9) = u5 at *
              (try clear sk)
              have sk := J.out.rest.b332
              refine hK.out _ _ sk (fun hHeld2 => ?_)
              clear hK K hHeld
              have hHeld := hHeld2
              clear hHeld2
              try simp only [Act.put, List.setIfInBounds_toArray, List.set_cons_zero, List.set_cons_succ]
              refine wpAnyH_ready (rs := [7]) (by kernel_rfl) (by simp) (AllReadyH.cons (o := op7) rfl (fun K hK => ?_) AllReadyH.nil)
              unfold op7
              obtain ⟨z0, z1, z2, zf, _⟩ := J.out.cY
              go_simp
              show K _ (set3 u5 N (.int .i64 c) (.int .i64 d) (.slice A8 lm c8))
              replace J := Lib.hid (J.out.setY (.int .i64 c) (.int .i64 d) (.slice A8 lm c8))
              clear z0 z1 z2 zf
              generalize set3 u5 N (.int .i64 c) (.int .i64 d) (.slice A8 lm c8) = u6 at *
              (try clear sk)
              have sk := J.out.rest.b332
              refine hK.out _ _ sk (fun hHeld2 => ?_)
              clear hK K hHeld
              have hHeld := hHeld2
              clear hHeld2
              try simp only [Act.put, List.setIfInBounds_toArray, List.set_cons_zero, List.set_cons_succ]
              refine wpAnyH_done (by kernel_rfl) ?_ _
              go_wp2_with fail
              go_meet
              exact ⟨M, N, A9, A8, c9, c8, rfl, rfl, J⟩
            · unfold op5
              go_simp
              replace J := Lib.hid (J.out.newY [.int .i64 0, .int .i64 0, .slice none 0 0] 24)
              generalize u2.alloc (.cells #[.int .i64 0, .int .i64 0, .slice none 0 0] 24) = u3 at *
              generalize u2.heap.size = N at *
              (try clear sk)
              have sk := J.out.rest.b332
              refine hK.out _ _ sk (fun hHeld2 => ?_)
              clear hK K hHeld
              have hHeld := hHeld2
              clear hHeld2
              try simp only [Act.put, List.setIfInBounds_toArray, List.set_cons_zero, List.set_cons_succ]
              refine wpAnyH_ready (rs := [3]) (by kernel_rfl) (by simp) (AllReadyH.cons (o := op3) rfl (fun K hK => ?_) AllReadyH.nil)
              unfold op3
              go_simp
              refine (C30' _ J.out.rest.below).out.mono ?_
              rintro e u4 ⟨v8, rfl, hr, hb⟩
              obtain ⟨A8, c8, rfl, _⟩ := hr.pxs.shape
              rw [HLM.out] at hr ⊢
              replace J := Lib.hid (J.out.call hb hr)
              (try clear sk)
              have sk := J.out.rest.b332
              clear hb hr
              refine hK.out _ _ sk (fun hHeld2 => ?_)
              clear hK K hHeld
              have hHeld := hHeld2
              clear hHeld2
              try simp only [Act.put, List.setIfInBounds_toArray, List.set_cons_zero, List.set_cons_succ]
              refine wpAnyH_ready (rs := [6]) (by kernel_rfl) (by simp) (AllReadyH.cons (o := op6) rfl (fun K hK => ?_) AllReadyH.nil)
              unfold op6
              obtain ⟨z0, z1, z2, zf, _⟩ := J.out.cX
              go_simp
              show K _ (set3 u4 M (.int .i64 a) (.int .i64 b) (.slice A9 ln c9))
              replace J := Lib.hid (J.out.setX (.int .i64 a) (.int .i64 b) (.slice A9 ln c9))
              clear z0 z1 z2 zf
              generalize set3 u4 M (.int .i64 a) (.int .i64 b) (.slice A9 ln c9) = u5 at *
              (try clear sk)
              have sk := J.out.rest.b332
              refine hK.out _ _ sk (fun hHeld2 => ?_)
              clear hK K hHeld
              have hHeld := hHeld2
              clear hHeld2
              try simp only [Act.put, List.setIfInBounds_toArray, List.set_cons_zero, List.set_cons_succ]
              refine wpAnyH_ready (rs := [7]) (by kernel_rfl) (by simp) (AllReadyH.cons (o := op7) rfl (fun K hK => ?_) AllReadyH.nil)
              unfold op7
              obtain ⟨z0, z1, z2, zf, _⟩ := J.out.cY
              go_simp
              show K _ (set3 u5 N (.int .i64 c) (.int .i64 d) (.slice A8 lm c8))
              replace J := Lib.hid (J.out.setY (.int .i64 c) (.int .i64 d) (.slice A8 lm c8))
              clear z0 z1 z2 zf
              generalize set3 u5 N (.int .i64 c) (.int .i64 d) (.slice A8 lm c8) = u6 at *
              (try clear sk)
              have sk := J.out.rest.b332
              refine hK.out _ _ sk (fun hHeld2 => ?_)
              clear hK K hHeld
              have hHeld := hHeld2
              clear hHeld2
              try simp only [Act.put, List.setIfInBounds_toArray, List.set_cons_zero, List.set_cons_succ]
              refine wpAnyH_done (by kernel_rfl) ?_ _
              go_wp2_with fail
              go_meet
              exact ⟨M, N, A9, A8, c9, c8, rfl, rfl, J⟩
          · unfold op5
            go_simp
            replace J := Lib.hid (J.out.newY [.int .i64 0, .int .i64 0, .slice none 0 0] 24)
            generalize u1.alloc (.cells #[.int .i64 0, .int .i64 0, .slice none 0 0] 24) = u2 at *
            generalize u1.heap.size = N at *
            (try clear sk)
            have sk := J.out.rest.b332
            refine hK.out _ _ sk (fun hHeld2 => ?_)
            clear hK K hHeld
            have hHeld := hHeld2
            clear hHeld2
            try simp only [Act.put, List.setIfInBounds_toArray, List.set_cons_zero, List.set_cons_succ]
            refine wpAnyH_ready (rs := [1]) (by kernel_rfl) (by simp) (AllReadyH.cons (o := op1) rfl (fun K hK => ?_) AllReadyH.nil)
            unfold op1
            go_simp
            refine (C30 _ J.out.rest.below).out.mono ?_
            rintro e u3 ⟨v9, rfl, hr, hb⟩
            obtain ⟨A9, c9, rfl, _⟩ := hr.pxs.shape
            rw [HLN.out] at hr ⊢
            replace J := Lib.hid (J.out.call hb hr)
            (try clear sk)
            have sk := J.out.rest.b332
            clear hb hr
            refine hK.out _ _ sk (fun hHeld2 => ?_)
            clear hK K hHeld
            have hHeld := hHeld2
            clear hHeld2
            try simp only [Act.put, List.setIfInBounds_toArray, List.set_cons_zero, List.set_cons_succ]
            refine wpAnyH_ready (rs := [3]) (by kernel_rfl) (by simp) (AllReadyH.cons (o := op3) rfl (fun K hK => ?_) AllReadyH.nil)
            unfold op3
            go_simp
            refine (C30' _ J.out.rest.below).out.mono ?_
            rintro e u4 ⟨v8, rfl, hr, hb⟩
            obtain ⟨A8, c8, rfl, _⟩ := hr.pxs.shape
            rw [HLM.out] at hr ⊢
            replace J := Lib.hid (J.out.call hb hr)
            (try clear sk)
            have sk := J.out.rest.b332
            clear hb hr
            refine hK.out _ _ sk (fun hHeld2 => ?_)
            clear hK K hHeld
            have hHeld := hHeld2
            clear hHeld2
            try simp only [Act.put, List.setIfInBounds_toArray, List.set_cons_zero, List.set_cons_succ]
            refine wpAnyH_ready (rs := [6]) (by kernel_rfl) (by simp) (AllReadyH.cons (o := op6) rfl (fun K hK => ?_) AllReadyH.nil)
            unfold op6
            obtain ⟨z0, z1, z2, zf, _⟩ := J.out.cX
            go_simp
            show K _ (set3 u4 M (.int .i64 a) (.int .i64 b) (.slice A9 ln c9))
            replace J := Lib.hid (J.out.setX (.int .i64 a) (.int .i64 b) (.slice A9 ln c9))
            clear z0 z1 z2 zf
            generalize set3 u4 M (.int .i64 a) (.int .i64 b) (.slice A9 ln c9) = u5 at *
            (try clear sk)
            have sk := J.out.rest.b332
            refine hK.out _ _ sk (fun hHeld2 => ?_)
            clear hK K hHeld
            have hHeld := hHeld2
            clear hHeld2
            try simp only [Act.put, List.setIfInBounds_toArray, List.set_cons_zero, List.set_cons_succ]
            refine wpAnyH_ready (rs := [7]) (by kernel_rfl) (by simp) (AllReadyH.cons (o := op7) rfl (fun K hK => ?_) AllReadyH.nil)
            unfold op7
            obtain ⟨z0, z1, z2, zf, _⟩ := J.out.cY
            go_simp
            show K _ (set3 u5 N (.int .i64 c) (.int .i64 d) (.slice A8 lm c8))
            replace J := Lib.hid (J.out.setY (.int .i64 c) (.int .i64 d) (.slice A8 lm c8))
            clear z0 z1 z2 zf
            generalize set3 u5 N (.int .i64 c) (.int .i64 d) (.slice A8 lm c8) = u6 at *
            (try clear sk)
            have sk := J.out.rest.b332
            refine hK.out _ _ sk (fun hHeld2 => ?_)
            clear hK K hHeld
            have hHeld := hHeld2
            clear hHeld2
            try simp only [Act.put, List.setIfInBounds_toArray, List.set_cons_zero, List.set_cons_succ]
            refine wpAnyH_done (by kernel_rfl) ?_ _
            go_wp2_with fail
            go_meet
            exact ⟨M, N, A9, A8, c9, c8, rfl, rfl, J⟩
        · unfold op5
          go_simp
          replace J := Lib.hid (J.out.newY [.int .i64 0, .int .i64 0, .slice none 0 0] 24)
          generalize u0.alloc (.cells #[.int .i64 0, .int .i64 0, .slice none 0 0] 24) = u1 at *
          generalize u0.heap.size = N at *
          (try clear sk)
          have sk := J.out.rest.b332
          refine hK.out _ _ sk (fun hHeld2 => ?_)
          clear hK K hHeld
          have hHeld := hHeld2
          clear hHeld2
          try simp only [Act.put, List.setIfInBounds_toArray, List.set_cons_zero, List.set_cons_succ]
          refine wpAnyH_ready (rs := [1, 4]) (by kernel_rfl) (by simp) (AllReadyH.cons (o := op1) rfl (fun K hK => ?_) (AllReadyH.cons (o := op4) rfl (fun K hK => ?_) AllReadyH.nil))
          · unfold op1
            go_simp
            refine (C30 _ J.out.rest.below).out.mono ?_
            rintro e u2 ⟨v9, rfl, hr, hb⟩
            obtain ⟨A9, c9, rfl, _⟩ := hr.pxs.shape
            rw [HLN.out] at hr ⊢
            replace J := Lib.hid (J.out.call hb hr)
            (try clear sk)
            have sk := J.out.rest.b332
            clear hb hr
            refine hK.out _ _ sk (fun hHeld2 => ?_)
            clear hK K hHeld
            have hHeld := hHeld2
            clear hHeld2
            try simp only [Act.put, List.setIfInBounds_toArray, List.set_cons_zero, List.set_cons_succ]
            refine wpAnyH_ready (rs := [3, 4]) (by kernel_rfl) (by simp) (AllReadyH.cons (o := op3) rfl (fun K hK => ?_) (AllReadyH.cons (o := op4) rfl (fun K hK => ?_) AllReadyH.nil))
            · unfold op3
              go_simp
              refine (C30' _ J.out.rest.below).out.mono ?_
              rintro e u3 ⟨v8, rfl, hr, hb⟩
              obtain ⟨A8, c8, rfl, _⟩ := hr.pxs.shape
              rw [HLM.out] at hr ⊢
              replace J := Lib.hid (J.out.call hb hr)
              (try clear sk)
              have sk := J.out.rest.b332
              clear hb hr
              refine hK.out _ _ sk (fun hHeld2 => ?_)
              clear hK K hHeld
              have hHeld := hHeld2
              clear hHeld2
              try simp only [Act.put, List.setIfInBounds_toArray, List.set_cons_zero, List.set_cons_succ]
              refine wpAnyH_ready (rs := [4]) (by kernel_rfl) (by simp) (AllReadyH.cons (o := op4) rfl (fun K hK => ?_) AllReadyH.nil)
              unfold op4
              go_simp
              replace J := Lib.hid (J.out.newX [.int .i64 0, .int .i64 0, .slice none 0 0] 24)
              generalize u3.alloc (.cells #[.int .i64 0, .int .i64 0, .slice none 0 0] 24) = u4 at *
              generalize u3.heap.size = M at *
              (try clear sk)
              have sk := J.out.rest.b332
              refine hK.out _ _ sk (fun hHeld2 => ?_)
              clear hK K hHeld
              have hHeld := hHeld2
              clear hHeld2
              try simp only [Act.put, List.setIfInBounds_toArray, List.set_cons_zero, List.set_cons_succ]
              refine wpAnyH_ready (rs := [6]) (by kernel_rfl) (by simp) (AllReadyH.cons (o := op6) rfl (fun K hK => ?_) AllReadyH.nil)
              unfold op6
              obtain ⟨z0, z1, z2, zf, _⟩ := J.out.cX
              go_simp
              show K _ (set3 u4 M (.int .i64 a) (.int .i64 b) (.slice A9 ln c9))
              replace J := Lib.hid (J.out.setX (.int .i64 a) (.int .i64 b) (.slice A9 ln c9))
              clear z0 z1 z2 zf
              generalize set3 u4 M (.int .i64 a) (.int .i64 b) (.slice A9 ln c9) = u5 at *
              (try clear sk)
              have sk := J.out.rest.b332
              refine hK.out _ _ sk (fun hHeld2 => ?_)
              clear hK K hHeld
              have hHeld := hHeld2
              clear hHeld2
              try simp only [Act.put, List.setIfInBounds_toArray, List.set_cons_zero, List.set_cons_succ]
              refine wpAnyH_ready (rs := [7]) (by kernel_rfl) (by simp) (AllReadyH.cons (o := op7) rfl (fun K hK => ?_) AllReadyH.nil)
              unfold op7
              obtain ⟨z0, z1, z2, zf, _⟩ := J.out.cY
              go_simp
              show K _ (set3 u5 N (.int .i64 c) (.int .i64 d) (.slice A8 lm c8))
              replace J := Lib.hid (J.out.setY (.int .i64 c) (.int .i64 d) (.slice A8 lm c8))
              clear z0 z1 z2 zf
              generalize set3 u5 N (.int .i64 c) (.int .i64 d) (.slice A8 lm c8) = u6 at *
              (try clear sk)
              have sk := J.out.rest.b332
              refine hK.out _ _ sk (fun hHeld2 => ?_)
              clear hK K hHeld
              have hHeld := hHeld2
              clear hHeld2
              try simp only [Act.put, List.setIfInBounds_toArray, List.set_cons_zero, List.set_cons_succ]
              refine wpAnyH_done (by kernel_rfl) ?_ _
              go_wp2_with fail
              go_meet
              exact ⟨M, N, A9, A8, c9, c8, rfl, rfl, J⟩
            · unfold op4
              go_simp
              replace J := Lib.hid (J.out.newX [.int .i64 0, .int .i64 0, .slice none 0 0] 24)
              generalize u2.alloc (.cells #[.int .i64 0, .int .i64 0, .slice none 0 0] 24) = u3 at *
              generalize u2.heap.size = M at *
              (try clear sk)
              have sk := J.out.rest.b332
              refine hK.out _ _ sk (fun hHeld2 => ?_)
              clear hK K hHeld
              have hHeld := hHeld2
              clear hHeld2
              try simp only [Act.put, List.setIfInBounds_toArray, List.set_cons_zero, List.set_cons_succ]
              refine wpAnyH_ready (rs := [3]) (by kernel_rfl) (by simp) (AllReadyH.cons (o := op3) rfl (fun K hK => ?_) AllReadyH.nil)
              unfold op3
              go_simp
              refine (C30' _ J.out.rest.below).out.mono ?_
              rintro e u4 ⟨v8, rfl, hr, hb⟩
              obtain ⟨A8, c8, rfl, _⟩ := hr.pxs.shape
              rw [HLM.out] at hr ⊢
              replace J := Lib.hid (J.out.call hb hr)
              (try clear sk)
              have sk := J.out.rest.b332
              clear hb hr
              refine hK.out _ _ sk (fun hHeld2 => ?_)
              clear hK K hHeld
              have hHeld := hHeld2
              clear hHeld2
              try simp only [Act.put, List.setIfInBounds_toArray, List.set_cons_zero, List.set_cons_succ]
              refine wpAnyH_ready (rs := [6]) (by kernel_rfl) (by simp) (AllReadyH.cons (o := op6) rfl (fun K hK => ?_) AllReadyH.nil)
              unfold op6
              obtain ⟨z0, z1, z2, zf, _⟩ := J.out.cX
              go_simp
              show K _ (set3 u4 M (.int .i64 a) (.int .i64 b) (.slice A9 ln c9))
              replace J := Lib.hid (J.out.setX (.int .i64 a) (.int .i64 b) (.slice A9 ln c9))
              clear z0 z1 z2 zf
              generalize set3 u4 M (.int .i64 a) (.int .i64 b) (.slice A9 ln c9) = u5 at *
              (try clear sk)
              have sk := J.out.rest.b332
              refine hK.out _ _ sk (fun hHeld2 => ?_)
              clear hK K hHeld
              have hHeld := hHeld2
              clear hHeld2
              try simp only [Act.put, List.setIfInBounds_toArray, List.set_cons_zero, List.set_cons_succ]
              refine wpAnyH_ready (rs := [7]) (by kernel_rfl) (by simp) (AllReadyH.cons (o := op7) rfl (fun K hK => ?_) AllReadyH.nil)
              unfold op7
              obtain ⟨z0, z1, z2, zf, _⟩ := J.out.cY
              go_simp
              show K _ (set3 u5 N (.int .i64 c) (.int .i64 d) (.slice A8 lm c8))
              replace J := Lib.hid (J.out.setY (.int .i64 c) (.int .i64 d) (.slice A8 lm c8))
              clear z0 z1 z2 zf
              generalize set3 u5 N (.int .i64 c) (.int .i64 d) (.slice A8 lm c8) = u6 at *
              (try clear sk)
              have sk := J.out.rest.b332
              refine hK.out _ _ sk (fun hHeld2 => ?_)
              clear hK K hHeld
              have hHeld := hHeld2
              clear hHeld2
              try simp only [Act.put, List.setIfInBounds_toArray, List.set_cons_zero, List.set_cons_succ]
              refine wpAnyH_done (by kernel_rfl) ?_ _
              go_wp2_with fail
              go_meet
              exact ⟨M, N, A9, A8, c9, c8, rfl, rfl, J⟩
          · unfold op4
            go_simp
            replace J := Lib.hid (J.out.newX [.int .i64 0, .int .i64 0, .slice none 0 0] 24)
            generalize u1.alloc (.cells #[.int .i64 0, .int .i64 0, .slice none 0 0] 24) = u2 at *
            generalize u1.heap.size = M at *
            (try clear sk)
            have sk := J.out.rest.b332
            refine hK.out _ _ sk (fun hHeld2 => ?_)
            clear hK K hHeld
            have hHeld := hHeld2
            clear hHeld2
            try simp only [Act.put, List.setIfInBounds_toArray, List.set_cons_zero, List.set_cons_succ]
            refine wpAnyH_ready (rs := [1]) (by kernel_rfl) (by simp) (AllReadyH.cons (o := op1) rfl (fun K hK => ?_) AllReadyH.nil)
            unfold op1
            go_simp
            refine (C30 _ J.out.rest.below).out.mono ?_
            rintro e u3 ⟨v9, rfl, hr, hb⟩
            obtain ⟨A9, c9, rfl, _⟩ := hr.pxs.shape
            rw [HLN.out] at hr ⊢
            replace J := Lib.hid (J.out.call hb hr)
            (try clear sk)
            have sk := J.out.rest.b332
            clear hb hr
            refine hK.out _ _ sk (fun hHeld2 => ?_)
            clear hK K hHeld
            have hHeld := hHeld2
            clear hHeld2
            try simp only [Act.put, List.setIfInBounds_toArray, List.set_cons_zero, List.set_cons_succ]
            refine wpAnyH_ready (rs := [3]) (by kernel_rfl) (by simp) (AllReadyH.cons (o := op3) rfl (fun K hK => ?_) AllReadyH.nil)
            unfold op3
            go_simp
            refine (C30' _ J.out.rest.below).out.mono ?_
            rintro e u4 ⟨v8, rfl, hr, hb⟩
            obtain ⟨A8, c8, rfl, _⟩ := hr.pxs.shape
            rw [HLM.out] at hr ⊢
            replace J := Lib.hid (J.out.call hb hr)
            (try clear sk)
            have sk := J.out.rest.b332
            clear hb hr
            refine hK.out _ _ sk (fun hHeld2 => ?_)
            clear hK K hHeld
            have hHeld := hHeld2
            clear hHeld2
            try simp only [Act.put, List.setIfInBounds_toArray, List.set_cons_zero, List.set_cons_succ]
            refine wpAnyH_ready (rs := [6]) (by kernel_rfl) (by simp) (AllReadyH.cons (o := op6) rfl (fun K hK => ?_) AllReadyH.nil)
            unfold op6
            obtain ⟨z0, z1, z2, zf, _⟩ := J.out.cX
            go_simp
            show K _ (set3 u4 M (.int .i64 a) (.int .i64 b) (.slice A9 ln c9))
            replace J := Lib.hid (J.out.setX (.int .i64 a) (.int .i64 b) (.slice A9 ln c9))
            clear z0 z1 z2 zf
            generalize set3 u4 M (.int .i64 a) (.int .i64 b) (.slice A9 ln c9) = u5 at *
            (try clear sk)
            have sk := J.out.rest.b332
            refine hK.out _ _ sk (fun hHeld2 => ?_)
            clear hK K hHeld
            have hHeld := hHeld2
            clear hHeld2
            try simp only [Act.put, List.setIfInBounds_toArray, List.set_cons_zero, List.set_cons_succ]
            refine wpAnyH_ready (rs := [7]) (by kernel_rfl) (by simp) (AllReadyH.cons (o := op7) rfl (fun K hK => ?_) AllReadyH.nil)
            unfold op7
            obtain ⟨z0, z1, z2, zf, _⟩ := J.out.cY
            go_simp
            show K _ (set3 u5 N (.int .i64 c) (.int .i64 d) (.slice A8 lm c8))
            replace J := Lib.hid (J.out.setY (.int .i64 c) (.int .i64 d) (.slice A8 lm c8))
            clear z0 z1 z2 zf
            generalize set3 u5 N (.int .i64 c) (.int .i64 d) (.slice A8 lm c8) = u6 at *
            (try clear sk)
            have sk := J.out.rest.b332
            refine hK.out _ _ sk (fun hHeld2 => ?_)
            clear hK K hHeld
            have hHeld := hHeld2
            clear hHeld2
            try simp only [Act.put, List.setIfInBounds_toArray, List.set_cons_zero, List.set_cons_succ]
            refine wpAnyH_done (by kernel_rfl) ?_ _
            go_wp2_with fail
            go_meet
            exact ⟨M, N, A9, A8, c9, c8, rfl, rfl, J⟩

      case rest =>
        obtain ⟨M, N, A9, A8, c9, c8, rfl, rfl, HW⟩ := hcut
        clear J C30 C30'
        have F : Hid (Held w wc [(M, [.int .i64 a, .int .i64 b, .slice A9 ln c9]), (N, [.int .i64 c, .int .i64 d, .slice A8 lm c8]), (w.heap.size + 1 + 1, [.int .i64 x, .int .i64 y]), (w.heap.size + 1, [.int .i64 c, .int .i64 d, .slice A' lm n']), (w.heap.size, [.int .i64 a, .int .i64 b, .slice A ln n])] ∧ Pxs wc (.slice A8 lm c8) m ∧ Pxs wc (.slice A9 ln c9) l ∧ Pxs wc (.slice A' lm n') m ∧ Pxs wc (.slice A ln n) l) := by
          have HZ : HeldZ w wc [(M, [.int .i64 a, .int .i64 b, .slice A9 ln c9]), (N, [.int .i64 c, .int .i64 d, .slice A8 lm c8]), (w.heap.size + 1 + 1, [.int .i64 x, .int .i64 y]), (w.heap.size + 1, [.int .i64 c, .int .i64 d, .slice A' lm n']), (w.heap.size, [.int .i64 a, .int .i64 b, .slice A ln n])] [(.slice A8 lm c8, m), (.slice A9 ln c9, l)] := HW.out
          exact Lib.hid ⟨HZ.held, HZ.r0.pxs, HZ.r1.pxs, H2.out.below HZ.below, H1.out.below HZ.below⟩
        have J : Hid (HeldZ wc wc [] []) := Lib.hid (Held.nil wc).toZ
        have BW : Hid (Below w.heap.size w wc) := Lib.hid HW.out.rest.below
        obtain ⟨oa, ob, er, O, h29, h31⟩ := outs_paste a b c d x y HB.out HB'.out
        obtain ⟨pa, pb, fr, P, h32, h33⟩ := outs_over a b c d x y HB.out HB'.out
        have C29 := fun W (hb : Below wc.heap.size wc W) => Lib.hid (h29 W _ _ (F.out.2.2.2.2.below hb) (F.out.2.2.2.1.below hb))
        have C31 := fun W (hb : Below wc.heap.size wc W) => Lib.hid (h31 W _ _ (F.out.2.2.1.below hb) (F.out.2.1.below hb))
        have C32 := fun W (hb : Below wc.heap.size wc W) => Lib.hid (h32 W _ _ (F.out.2.2.2.2.below hb) (F.out.2.2.2.1.below hb))
        have C33 := fun W (hb : Below wc.heap.size wc W) => Lib.hid (h33 W _ _ (F.out.2.2.1.below hb) (F.out.2.1.below hb))
        obtain ⟨on, hon⟩ : ∃ on, O.length = on := ⟨_, rfl⟩
        obtain ⟨pn, hpn⟩ : ∃ pn, P.length = pn := ⟨_, rfl⟩
        have HO := Lib.hid hon
        have HP := Lib.hid hpn
        clear h29 h31 h32 h33 hon hpn HW H1 H2 HLN HLM HB HB'
        have FD := fun W (hb : Below wc.heap.size wc W) => Lib.hid (F.out.1.step hb)
        obtain ⟨d0, d1, d2, _, dt⟩ := (FD wc J.out.below).out.tri (l1 := [_, _, _, _])
        obtain ⟨s0, s1, s2, _, st⟩ := (FD wc J.out.below).out.tri (l1 := [_, _, _])
        go_wp2_with fail
        clear d0 d1 d2 dt s0 s1 s2 st
        refine (C29 _ J.out.below).out.mono ?_
        rintro e w1 ⟨v1, rfl, hr, hb⟩
        obtain ⟨A1, c1, rfl, _⟩ := hr.pxs.shape
        rw [HO.out] at hr ⊢
        replace J := Lib.hid (J.out.call hb hr)
        clear hb hr
        obtain ⟨d0, d1, d2, _, dt⟩ := (FD w1 J.out.below).out.tri (l1 := [])
        obtain ⟨s0, s1, s2, _, st⟩ := (FD w1 J.out.below).out.tri (l1 := [_])
        go_wp2_with fail
        clear d0 d1 d2 dt s0 s1 s2 st
        replace J := Lib.hid (J.out.alloc [.int .i64 oa, .int .i64 ob, .slice A1 on c1] 24)
        generalize w1.alloc (.cells #[.int .i64 oa, .int .i64 ob, .slice A1 on c1] 24) = u1 at *
        generalize w1.heap.size = k1 at *
        refine (C31 _ J.out.below).out.mono ?_
        rintro e w2 ⟨v2, rfl, hr, hb⟩
        obtain ⟨A2, c2, rfl, _⟩ := hr.pxs.shape
        rw [HO.out] at hr ⊢
        replace J := Lib.hid (J.out.call hb hr)
        clear hb hr
        obtain ⟨d0, d1, d2, _, dt⟩ := J.out.held.tri (l1 := [])
        go_wp2_with fail
        clear d0 d1 d2 dt
        replace J := Lib.hid (J.out.alloc [.int .i64 oa, .int .i64 ob, .slice A2 on c2] 24)
        generalize w2.alloc (.cells #[.int .i64 oa, .int .i64 ob, .slice A2 on c2] 24) = u2 at *
        generalize w2.heap.size = k2 at *
        refine (Lib.hid (equal_self (oa := oa) (ob := ob) J.out.r1.pxs J.out.r0.pxs)).out.mono ?_
        rintro e wq ⟨rfl, hb⟩
        replace J := Lib.hid (J.out.step hb)
        clear hb
        rename World => wx
        obtain ⟨d0, d1, d2, _, dt⟩ := (FD wx J.out.below).out.tri (l1 := [_, _, _, _])
        obtain ⟨s0, s1, s2, _, st⟩ := (FD wx J.out.below).out.tri (l1 := [_, _, _])
        go_wp2_with fail
        clear d0 d1 d2 dt s0 s1 s2 st
        refine (C32 _ J.out.below).out.mono ?_
        rintro e w3 ⟨v3, rfl, hr, hb⟩
        obtain ⟨A3, c3, rfl, _⟩ := hr.pxs.shape
        rw [HP.out] at hr ⊢
        replace J := Lib.hid (J.out.call hb hr)
        clear hb hr
        obtain ⟨z0, z1, z2, zf, zt⟩ := J.out.held.tri (l1 := [_])
        go_upto_region 10 with fail
        clear z0 z1 z2 zf zt
        replace J : Hid (HeldZ wc (((w3.setCell ⟨k1, 0, none⟩ (.int .i64 pa)).setCell ⟨k1, 1, none⟩ (.int .i64 pb)).setCell ⟨k1, 2, none⟩ (.slice A3 pn c3)) _ _) := Lib.hid (J.out.set3 (l1 := [_]) (.int .i64 pa) (.int .i64 pb) (.slice A3 pn c3))
        generalize ((w3.setCell ⟨k1, 0, none⟩ (.int .i64 pa)).setCell ⟨k1, 1, none⟩ (.int .i64 pb)).setCell ⟨k1, 2, none⟩ (.slice A3 pn c3) = x3 at *
        obtain ⟨d0, d1, d2, _, dt⟩ := (FD x3 J.out.below).out.tri (l1 := [])
        obtain ⟨s0, s1, s2, _, st⟩ := (FD x3 J.out.below).out.tri (l1 := [_])
        go_wp2_with fail
        clear d0 d1 d2 dt s0 s1 s2 st
        refine (C33 _ J.out.below).out.mono ?_
        rintro e w4 ⟨v4, rfl, hr, hb⟩
        obtain ⟨A4, c4, rfl, _⟩ := hr.pxs.shape
        rw [HP.out] at hr ⊢
        replace J := Lib.hid (J.out.call hb hr)
        clear hb hr
        obtain ⟨z0, z1, z2, zf, zt⟩ := J.out.held.tri (l1 := [])
        go_upto_region 11 with fail
        clear z0 z1 z2 zf zt
        replace J : Hid (HeldZ wc (((w4.setCell ⟨k2, 0, none⟩ (.int .i64 pa)).setCell ⟨k2, 1, none⟩ (.int .i64 pb)).setCell ⟨k2, 2, none⟩ (.slice A4 pn c4)) _ _) := Lib.hid (J.out.set3 (l1 := []) (.int .i64 pa) (.int .i64 pb) (.slice A4 pn c4))
        generalize ((w4.setCell ⟨k2, 0, none⟩ (.int .i64 pa)).setCell ⟨k2, 1, none⟩ (.int .i64 pb)).setCell ⟨k2, 2, none⟩ (.slice A4 pn c4) = x4 at *
        obtain ⟨d0, d1, d2, _, dt⟩ := J.out.held.tri (l1 := [])
        obtain ⟨s0, s1, s2, _, st⟩ := J.out.held.tri (l1 := [_])
        go_wp2_with fail
        clear d0 d1 d2 dt s0 s1 s2 st
        refine (Lib.hid (equal_self (oa := pa) (ob := pb) J.out.r1.pxs J.out.r0.pxs)).out.mono ?_
        rintro e wq ⟨rfl, hb⟩
        replace J := Lib.hid (J.out.step hb)
        clear hb
        rename World => wy
        replace J := Lib.hid (J.out.only J.out.r1)
        have hpm : pn ≤ maxLen := by
          obtain ⟨_, _, _, hp1, hp2⟩ := J.out.r0.pxs.shape
          rw [← HP.out]
          exact Nat.le_trans hp1 hp2
        simp only [maxLen] at hpm
        obtain ⟨d0, d1, d2, _, dt⟩ := J.out.held.tri (l1 := [_])
        go_wp2_with fail
        clear d0 d1 d2 dt C29 C31 C32 C33
        go_loopw [86] (fun s86 wr => ∃ (j : Nat) (L : List Px), j ≤ pn ∧ s86 = .int .i64 (j : Int) ∧ Hid (L.length = pn ∧ HeldZ wc wr [(k2, [.int .i64 pa, .int .i64 pb, .slice A4 pn c4]), (k1, [.int .i64 pa, .int .i64 pb, .slice A3 pn c3])] [(.slice A3 pn c3, L)])) (fun s86 _ => leftN pn s86)
        case atStart => exact ⟨0, P, Nat.zero_le _, rfl, Lib.hid ⟨HP.out, J.out⟩⟩
        case round =>
          clear J
          obtain ⟨j, L, hj, rfl, HR⟩ := hrel
          by_cases hlt : j < pn
          · have q0 : (j : Int) < pn := by omega
            have q1 : (0 : Int) ≤ j := by omega
            rcases HR.out.2.r0 with ⟨hL, _⟩ | ⟨g, c, e, h1, h2, h3, h5, h4⟩
            · have := HR.out.1
              rw [hL] at this
              simp at this
              omega
            · injection e with e1 e2 e3
              subst e1 e3
              obtain ⟨p, hp⟩ : ∃ p, L[j]? = some p := ⟨_, List.getElem?_eq_getElem (by omega)⟩
              obtain ⟨p0, p1, p2, p3⟩ := h3.1 j p hp
              rw [Nat.zero_add] at p0 p1 p2 p3
              have pf := h3.2.1
              have pt := h3.2.2
              have Z := Lib.hid (And.intro ((show (L.set j (⟨1, 0, 0, 3⟩ : Px)).length = pn by rw [List.length_set]; exact HR.out.1)) (HR.out.2.put (o := j) (by omega) ⟨1, 0, 0, 3⟩))
              obtain ⟨d0, d1, d2, _, dt⟩ := HR.out.2.held.tri (l1 := [_])
              clear h1 h2 h3 h5 h4 hp HR e2
              go_wp2_with fail
              go_roundw
              case rel => exact ⟨j + 1, _, by omega, by go_num, Z⟩
              case measure =>
                unfold leftN
                simp [intOf]
                omega
          · obtain rfl : pn = j := by omega
            have q0 : ¬ (pn : Int) < pn := by omega
            have J := HR.out.2
            obtain ⟨d0, d1, d2, _, dt⟩ := (FD wr J.below).out.tri (l1 := [_, _, _, _])
            obtain ⟨s0, s1, s2, _, st⟩ := (FD wr J.below).out.tri (l1 := [])
            have K1 := Lib.hid (equal_self (oa := a) (ob := b) (F.out.2.2.2.2.below J.below) (F.out.2.2.1.below J.below))
            replace J := Lib.hid J
            clear HR
            go_wp2_with fail
            clear d0 d1 d2 dt s0 s1 s2 st
            refine K1.out.mono ?_
            rintro e wq ⟨rfl, hb⟩
            replace J := Lib.hid (J.out.step hb)
            clear hb
            rename World => wz2
            obtain ⟨d0, d1, d2, _, dt⟩ := (FD wz2 J.out.below).out.tri (l1 := [_, _, _])
            obtain ⟨s0, s1, s2, _, st⟩ := (FD wz2 J.out.below).out.tri (l1 := [_])
            have K2 := Lib.hid (equal_self (oa := c) (ob := d) (F.out.2.2.2.1.below J.out.below) (F.out.2.1.below J.out.below))
            go_wp2_with fail
            clear d0 d1 d2 dt s0 s1 s2 st
            refine K2.out.mono ?_
            rintro e wq ⟨rfl, hb⟩
            replace J := Lib.hid (J.out.step hb)
            clear hb
            go_wp2_with fail
            refine (C14 _).out.mono ?_
            rintro e wq ⟨rfl, hb⟩
            replace J := Lib.hid (J.out.step hb)
            clear hb
            go_wp2_with fail
            go_ret
            exact ⟨rfl, BW.out.trans (J.out.below.mono BW.out.size)⟩
    · have C13' := fun W => Lib.hid (many_any hs' c d A' n' W)
      generalize l.length = ln at *
      generalize m.length = lm at *
      clear h1 h2 hlb hmb hs hs' H1 H2 HB HB'
      go_enter Try.func8, Try.ntmps8
      go_wp2_with fail
      refine (C13 _).out.mono ?_
      rintro e wq ⟨rfl, hb⟩
      replace J := Lib.hid (J.out.step hb)
      clear hb
      obtain ⟨_, _, _, b0, b1, b2, _, _⟩ := J.out.held.b332
      go_wp2_with fail
      refine (C13' _).out.mono ?_
      rintro e wq ⟨rfl, hb⟩
      replace J := Lib.hid (J.out.step hb)
      clear hb
      clear b0 b1 b2
      go_wp2_with fail
      refine (C14 _).out.mono ?_
      rintro e wq ⟨rfl, hb⟩
      replace J := Lib.hid (J.out.step hb)
      clear hb
      go_wp2_with fail
      go_ret
      exact ⟨rfl, J.out.below⟩
  · have C13 := fun W => Lib.hid (many_any hs a b A n W)
    generalize l.length = ln at *
    generalize m.length = lm at *
    clear h1 h2 hlb hmb hs H1 H2 HB HB'
    go_enter Try.func8, Try.ntmps8
    go_wp2_with fail
    refine (C13 _).out.mono ?_
    rintro e wq ⟨rfl, hb⟩
    replace J := Lib.hid (J.out.step hb)
    clear hb
    go_wp2_with fail
    refine (C14 _).out.mono ?_
    rintro e wq ⟨rfl, hb⟩
    replace J := Lib.hid (J.out.step hb)
    clear hb
    go_wp2_with fail
    go_ret
    exact ⟨rfl, J.out.below⟩

end Go.Proofs.Ytahhcklkcibgoaa
