/-
  The walk of the law PixelOverAssociativity.
-/
import Derived.Test.YtkphkmcdbmphlaaTrio
import Derived.Deep.RegionWith
import Derived.Deep.DeepCutAuto
namespace Go.Proofs.Ytkphkmcdbmphlaa
open Go.RowKit

def oa3 : Oper := { dst := some 19, op := Go.Op.call { callee := Go.Callee.value (Go.Operand.func 24), args := #[Go.Operand.tmp 17, Go.Operand.tmp 18], argTypes := #[23, 23] }, type := 23, pos := "law.go:73", after := #[{ on := 1, ground := Go.Ground.data }, { on := 2, ground := Go.Ground.data }], guard := none }
def oa4 : Oper := { dst := some 20, op := Go.Op.call { callee := Go.Callee.value (Go.Operand.func 24), args := #[Go.Operand.tmp 16, Go.Operand.tmp 19], argTypes := #[23, 23] }, type := 23, pos := "law.go:73", after := #[{ on := 0, ground := Go.Ground.data }, { on := 3, ground := Go.Ground.data }, { on := 3, ground := Go.Ground.chain }], guard := none }
def oa7 : Oper := { dst := some 23, op := Go.Op.call { callee := Go.Callee.value (Go.Operand.func 24), args := #[Go.Operand.tmp 21, Go.Operand.tmp 22], argTypes := #[23, 23] }, type := 23, pos := "law.go:73", after := #[{ on := 5, ground := Go.Ground.data }, { on := 6, ground := Go.Ground.data }, { on := 4, ground := Go.Ground.chain }], guard := none }
def oa9 : Oper := { dst := some 25, op := Go.Op.call { callee := Go.Callee.value (Go.Operand.func 24), args := #[Go.Operand.tmp 23, Go.Operand.tmp 24], argTypes := #[23, 23] }, type := 23, pos := "law.go:73", after := #[{ on := 7, ground := Go.Ground.data }, { on := 8, ground := Go.Ground.data }, { on := 7, ground := Go.Ground.chain }], guard := none }
def oa10 : Oper := { dst := some 7, op := Go.Op.alloc 23, type := 0, pos := "law.go:73", after := #[], guard := none }
def oa11 : Oper := { dst := some 8, op := Go.Op.alloc 23, type := 0, pos := "law.go:73", after := #[], guard := none }
def oa12 : Oper := { dst := none, op := Go.Op.store 23 (Go.Operand.tmp 7) (Go.Operand.tmp 20), type := 0, pos := "law.go:73", after := #[{ on := 10, ground := Go.Ground.data }, { on := 4, ground := Go.Ground.data }, { on := 9, ground := Go.Ground.chain }, { on := 0, ground := Go.Ground.phase }, { on := 1, ground := Go.Ground.phase }, { on := 2, ground := Go.Ground.phase }, { on := 3, ground := Go.Ground.phase }, { on := 4, ground := Go.Ground.phase }, { on := 5, ground := Go.Ground.textOnly Go.Departure.lateStores }, { on := 6, ground := Go.Ground.textOnly Go.Departure.lateStores }, { on := 7, ground := Go.Ground.textOnly Go.Departure.lateStoresUnsure }, { on := 8, ground := Go.Ground.textOnly Go.Departure.lateStores }, { on := 9, ground := Go.Ground.textOnly Go.Departure.lateStoresUnsure }, { on := 10, ground := Go.Ground.phase }, { on := 11, ground := Go.Ground.phase }], guard := none }
def oa13 : Oper := { dst := none, op := Go.Op.store 23 (Go.Operand.tmp 8) (Go.Operand.tmp 25), type := 0, pos := "law.go:73", after := #[{ on := 11, ground := Go.Ground.data }, { on := 9, ground := Go.Ground.data }, { on := 12, ground := Go.Ground.chain }, { on := 0, ground := Go.Ground.phase }, { on := 1, ground := Go.Ground.phase }, { on := 2, ground := Go.Ground.phase }, { on := 3, ground := Go.Ground.phase }, { on := 4, ground := Go.Ground.phase }, { on := 5, ground := Go.Ground.phase }, { on := 6, ground := Go.Ground.phase }, { on := 7, ground := Go.Ground.phase }, { on := 8, ground := Go.Ground.phase }, { on := 9, ground := Go.Ground.phase }, { on := 10, ground := Go.Ground.phase }, { on := 11, ground := Go.Ground.phase }, { on := 12, ground := Go.Ground.phase }], guard := none }

theorem near_true {a b : Nat} (ha : a < 256) (hb : b < 256) (h : (a : Int) - b ≤ 2 ∧ (b : Int) - a ≤ 2) (w : World) : Calls Try.prog 28 #[.int .u8 (a : Int), .int .u8 (b : Int)] w fun e w' => e = .returned (.bool true) ∧ w = w' := by
  have h1 : nearB a b = true := by
    unfold nearB
    rw [decide_eq_true h.1, decide_eq_true h.2]
    rfl
  have := near_any ha hb w
  rwa [h1] at this

set_option maxRecDepth 100000 in
set_option maxHeartbeats 40000000 in
theorem assoc_walk {a b c : Px} (ha : Byt a) (hb0 : Byt b) (hc : Byt c) (w : World) : Calls Try.prog 8 #[.agg #[.int .u8 (a.r : Int), .int .u8 (a.g : Int), .int .u8 (a.b : Int), .int .u8 (a.a : Int)], .agg #[.int .u8 (b.r : Int), .int .u8 (b.g : Int), .int .u8 (b.b : Int), .int .u8 (b.a : Int)], .agg #[.int .u8 (c.r : Int), .int .u8 (c.g : Int), .int .u8 (c.b : Int), .int .u8 (c.a : Int)]] w (Says true w) := by
  have J := Lib.hid (HeldT.new w a b c).drew
  have C1 := fun W => Lib.hid (clamp_any a W)
  have C2 := fun W => Lib.hid (clamp_any b W)
  have C3 := fun W => Lib.hid (clamp_any c W)
  have yp := clamp_byt ha
  have yq := clamp_byt hb0
  have yr := clamp_byt hc
  have op := clamp_ok a
  have oq := clamp_ok b
  have or' := clamp_ok c
  generalize clampP a = p at *
  generalize clampP b = q at *
  generalize clampP c = r at *
  have D1 := fun W => Lib.hid (over_any yq yr W)
  have y1 := over_byt yq yr
  have D3 := fun W => Lib.hid (over_any yp yq W)
  have y3 := over_byt yp yq
  have D2 := fun W => Lib.hid (over_any yp y1 W)
  have D4 := fun W => Lib.hid (over_any y3 yr W)
  have hnear := over_near op oq or' yp yq yr
  have z1 := over_assoc_a (b := q) (c := r) op
  have z2 := over_assoc_b (c := r) yp oq
  have z3 := over_assoc_z1 (c := r) oq
  have z4 := over_assoc_z2 op or'
  have z5 := over_assoc_z3 (a := p) oq
  have hx := over_byt yp y1
  have hy := over_byt y3 yr
  have hsame : p.a = 255 ∨ q.a = 255 ∨ p = zeroPx ∨ q = zeroPx ∨ r = zeroPx → overP p (overP q r) = overP (overP p q) r := by
    rintro (h | h | h | h | h)
    · exact z1 h
    · exact z2 h
    · rw [h]; exact z3
    · rw [h]; exact z4
    · rw [h]; exact z5
  dsimp only at hnear
  generalize overP p (overP q r) = x at *
  generalize overP (overP p q) r = y at *
  generalize overP q r = m1 at *
  generalize overP p q = m3 at *
  replace hnear := Lib.hid hnear
  replace hsame := Lib.hid hsame
  clear z1 z2 z3 z4 z5 yp yq yr op oq or' y1 y3 ha hb0 hc
  replace hx := Lib.hid hx
  replace hy := Lib.hid hy
  go_enter Try.func8, Try.ntmps8
  go_wp2_with fail
  go_cut [] (fun wx => Hid (HeldT w wx p q r))
  case first =>
    clear D1 D2 D3 D4
    go_region_with (first
      | (go_at_call 11; (with_reducible refine (C1 _).out.mono ?_); rintro e w1 ⟨rfl, hb1⟩; obtain ⟨hc1, hf1⟩ := bcell3 hb1; have hz1 : w.heap.size + 1 + 1 < w1.heap.size := by have := hb1.size; simp at this; omega)
      | (go_at_call 11; (with_reducible refine (C2 _).out.mono ?_); rintro e w2 ⟨rfl, hb2⟩; replace hb2 := hb1.trans (hb2.mono hb1.size); clear hc1 hf1 hz1; obtain ⟨hc2, hf2⟩ := bcell3 hb2; have hz2 : w.heap.size + 1 + 1 < w2.heap.size := by have := hb2.size; simp at this; omega)
      | (go_at_call 11; (with_reducible refine (C3 _).out.mono ?_); rintro e w3 ⟨rfl, hb3⟩; replace hb3 := hb2.trans (hb3.mono hb2.size); clear hc2 hf2 hz2; obtain ⟨hc3, hf3⟩ := bcell3 hb3; have hz3 : w.heap.size + 1 + 1 < w3.heap.size := by have := hb3.size; simp at this; omega))
    all_goals
      have R := Lib.hid ((((J.out.step hb3).set0 p).set1 q).set2 r)
      change Exit.then _ _ Exit.normal _ (setP (setP (setP w3 w.heap.size p) (w.heap.size + 1) q) (w.heap.size + 1 + 1) r)
      generalize setP (setP (setP w3 w.heap.size p) (w.heap.size + 1) q) (w.heap.size + 1 + 1) r = w4 at *
      clear hb1 hb2 hb3 hc3 hf3 hz3 C1 C2 C3 J
      go_wp2_with fail
      go_meet
      exact R
  case rest =>
    clear C1 C2 C3 J
    have J := Lib.hid (HeldQ.start hcut.out).drew
    clear hcut
    go_wp2_with fail
    go_cut [7, 8] (fun s7 s8 wx => ∃ M N, s7 = .pointer (some ⟨M, 0, none⟩) ∧ s8 = .pointer (some ⟨N, 0, none⟩) ∧ Hid (HeldQ w wx p q r (some (M, x)) (some (N, y))))
    case first =>
      have sk := J.out.cells
      refine wp_region_held_drew (S := (fun W => (W.cell? ⟨w.heap.size, 0, none⟩ = some (.int .u8 (p.r : Int)) ∧ W.cell? ⟨w.heap.size, 1, none⟩ = some (.int .u8 (p.g : Int)) ∧ W.cell? ⟨w.heap.size, 2, none⟩ = some (.int .u8 (p.b : Int)) ∧ W.cell? ⟨w.heap.size, 3, none⟩ = some (.int .u8 (p.a : Int))) ∧ (W.cell? ⟨w.heap.size + 1, 0, none⟩ = some (.int .u8 (q.r : Int)) ∧ W.cell? ⟨w.heap.size + 1, 1, none⟩ = some (.int .u8 (q.g : Int)) ∧ W.cell? ⟨w.heap.size + 1, 2, none⟩ = some (.int .u8 (q.b : Int)) ∧ W.cell? ⟨w.heap.size + 1, 3, none⟩ = some (.int .u8 (q.a : Int))) ∧ (W.cell? ⟨w.heap.size + 1 + 1, 0, none⟩ = some (.int .u8 (r.r : Int)) ∧ W.cell? ⟨w.heap.size + 1 + 1, 1, none⟩ = some (.int .u8 (r.g : Int)) ∧ W.cell? ⟨w.heap.size + 1 + 1, 2, none⟩ = some (.int .u8 (r.b : Int)) ∧ W.cell? ⟨w.heap.size + 1 + 1, 3, none⟩ = some (.int .u8 (r.a : Int))))) (by kernel_rfl) sk (fun hHeld => ?_)
      generalize wc.drew = u0 at *
      refine wpAnyH_take (i := 0) (oi := ({ dst := some 16, op := Go.Op.load 23 (Go.Operand.tmp 3), type := 23, pos := "law.go:73", after := #[], guard := none } : Oper)) (v := ?_) rfl (by kernel_rfl) (by kernel_rfl) (by kernel_rfl) (fun _ _ _ h => h) (Or.inl ⟨by kernel_rfl, ?_⟩) hHeld ?_
      rotate_left 1
      · (intro W hSw; (try dsimp only at hSw); go_simp; try with_reducible rfl)
      try simp only [Act.put, List.setIfInBounds_toArray, List.set_cons_zero, List.set_cons_succ]
      refine wpAnyH_take (i := 1) (oi := ({ dst := some 17, op := Go.Op.load 23 (Go.Operand.tmp 4), type := 23, pos := "law.go:73", after := #[], guard := none } : Oper)) (v := ?_) rfl (by kernel_rfl) (by kernel_rfl) (by kernel_rfl) (fun _ _ _ h => h) (Or.inl ⟨by kernel_rfl, ?_⟩) hHeld ?_
      rotate_left 1
      · (intro W hSw; (try dsimp only at hSw); go_simp; try with_reducible rfl)
      try simp only [Act.put, List.setIfInBounds_toArray, List.set_cons_zero, List.set_cons_succ]
      refine wpAnyH_take (i := 2) (oi := ({ dst := some 18, op := Go.Op.load 23 (Go.Operand.tmp 5), type := 23, pos := "law.go:73", after := #[], guard := none } : Oper)) (v := ?_) rfl (by kernel_rfl) (by kernel_rfl) (by kernel_rfl) (fun _ _ _ h => h) (Or.inl ⟨by kernel_rfl, ?_⟩) hHeld ?_
      rotate_left 1
      · (intro W hSw; (try dsimp only at hSw); go_simp; try with_reducible rfl)
      try simp only [Act.put, List.setIfInBounds_toArray, List.set_cons_zero, List.set_cons_succ]
      refine wpAnyH_take (i := 5) (oi := ({ dst := some 21, op := Go.Op.load 23 (Go.Operand.tmp 3), type := 23, pos := "law.go:73", after := #[], guard := none } : Oper)) (v := ?_) rfl (by kernel_rfl) (by kernel_rfl) (by kernel_rfl) (fun _ _ _ h => h) (Or.inl ⟨by kernel_rfl, ?_⟩) hHeld ?_
      rotate_left 1
      · (intro W hSw; (try dsimp only at hSw); go_simp; try with_reducible rfl)
      try simp only [Act.put, List.setIfInBounds_toArray, List.set_cons_zero, List.set_cons_succ]
      refine wpAnyH_take (i := 6) (oi := ({ dst := some 22, op := Go.Op.load 23 (Go.Operand.tmp 4), type := 23, pos := "law.go:73", after := #[], guard := none } : Oper)) (v := ?_) rfl (by kernel_rfl) (by kernel_rfl) (by kernel_rfl) (fun _ _ _ h => h) (Or.inl ⟨by kernel_rfl, ?_⟩) hHeld ?_
      rotate_left 1
      · (intro W hSw; (try dsimp only at hSw); go_simp; try with_reducible rfl)
      try simp only [Act.put, List.setIfInBounds_toArray, List.set_cons_zero, List.set_cons_succ]
      refine wpAnyH_take (i := 8) (oi := ({ dst := some 24, op := Go.Op.load 23 (Go.Operand.tmp 5), type := 23, pos := "law.go:73", after := #[], guard := none } : Oper)) (v := ?_) rfl (by kernel_rfl) (by kernel_rfl) (by kernel_rfl) (fun _ _ _ h => h) (Or.inl ⟨by kernel_rfl, ?_⟩) hHeld ?_
      rotate_left 1
      · (intro W hSw; (try dsimp only at hSw); go_simp; try with_reducible rfl)
      try simp only [Act.put, List.setIfInBounds_toArray, List.set_cons_zero, List.set_cons_succ]
      refine wpAnyH_ready (rs := [3, 10, 11]) (by kernel_rfl) (by simp) (AllReadyH.cons (o := oa3) rfl (fun K hK => ?_) (AllReadyH.cons (o := oa10) rfl (fun K hK => ?_) (AllReadyH.cons (o := oa11) rfl (fun K hK => ?_) AllReadyH.nil)))
      · unfold oa3
        go_simp
        refine (D1 _).out.mono ?_
        rintro e u1 ⟨rfl, hb⟩
        replace J := Lib.hid (J.out.step hb)
        (try clear sk)
        have sk := J.out.cells
        clear hb
        refine hK.out _ _ sk (fun hHeld2 => ?_)
        clear hK K hHeld
        have hHeld := hHeld2
        clear hHeld2
        try simp only [Act.put, List.setIfInBounds_toArray, List.set_cons_zero, List.set_cons_succ]
        refine wpAnyH_ready (rs := [4, 10, 11]) (by kernel_rfl) (by simp) (AllReadyH.cons (o := oa4) rfl (fun K hK => ?_) (AllReadyH.cons (o := oa10) rfl (fun K hK => ?_) (AllReadyH.cons (o := oa11) rfl (fun K hK => ?_) AllReadyH.nil)))
        · unfold oa4
          go_simp
          refine (D2 _).out.mono ?_
          rintro e u2 ⟨rfl, hb⟩
          replace J := Lib.hid (J.out.step hb)
          (try clear sk)
          have sk := J.out.cells
          clear hb
          refine hK.out _ _ sk (fun hHeld2 => ?_)
          clear hK K hHeld
          have hHeld := hHeld2
          clear hHeld2
          try simp only [Act.put, List.setIfInBounds_toArray, List.set_cons_zero, List.set_cons_succ]
          refine wpAnyH_ready (rs := [7, 10, 11]) (by kernel_rfl) (by simp) (AllReadyH.cons (o := oa7) rfl (fun K hK => ?_) (AllReadyH.cons (o := oa10) rfl (fun K hK => ?_) (AllReadyH.cons (o := oa11) rfl (fun K hK => ?_) AllReadyH.nil)))
          · unfold oa7
            go_simp
            refine (D3 _).out.mono ?_
            rintro e u3 ⟨rfl, hb⟩
            replace J := Lib.hid (J.out.step hb)
            (try clear sk)
            have sk := J.out.cells
            clear hb
            refine hK.out _ _ sk (fun hHeld2 => ?_)
            clear hK K hHeld
            have hHeld := hHeld2
            clear hHeld2
            try simp only [Act.put, List.setIfInBounds_toArray, List.set_cons_zero, List.set_cons_succ]
            refine wpAnyH_ready (rs := [9, 10, 11]) (by kernel_rfl) (by simp) (AllReadyH.cons (o := oa9) rfl (fun K hK => ?_) (AllReadyH.cons (o := oa10) rfl (fun K hK => ?_) (AllReadyH.cons (o := oa11) rfl (fun K hK => ?_) AllReadyH.nil)))
            · unfold oa9
              go_simp
              refine (D4 _).out.mono ?_
              rintro e u4 ⟨rfl, hb⟩
              replace J := Lib.hid (J.out.step hb)
              (try clear sk)
              have sk := J.out.cells
              clear hb
              refine hK.out _ _ sk (fun hHeld2 => ?_)
              clear hK K hHeld
              have hHeld := hHeld2
              clear hHeld2
              try simp only [Act.put, List.setIfInBounds_toArray, List.set_cons_zero, List.set_cons_succ]
              refine wpAnyH_ready (rs := [10, 11]) (by kernel_rfl) (by simp) (AllReadyH.cons (o := oa10) rfl (fun K hK => ?_) (AllReadyH.cons (o := oa11) rfl (fun K hK => ?_) AllReadyH.nil))
              · unfold oa10
                go_simp
                replace J := Lib.hid J.out.newX
                generalize u4.alloc (.cells #[.int .u8 0, .int .u8 0, .int .u8 0, .int .u8 0] 23) = u5 at *
                generalize u4.heap.size = M at *
                (try clear sk)
                have sk := J.out.cells
                refine hK.out _ _ sk (fun hHeld2 => ?_)
                clear hK K hHeld
                have hHeld := hHeld2
                clear hHeld2
                try simp only [Act.put, List.setIfInBounds_toArray, List.set_cons_zero, List.set_cons_succ]
                refine wpAnyH_ready (rs := [11]) (by kernel_rfl) (by simp) (AllReadyH.cons (o := oa11) rfl (fun K hK => ?_) AllReadyH.nil)
                unfold oa11
                go_simp
                replace J := Lib.hid J.out.newY
                generalize u5.alloc (.cells #[.int .u8 0, .int .u8 0, .int .u8 0, .int .u8 0] 23) = u6 at *
                generalize u5.heap.size = N at *
                (try clear sk)
                have sk := J.out.cells
                refine hK.out _ _ sk (fun hHeld2 => ?_)
                clear hK K hHeld
                have hHeld := hHeld2
                clear hHeld2
                try simp only [Act.put, List.setIfInBounds_toArray, List.set_cons_zero, List.set_cons_succ]
                refine wpAnyH_ready (rs := [12]) (by kernel_rfl) (by simp) (AllReadyH.cons (o := oa12) rfl (fun K hK => ?_) AllReadyH.nil)
                unfold oa12
                obtain ⟨c0, c1, c2, c3, cf⟩ := J.out.cX
                go_simp
                show K _ (setP u6 M x)
                replace J := Lib.hid (J.out.setX x)
                clear c0 c1 c2 c3 cf
                generalize setP u6 M x = u7 at *
                (try clear sk)
                have sk := J.out.cells
                refine hK.out _ _ sk (fun hHeld2 => ?_)
                clear hK K hHeld
                have hHeld := hHeld2
                clear hHeld2
                try simp only [Act.put, List.setIfInBounds_toArray, List.set_cons_zero, List.set_cons_succ]
                refine wpAnyH_ready (rs := [13]) (by kernel_rfl) (by simp) (AllReadyH.cons (o := oa13) rfl (fun K hK => ?_) AllReadyH.nil)
                unfold oa13
                obtain ⟨c0, c1, c2, c3, cf⟩ := J.out.cY
                go_simp
                show K _ (setP u7 N y)
                replace J := Lib.hid (J.out.setY y)
                clear c0 c1 c2 c3 cf
                generalize setP u7 N y = u8 at *
                (try clear sk)
                have sk := J.out.cells
                refine hK.out _ _ sk (fun hHeld2 => ?_)
                clear hK K hHeld
                have hHeld := hHeld2
                clear hHeld2
                try simp only [Act.put, List.setIfInBounds_toArray, List.set_cons_zero, List.set_cons_succ]
                refine wpAnyH_done (by kernel_rfl) ?_ _
                go_wp2_with fail
                go_meet
                exact ⟨M, N, rfl, rfl, J⟩
              · unfold oa11
                go_simp
                replace J := Lib.hid J.out.newY
                generalize u4.alloc (.cells #[.int .u8 0, .int .u8 0, .int .u8 0, .int .u8 0] 23) = u5 at *
                generalize u4.heap.size = N at *
                (try clear sk)
                have sk := J.out.cells
                refine hK.out _ _ sk (fun hHeld2 => ?_)
                clear hK K hHeld
                have hHeld := hHeld2
                clear hHeld2
                try simp only [Act.put, List.setIfInBounds_toArray, List.set_cons_zero, List.set_cons_succ]
                refine wpAnyH_ready (rs := [10]) (by kernel_rfl) (by simp) (AllReadyH.cons (o := oa10) rfl (fun K hK => ?_) AllReadyH.nil)
                unfold oa10
                go_simp
                replace J := Lib.hid J.out.newX
                generalize u5.alloc (.cells #[.int .u8 0, .int .u8 0, .int .u8 0, .int .u8 0] 23) = u6 at *
                generalize u5.heap.size = M at *
                (try clear sk)
                have sk := J.out.cells
                refine hK.out _ _ sk (fun hHeld2 => ?_)
                clear hK K hHeld
                have hHeld := hHeld2
                clear hHeld2
                try simp only [Act.put, List.setIfInBounds_toArray, List.set_cons_zero, List.set_cons_succ]
                refine wpAnyH_ready (rs := [12]) (by kernel_rfl) (by simp) (AllReadyH.cons (o := oa12) rfl (fun K hK => ?_) AllReadyH.nil)
                unfold oa12
                obtain ⟨c0, c1, c2, c3, cf⟩ := J.out.cX
                go_simp
                show K _ (setP u6 M x)
                replace J := Lib.hid (J.out.setX x)
                clear c0 c1 c2 c3 cf
                generalize setP u6 M x = u7 at *
                (try clear sk)
                have sk := J.out.cells
                refine hK.out _ _ sk (fun hHeld2 => ?_)
                clear hK K hHeld
                have hHeld := hHeld2
                clear hHeld2
                try simp only [Act.put, List.setIfInBounds_toArray, List.set_cons_zero, List.set_cons_succ]
                refine wpAnyH_ready (rs := [13]) (by kernel_rfl) (by simp) (AllReadyH.cons (o := oa13) rfl (fun K hK => ?_) AllReadyH.nil)
                unfold oa13
                obtain ⟨c0, c1, c2, c3, cf⟩ := J.out.cY
                go_simp
                show K _ (setP u7 N y)
                replace J := Lib.hid (J.out.setY y)
                clear c0 c1 c2 c3 cf
                generalize setP u7 N y = u8 at *
                (try clear sk)
                have sk := J.out.cells
                refine hK.out _ _ sk (fun hHeld2 => ?_)
                clear hK K hHeld
                have hHeld := hHeld2
                clear hHeld2
                try simp only [Act.put, List.setIfInBounds_toArray, List.set_cons_zero, List.set_cons_succ]
                refine wpAnyH_done (by kernel_rfl) ?_ _
                go_wp2_with fail
                go_meet
                exact ⟨M, N, rfl, rfl, J⟩
            · unfold oa10
              go_simp
              replace J := Lib.hid J.out.newX
              generalize u3.alloc (.cells #[.int .u8 0, .int .u8 0, .int .u8 0, .int .u8 0] 23) = u4 at *
              generalize u3.heap.size = M at *
              (try clear sk)
              have sk := J.out.cells
              refine hK.out _ _ sk (fun hHeld2 => ?_)
              clear hK K hHeld
              have hHeld := hHeld2
              clear hHeld2
              try simp only [Act.put, List.setIfInBounds_toArray, List.set_cons_zero, List.set_cons_succ]
              refine wpAnyH_ready (rs := [9, 11]) (by kernel_rfl) (by simp) (AllReadyH.cons (o := oa9) rfl (fun K hK => ?_) (AllReadyH.cons (o := oa11) rfl (fun K hK => ?_) AllReadyH.nil))
              · unfold oa9
                go_simp
                refine (D4 _).out.mono ?_
                rintro e u5 ⟨rfl, hb⟩
                replace J := Lib.hid (J.out.step hb)
                (try clear sk)
                have sk := J.out.cells
                clear hb
                refine hK.out _ _ sk (fun hHeld2 => ?_)
                clear hK K hHeld
                have hHeld := hHeld2
                clear hHeld2
                try simp only [Act.put, List.setIfInBounds_toArray, List.set_cons_zero, List.set_cons_succ]
                refine wpAnyH_ready (rs := [11]) (by kernel_rfl) (by simp) (AllReadyH.cons (o := oa11) rfl (fun K hK => ?_) AllReadyH.nil)
                unfold oa11
                go_simp
                replace J := Lib.hid J.out.newY
                generalize u5.alloc (.cells #[.int .u8 0, .int .u8 0, .int .u8 0, .int .u8 0] 23) = u6 at *
                generalize u5.heap.size = N at *
                (try clear sk)
                have sk := J.out.cells
                refine hK.out _ _ sk (fun hHeld2 => ?_)
                clear hK K hHeld
                have hHeld := hHeld2
                clear hHeld2
                try simp only [Act.put, List.setIfInBounds_toArray, List.set_cons_zero, List.set_cons_succ]
                refine wpAnyH_ready (rs := [12]) (by kernel_rfl) (by simp) (AllReadyH.cons (o := oa12) rfl (fun K hK => ?_) AllReadyH.nil)
                unfold oa12
                obtain ⟨c0, c1, c2, c3, cf⟩ := J.out.cX
                go_simp
                show K _ (setP u6 M x)
                replace J := Lib.hid (J.out.setX x)
                clear c0 c1 c2 c3 cf
                generalize setP u6 M x = u7 at *
                (try clear sk)
                have sk := J.out.cells
                refine hK.out _ _ sk (fun hHeld2 => ?_)
                clear hK K hHeld
                have hHeld := hHeld2
                clear hHeld2
                try simp only [Act.put, List.setIfInBounds_toArray, List.set_cons_zero, List.set_cons_succ]
                refine wpAnyH_ready (rs := [13]) (by kernel_rfl) (by simp) (AllReadyH.cons (o := oa13) rfl (fun K hK => ?_) AllReadyH.nil)
                unfold oa13
                obtain ⟨c0, c1, c2, c3, cf⟩ := J.out.cY
                go_simp
                show K _ (setP u7 N y)
                replace J := Lib.hid (J.out.setY y)
                clear c0 c1 c2 c3 cf
                generalize setP u7 N y = u8 at *
                (try clear sk)
                have sk := J.out.cells
                refine hK.out _ _ sk (fun hHeld2 => ?_)
                clear hK K hHeld
                have hHeld := hHeld2
                clear hHeld2
                try simp only [Act.put, List.setIfInBounds_toArray, List.set_cons_zero, List.set_cons_succ]
                refine wpAnyH_done (by kernel_rfl) ?_ _
                go_wp2_with fail
                go_meet
                exact ⟨M, N, rfl, rfl, J⟩
              · unfold oa11
                go_simp
                replace J := Lib.hid J.out.newY
                generalize u4.alloc (.cells #[.int .u8 0, .int .u8 0, .int .u8 0, .int .u8 0] 23) = u5 at *
                generalize u4.heap.size = N at *
                (try clear sk)
                have sk := J.out.cells
                refine hK.out _ _ sk (fun hHeld2 => ?_)
                clear hK K hHeld
                have hHeld := hHeld2
                clear hHeld2
                try simp only [Act.put, List.setIfInBounds_toArray, List.set_cons_zero, List.set_cons_succ]
                refine wpAnyH_ready (rs := [9]) (by kernel_rfl) (by simp) (AllReadyH.cons (o := oa9) rfl (fun K hK => ?_) AllReadyH.nil)
                unfold oa9
                go_simp
                refine (D4 _).out.mono ?_
                rintro e u6 ⟨rfl, hb⟩
                replace J := Lib.hid (J.out.step hb)
                (try clear sk)
                have sk := J.out.cells
                clear hb
                refine hK.out _ _ sk (fun hHeld2 => ?_)
                clear hK K hHeld
                have hHeld := hHeld2
                clear hHeld2
                try simp only [Act.put, List.setIfInBounds_toArray, List.set_cons_zero, List.set_cons_succ]
                refine wpAnyH_ready (rs := [12]) (by kernel_rfl) (by simp) (AllReadyH.cons (o := oa12) rfl (fun K hK => ?_) AllReadyH.nil)
                unfold oa12
                obtain ⟨c0, c1, c2, c3, cf⟩ := J.out.cX
                go_simp
                show K _ (setP u6 M x)
                replace J := Lib.hid (J.out.setX x)
                clear c0 c1 c2 c3 cf
                generalize setP u6 M x = u7 at *
                (try clear sk)
                have sk := J.out.cells
                refine hK.out _ _ sk (fun hHeld2 => ?_)
                clear hK K hHeld
                have hHeld := hHeld2
                clear hHeld2
                try simp only [Act.put, List.setIfInBounds_toArray, List.set_cons_zero, List.set_cons_succ]
                refine wpAnyH_ready (rs := [13]) (by kernel_rfl) (by simp) (AllReadyH.cons (o := oa13) rfl (fun K hK => ?_) AllReadyH.nil)
                unfold oa13
                obtain ⟨c0, c1, c2, c3, cf⟩ := J.out.cY
                go_simp
                show K _ (setP u7 N y)
                replace J := Lib.hid (J.out.setY y)
                clear c0 c1 c2 c3 cf
                generalize setP u7 N y = u8 at *
                (try clear sk)
                have sk := J.out.cells
                refine hK.out _ _ sk (fun hHeld2 => ?_)
                clear hK K hHeld
                have hHeld := hHeld2
                clear hHeld2
                try simp only [Act.put, List.setIfInBounds_toArray, List.set_cons_zero, List.set_cons_succ]
                refine wpAnyH_done (by kernel_rfl) ?_ _
                go_wp2_with fail
                go_meet
                exact ⟨M, N, rfl, rfl, J⟩
            · unfold oa11
              go_simp
              replace J := Lib.hid J.out.newY
              generalize u3.alloc (.cells #[.int .u8 0, .int .u8 0, .int .u8 0, .int .u8 0] 23) = u4 at *
              generalize u3.heap.size = N at *
              (try clear sk)
              have sk := J.out.cells
              refine hK.out _ _ sk (fun hHeld2 => ?_)
              clear hK K hHeld
              have hHeld := hHeld2
              clear hHeld2
              try simp only [Act.put, List.setIfInBounds_toArray, List.set_cons_zero, List.set_cons_succ]
              refine wpAnyH_ready (rs := [9, 10]) (by kernel_rfl) (by simp) (AllReadyH.cons (o := oa9) rfl (fun K hK => ?_) (AllReadyH.cons (o := oa10) rfl (fun K hK => ?_) AllReadyH.nil))
              · unfold oa9
                go_simp
                refine (D4 _).out.mono ?_
                rintro e u5 ⟨rfl, hb⟩
                replace J := Lib.hid (J.out.step hb)
                (try clear sk)
                have sk := J.out.cells
                clear hb
                refine hK.out _ _ sk (fun hHeld2 => ?_)
                clear hK K hHeld
                have hHeld := hHeld2
                clear hHeld2
                try simp only [Act.put, List.setIfInBounds_toArray, List.set_cons_zero, List.set_cons_succ]
                refine wpAnyH_ready (rs := [10]) (by kernel_rfl) (by simp) (AllReadyH.cons (o := oa10) rfl (fun K hK => ?_) AllReadyH.nil)
                unfold oa10
                go_simp
                replace J := Lib.hid J.out.newX
                generalize u5.alloc (.cells #[.int .u8 0, .int .u8 0, .int .u8 0, .int .u8 0] 23) = u6 at *
                generalize u5.heap.size = M at *
                (try clear sk)
                have sk := J.out.cells
                refine hK.out _ _ sk (fun hHeld2 => ?_)
                clear hK K hHeld
                have hHeld := hHeld2
                clear hHeld2
                try simp only [Act.put, List.setIfInBounds_toArray, List.set_cons_zero, List.set_cons_succ]
                refine wpAnyH_ready (rs := [12]) (by kernel_rfl) (by simp) (AllReadyH.cons (o := oa12) rfl (fun K hK => ?_) AllReadyH.nil)
                unfold oa12
                obtain ⟨c0, c1, c2, c3, cf⟩ := J.out.cX
                go_simp
                show K _ (setP u6 M x)
                replace J := Lib.hid (J.out.setX x)
                clear c0 c1 c2 c3 cf
                generalize setP u6 M x = u7 at *
                (try clear sk)
                have sk := J.out.cells
                refine hK.out _ _ sk (fun hHeld2 => ?_)
                clear hK K hHeld
                have hHeld := hHeld2
                clear hHeld2
                try simp only [Act.put, List.setIfInBounds_toArray, List.set_cons_zero, List.set_cons_succ]
                refine wpAnyH_ready (rs := [13]) (by kernel_rfl) (by simp) (AllReadyH.cons (o := oa13) rfl (fun K hK => ?_) AllReadyH.nil)
                unfold oa13
                obtain ⟨c0, c1, c2, c3, cf⟩ := J.out.cY
                go_simp
                show K _ (setP u7 N y)
                replace J := Lib.hid (J.out.setY y)
                clear c0 c1 c2 c3 cf
                generalize setP u7 N y = u8 at *
                (try clear sk)
                have sk := J.out.cells
                refine hK.out _ _ sk (fun hHeld2 => ?_)
                clear hK K hHeld
                have hHeld := hHeld2
                clear hHeld2
                try simp only [Act.put, List.setIfInBounds_toArray, List.set_cons_zero, List.set_cons_succ]
                refine wpAnyH_done (by kernel_rfl) ?_ _
                go_wp2_with fail
                go_meet
                exact ⟨M, N, rfl, rfl, J⟩
              · unfold oa10
                go_simp
                replace J := Lib.hid J.out.newX
                generalize u4.alloc (.cells #[.int .u8 0, .int .u8 0, .int .u8 0, .int .u8 0] 23) = u5 at *
                generalize u4.heap.size = M at *
                (try clear sk)
                have sk := J.out.cells
                refine hK.out _ _ sk (fun hHeld2 => ?_)
                clear hK K hHeld
                have hHeld := hHeld2
                clear hHeld2
                try simp only [Act.put, List.setIfInBounds_toArray, List.set_cons_zero, List.set_cons_succ]
                refine wpAnyH_ready (rs := [9]) (by kernel_rfl) (by simp) (AllReadyH.cons (o := oa9) rfl (fun K hK => ?_) AllReadyH.nil)
                unfold oa9
                go_simp
                refine (D4 _).out.mono ?_
                rintro e u6 ⟨rfl, hb⟩
                replace J := Lib.hid (J.out.step hb)
                (try clear sk)
                have sk := J.out.cells
                clear hb
                refine hK.out _ _ sk (fun hHeld2 => ?_)
                clear hK K hHeld
                have hHeld := hHeld2
                clear hHeld2
                try simp only [Act.put, List.setIfInBounds_toArray, List.set_cons_zero, List.set_cons_succ]
                refine wpAnyH_ready (rs := [12]) (by kernel_rfl) (by simp) (AllReadyH.cons (o := oa12) rfl (fun K hK => ?_) AllReadyH.nil)
                unfold oa12
                obtain ⟨c0, c1, c2, c3, cf⟩ := J.out.cX
                go_simp
                show K _ (setP u6 M x)
                replace J := Lib.hid (J.out.setX x)
                clear c0 c1 c2 c3 cf
                generalize setP u6 M x = u7 at *
                (try clear sk)
                have sk := J.out.cells
                refine hK.out _ _ sk (fun hHeld2 => ?_)
                clear hK K hHeld
                have hHeld := hHeld2
                clear hHeld2
                try simp only [Act.put, List.setIfInBounds_toArray, List.set_cons_zero, List.set_cons_succ]
                refine wpAnyH_ready (rs := [13]) (by kernel_rfl) (by simp) (AllReadyH.cons (o := oa13) rfl (fun K hK => ?_) AllReadyH.nil)
                unfold oa13
                obtain ⟨c0, c1, c2, c3, cf⟩ := J.out.cY
                go_simp
                show K _ (setP u7 N y)
                replace J := Lib.hid (J.out.setY y)
                clear c0 c1 c2 c3 cf
                generalize setP u7 N y = u8 at *
                (try clear sk)
                have sk := J.out.cells
                refine hK.out _ _ sk (fun hHeld2 => ?_)
                clear hK K hHeld
                have hHeld := hHeld2
                clear hHeld2
                try simp only [Act.put, List.setIfInBounds_toArray, List.set_cons_zero, List.set_cons_succ]
                refine wpAnyH_done (by kernel_rfl) ?_ _
                go_wp2_with fail
                go_meet
                exact ⟨M, N, rfl, rfl, J⟩
          · unfold oa10
            go_simp
            replace J := Lib.hid J.out.newX
            generalize u2.alloc (.cells #[.int .u8 0, .int .u8 0, .int .u8 0, .int .u8 0] 23) = u3 at *
            generalize u2.heap.size = M at *
            (try clear sk)
            have sk := J.out.cells
            refine hK.out _ _ sk (fun hHeld2 => ?_)
            clear hK K hHeld
            have hHeld := hHeld2
            clear hHeld2
            try simp only [Act.put, List.setIfInBounds_toArray, List.set_cons_zero, List.set_cons_succ]
            refine wpAnyH_ready (rs := [7, 11]) (by kernel_rfl) (by simp) (AllReadyH.cons (o := oa7) rfl (fun K hK => ?_) (AllReadyH.cons (o := oa11) rfl (fun K hK => ?_) AllReadyH.nil))
            · unfold oa7
              go_simp
              refine (D3 _).out.mono ?_
              rintro e u4 ⟨rfl, hb⟩
              replace J := Lib.hid (J.out.step hb)
              (try clear sk)
              have sk := J.out.cells
              clear hb
              refine hK.out _ _ sk (fun hHeld2 => ?_)
              clear hK K hHeld
              have hHeld := hHeld2
              clear hHeld2
              try simp only [Act.put, List.setIfInBounds_toArray, List.set_cons_zero, List.set_cons_succ]
              refine wpAnyH_ready (rs := [9, 11]) (by kernel_rfl) (by simp) (AllReadyH.cons (o := oa9) rfl (fun K hK => ?_) (AllReadyH.cons (o := oa11) rfl (fun K hK => ?_) AllReadyH.nil))
              · unfold oa9
                go_simp
                refine (D4 _).out.mono ?_
                rintro e u5 ⟨rfl, hb⟩
                replace J := Lib.hid (J.out.step hb)
                (try clear sk)
                have sk := J.out.cells
                clear hb
                refine hK.out _ _ sk (fun hHeld2 => ?_)
                clear hK K hHeld
                have hHeld := hHeld2
                clear hHeld2
                try simp only [Act.put, List.setIfInBounds_toArray, List.set_cons_zero, List.set_cons_succ]
                refine wpAnyH_ready (rs := [11]) (by kernel_rfl) (by simp) (AllReadyH.cons (o := oa11) rfl (fun K hK => ?_) AllReadyH.nil)
                unfold oa11
                go_simp
                replace J := Lib.hid J.out.newY
                generalize u5.alloc (.cells #[.int .u8 0, .int .u8 0, .int .u8 0, .int .u8 0] 23) = u6 at *
                generalize u5.heap.size = N at *
                (try clear sk)
                have sk := J.out.cells
                refine hK.out _ _ sk (fun hHeld2 => ?_)
                clear hK K hHeld
                have hHeld := hHeld2
                clear hHeld2
                try simp only [Act.put, List.setIfInBounds_toArray, List.set_cons_zero, List.set_cons_succ]
                refine wpAnyH_ready (rs := [12]) (by kernel_rfl) (by simp) (AllReadyH.cons (o := oa12) rfl (fun K hK => ?_) AllReadyH.nil)
                unfold oa12
                obtain ⟨c0, c1, c2, c3, cf⟩ := J.out.cX
                go_simp
                show K _ (setP u6 M x)
                replace J := Lib.hid (J.out.setX x)
                clear c0 c1 c2 c3 cf
                generalize setP u6 M x = u7 at *
                (try clear sk)
                have sk := J.out.cells
                refine hK.out _ _ sk (fun hHeld2 => ?_)
                clear hK K hHeld
                have hHeld := hHeld2
                clear hHeld2
                try simp only [Act.put, List.setIfInBounds_toArray, List.set_cons_zero, List.set_cons_succ]
                refine wpAnyH_ready (rs := [13]) (by kernel_rfl) (by simp) (AllReadyH.cons (o := oa13) rfl (fun K hK => ?_) AllReadyH.nil)
                unfold oa13
                obtain ⟨c0, c1, c2, c3, cf⟩ := J.out.cY
                go_simp
                show K _ (setP u7 N y)
                replace J := Lib.hid (J.out.setY y)
                clear c0 c1 c2 c3 cf
                generalize setP u7 N y = u8 at *
                (try clear sk)
                have sk := J.out.cells
                refine hK.out _ _ sk (fun hHeld2 => ?_)
                clear hK K hHeld
                have hHeld := hHeld2
                clear hHeld2
                try simp only [Act.put, List.setIfInBounds_toArray, List.set_cons_zero, List.set_cons_succ]
                refine wpAnyH_done (by kernel_rfl) ?_ _
                go_wp2_with fail
                go_meet
                exact ⟨M, N, rfl, rfl, J⟩
              · unfold oa11
                go_simp
                replace J := Lib.hid J.out.newY
                generalize u4.alloc (.cells #[.int .u8 0, .int .u8 0, .int .u8 0, .int .u8 0] 23) = u5 at *
                generalize u4.heap.size = N at *
                (try clear sk)
                have sk := J.out.cells
                refine hK.out _ _ sk (fun hHeld2 => ?_)
                clear hK K hHeld
                have hHeld := hHeld2
                clear hHeld2
                try simp only [Act.put, List.setIfInBounds_toArray, List.set_cons_zero, List.set_cons_succ]
                refine wpAnyH_ready (rs := [9]) (by kernel_rfl) (by simp) (AllReadyH.cons (o := oa9) rfl (fun K hK => ?_) AllReadyH.nil)
                unfold oa9
                go_simp
                refine (D4 _).out.mono ?_
                rintro e u6 ⟨rfl, hb⟩
                replace J := Lib.hid (J.out.step hb)
                (try clear sk)
                have sk := J.out.cells
                clear hb
                refine hK.out _ _ sk (fun hHeld2 => ?_)
                clear hK K hHeld
                have hHeld := hHeld2
                clear hHeld2
                try simp only [Act.put, List.setIfInBounds_toArray, List.set_cons_zero, List.set_cons_succ]
                refine wpAnyH_ready (rs := [12]) (by kernel_rfl) (by simp) (AllReadyH.cons (o := oa12) rfl (fun K hK => ?_) AllReadyH.nil)
                unfold oa12
                obtain ⟨c0, c1, c2, c3, cf⟩ := J.out.cX
                go_simp
                show K _ (setP u6 M x)
                replace J := Lib.hid (J.out.setX x)
                clear c0 c1 c2 c3 cf
                generalize setP u6 M x = u7 at *
                (try clear sk)
                have sk := J.out.cells
                refine hK.out _ _ sk (fun hHeld2 => ?_)
                clear hK K hHeld
                have hHeld := hHeld2
                clear hHeld2
                try simp only [Act.put, List.setIfInBounds_toArray, List.set_cons_zero, List.set_cons_succ]
                refine wpAnyH_ready (rs := [13]) (by kernel_rfl) (by simp) (AllReadyH.cons (o := oa13) rfl (fun K hK => ?_) AllReadyH.nil)
                unfold oa13
                obtain ⟨c0, c1, c2, c3, cf⟩ := J.out.cY
                go_simp
                show K _ (setP u7 N y)
                replace J := Lib.hid (J.out.setY y)
                clear c0 c1 c2 c3 cf
                generalize setP u7 N y = u8 at *
                (try clear sk)
                have sk := J.out.cells
                refine hK.out _ _ sk (fun hHeld2 => ?_)
                clear hK K hHeld
                have hHeld := hHeld2
                clear hHeld2
                try simp only [Act.put, List.setIfInBounds_toArray, List.set_cons_zero, List.set_cons_succ]
                refine wpAnyH_done (by kernel_rfl) ?_ _
                go_wp2_with fail
                go_meet
                exact ⟨M, N, rfl, rfl, J⟩
            · unfold oa11
              go_simp
              replace J := Lib.hid J.out.newY
              generalize u3.alloc (.cells #[.int .u8 0, .int .u8 0, .int .u8 0, .int .u8 0] 23) = u4 at *
              generalize u3.heap.size = N at *
              (try clear sk)
              have sk := J.out.cells
              refine hK.out _ _ sk (fun hHeld2 => ?_)
              clear hK K hHeld
              have hHeld := hHeld2
              clear hHeld2
              try simp only [Act.put, List.setIfInBounds_toArray, List.set_cons_zero, List.set_cons_succ]
              refine wpAnyH_ready (rs := [7]) (by kernel_rfl) (by simp) (AllReadyH.cons (o := oa7) rfl (fun K hK => ?_) AllReadyH.nil)
              unfold oa7
              go_simp
              refine (D3 _).out.mono ?_
              rintro e u5 ⟨rfl, hb⟩
              replace J := Lib.hid (J.out.step hb)
              (try clear sk)
              have sk := J.out.cells
              clear hb
              refine hK.out _ _ sk (fun hHeld2 => ?_)
              clear hK K hHeld
              have hHeld := hHeld2
              clear hHeld2
              try simp only [Act.put, List.setIfInBounds_toArray, List.set_cons_zero, List.set_cons_succ]
              refine wpAnyH_ready (rs := [9]) (by kernel_rfl) (by simp) (AllReadyH.cons (o := oa9) rfl (fun K hK => ?_) AllReadyH.nil)
              unfold oa9
              go_simp
              refine (D4 _).out.mono ?_
              rintro e u6 ⟨rfl, hb⟩
              replace J := Lib.hid (J.out.step hb)
              (try clear sk)
              have sk := J.out.cells
              clear hb
              refine hK.out _ _ sk (fun hHeld2 => ?_)
              clear hK K hHeld
              have hHeld := hHeld2
              clear hHeld2
              try simp only [Act.put, List.setIfInBounds_toArray, List.set_cons_zero, List.set_cons_succ]
              refine wpAnyH_ready (rs := [12]) (by kernel_rfl) (by simp) (AllReadyH.cons (o := oa12) rfl (fun K hK => ?_) AllReadyH.nil)
              unfold oa12
              obtain ⟨c0, c1, c2, c3, cf⟩ := J.out.cX
              go_simp
              show K _ (setP u6 M x)
              replace J := Lib.hid (J.out.setX x)
              clear c0 c1 c2 c3 cf
              generalize setP u6 M x = u7 at *
              (try clear sk)
              have sk := J.out.cells
              refine hK.out _ _ sk (fun hHeld2 => ?_)
              clear hK K hHeld
              have hHeld := hHeld2
              clear hHeld2
              try simp only [Act.put, List.setIfInBounds_toArray, List.set_cons_zero, List.set_cons_succ]
              refine wpAnyH_ready (rs := [13]) (by kernel_rfl) (by simp) (AllReadyH.cons (o := oa13) rfl (fun K hK => ?_) AllReadyH.nil)
              unfold oa13
              obtain ⟨c0, c1, c2, c3, cf⟩ := J.out.cY
              go_simp
              show K _ (setP u7 N y)
              replace J := Lib.hid (J.out.setY y)
              clear c0 c1 c2 c3 cf
              generalize setP u7 N y = u8 at *
              (try clear sk)
              have sk := J.out.cells
              refine hK.out _ _ sk (fun hHeld2 => ?_)
              clear hK K hHeld
              have hHeld := hHeld2
              clear hHeld2
              try simp only [Act.put, List.setIfInBounds_toArray, List.set_cons_zero, List.set_cons_succ]
              refine wpAnyH_done (by kernel_rfl) ?_ _
              go_wp2_with fail
              go_meet
              exact ⟨M, N, rfl, rfl, J⟩
          · unfold oa11
            go_simp
            replace J := Lib.hid J.out.newY
            generalize u2.alloc (.cells #[.int .u8 0, .int .u8 0, .int .u8 0, .int .u8 0] 23) = u3 at *
            generalize u2.heap.size = N at *
            (try clear sk)
            have sk := J.out.cells
            refine hK.out _ _ sk (fun hHeld2 => ?_)
            clear hK K hHeld
            have hHeld := hHeld2
            clear hHeld2
            try simp only [Act.put, List.setIfInBounds_toArray, List.set_cons_zero, List.set_cons_succ]
            refine wpAnyH_ready (rs := [7, 10]) (by kernel_rfl) (by simp) (AllReadyH.cons (o := oa7) rfl (fun K hK => ?_) (AllReadyH.cons (o := oa10) rfl (fun K hK => ?_) AllReadyH.nil))
            · unfold oa7
              go_simp
              refine (D3 _).out.mono ?_
              rintro e u4 ⟨rfl, hb⟩
              replace J := Lib.hid (J.out.step hb)
              (try clear sk)
              have sk := J.out.cells
              clear hb
              refine hK.out _ _ sk (fun hHeld2 => ?_)
              clear hK K hHeld
              have hHeld := hHeld2
              clear hHeld2
              try simp only [Act.put, List.setIfInBounds_toArray, List.set_cons_zero, List.set_cons_succ]
              refine wpAnyH_ready (rs := [9, 10]) (by kernel_rfl) (by simp) (AllReadyH.cons (o := oa9) rfl (fun K hK => ?_) (AllReadyH.cons (o := oa10) rfl (fun K hK => ?_) AllReadyH.nil))
              · unfold oa9
                go_simp
                refine (D4 _).out.mono ?_
                rintro e u5 ⟨rfl, hb⟩
                replace J := Lib.hid (J.out.step hb)
                (try clear sk)
                have sk := J.out.cells
                clear hb
                refine hK.out _ _ sk (fun hHeld2 => ?_)
                clear hK K hHeld
                have hHeld := hHeld2
                clear hHeld2
                try simp only [Act.put, List.setIfInBounds_toArray, List.set_cons_zero, List.set_cons_succ]
                refine wpAnyH_ready (rs := [10]) (by kernel_rfl) (by simp) (AllReadyH.cons (o := oa10) rfl (fun K hK => ?_) AllReadyH.nil)
                unfold oa10
                go_simp
                replace J := Lib.hid J.out.newX
                generalize u5.alloc (.cells #[.int .u8 0, .int .u8 0, .int .u8 0, .int .u8 0] 23) = u6 at *
                generalize u5.heap.size = M at *
                (try clear sk)
                have sk := J.out.cells
                refine hK.out _ _ sk (fun hHeld2 => ?_)
                clear hK K hHeld
                have hHeld := hHeld2
                clear hHeld2
                try simp only [Act.put, List.setIfInBounds_toArray, List.set_cons_zero, List.set_cons_succ]
                refine wpAnyH_ready (rs := [12]) (by kernel_rfl) (by simp) (AllReadyH.cons (o := oa12) rfl (fun K hK => ?_) AllReadyH.nil)
                unfold oa12
                obtain ⟨c0, c1, c2, c3, cf⟩ := J.out.cX
                go_simp
                show K _ (setP u6 M x)
                replace J := Lib.hid (J.out.setX x)
                clear c0 c1 c2 c3 cf
                generalize setP u6 M x = u7 at *
                (try clear sk)
                have sk := J.out.cells
                refine hK.out _ _ sk (fun hHeld2 => ?_)
                clear hK K hHeld
                have hHeld := hHeld2
                clear hHeld2
                try simp only [Act.put, List.setIfInBounds_toArray, List.set_cons_zero, List.set_cons_succ]
                refine wpAnyH_ready (rs := [13]) (by kernel_rfl) (by simp) (AllReadyH.cons (o := oa13) rfl (fun K hK => ?_) AllReadyH.nil)
                unfold oa13
                obtain ⟨c0, c1, c2, c3, cf⟩ := J.out.cY
                go_simp
                show K _ (setP u7 N y)
                replace J := Lib.hid (J.out.setY y)
                clear c0 c1 c2 c3 cf
                generalize setP u7 N y = u8 at *
                (try clear sk)
                have sk := J.out.cells
                refine hK.out _ _ sk (fun hHeld2 => ?_)
                clear hK K hHeld
                have hHeld := hHeld2
                clear hHeld2
                try simp only [Act.put, List.setIfInBounds_toArray, List.set_cons_zero, List.set_cons_succ]
                refine wpAnyH_done (by kernel_rfl) ?_ _
                go_wp2_with fail
                go_meet
                exact ⟨M, N, rfl, rfl, J⟩
              · unfold oa10
                go_simp
                replace J := Lib.hid J.out.newX
                generalize u4.alloc (.cells #[.int .u8 0, .int .u8 0, .int .u8 0, .int .u8 0] 23) = u5 at *
                generalize u4.heap.size = M at *
                (try clear sk)
                have sk := J.out.cells
                refine hK.out _ _ sk (fun hHeld2 => ?_)
                clear hK K hHeld
                have hHeld := hHeld2
                clear hHeld2
                try simp only [Act.put, List.setIfInBounds_toArray, List.set_cons_zero, List.set_cons_succ]
                refine wpAnyH_ready (rs := [9]) (by kernel_rfl) (by simp) (AllReadyH.cons (o := oa9) rfl (fun K hK => ?_) AllReadyH.nil)
                unfold oa9
                go_simp
                refine (D4 _).out.mono ?_
                rintro e u6 ⟨rfl, hb⟩
                replace J := Lib.hid (J.out.step hb)
                (try clear sk)
                have sk := J.out.cells
                clear hb
                refine hK.out _ _ sk (fun hHeld2 => ?_)
                clear hK K hHeld
                have hHeld := hHeld2
                clear hHeld2
                try simp only [Act.put, List.setIfInBounds_toArray, List.set_cons_zero, List.set_cons_succ]
                refine wpAnyH_ready (rs := [12]) (by kernel_rfl) (by simp) (AllReadyH.cons (o := oa12) rfl (fun K hK => ?_) AllReadyH.nil)
                unfold oa12
                obtain ⟨c0, c1, c2, c3, cf⟩ := J.out.cX
                go_simp
                show K _ (setP u6 M x)
                replace J := Lib.hid (J.out.setX x)
                clear c0 c1 c2 c3 cf
                generalize setP u6 M x = u7 at *
                (try clear sk)
                have sk := J.out.cells
                refine hK.out _ _ sk (fun hHeld2 => ?_)
                clear hK K hHeld
                have hHeld := hHeld2
                clear hHeld2
                try simp only [Act.put, List.setIfInBounds_toArray, List.set_cons_zero, List.set_cons_succ]
                refine wpAnyH_ready (rs := [13]) (by kernel_rfl) (by simp) (AllReadyH.cons (o := oa13) rfl (fun K hK => ?_) AllReadyH.nil)
                unfold oa13
                obtain ⟨c0, c1, c2, c3, cf⟩ := J.out.cY
                go_simp
                show K _ (setP u7 N y)
                replace J := Lib.hid (J.out.setY y)
                clear c0 c1 c2 c3 cf
                generalize setP u7 N y = u8 at *
                (try clear sk)
                have sk := J.out.cells
                refine hK.out _ _ sk (fun hHeld2 => ?_)
                clear hK K hHeld
                have hHeld := hHeld2
                clear hHeld2
                try simp only [Act.put, List.setIfInBounds_toArray, List.set_cons_zero, List.set_cons_succ]
                refine wpAnyH_done (by kernel_rfl) ?_ _
                go_wp2_with fail
                go_meet
                exact ⟨M, N, rfl, rfl, J⟩
            · unfold oa10
              go_simp
              replace J := Lib.hid J.out.newX
              generalize u3.alloc (.cells #[.int .u8 0, .int .u8 0, .int .u8 0, .int .u8 0] 23) = u4 at *
              generalize u3.heap.size = M at *
              (try clear sk)
              have sk := J.out.cells
              refine hK.out _ _ sk (fun hHeld2 => ?_)
              clear hK K hHeld
              have hHeld := hHeld2
              clear hHeld2
              try simp only [Act.put, List.setIfInBounds_toArray, List.set_cons_zero, List.set_cons_succ]
              refine wpAnyH_ready (rs := [7]) (by kernel_rfl) (by simp) (AllReadyH.cons (o := oa7) rfl (fun K hK => ?_) AllReadyH.nil)
              unfold oa7
              go_simp
              refine (D3 _).out.mono ?_
              rintro e u5 ⟨rfl, hb⟩
              replace J := Lib.hid (J.out.step hb)
              (try clear sk)
              have sk := J.out.cells
              clear hb
              refine hK.out _ _ sk (fun hHeld2 => ?_)
              clear hK K hHeld
              have hHeld := hHeld2
              clear hHeld2
              try simp only [Act.put, List.setIfInBounds_toArray, List.set_cons_zero, List.set_cons_succ]
              refine wpAnyH_ready (rs := [9]) (by kernel_rfl) (by simp) (AllReadyH.cons (o := oa9) rfl (fun K hK => ?_) AllReadyH.nil)
              unfold oa9
              go_simp
              refine (D4 _).out.mono ?_
              rintro e u6 ⟨rfl, hb⟩
              replace J := Lib.hid (J.out.step hb)
              (try clear sk)
              have sk := J.out.cells
              clear hb
              refine hK.out _ _ sk (fun hHeld2 => ?_)
              clear hK K hHeld
              have hHeld := hHeld2
              clear hHeld2
              try simp only [Act.put, List.setIfInBounds_toArray, List.set_cons_zero, List.set_cons_succ]
              refine wpAnyH_ready (rs := [12]) (by kernel_rfl) (by simp) (AllReadyH.cons (o := oa12) rfl (fun K hK => ?_) AllReadyH.nil)
              unfold oa12
              obtain ⟨c0, c1, c2, c3, cf⟩ := J.out.cX
              go_simp
              show K _ (setP u6 M x)
              replace J := Lib.hid (J.out.setX x)
              clear c0 c1 c2 c3 cf
              generalize setP u6 M x = u7 at *
              (try clear sk)
              have sk := J.out.cells
              refine hK.out _ _ sk (fun hHeld2 => ?_)
              clear hK K hHeld
              have hHeld := hHeld2
              clear hHeld2
              try simp only [Act.put, List.setIfInBounds_toArray, List.set_cons_zero, List.set_cons_succ]
              refine wpAnyH_ready (rs := [13]) (by kernel_rfl) (by simp) (AllReadyH.cons (o := oa13) rfl (fun K hK => ?_) AllReadyH.nil)
              unfold oa13
              obtain ⟨c0, c1, c2, c3, cf⟩ := J.out.cY
              go_simp
              show K _ (setP u7 N y)
              replace J := Lib.hid (J.out.setY y)
              clear c0 c1 c2 c3 cf
              generalize setP u7 N y = u8 at *
              (try clear sk)
              have sk := J.out.cells
              refine hK.out _ _ sk (fun hHeld2 => ?_)
              clear hK K hHeld
              have hHeld := hHeld2
              clear hHeld2
              try simp only [Act.put, List.setIfInBounds_toArray, List.set_cons_zero, List.set_cons_succ]
              refine wpAnyH_done (by kernel_rfl) ?_ _
              go_wp2_with fail
              go_meet
              exact ⟨M, N, rfl, rfl, J⟩
        · unfold oa10
          go_simp
          replace J := Lib.hid J.out.newX
          generalize u1.alloc (.cells #[.int .u8 0, .int .u8 0, .int .u8 0, .int .u8 0] 23) = u2 at *
          generalize u1.heap.size = M at *
          (try clear sk)
          have sk := J.out.cells
          refine hK.out _ _ sk (fun hHeld2 => ?_)
          clear hK K hHeld
          have hHeld := hHeld2
          clear hHeld2
          try simp only [Act.put, List.setIfInBounds_toArray, List.set_cons_zero, List.set_cons_succ]
          refine wpAnyH_ready (rs := [4, 11]) (by kernel_rfl) (by simp) (AllReadyH.cons (o := oa4) rfl (fun K hK => ?_) (AllReadyH.cons (o := oa11) rfl (fun K hK => ?_) AllReadyH.nil))
          · unfold oa4
            go_simp
            refine (D2 _).out.mono ?_
            rintro e u3 ⟨rfl, hb⟩
            replace J := Lib.hid (J.out.step hb)
            (try clear sk)
            have sk := J.out.cells
            clear hb
            refine hK.out _ _ sk (fun hHeld2 => ?_)
            clear hK K hHeld
            have hHeld := hHeld2
            clear hHeld2
            try simp only [Act.put, List.setIfInBounds_toArray, List.set_cons_zero, List.set_cons_succ]
            refine wpAnyH_ready (rs := [7, 11]) (by kernel_rfl) (by simp) (AllReadyH.cons (o := oa7) rfl (fun K hK => ?_) (AllReadyH.cons (o := oa11) rfl (fun K hK => ?_) AllReadyH.nil))
            · unfold oa7
              go_simp
              refine (D3 _).out.mono ?_
              rintro e u4 ⟨rfl, hb⟩
              replace J := Lib.hid (J.out.step hb)
              (try clear sk)
              have sk := J.out.cells
              clear hb
              refine hK.out _ _ sk (fun hHeld2 => ?_)
              clear hK K hHeld
              have hHeld := hHeld2
              clear hHeld2
              try simp only [Act.put, List.setIfInBounds_toArray, List.set_cons_zero, List.set_cons_succ]
              refine wpAnyH_ready (rs := [9, 11]) (by kernel_rfl) (by simp) (AllReadyH.cons (o := oa9) rfl (fun K hK => ?_) (AllReadyH.cons (o := oa11) rfl (fun K hK => ?_) AllReadyH.nil))
              · unfold oa9
                go_simp
                refine (D4 _).out.mono ?_
                rintro e u5 ⟨rfl, hb⟩
                replace J := Lib.hid (J.out.step hb)
                (try clear sk)
                have sk := J.out.cells
                clear hb
                refine hK.out _ _ sk (fun hHeld2 => ?_)
                clear hK K hHeld
                have hHeld := hHeld2
                clear hHeld2
                try simp only [Act.put, List.setIfInBounds_toArray, List.set_cons_zero, List.set_cons_succ]
                refine wpAnyH_ready (rs := [11]) (by kernel_rfl) (by simp) (AllReadyH.cons (o := oa11) rfl (fun K hK => ?_) AllReadyH.nil)
                unfold oa11
                go_simp
                replace J := Lib.hid J.out.newY
                generalize u5.alloc (.cells #[.int .u8 0, .int .u8 0, .int .u8 0, .int .u8 0] 23) = u6 at *
                generalize u5.heap.size = N at *
                (try clear sk)
                have sk := J.out.cells
                refine hK.out _ _ sk (fun hHeld2 => ?_)
                clear hK K hHeld
                have hHeld := hHeld2
                clear hHeld2
                try simp only [Act.put, List.setIfInBounds_toArray, List.set_cons_zero, List.set_cons_succ]
                refine wpAnyH_ready (rs := [12]) (by kernel_rfl) (by simp) (AllReadyH.cons (o := oa12) rfl (fun K hK => ?_) AllReadyH.nil)
                unfold oa12
                obtain ⟨c0, c1, c2, c3, cf⟩ := J.out.cX
                go_simp
                show K _ (setP u6 M x)
                replace J := Lib.hid (J.out.setX x)
                clear c0 c1 c2 c3 cf
                generalize setP u6 M x = u7 at *
                (try clear sk)
                have sk := J.out.cells
                refine hK.out _ _ sk (fun hHeld2 => ?_)
                clear hK K hHeld
                have hHeld := hHeld2
                clear hHeld2
                try simp only [Act.put, List.setIfInBounds_toArray, List.set_cons_zero, List.set_cons_succ]
                refine wpAnyH_ready (rs := [13]) (by kernel_rfl) (by simp) (AllReadyH.cons (o := oa13) rfl (fun K hK => ?_) AllReadyH.nil)
                unfold oa13
                obtain ⟨c0, c1, c2, c3, cf⟩ := J.out.cY
                go_simp
                show K _ (setP u7 N y)
                replace J := Lib.hid (J.out.setY y)
                clear c0 c1 c2 c3 cf
                generalize setP u7 N y = u8 at *
                (try clear sk)
                have sk := J.out.cells
                refine hK.out _ _ sk (fun hHeld2 => ?_)
                clear hK K hHeld
                have hHeld := hHeld2
                clear hHeld2
                try simp only [Act.put, List.setIfInBounds_toArray, List.set_cons_zero, List.set_cons_succ]
                refine wpAnyH_done (by kernel_rfl) ?_ _
                go_wp2_with fail
                go_meet
                exact ⟨M, N, rfl, rfl, J⟩
              · unfold oa11
                go_simp
                replace J := Lib.hid J.out.newY
                generalize u4.alloc (.cells #[.int .u8 0, .int .u8 0, .int .u8 0, .int .u8 0] 23) = u5 at *
                generalize u4.heap.size = N at *
                (try clear sk)
                have sk := J.out.cells
                refine hK.out _ _ sk (fun hHeld2 => ?_)
                clear hK K hHeld
                have hHeld := hHeld2
                clear hHeld2
                try simp only [Act.put, List.setIfInBounds_toArray, List.set_cons_zero, List.set_cons_succ]
                refine wpAnyH_ready (rs := [9]) (by kernel_rfl) (by simp) (AllReadyH.cons (o := oa9) rfl (fun K hK => ?_) AllReadyH.nil)
                unfold oa9
                go_simp
                refine (D4 _).out.mono ?_
                rintro e u6 ⟨rfl, hb⟩
                replace J := Lib.hid (J.out.step hb)
                (try clear sk)
                have sk := J.out.cells
                clear hb
                refine hK.out _ _ sk (fun hHeld2 => ?_)
                clear hK K hHeld
                have hHeld := hHeld2
                clear hHeld2
                try simp only [Act.put, List.setIfInBounds_toArray, List.set_cons_zero, List.set_cons_succ]
                refine wpAnyH_ready (rs := [12]) (by kernel_rfl) (by simp) (AllReadyH.cons (o := oa12) rfl (fun K hK => ?_) AllReadyH.nil)
                unfold oa12
                obtain ⟨c0, c1, c2, c3, cf⟩ := J.out.cX
                go_simp
                show K _ (setP u6 M x)
                replace J := Lib.hid (J.out.setX x)
                clear c0 c1 c2 c3 cf
                generalize setP u6 M x = u7 at *
                (try clear sk)
                have sk := J.out.cells
                refine hK.out _ _ sk (fun hHeld2 => ?_)
                clear hK K hHeld
                have hHeld := hHeld2
                clear hHeld2
                try simp only [Act.put, List.setIfInBounds_toArray, List.set_cons_zero, List.set_cons_succ]
                refine wpAnyH_ready (rs := [13]) (by kernel_rfl) (by simp) (AllReadyH.cons (o := oa13) rfl (fun K hK => ?_) AllReadyH.nil)
                unfold oa13
                obtain ⟨c0, c1, c2, c3, cf⟩ := J.out.cY
                go_simp
                show K _ (setP u7 N y)
                replace J := Lib.hid (J.out.setY y)
                clear c0 c1 c2 c3 cf
                generalize setP u7 N y = u8 at *
                (try clear sk)
                have sk := J.out.cells
                refine hK.out _ _ sk (fun hHeld2 => ?_)
                clear hK K hHeld
                have hHeld := hHeld2
                clear hHeld2
                try simp only [Act.put, List.setIfInBounds_toArray, List.set_cons_zero, List.set_cons_succ]
                refine wpAnyH_done (by kernel_rfl) ?_ _
                go_wp2_with fail
                go_meet
                exact ⟨M, N, rfl, rfl, J⟩
            · unfold oa11
              go_simp
              replace J := Lib.hid J.out.newY
              generalize u3.alloc (.cells #[.int .u8 0, .int .u8 0, .int .u8 0, .int .u8 0] 23) = u4 at *
              generalize u3.heap.size = N at *
              (try clear sk)
              have sk := J.out.cells
              refine hK.out _ _ sk (fun hHeld2 => ?_)
              clear hK K hHeld
              have hHeld := hHeld2
              clear hHeld2
              try simp only [Act.put, List.setIfInBounds_toArray, List.set_cons_zero, List.set_cons_succ]
              refine wpAnyH_ready (rs := [7]) (by kernel_rfl) (by simp) (AllReadyH.cons (o := oa7) rfl (fun K hK => ?_) AllReadyH.nil)
              unfold oa7
              go_simp
              refine (D3 _).out.mono ?_
              rintro e u5 ⟨rfl, hb⟩
              replace J := Lib.hid (J.out.step hb)
              (try clear sk)
              have sk := J.out.cells
              clear hb
              refine hK.out _ _ sk (fun hHeld2 => ?_)
              clear hK K hHeld
              have hHeld := hHeld2
              clear hHeld2
              try simp only [Act.put, List.setIfInBounds_toArray, List.set_cons_zero, List.set_cons_succ]
              refine wpAnyH_ready (rs := [9]) (by kernel_rfl) (by simp) (AllReadyH.cons (o := oa9) rfl (fun K hK => ?_) AllReadyH.nil)
              unfold oa9
              go_simp
              refine (D4 _).out.mono ?_
              rintro e u6 ⟨rfl, hb⟩
              replace J := Lib.hid (J.out.step hb)
              (try clear sk)
              have sk := J.out.cells
              clear hb
              refine hK.out _ _ sk (fun hHeld2 => ?_)
              clear hK K hHeld
              have hHeld := hHeld2
              clear hHeld2
              try simp only [Act.put, List.setIfInBounds_toArray, List.set_cons_zero, List.set_cons_succ]
              refine wpAnyH_ready (rs := [12]) (by kernel_rfl) (by simp) (AllReadyH.cons (o := oa12) rfl (fun K hK => ?_) AllReadyH.nil)
              unfold oa12
              obtain ⟨c0, c1, c2, c3, cf⟩ := J.out.cX
              go_simp
              show K _ (setP u6 M x)
              replace J := Lib.hid (J.out.setX x)
              clear c0 c1 c2 c3 cf
              generalize setP u6 M x = u7 at *
              (try clear sk)
              have sk := J.out.cells
              refine hK.out _ _ sk (fun hHeld2 => ?_)
              clear hK K hHeld
              have hHeld := hHeld2
              clear hHeld2
              try simp only [Act.put, List.setIfInBounds_toArray, List.set_cons_zero, List.set_cons_succ]
              refine wpAnyH_ready (rs := [13]) (by kernel_rfl) (by simp) (AllReadyH.cons (o := oa13) rfl (fun K hK => ?_) AllReadyH.nil)
              unfold oa13
              obtain ⟨c0, c1, c2, c3, cf⟩ := J.out.cY
              go_simp
              show K _ (setP u7 N y)
              replace J := Lib.hid (J.out.setY y)
              clear c0 c1 c2 c3 cf
              generalize setP u7 N y = u8 at *
              (try clear sk)
              have sk := J.out.cells
              refine hK.out _ _ sk (fun hHeld2 => ?_)
              clear hK K hHeld
              have hHeld := hHeld2
              clear hHeld2
              try simp only [Act.put, List.setIfInBounds_toArray, List.set_cons_zero, List.set_cons_succ]
              refine wpAnyH_done (by kernel_rfl) ?_ _
              go_wp2_with fail
              go_meet
              exact ⟨M, N, rfl, rfl, J⟩
          · unfold oa11
            go_simp
            replace J := Lib.hid J.out.newY
            generalize u2.alloc (.cells #[.int .u8 0, .int .u8 0, .int .u8 0, .int .u8 0] 23) = u3 at *
            generalize u2.heap.size = N at *
            (try clear sk)
            have sk := J.out.cells
            refine hK.out _ _ sk (fun hHeld2 => ?_)
            clear hK K hHeld
            have hHeld := hHeld2
            clear hHeld2
            try simp only [Act.put, List.setIfInBounds_toArray, List.set_cons_zero, List.set_cons_succ]
            refine wpAnyH_ready (rs := [4]) (by kernel_rfl) (by simp) (AllReadyH.cons (o := oa4) rfl (fun K hK => ?_) AllReadyH.nil)
            unfold oa4
            go_simp
            refine (D2 _).out.mono ?_
            rintro e u4 ⟨rfl, hb⟩
            replace J := Lib.hid (J.out.step hb)
            (try clear sk)
            have sk := J.out.cells
            clear hb
            refine hK.out _ _ sk (fun hHeld2 => ?_)
            clear hK K hHeld
            have hHeld := hHeld2
            clear hHeld2
            try simp only [Act.put, List.setIfInBounds_toArray, List.set_cons_zero, List.set_cons_succ]
            refine wpAnyH_ready (rs := [7]) (by kernel_rfl) (by simp) (AllReadyH.cons (o := oa7) rfl (fun K hK => ?_) AllReadyH.nil)
            unfold oa7
            go_simp
            refine (D3 _).out.mono ?_
            rintro e u5 ⟨rfl, hb⟩
            replace J := Lib.hid (J.out.step hb)
            (try clear sk)
            have sk := J.out.cells
            clear hb
            refine hK.out _ _ sk (fun hHeld2 => ?_)
            clear hK K hHeld
            have hHeld := hHeld2
            clear hHeld2
            try simp only [Act.put, List.setIfInBounds_toArray, List.set_cons_zero, List.set_cons_succ]
            refine wpAnyH_ready (rs := [9]) (by kernel_rfl) (by simp) (AllReadyH.cons (o := oa9) rfl (fun K hK => ?_) AllReadyH.nil)
            unfold oa9
            go_simp
            refine (D4 _).out.mono ?_
            rintro e u6 ⟨rfl, hb⟩
            replace J := Lib.hid (J.out.step hb)
            (try clear sk)
            have sk := J.out.cells
            clear hb
            refine hK.out _ _ sk (fun hHeld2 => ?_)
            clear hK K hHeld
            have hHeld := hHeld2
            clear hHeld2
            try simp only [Act.put, List.setIfInBounds_toArray, List.set_cons_zero, List.set_cons_succ]
            refine wpAnyH_ready (rs := [12]) (by kernel_rfl) (by simp) (AllReadyH.cons (o := oa12) rfl (fun K hK => ?_) AllReadyH.nil)
            unfold oa12
            obtain ⟨c0, c1, c2, c3, cf⟩ := J.out.cX
            go_simp
            show K _ (setP u6 M x)
            replace J := Lib.hid (J.out.setX x)
            clear c0 c1 c2 c3 cf
            generalize setP u6 M x = u7 at *
            (try clear sk)
            have sk := J.out.cells
            refine hK.out _ _ sk (fun hHeld2 => ?_)
            clear hK K hHeld
            have hHeld := hHeld2
            clear hHeld2
            try simp only [Act.put, List.setIfInBounds_toArray, List.set_cons_zero, List.set_cons_succ]
            refine wpAnyH_ready (rs := [13]) (by kernel_rfl) (by simp) (AllReadyH.cons (o := oa13) rfl (fun K hK => ?_) AllReadyH.nil)
            unfold oa13
            obtain ⟨c0, c1, c2, c3, cf⟩ := J.out.cY
            go_simp
            show K _ (setP u7 N y)
            replace J := Lib.hid (J.out.setY y)
            clear c0 c1 c2 c3 cf
            generalize setP u7 N y = u8 at *
            (try clear sk)
            have sk := J.out.cells
            refine hK.out _ _ sk (fun hHeld2 => ?_)
            clear hK K hHeld
            have hHeld := hHeld2
            clear hHeld2
            try simp only [Act.put, List.setIfInBounds_toArray, List.set_cons_zero, List.set_cons_succ]
            refine wpAnyH_done (by kernel_rfl) ?_ _
            go_wp2_with fail
            go_meet
            exact ⟨M, N, rfl, rfl, J⟩
        · unfold oa11
          go_simp
          replace J := Lib.hid J.out.newY
          generalize u1.alloc (.cells #[.int .u8 0, .int .u8 0, .int .u8 0, .int .u8 0] 23) = u2 at *
          generalize u1.heap.size = N at *
          (try clear sk)
          have sk := J.out.cells
          refine hK.out _ _ sk (fun hHeld2 => ?_)
          clear hK K hHeld
          have hHeld := hHeld2
          clear hHeld2
          try simp only [Act.put, List.setIfInBounds_toArray, List.set_cons_zero, List.set_cons_succ]
          refine wpAnyH_ready (rs := [4, 10]) (by kernel_rfl) (by simp) (AllReadyH.cons (o := oa4) rfl (fun K hK => ?_) (AllReadyH.cons (o := oa10) rfl (fun K hK => ?_) AllReadyH.nil))
          · unfold oa4
            go_simp
            refine (D2 _).out.mono ?_
            rintro e u3 ⟨rfl, hb⟩
            replace J := Lib.hid (J.out.step hb)
            (try clear sk)
            have sk := J.out.cells
            clear hb
            refine hK.out _ _ sk (fun hHeld2 => ?_)
            clear hK K hHeld
            have hHeld := hHeld2
            clear hHeld2
            try simp only [Act.put, List.setIfInBounds_toArray, List.set_cons_zero, List.set_cons_succ]
            refine wpAnyH_ready (rs := [7, 10]) (by kernel_rfl) (by simp) (AllReadyH.cons (o := oa7) rfl (fun K hK => ?_) (AllReadyH.cons (o := oa10) rfl (fun K hK => ?_) AllReadyH.nil))
            · unfold oa7
              go_simp
              refine (D3 _).out.mono ?_
              rintro e u4 ⟨rfl, hb⟩
              replace J := Lib.hid (J.out.step hb)
              (try clear sk)
              have sk := J.out.cells
              clear hb
              refine hK.out _ _ sk (fun hHeld2 => ?_)
              clear hK K hHeld
              have hHeld := hHeld2
              clear hHeld2
              try simp only [Act.put, List.setIfInBounds_toArray, List.set_cons_zero, List.set_cons_succ]
              refine wpAnyH_ready (rs := [9, 10]) (by kernel_rfl) (by simp) (AllReadyH.cons (o := oa9) rfl (fun K hK => ?_) (AllReadyH.cons (o := oa10) rfl (fun K hK => ?_) AllReadyH.nil))
              · unfold oa9
                go_simp
                refine (D4 _).out.mono ?_
                rintro e u5 ⟨rfl, hb⟩
                replace J := Lib.hid (J.out.step hb)
                (try clear sk)
                have sk := J.out.cells
                clear hb
                refine hK.out _ _ sk (fun hHeld2 => ?_)
                clear hK K hHeld
                have hHeld := hHeld2
                clear hHeld2
                try simp only [Act.put, List.setIfInBounds_toArray, List.set_cons_zero, List.set_cons_succ]
                refine wpAnyH_ready (rs := [10]) (by kernel_rfl) (by simp) (AllReadyH.cons (o := oa10) rfl (fun K hK => ?_) AllReadyH.nil)
                unfold oa10
                go_simp
                replace J := Lib.hid J.out.newX
                generalize u5.alloc (.cells #[.int .u8 0, .int .u8 0, .int .u8 0, .int .u8 0] 23) = u6 at *
                generalize u5.heap.size = M at *
                (try clear sk)
                have sk := J.out.cells
                refine hK.out _ _ sk (fun hHeld2 => ?_)
                clear hK K hHeld
                have hHeld := hHeld2
                clear hHeld2
                try simp only [Act.put, List.setIfInBounds_toArray, List.set_cons_zero, List.set_cons_succ]
                refine wpAnyH_ready (rs := [12]) (by kernel_rfl) (by simp) (AllReadyH.cons (o := oa12) rfl (fun K hK => ?_) AllReadyH.nil)
                unfold oa12
                obtain ⟨c0, c1, c2, c3, cf⟩ := J.out.cX
                go_simp
                show K _ (setP u6 M x)
                replace J := Lib.hid (J.out.setX x)
                clear c0 c1 c2 c3 cf
                generalize setP u6 M x = u7 at *
                (try clear sk)
                have sk := J.out.cells
                refine hK.out _ _ sk (fun hHeld2 => ?_)
                clear hK K hHeld
                have hHeld := hHeld2
                clear hHeld2
                try simp only [Act.put, List.setIfInBounds_toArray, List.set_cons_zero, List.set_cons_succ]
                refine wpAnyH_ready (rs := [13]) (by kernel_rfl) (by simp) (AllReadyH.cons (o := oa13) rfl (fun K hK => ?_) AllReadyH.nil)
                unfold oa13
                obtain ⟨c0, c1, c2, c3, cf⟩ := J.out.cY
                go_simp
                show K _ (setP u7 N y)
                replace J := Lib.hid (J.out.setY y)
                clear c0 c1 c2 c3 cf
                generalize setP u7 N y = u8 at *
                (try clear sk)
                have sk := J.out.cells
                refine hK.out _ _ sk (fun hHeld2 => ?_)
                clear hK K hHeld
                have hHeld := hHeld2
                clear hHeld2
                try simp only [Act.put, List.setIfInBounds_toArray, List.set_cons_zero, List.set_cons_succ]
                refine wpAnyH_done (by kernel_rfl) ?_ _
                go_wp2_with fail
                go_meet
                exact ⟨M, N, rfl, rfl, J⟩
              · unfold oa10
                go_simp
                replace J := Lib.hid J.out.newX
                generalize u4.alloc (.cells #[.int .u8 0, .int .u8 0, .int .u8 0, .int .u8 0] 23) = u5 at *
                generalize u4.heap.size = M at *
                (try clear sk)
                have sk := J.out.cells
                refine hK.out _ _ sk (fun hHeld2 => ?_)
                clear hK K hHeld
                have hHeld := hHeld2
                clear hHeld2
                try simp only [Act.put, List.setIfInBounds_toArray, List.set_cons_zero, List.set_cons_succ]
                refine wpAnyH_ready (rs := [9]) (by kernel_rfl) (by simp) (AllReadyH.cons (o := oa9) rfl (fun K hK => ?_) AllReadyH.nil)
                unfold oa9
                go_simp
                refine (D4 _).out.mono ?_
                rintro e u6 ⟨rfl, hb⟩
                replace J := Lib.hid (J.out.step hb)
                (try clear sk)
                have sk := J.out.cells
                clear hb
                refine hK.out _ _ sk (fun hHeld2 => ?_)
                clear hK K hHeld
                have hHeld := hHeld2
                clear hHeld2
                try simp only [Act.put, List.setIfInBounds_toArray, List.set_cons_zero, List.set_cons_succ]
                refine wpAnyH_ready (rs := [12]) (by kernel_rfl) (by simp) (AllReadyH.cons (o := oa12) rfl (fun K hK => ?_) AllReadyH.nil)
                unfold oa12
                obtain ⟨c0, c1, c2, c3, cf⟩ := J.out.cX
                go_simp
                show K _ (setP u6 M x)
                replace J := Lib.hid (J.out.setX x)
                clear c0 c1 c2 c3 cf
                generalize setP u6 M x = u7 at *
                (try clear sk)
                have sk := J.out.cells
                refine hK.out _ _ sk (fun hHeld2 => ?_)
                clear hK K hHeld
                have hHeld := hHeld2
                clear hHeld2
                try simp only [Act.put, List.setIfInBounds_toArray, List.set_cons_zero, List.set_cons_succ]
                refine wpAnyH_ready (rs := [13]) (by kernel_rfl) (by simp) (AllReadyH.cons (o := oa13) rfl (fun K hK => ?_) AllReadyH.nil)
                unfold oa13
                obtain ⟨c0, c1, c2, c3, cf⟩ := J.out.cY
                go_simp
                show K _ (setP u7 N y)
                replace J := Lib.hid (J.out.setY y)
                clear c0 c1 c2 c3 cf
                generalize setP u7 N y = u8 at *
                (try clear sk)
                have sk := J.out.cells
                refine hK.out _ _ sk (fun hHeld2 => ?_)
                clear hK K hHeld
                have hHeld := hHeld2
                clear hHeld2
                try simp only [Act.put, List.setIfInBounds_toArray, List.set_cons_zero, List.set_cons_succ]
                refine wpAnyH_done (by kernel_rfl) ?_ _
                go_wp2_with fail
                go_meet
                exact ⟨M, N, rfl, rfl, J⟩
            · unfold oa10
              go_simp
              replace J := Lib.hid J.out.newX
              generalize u3.alloc (.cells #[.int .u8 0, .int .u8 0, .int .u8 0, .int .u8 0] 23) = u4 at *
              generalize u3.heap.size = M at *
              (try clear sk)
              have sk := J.out.cells
              refine hK.out _ _ sk (fun hHeld2 => ?_)
              clear hK K hHeld
              have hHeld := hHeld2
              clear hHeld2
              try simp only [Act.put, List.setIfInBounds_toArray, List.set_cons_zero, List.set_cons_succ]
              refine wpAnyH_ready (rs := [7]) (by kernel_rfl) (by simp) (AllReadyH.cons (o := oa7) rfl (fun K hK => ?_) AllReadyH.nil)
              unfold oa7
              go_simp
              refine (D3 _).out.mono ?_
              rintro e u5 ⟨rfl, hb⟩
              replace J := Lib.hid (J.out.step hb)
              (try clear sk)
              have sk := J.out.cells
              clear hb
              refine hK.out _ _ sk (fun hHeld2 => ?_)
              clear hK K hHeld
              have hHeld := hHeld2
              clear hHeld2
              try simp only [Act.put, List.setIfInBounds_toArray, List.set_cons_zero, List.set_cons_succ]
              refine wpAnyH_ready (rs := [9]) (by kernel_rfl) (by simp) (AllReadyH.cons (o := oa9) rfl (fun K hK => ?_) AllReadyH.nil)
              unfold oa9
              go_simp
              refine (D4 _).out.mono ?_
              rintro e u6 ⟨rfl, hb⟩
              replace J := Lib.hid (J.out.step hb)
              (try clear sk)
              have sk := J.out.cells
              clear hb
              refine hK.out _ _ sk (fun hHeld2 => ?_)
              clear hK K hHeld
              have hHeld := hHeld2
              clear hHeld2
              try simp only [Act.put, List.setIfInBounds_toArray, List.set_cons_zero, List.set_cons_succ]
              refine wpAnyH_ready (rs := [12]) (by kernel_rfl) (by simp) (AllReadyH.cons (o := oa12) rfl (fun K hK => ?_) AllReadyH.nil)
              unfold oa12
              obtain ⟨c0, c1, c2, c3, cf⟩ := J.out.cX
              go_simp
              show K _ (setP u6 M x)
              replace J := Lib.hid (J.out.setX x)
              clear c0 c1 c2 c3 cf
              generalize setP u6 M x = u7 at *
              (try clear sk)
              have sk := J.out.cells
              refine hK.out _ _ sk (fun hHeld2 => ?_)
              clear hK K hHeld
              have hHeld := hHeld2
              clear hHeld2
              try simp only [Act.put, List.setIfInBounds_toArray, List.set_cons_zero, List.set_cons_succ]
              refine wpAnyH_ready (rs := [13]) (by kernel_rfl) (by simp) (AllReadyH.cons (o := oa13) rfl (fun K hK => ?_) AllReadyH.nil)
              unfold oa13
              obtain ⟨c0, c1, c2, c3, cf⟩ := J.out.cY
              go_simp
              show K _ (setP u7 N y)
              replace J := Lib.hid (J.out.setY y)
              clear c0 c1 c2 c3 cf
              generalize setP u7 N y = u8 at *
              (try clear sk)
              have sk := J.out.cells
              refine hK.out _ _ sk (fun hHeld2 => ?_)
              clear hK K hHeld
              have hHeld := hHeld2
              clear hHeld2
              try simp only [Act.put, List.setIfInBounds_toArray, List.set_cons_zero, List.set_cons_succ]
              refine wpAnyH_done (by kernel_rfl) ?_ _
              go_wp2_with fail
              go_meet
              exact ⟨M, N, rfl, rfl, J⟩
          · unfold oa10
            go_simp
            replace J := Lib.hid J.out.newX
            generalize u2.alloc (.cells #[.int .u8 0, .int .u8 0, .int .u8 0, .int .u8 0] 23) = u3 at *
            generalize u2.heap.size = M at *
            (try clear sk)
            have sk := J.out.cells
            refine hK.out _ _ sk (fun hHeld2 => ?_)
            clear hK K hHeld
            have hHeld := hHeld2
            clear hHeld2
            try simp only [Act.put, List.setIfInBounds_toArray, List.set_cons_zero, List.set_cons_succ]
            refine wpAnyH_ready (rs := [4]) (by kernel_rfl) (by simp) (AllReadyH.cons (o := oa4) rfl (fun K hK => ?_) AllReadyH.nil)
            unfold oa4
            go_simp
            refine (D2 _).out.mono ?_
            rintro e u4 ⟨rfl, hb⟩
            replace J := Lib.hid (J.out.step hb)
            (try clear sk)
            have sk := J.out.cells
            clear hb
            refine hK.out _ _ sk (fun hHeld2 => ?_)
            clear hK K hHeld
            have hHeld := hHeld2
            clear hHeld2
            try simp only [Act.put, List.setIfInBounds_toArray, List.set_cons_zero, List.set_cons_succ]
            refine wpAnyH_ready (rs := [7]) (by kernel_rfl) (by simp) (AllReadyH.cons (o := oa7) rfl (fun K hK => ?_) AllReadyH.nil)
            unfold oa7
            go_simp
            refine (D3 _).out.mono ?_
            rintro e u5 ⟨rfl, hb⟩
            replace J := Lib.hid (J.out.step hb)
            (try clear sk)
            have sk := J.out.cells
            clear hb
            refine hK.out _ _ sk (fun hHeld2 => ?_)
            clear hK K hHeld
            have hHeld := hHeld2
            clear hHeld2
            try simp only [Act.put, List.setIfInBounds_toArray, List.set_cons_zero, List.set_cons_succ]
            refine wpAnyH_ready (rs := [9]) (by kernel_rfl) (by simp) (AllReadyH.cons (o := oa9) rfl (fun K hK => ?_) AllReadyH.nil)
            unfold oa9
            go_simp
            refine (D4 _).out.mono ?_
            rintro e u6 ⟨rfl, hb⟩
            replace J := Lib.hid (J.out.step hb)
            (try clear sk)
            have sk := J.out.cells
            clear hb
            refine hK.out _ _ sk (fun hHeld2 => ?_)
            clear hK K hHeld
            have hHeld := hHeld2
            clear hHeld2
            try simp only [Act.put, List.setIfInBounds_toArray, List.set_cons_zero, List.set_cons_succ]
            refine wpAnyH_ready (rs := [12]) (by kernel_rfl) (by simp) (AllReadyH.cons (o := oa12) rfl (fun K hK => ?_) AllReadyH.nil)
            unfold oa12
            obtain ⟨c0, c1, c2, c3, cf⟩ := J.out.cX
            go_simp
            show K _ (setP u6 M x)
            replace J := Lib.hid (J.out.setX x)
            clear c0 c1 c2 c3 cf
            generalize setP u6 M x = u7 at *
            (try clear sk)
            have sk := J.out.cells
            refine hK.out _ _ sk (fun hHeld2 => ?_)
            clear hK K hHeld
            have hHeld := hHeld2
            clear hHeld2
            try simp only [Act.put, List.setIfInBounds_toArray, List.set_cons_zero, List.set_cons_succ]
            refine wpAnyH_ready (rs := [13]) (by kernel_rfl) (by simp) (AllReadyH.cons (o := oa13) rfl (fun K hK => ?_) AllReadyH.nil)
            unfold oa13
            obtain ⟨c0, c1, c2, c3, cf⟩ := J.out.cY
            go_simp
            show K _ (setP u7 N y)
            replace J := Lib.hid (J.out.setY y)
            clear c0 c1 c2 c3 cf
            generalize setP u7 N y = u8 at *
            (try clear sk)
            have sk := J.out.cells
            refine hK.out _ _ sk (fun hHeld2 => ?_)
            clear hK K hHeld
            have hHeld := hHeld2
            clear hHeld2
            try simp only [Act.put, List.setIfInBounds_toArray, List.set_cons_zero, List.set_cons_succ]
            refine wpAnyH_done (by kernel_rfl) ?_ _
            go_wp2_with fail
            go_meet
            exact ⟨M, N, rfl, rfl, J⟩
      · unfold oa10
        go_simp
        replace J := Lib.hid J.out.newX
        generalize u0.alloc (.cells #[.int .u8 0, .int .u8 0, .int .u8 0, .int .u8 0] 23) = u1 at *
        generalize u0.heap.size = M at *
        (try clear sk)
        have sk := J.out.cells
        refine hK.out _ _ sk (fun hHeld2 => ?_)
        clear hK K hHeld
        have hHeld := hHeld2
        clear hHeld2
        try simp only [Act.put, List.setIfInBounds_toArray, List.set_cons_zero, List.set_cons_succ]
        refine wpAnyH_ready (rs := [3, 11]) (by kernel_rfl) (by simp) (AllReadyH.cons (o := oa3) rfl (fun K hK => ?_) (AllReadyH.cons (o := oa11) rfl (fun K hK => ?_) AllReadyH.nil))
        · unfold oa3
          go_simp
          refine (D1 _).out.mono ?_
          rintro e u2 ⟨rfl, hb⟩
          replace J := Lib.hid (J.out.step hb)
          (try clear sk)
          have sk := J.out.cells
          clear hb
          refine hK.out _ _ sk (fun hHeld2 => ?_)
          clear hK K hHeld
          have hHeld := hHeld2
          clear hHeld2
          try simp only [Act.put, List.setIfInBounds_toArray, List.set_cons_zero, List.set_cons_succ]
          refine wpAnyH_ready (rs := [4, 11]) (by kernel_rfl) (by simp) (AllReadyH.cons (o := oa4) rfl (fun K hK => ?_) (AllReadyH.cons (o := oa11) rfl (fun K hK => ?_) AllReadyH.nil))
          · unfold oa4
            go_simp
            refine (D2 _).out.mono ?_
            rintro e u3 ⟨rfl, hb⟩
            replace J := Lib.hid (J.out.step hb)
            (try clear sk)
            have sk := J.out.cells
            clear hb
            refine hK.out _ _ sk (fun hHeld2 => ?_)
            clear hK K hHeld
            have hHeld := hHeld2
            clear hHeld2
            try simp only [Act.put, List.setIfInBounds_toArray, List.set_cons_zero, List.set_cons_succ]
            refine wpAnyH_ready (rs := [7, 11]) (by kernel_rfl) (by simp) (AllReadyH.cons (o := oa7) rfl (fun K hK => ?_) (AllReadyH.cons (o := oa11) rfl (fun K hK => ?_) AllReadyH.nil))
            · unfold oa7
              go_simp
              refine (D3 _).out.mono ?_
              rintro e u4 ⟨rfl, hb⟩
              replace J := Lib.hid (J.out.step hb)
              (try clear sk)
              have sk := J.out.cells
              clear hb
              refine hK.out _ _ sk (fun hHeld2 => ?_)
              clear hK K hHeld
              have hHeld := hHeld2
              clear hHeld2
              try simp only [Act.put, List.setIfInBounds_toArray, List.set_cons_zero, List.set_cons_succ]
              refine wpAnyH_ready (rs := [9, 11]) (by kernel_rfl) (by simp) (AllReadyH.cons (o := oa9) rfl (fun K hK => ?_) (AllReadyH.cons (o := oa11) rfl (fun K hK => ?_) AllReadyH.nil))
              · unfold oa9
                go_simp
                refine (D4 _).out.mono ?_
                rintro e u5 ⟨rfl, hb⟩
                replace J := Lib.hid (J.out.step hb)
                (try clear sk)
                have sk := J.out.cells
                clear hb
                refine hK.out _ _ sk (fun hHeld2 => ?_)
                clear hK K hHeld
                have hHeld := hHeld2
                clear hHeld2
                try simp only [Act.put, List.setIfInBounds_toArray, List.set_cons_zero, List.set_cons_succ]
                refine wpAnyH_ready (rs := [11]) (by kernel_rfl) (by simp) (AllReadyH.cons (o := oa11) rfl (fun K hK => ?_) AllReadyH.nil)
                unfold oa11
                go_simp
                replace J := Lib.hid J.out.newY
                generalize u5.alloc (.cells #[.int .u8 0, .int .u8 0, .int .u8 0, .int .u8 0] 23) = u6 at *
                generalize u5.heap.size = N at *
                (try clear sk)
                have sk := J.out.cells
                refine hK.out _ _ sk (fun hHeld2 => ?_)
                clear hK K hHeld
                have hHeld := hHeld2
                clear hHeld2
                try simp only [Act.put, List.setIfInBounds_toArray, List.set_cons_zero, List.set_cons_succ]
                refine wpAnyH_ready (rs := [12]) (by kernel_rfl) (by simp) (AllReadyH.cons (o := oa12) rfl (fun K hK => ?_) AllReadyH.nil)
                unfold oa12
                obtain ⟨c0, c1, c2, c3, cf⟩ := J.out.cX
                go_simp
                show K _ (setP u6 M x)
                replace J := Lib.hid (J.out.setX x)
                clear c0 c1 c2 c3 cf
                generalize setP u6 M x = u7 at *
                (try clear sk)
                have sk := J.out.cells
                refine hK.out _ _ sk (fun hHeld2 => ?_)
                clear hK K hHeld
                have hHeld := hHeld2
                clear hHeld2
                try simp only [Act.put, List.setIfInBounds_toArray, List.set_cons_zero, List.set_cons_succ]
                refine wpAnyH_ready (rs := [13]) (by kernel_rfl) (by simp) (AllReadyH.cons (o := oa13) rfl (fun K hK => ?_) AllReadyH.nil)
                unfold oa13
                obtain ⟨c0, c1, c2, c3, cf⟩ := J.out.cY
                go_simp
                show K _ (setP u7 N y)
                replace J := Lib.hid (J.out.setY y)
                clear c0 c1 c2 c3 cf
                generalize setP u7 N y = u8 at *
                (try clear sk)
                have sk := J.out.cells
                refine hK.out _ _ sk (fun hHeld2 => ?_)
                clear hK K hHeld
                have hHeld := hHeld2
                clear hHeld2
                try simp only [Act.put, List.setIfInBounds_toArray, List.set_cons_zero, List.set_cons_succ]
                refine wpAnyH_done (by kernel_rfl) ?_ _
                go_wp2_with fail
                go_meet
                exact ⟨M, N, rfl, rfl, J⟩
              · unfold oa11
                go_simp
                replace J := Lib.hid J.out.newY
                generalize u4.alloc (.cells #[.int .u8 0, .int .u8 0, .int .u8 0, .int .u8 0] 23) = u5 at *
                generalize u4.heap.size = N at *
                (try clear sk)
                have sk := J.out.cells
                refine hK.out _ _ sk (fun hHeld2 => ?_)
                clear hK K hHeld
                have hHeld := hHeld2
                clear hHeld2
                try simp only [Act.put, List.setIfInBounds_toArray, List.set_cons_zero, List.set_cons_succ]
                refine wpAnyH_ready (rs := [9]) (by kernel_rfl) (by simp) (AllReadyH.cons (o := oa9) rfl (fun K hK => ?_) AllReadyH.nil)
                unfold oa9
                go_simp
                refine (D4 _).out.mono ?_
                rintro e u6 ⟨rfl, hb⟩
                replace J := Lib.hid (J.out.step hb)
                (try clear sk)
                have sk := J.out.cells
                clear hb
                refine hK.out _ _ sk (fun hHeld2 => ?_)
                clear hK K hHeld
                have hHeld := hHeld2
                clear hHeld2
                try simp only [Act.put, List.setIfInBounds_toArray, List.set_cons_zero, List.set_cons_succ]
                refine wpAnyH_ready (rs := [12]) (by kernel_rfl) (by simp) (AllReadyH.cons (o := oa12) rfl (fun K hK => ?_) AllReadyH.nil)
                unfold oa12
                obtain ⟨c0, c1, c2, c3, cf⟩ := J.out.cX
                go_simp
                show K _ (setP u6 M x)
                replace J := Lib.hid (J.out.setX x)
                clear c0 c1 c2 c3 cf
                generalize setP u6 M x = u7 at *
                (try clear sk)
                have sk := J.out.cells
                refine hK.out _ _ sk (fun hHeld2 => ?_)
                clear hK K hHeld
                have hHeld := hHeld2
                clear hHeld2
                try simp only [Act.put, List.setIfInBounds_toArray, List.set_cons_zero, List.set_cons_succ]
                refine wpAnyH_ready (rs := [13]) (by kernel_rfl) (by simp) (AllReadyH.cons (o := oa13) rfl (fun K hK => ?_) AllReadyH.nil)
                unfold oa13
                obtain ⟨c0, c1, c2, c3, cf⟩ := J.out.cY
                go_simp
                show K _ (setP u7 N y)
                replace J := Lib.hid (J.out.setY y)
                clear c0 c1 c2 c3 cf
                generalize setP u7 N y = u8 at *
                (try clear sk)
                have sk := J.out.cells
                refine hK.out _ _ sk (fun hHeld2 => ?_)
                clear hK K hHeld
                have hHeld := hHeld2
                clear hHeld2
                try simp only [Act.put, List.setIfInBounds_toArray, List.set_cons_zero, List.set_cons_succ]
                refine wpAnyH_done (by kernel_rfl) ?_ _
                go_wp2_with fail
                go_meet
                exact ⟨M, N, rfl, rfl, J⟩
            · unfold oa11
              go_simp
              replace J := Lib.hid J.out.newY
              generalize u3.alloc (.cells #[.int .u8 0, .int .u8 0, .int .u8 0, .int .u8 0] 23) = u4 at *
              generalize u3.heap.size = N at *
              (try clear sk)
              have sk := J.out.cells
              refine hK.out _ _ sk (fun hHeld2 => ?_)
              clear hK K hHeld
              have hHeld := hHeld2
              clear hHeld2
              try simp only [Act.put, List.setIfInBounds_toArray, List.set_cons_zero, List.set_cons_succ]
              refine wpAnyH_ready (rs := [7]) (by kernel_rfl) (by simp) (AllReadyH.cons (o := oa7) rfl (fun K hK => ?_) AllReadyH.nil)
              unfold oa7
              go_simp
              refine (D3 _).out.mono ?_
              rintro e u5 ⟨rfl, hb⟩
              replace J := Lib.hid (J.out.step hb)
              (try clear sk)
              have sk := J.out.cells
              clear hb
              refine hK.out _ _ sk (fun hHeld2 => ?_)
              clear hK K hHeld
              have hHeld := hHeld2
              clear hHeld2
              try simp only [Act.put, List.setIfInBounds_toArray, List.set_cons_zero, List.set_cons_succ]
              refine wpAnyH_ready (rs := [9]) (by kernel_rfl) (by simp) (AllReadyH.cons (o := oa9) rfl (fun K hK => ?_) AllReadyH.nil)
              unfold oa9
              go_simp
              refine (D4 _).out.mono ?_
              rintro e u6 ⟨rfl, hb⟩
              replace J := Lib.hid (J.out.step hb)
              (try clear sk)
              have sk := J.out.cells
              clear hb
              refine hK.out _ _ sk (fun hHeld2 => ?_)
              clear hK K hHeld
              have hHeld := hHeld2
              clear hHeld2
              try simp only [Act.put, List.setIfInBounds_toArray, List.set_cons_zero, List.set_cons_succ]
              refine wpAnyH_ready (rs := [12]) (by kernel_rfl) (by simp) (AllReadyH.cons (o := oa12) rfl (fun K hK => ?_) AllReadyH.nil)
              unfold oa12
              obtain ⟨c0, c1, c2, c3, cf⟩ := J.out.cX
              go_simp
              show K _ (setP u6 M x)
              replace J := Lib.hid (J.out.setX x)
              clear c0 c1 c2 c3 cf
              generalize setP u6 M x = u7 at *
              (try clear sk)
              have sk := J.out.cells
              refine hK.out _ _ sk (fun hHeld2 => ?_)
              clear hK K hHeld
              have hHeld := hHeld2
              clear hHeld2
              try simp only [Act.put, List.setIfInBounds_toArray, List.set_cons_zero, List.set_cons_succ]
              refine wpAnyH_ready (rs := [13]) (by kernel_rfl) (by simp) (AllReadyH.cons (o := oa13) rfl (fun K hK => ?_) AllReadyH.nil)
              unfold oa13
              obtain ⟨c0, c1, c2, c3, cf⟩ := J.out.cY
              go_simp
              show K _ (setP u7 N y)
              replace J := Lib.hid (J.out.setY y)
              clear c0 c1 c2 c3 cf
              generalize setP u7 N y = u8 at *
              (try clear sk)
              have sk := J.out.cells
              refine hK.out _ _ sk (fun hHeld2 => ?_)
              clear hK K hHeld
              have hHeld := hHeld2
              clear hHeld2
              try simp only [Act.put, List.setIfInBounds_toArray, List.set_cons_zero, List.set_cons_succ]
              refine wpAnyH_done (by kernel_rfl) ?_ _
              go_wp2_with fail
              go_meet
              exact ⟨M, N, rfl, rfl, J⟩
          · unfold oa11
            go_simp
            replace J := Lib.hid J.out.newY
            generalize u2.alloc (.cells #[.int .u8 0, .int .u8 0, .int .u8 0, .int .u8 0] 23) = u3 at *
            generalize u2.heap.size = N at *
            (try clear sk)
            have sk := J.out.cells
            refine hK.out _ _ sk (fun hHeld2 => ?_)
            clear hK K hHeld
            have hHeld := hHeld2
            clear hHeld2
            try simp only [Act.put, List.setIfInBounds_toArray, List.set_cons_zero, List.set_cons_succ]
            refine wpAnyH_ready (rs := [4]) (by kernel_rfl) (by simp) (AllReadyH.cons (o := oa4) rfl (fun K hK => ?_) AllReadyH.nil)
            unfold oa4
            go_simp
            refine (D2 _).out.mono ?_
            rintro e u4 ⟨rfl, hb⟩
            replace J := Lib.hid (J.out.step hb)
            (try clear sk)
            have sk := J.out.cells
            clear hb
            refine hK.out _ _ sk (fun hHeld2 => ?_)
            clear hK K hHeld
            have hHeld := hHeld2
            clear hHeld2
            try simp only [Act.put, List.setIfInBounds_toArray, List.set_cons_zero, List.set_cons_succ]
            refine wpAnyH_ready (rs := [7]) (by kernel_rfl) (by simp) (AllReadyH.cons (o := oa7) rfl (fun K hK => ?_) AllReadyH.nil)
            unfold oa7
            go_simp
            refine (D3 _).out.mono ?_
            rintro e u5 ⟨rfl, hb⟩
            replace J := Lib.hid (J.out.step hb)
            (try clear sk)
            have sk := J.out.cells
            clear hb
            refine hK.out _ _ sk (fun hHeld2 => ?_)
            clear hK K hHeld
            have hHeld := hHeld2
            clear hHeld2
            try simp only [Act.put, List.setIfInBounds_toArray, List.set_cons_zero, List.set_cons_succ]
            refine wpAnyH_ready (rs := [9]) (by kernel_rfl) (by simp) (AllReadyH.cons (o := oa9) rfl (fun K hK => ?_) AllReadyH.nil)
            unfold oa9
            go_simp
            refine (D4 _).out.mono ?_
            rintro e u6 ⟨rfl, hb⟩
            replace J := Lib.hid (J.out.step hb)
            (try clear sk)
            have sk := J.out.cells
            clear hb
            refine hK.out _ _ sk (fun hHeld2 => ?_)
            clear hK K hHeld
            have hHeld := hHeld2
            clear hHeld2
            try simp only [Act.put, List.setIfInBounds_toArray, List.set_cons_zero, List.set_cons_succ]
            refine wpAnyH_ready (rs := [12]) (by kernel_rfl) (by simp) (AllReadyH.cons (o := oa12) rfl (fun K hK => ?_) AllReadyH.nil)
            unfold oa12
            obtain ⟨c0, c1, c2, c3, cf⟩ := J.out.cX
            go_simp
            show K _ (setP u6 M x)
            replace J := Lib.hid (J.out.setX x)
            clear c0 c1 c2 c3 cf
            generalize setP u6 M x = u7 at *
            (try clear sk)
            have sk := J.out.cells
            refine hK.out _ _ sk (fun hHeld2 => ?_)
            clear hK K hHeld
            have hHeld := hHeld2
            clear hHeld2
            try simp only [Act.put, List.setIfInBounds_toArray, List.set_cons_zero, List.set_cons_succ]
            refine wpAnyH_ready (rs := [13]) (by kernel_rfl) (by simp) (AllReadyH.cons (o := oa13) rfl (fun K hK => ?_) AllReadyH.nil)
            unfold oa13
            obtain ⟨c0, c1, c2, c3, cf⟩ := J.out.cY
            go_simp
            show K _ (setP u7 N y)
            replace J := Lib.hid (J.out.setY y)
            clear c0 c1 c2 c3 cf
            generalize setP u7 N y = u8 at *
            (try clear sk)
            have sk := J.out.cells
            refine hK.out _ _ sk (fun hHeld2 => ?_)
            clear hK K hHeld
            have hHeld := hHeld2
            clear hHeld2
            try simp only [Act.put, List.setIfInBounds_toArray, List.set_cons_zero, List.set_cons_succ]
            refine wpAnyH_done (by kernel_rfl) ?_ _
            go_wp2_with fail
            go_meet
            exact ⟨M, N, rfl, rfl, J⟩
        · unfold oa11
          go_simp
          replace J := Lib.hid J.out.newY
          generalize u1.alloc (.cells #[.int .u8 0, .int .u8 0, .int .u8 0, .int .u8 0] 23) = u2 at *
          generalize u1.heap.size = N at *
          (try clear sk)
          have sk := J.out.cells
          refine hK.out _ _ sk (fun hHeld2 => ?_)
          clear hK K hHeld
          have hHeld := hHeld2
          clear hHeld2
          try simp only [Act.put, List.setIfInBounds_toArray, List.set_cons_zero, List.set_cons_succ]
          refine wpAnyH_ready (rs := [3]) (by kernel_rfl) (by simp) (AllReadyH.cons (o := oa3) rfl (fun K hK => ?_) AllReadyH.nil)
          unfold oa3
          go_simp
          refine (D1 _).out.mono ?_
          rintro e u3 ⟨rfl, hb⟩
          replace J := Lib.hid (J.out.step hb)
          (try clear sk)
          have sk := J.out.cells
          clear hb
          refine hK.out _ _ sk (fun hHeld2 => ?_)
          clear hK K hHeld
          have hHeld := hHeld2
          clear hHeld2
          try simp only [Act.put, List.setIfInBounds_toArray, List.set_cons_zero, List.set_cons_succ]
          refine wpAnyH_ready (rs := [4]) (by kernel_rfl) (by simp) (AllReadyH.cons (o := oa4) rfl (fun K hK => ?_) AllReadyH.nil)
          unfold oa4
          go_simp
          refine (D2 _).out.mono ?_
          rintro e u4 ⟨rfl, hb⟩
          replace J := Lib.hid (J.out.step hb)
          (try clear sk)
          have sk := J.out.cells
          clear hb
          refine hK.out _ _ sk (fun hHeld2 => ?_)
          clear hK K hHeld
          have hHeld := hHeld2
          clear hHeld2
          try simp only [Act.put, List.setIfInBounds_toArray, List.set_cons_zero, List.set_cons_succ]
          refine wpAnyH_ready (rs := [7]) (by kernel_rfl) (by simp) (AllReadyH.cons (o := oa7) rfl (fun K hK => ?_) AllReadyH.nil)
          unfold oa7
          go_simp
          refine (D3 _).out.mono ?_
          rintro e u5 ⟨rfl, hb⟩
          replace J := Lib.hid (J.out.step hb)
          (try clear sk)
          have sk := J.out.cells
          clear hb
          refine hK.out _ _ sk (fun hHeld2 => ?_)
          clear hK K hHeld
          have hHeld := hHeld2
          clear hHeld2
          try simp only [Act.put, List.setIfInBounds_toArray, List.set_cons_zero, List.set_cons_succ]
          refine wpAnyH_ready (rs := [9]) (by kernel_rfl) (by simp) (AllReadyH.cons (o := oa9) rfl (fun K hK => ?_) AllReadyH.nil)
          unfold oa9
          go_simp
          refine (D4 _).out.mono ?_
          rintro e u6 ⟨rfl, hb⟩
          replace J := Lib.hid (J.out.step hb)
          (try clear sk)
          have sk := J.out.cells
          clear hb
          refine hK.out _ _ sk (fun hHeld2 => ?_)
          clear hK K hHeld
          have hHeld := hHeld2
          clear hHeld2
          try simp only [Act.put, List.setIfInBounds_toArray, List.set_cons_zero, List.set_cons_succ]
          refine wpAnyH_ready (rs := [12]) (by kernel_rfl) (by simp) (AllReadyH.cons (o := oa12) rfl (fun K hK => ?_) AllReadyH.nil)
          unfold oa12
          obtain ⟨c0, c1, c2, c3, cf⟩ := J.out.cX
          go_simp
          show K _ (setP u6 M x)
          replace J := Lib.hid (J.out.setX x)
          clear c0 c1 c2 c3 cf
          generalize setP u6 M x = u7 at *
          (try clear sk)
          have sk := J.out.cells
          refine hK.out _ _ sk (fun hHeld2 => ?_)
          clear hK K hHeld
          have hHeld := hHeld2
          clear hHeld2
          try simp only [Act.put, List.setIfInBounds_toArray, List.set_cons_zero, List.set_cons_succ]
          refine wpAnyH_ready (rs := [13]) (by kernel_rfl) (by simp) (AllReadyH.cons (o := oa13) rfl (fun K hK => ?_) AllReadyH.nil)
          unfold oa13
          obtain ⟨c0, c1, c2, c3, cf⟩ := J.out.cY
          go_simp
          show K _ (setP u7 N y)
          replace J := Lib.hid (J.out.setY y)
          clear c0 c1 c2 c3 cf
          generalize setP u7 N y = u8 at *
          (try clear sk)
          have sk := J.out.cells
          refine hK.out _ _ sk (fun hHeld2 => ?_)
          clear hK K hHeld
          have hHeld := hHeld2
          clear hHeld2
          try simp only [Act.put, List.setIfInBounds_toArray, List.set_cons_zero, List.set_cons_succ]
          refine wpAnyH_done (by kernel_rfl) ?_ _
          go_wp2_with fail
          go_meet
          exact ⟨M, N, rfl, rfl, J⟩
      · unfold oa11
        go_simp
        replace J := Lib.hid J.out.newY
        generalize u0.alloc (.cells #[.int .u8 0, .int .u8 0, .int .u8 0, .int .u8 0] 23) = u1 at *
        generalize u0.heap.size = N at *
        (try clear sk)
        have sk := J.out.cells
        refine hK.out _ _ sk (fun hHeld2 => ?_)
        clear hK K hHeld
        have hHeld := hHeld2
        clear hHeld2
        try simp only [Act.put, List.setIfInBounds_toArray, List.set_cons_zero, List.set_cons_succ]
        refine wpAnyH_ready (rs := [3, 10]) (by kernel_rfl) (by simp) (AllReadyH.cons (o := oa3) rfl (fun K hK => ?_) (AllReadyH.cons (o := oa10) rfl (fun K hK => ?_) AllReadyH.nil))
        · unfold oa3
          go_simp
          refine (D1 _).out.mono ?_
          rintro e u2 ⟨rfl, hb⟩
          replace J := Lib.hid (J.out.step hb)
          (try clear sk)
          have sk := J.out.cells
          clear hb
          refine hK.out _ _ sk (fun hHeld2 => ?_)
          clear hK K hHeld
          have hHeld := hHeld2
          clear hHeld2
          try simp only [Act.put, List.setIfInBounds_toArray, List.set_cons_zero, List.set_cons_succ]
          refine wpAnyH_ready (rs := [4, 10]) (by kernel_rfl) (by simp) (AllReadyH.cons (o := oa4) rfl (fun K hK => ?_) (AllReadyH.cons (o := oa10) rfl (fun K hK => ?_) AllReadyH.nil))
          · unfold oa4
            go_simp
            refine (D2 _).out.mono ?_
            rintro e u3 ⟨rfl, hb⟩
            replace J := Lib.hid (J.out.step hb)
            (try clear sk)
            have sk := J.out.cells
            clear hb
            refine hK.out _ _ sk (fun hHeld2 => ?_)
            clear hK K hHeld
            have hHeld := hHeld2
            clear hHeld2
            try simp only [Act.put, List.setIfInBounds_toArray, List.set_cons_zero, List.set_cons_succ]
            refine wpAnyH_ready (rs := [7, 10]) (by kernel_rfl) (by simp) (AllReadyH.cons (o := oa7) rfl (fun K hK => ?_) (AllReadyH.cons (o := oa10) rfl (fun K hK => ?_) AllReadyH.nil))
            · unfold oa7
              go_simp
              refine (D3 _).out.mono ?_
              rintro e u4 ⟨rfl, hb⟩
              replace J := Lib.hid (J.out.step hb)
              (try clear sk)
              have sk := J.out.cells
              clear hb
              refine hK.out _ _ sk (fun hHeld2 => ?_)
              clear hK K hHeld
              have hHeld := hHeld2
              clear hHeld2
              try simp only [Act.put, List.setIfInBounds_toArray, List.set_cons_zero, List.set_cons_succ]
              refine wpAnyH_ready (rs := [9, 10]) (by kernel_rfl) (by simp) (AllReadyH.cons (o := oa9) rfl (fun K hK => ?_) (AllReadyH.cons (o := oa10) rfl (fun K hK => ?_) AllReadyH.nil))
              · unfold oa9
                go_simp
                refine (D4 _).out.mono ?_
                rintro e u5 ⟨rfl, hb⟩
                replace J := Lib.hid (J.out.step hb)
                (try clear sk)
                have sk := J.out.cells
                clear hb
                refine hK.out _ _ sk (fun hHeld2 => ?_)
                clear hK K hHeld
                have hHeld := hHeld2
                clear hHeld2
                try simp only [Act.put, List.setIfInBounds_toArray, List.set_cons_zero, List.set_cons_succ]
                refine wpAnyH_ready (rs := [10]) (by kernel_rfl) (by simp) (AllReadyH.cons (o := oa10) rfl (fun K hK => ?_) AllReadyH.nil)
                unfold oa10
                go_simp
                replace J := Lib.hid J.out.newX
                generalize u5.alloc (.cells #[.int .u8 0, .int .u8 0, .int .u8 0, .int .u8 0] 23) = u6 at *
                generalize u5.heap.size = M at *
                (try clear sk)
                have sk := J.out.cells
                refine hK.out _ _ sk (fun hHeld2 => ?_)
                clear hK K hHeld
                have hHeld := hHeld2
                clear hHeld2
                try simp only [Act.put, List.setIfInBounds_toArray, List.set_cons_zero, List.set_cons_succ]
                refine wpAnyH_ready (rs := [12]) (by kernel_rfl) (by simp) (AllReadyH.cons (o := oa12) rfl (fun K hK => ?_) AllReadyH.nil)
                unfold oa12
                obtain ⟨c0, c1, c2, c3, cf⟩ := J.out.cX
                go_simp
                show K _ (setP u6 M x)
                replace J := Lib.hid (J.out.setX x)
                clear c0 c1 c2 c3 cf
                generalize setP u6 M x = u7 at *
                (try clear sk)
                have sk := J.out.cells
                refine hK.out _ _ sk (fun hHeld2 => ?_)
                clear hK K hHeld
                have hHeld := hHeld2
                clear hHeld2
                try simp only [Act.put, List.setIfInBounds_toArray, List.set_cons_zero, List.set_cons_succ]
                refine wpAnyH_ready (rs := [13]) (by kernel_rfl) (by simp) (AllReadyH.cons (o := oa13) rfl (fun K hK => ?_) AllReadyH.nil)
                unfold oa13
                obtain ⟨c0, c1, c2, c3, cf⟩ := J.out.cY
                go_simp
                show K _ (setP u7 N y)
                replace J := Lib.hid (J.out.setY y)
                clear c0 c1 c2 c3 cf
                generalize setP u7 N y = u8 at *
                (try clear sk)
                have sk := J.out.cells
                refine hK.out _ _ sk (fun hHeld2 => ?_)
                clear hK K hHeld
                have hHeld := hHeld2
                clear hHeld2
                try simp only [Act.put, List.setIfInBounds_toArray, List.set_cons_zero, List.set_cons_succ]
                refine wpAnyH_done (by kernel_rfl) ?_ _
                go_wp2_with fail
                go_meet
                exact ⟨M, N, rfl, rfl, J⟩
              · unfold oa10
                go_simp
                replace J := Lib.hid J.out.newX
                generalize u4.alloc (.cells #[.int .u8 0, .int .u8 0, .int .u8 0, .int .u8 0] 23) = u5 at *
                generalize u4.heap.size = M at *
                (try clear sk)
                have sk := J.out.cells
                refine hK.out _ _ sk (fun hHeld2 => ?_)
                clear hK K hHeld
                have hHeld := hHeld2
                clear hHeld2
                try simp only [Act.put, List.setIfInBounds_toArray, List.set_cons_zero, List.set_cons_succ]
                refine wpAnyH_ready (rs := [9]) (by kernel_rfl) (by simp) (AllReadyH.cons (o := oa9) rfl (fun K hK => ?_) AllReadyH.nil)
                unfold oa9
                go_simp
                refine (D4 _).out.mono ?_
                rintro e u6 ⟨rfl, hb⟩
                replace J := Lib.hid (J.out.step hb)
                (try clear sk)
                have sk := J.out.cells
                clear hb
                refine hK.out _ _ sk (fun hHeld2 => ?_)
                clear hK K hHeld
                have hHeld := hHeld2
                clear hHeld2
                try simp only [Act.put, List.setIfInBounds_toArray, List.set_cons_zero, List.set_cons_succ]
                refine wpAnyH_ready (rs := [12]) (by kernel_rfl) (by simp) (AllReadyH.cons (o := oa12) rfl (fun K hK => ?_) AllReadyH.nil)
                unfold oa12
                obtain ⟨c0, c1, c2, c3, cf⟩ := J.out.cX
                go_simp
                show K _ (setP u6 M x)
                replace J := Lib.hid (J.out.setX x)
                clear c0 c1 c2 c3 cf
                generalize setP u6 M x = u7 at *
                (try clear sk)
                have sk := J.out.cells
                refine hK.out _ _ sk (fun hHeld2 => ?_)
                clear hK K hHeld
                have hHeld := hHeld2
                clear hHeld2
                try simp only [Act.put, List.setIfInBounds_toArray, List.set_cons_zero, List.set_cons_succ]
                refine wpAnyH_ready (rs := [13]) (by kernel_rfl) (by simp) (AllReadyH.cons (o := oa13) rfl (fun K hK => ?_) AllReadyH.nil)
                unfold oa13
                obtain ⟨c0, c1, c2, c3, cf⟩ := J.out.cY
                go_simp
                show K _ (setP u7 N y)
                replace J := Lib.hid (J.out.setY y)
                clear c0 c1 c2 c3 cf
                generalize setP u7 N y = u8 at *
                (try clear sk)
                have sk := J.out.cells
                refine hK.out _ _ sk (fun hHeld2 => ?_)
                clear hK K hHeld
                have hHeld := hHeld2
                clear hHeld2
                try simp only [Act.put, List.setIfInBounds_toArray, List.set_cons_zero, List.set_cons_succ]
                refine wpAnyH_done (by kernel_rfl) ?_ _
                go_wp2_with fail
                go_meet
                exact ⟨M, N, rfl, rfl, J⟩
            · unfold oa10
              go_simp
              replace J := Lib.hid J.out.newX
              generalize u3.alloc (.cells #[.int .u8 0, .int .u8 0, .int .u8 0, .int .u8 0] 23) = u4 at *
              generalize u3.heap.size = M at *
              (try clear sk)
              have sk := J.out.cells
              refine hK.out _ _ sk (fun hHeld2 => ?_)
              clear hK K hHeld
              have hHeld := hHeld2
              clear hHeld2
              try simp only [Act.put, List.setIfInBounds_toArray, List.set_cons_zero, List.set_cons_succ]
              refine wpAnyH_ready (rs := [7]) (by kernel_rfl) (by simp) (AllReadyH.cons (o := oa7) rfl (fun K hK => ?_) AllReadyH.nil)
              unfold oa7
              go_simp
              refine (D3 _).out.mono ?_
              rintro e u5 ⟨rfl, hb⟩
              replace J := Lib.hid (J.out.step hb)
              (try clear sk)
              have sk := J.out.cells
              clear hb
              refine hK.out _ _ sk (fun hHeld2 => ?_)
              clear hK K hHeld
              have hHeld := hHeld2
              clear hHeld2
              try simp only [Act.put, List.setIfInBounds_toArray, List.set_cons_zero, List.set_cons_succ]
              refine wpAnyH_ready (rs := [9]) (by kernel_rfl) (by simp) (AllReadyH.cons (o := oa9) rfl (fun K hK => ?_) AllReadyH.nil)
              unfold oa9
              go_simp
              refine (D4 _).out.mono ?_
              rintro e u6 ⟨rfl, hb⟩
              replace J := Lib.hid (J.out.step hb)
              (try clear sk)
              have sk := J.out.cells
              clear hb
              refine hK.out _ _ sk (fun hHeld2 => ?_)
              clear hK K hHeld
              have hHeld := hHeld2
              clear hHeld2
              try simp only [Act.put, List.setIfInBounds_toArray, List.set_cons_zero, List.set_cons_succ]
              refine wpAnyH_ready (rs := [12]) (by kernel_rfl) (by simp) (AllReadyH.cons (o := oa12) rfl (fun K hK => ?_) AllReadyH.nil)
              unfold oa12
              obtain ⟨c0, c1, c2, c3, cf⟩ := J.out.cX
              go_simp
              show K _ (setP u6 M x)
              replace J := Lib.hid (J.out.setX x)
              clear c0 c1 c2 c3 cf
              generalize setP u6 M x = u7 at *
              (try clear sk)
              have sk := J.out.cells
              refine hK.out _ _ sk (fun hHeld2 => ?_)
              clear hK K hHeld
              have hHeld := hHeld2
              clear hHeld2
              try simp only [Act.put, List.setIfInBounds_toArray, List.set_cons_zero, List.set_cons_succ]
              refine wpAnyH_ready (rs := [13]) (by kernel_rfl) (by simp) (AllReadyH.cons (o := oa13) rfl (fun K hK => ?_) AllReadyH.nil)
              unfold oa13
              obtain ⟨c0, c1, c2, c3, cf⟩ := J.out.cY
              go_simp
              show K _ (setP u7 N y)
              replace J := Lib.hid (J.out.setY y)
              clear c0 c1 c2 c3 cf
              generalize setP u7 N y = u8 at *
              (try clear sk)
              have sk := J.out.cells
              refine hK.out _ _ sk (fun hHeld2 => ?_)
              clear hK K hHeld
              have hHeld := hHeld2
              clear hHeld2
              try simp only [Act.put, List.setIfInBounds_toArray, List.set_cons_zero, List.set_cons_succ]
              refine wpAnyH_done (by kernel_rfl) ?_ _
              go_wp2_with fail
              go_meet
              exact ⟨M, N, rfl, rfl, J⟩
          · unfold oa10
            go_simp
            replace J := Lib.hid J.out.newX
            generalize u2.alloc (.cells #[.int .u8 0, .int .u8 0, .int .u8 0, .int .u8 0] 23) = u3 at *
            generalize u2.heap.size = M at *
            (try clear sk)
            have sk := J.out.cells
            refine hK.out _ _ sk (fun hHeld2 => ?_)
            clear hK K hHeld
            have hHeld := hHeld2
            clear hHeld2
            try simp only [Act.put, List.setIfInBounds_toArray, List.set_cons_zero, List.set_cons_succ]
            refine wpAnyH_ready (rs := [4]) (by kernel_rfl) (by simp) (AllReadyH.cons (o := oa4) rfl (fun K hK => ?_) AllReadyH.nil)
            unfold oa4
            go_simp
            refine (D2 _).out.mono ?_
            rintro e u4 ⟨rfl, hb⟩
            replace J := Lib.hid (J.out.step hb)
            (try clear sk)
            have sk := J.out.cells
            clear hb
            refine hK.out _ _ sk (fun hHeld2 => ?_)
            clear hK K hHeld
            have hHeld := hHeld2
            clear hHeld2
            try simp only [Act.put, List.setIfInBounds_toArray, List.set_cons_zero, List.set_cons_succ]
            refine wpAnyH_ready (rs := [7]) (by kernel_rfl) (by simp) (AllReadyH.cons (o := oa7) rfl (fun K hK => ?_) AllReadyH.nil)
            unfold oa7
            go_simp
            refine (D3 _).out.mono ?_
            rintro e u5 ⟨rfl, hb⟩
            replace J := Lib.hid (J.out.step hb)
            (try clear sk)
            have sk := J.out.cells
            clear hb
            refine hK.out _ _ sk (fun hHeld2 => ?_)
            clear hK K hHeld
            have hHeld := hHeld2
            clear hHeld2
            try simp only [Act.put, List.setIfInBounds_toArray, List.set_cons_zero, List.set_cons_succ]
            refine wpAnyH_ready (rs := [9]) (by kernel_rfl) (by simp) (AllReadyH.cons (o := oa9) rfl (fun K hK => ?_) AllReadyH.nil)
            unfold oa9
            go_simp
            refine (D4 _).out.mono ?_
            rintro e u6 ⟨rfl, hb⟩
            replace J := Lib.hid (J.out.step hb)
            (try clear sk)
            have sk := J.out.cells
            clear hb
            refine hK.out _ _ sk (fun hHeld2 => ?_)
            clear hK K hHeld
            have hHeld := hHeld2
            clear hHeld2
            try simp only [Act.put, List.setIfInBounds_toArray, List.set_cons_zero, List.set_cons_succ]
            refine wpAnyH_ready (rs := [12]) (by kernel_rfl) (by simp) (AllReadyH.cons (o := oa12) rfl (fun K hK => ?_) AllReadyH.nil)
            unfold oa12
            obtain ⟨c0, c1, c2, c3, cf⟩ := J.out.cX
            go_simp
            show K _ (setP u6 M x)
            replace J := Lib.hid (J.out.setX x)
            clear c0 c1 c2 c3 cf
            generalize setP u6 M x = u7 at *
            (try clear sk)
            have sk := J.out.cells
            refine hK.out _ _ sk (fun hHeld2 => ?_)
            clear hK K hHeld
            have hHeld := hHeld2
            clear hHeld2
            try simp only [Act.put, List.setIfInBounds_toArray, List.set_cons_zero, List.set_cons_succ]
            refine wpAnyH_ready (rs := [13]) (by kernel_rfl) (by simp) (AllReadyH.cons (o := oa13) rfl (fun K hK => ?_) AllReadyH.nil)
            unfold oa13
            obtain ⟨c0, c1, c2, c3, cf⟩ := J.out.cY
            go_simp
            show K _ (setP u7 N y)
            replace J := Lib.hid (J.out.setY y)
            clear c0 c1 c2 c3 cf
            generalize setP u7 N y = u8 at *
            (try clear sk)
            have sk := J.out.cells
            refine hK.out _ _ sk (fun hHeld2 => ?_)
            clear hK K hHeld
            have hHeld := hHeld2
            clear hHeld2
            try simp only [Act.put, List.setIfInBounds_toArray, List.set_cons_zero, List.set_cons_succ]
            refine wpAnyH_done (by kernel_rfl) ?_ _
            go_wp2_with fail
            go_meet
            exact ⟨M, N, rfl, rfl, J⟩
        · unfold oa10
          go_simp
          replace J := Lib.hid J.out.newX
          generalize u1.alloc (.cells #[.int .u8 0, .int .u8 0, .int .u8 0, .int .u8 0] 23) = u2 at *
          generalize u1.heap.size = M at *
          (try clear sk)
          have sk := J.out.cells
          refine hK.out _ _ sk (fun hHeld2 => ?_)
          clear hK K hHeld
          have hHeld := hHeld2
          clear hHeld2
          try simp only [Act.put, List.setIfInBounds_toArray, List.set_cons_zero, List.set_cons_succ]
          refine wpAnyH_ready (rs := [3]) (by kernel_rfl) (by simp) (AllReadyH.cons (o := oa3) rfl (fun K hK => ?_) AllReadyH.nil)
          unfold oa3
          go_simp
          refine (D1 _).out.mono ?_
          rintro e u3 ⟨rfl, hb⟩
          replace J := Lib.hid (J.out.step hb)
          (try clear sk)
          have sk := J.out.cells
          clear hb
          refine hK.out _ _ sk (fun hHeld2 => ?_)
          clear hK K hHeld
          have hHeld := hHeld2
          clear hHeld2
          try simp only [Act.put, List.setIfInBounds_toArray, List.set_cons_zero, List.set_cons_succ]
          refine wpAnyH_ready (rs := [4]) (by kernel_rfl) (by simp) (AllReadyH.cons (o := oa4) rfl (fun K hK => ?_) AllReadyH.nil)
          unfold oa4
          go_simp
          refine (D2 _).out.mono ?_
          rintro e u4 ⟨rfl, hb⟩
          replace J := Lib.hid (J.out.step hb)
          (try clear sk)
          have sk := J.out.cells
          clear hb
          refine hK.out _ _ sk (fun hHeld2 => ?_)
          clear hK K hHeld
          have hHeld := hHeld2
          clear hHeld2
          try simp only [Act.put, List.setIfInBounds_toArray, List.set_cons_zero, List.set_cons_succ]
          refine wpAnyH_ready (rs := [7]) (by kernel_rfl) (by simp) (AllReadyH.cons (o := oa7) rfl (fun K hK => ?_) AllReadyH.nil)
          unfold oa7
          go_simp
          refine (D3 _).out.mono ?_
          rintro e u5 ⟨rfl, hb⟩
          replace J := Lib.hid (J.out.step hb)
          (try clear sk)
          have sk := J.out.cells
          clear hb
          refine hK.out _ _ sk (fun hHeld2 => ?_)
          clear hK K hHeld
          have hHeld := hHeld2
          clear hHeld2
          try simp only [Act.put, List.setIfInBounds_toArray, List.set_cons_zero, List.set_cons_succ]
          refine wpAnyH_ready (rs := [9]) (by kernel_rfl) (by simp) (AllReadyH.cons (o := oa9) rfl (fun K hK => ?_) AllReadyH.nil)
          unfold oa9
          go_simp
          refine (D4 _).out.mono ?_
          rintro e u6 ⟨rfl, hb⟩
          replace J := Lib.hid (J.out.step hb)
          (try clear sk)
          have sk := J.out.cells
          clear hb
          refine hK.out _ _ sk (fun hHeld2 => ?_)
          clear hK K hHeld
          have hHeld := hHeld2
          clear hHeld2
          try simp only [Act.put, List.setIfInBounds_toArray, List.set_cons_zero, List.set_cons_succ]
          refine wpAnyH_ready (rs := [12]) (by kernel_rfl) (by simp) (AllReadyH.cons (o := oa12) rfl (fun K hK => ?_) AllReadyH.nil)
          unfold oa12
          obtain ⟨c0, c1, c2, c3, cf⟩ := J.out.cX
          go_simp
          show K _ (setP u6 M x)
          replace J := Lib.hid (J.out.setX x)
          clear c0 c1 c2 c3 cf
          generalize setP u6 M x = u7 at *
          (try clear sk)
          have sk := J.out.cells
          refine hK.out _ _ sk (fun hHeld2 => ?_)
          clear hK K hHeld
          have hHeld := hHeld2
          clear hHeld2
          try simp only [Act.put, List.setIfInBounds_toArray, List.set_cons_zero, List.set_cons_succ]
          refine wpAnyH_ready (rs := [13]) (by kernel_rfl) (by simp) (AllReadyH.cons (o := oa13) rfl (fun K hK => ?_) AllReadyH.nil)
          unfold oa13
          obtain ⟨c0, c1, c2, c3, cf⟩ := J.out.cY
          go_simp
          show K _ (setP u7 N y)
          replace J := Lib.hid (J.out.setY y)
          clear c0 c1 c2 c3 cf
          generalize setP u7 N y = u8 at *
          (try clear sk)
          have sk := J.out.cells
          refine hK.out _ _ sk (fun hHeld2 => ?_)
          clear hK K hHeld
          have hHeld := hHeld2
          clear hHeld2
          try simp only [Act.put, List.setIfInBounds_toArray, List.set_cons_zero, List.set_cons_succ]
          refine wpAnyH_done (by kernel_rfl) ?_ _
          go_wp2_with fail
          go_meet
          exact ⟨M, N, rfl, rfl, J⟩
    case rest =>
      clear D1 D2 D3 D4 J
      obtain ⟨M, N, rfl, rfl, J⟩ := hcut
      have hb := (Below.refl wc.heap.size wc).alloc (Nat.le_refl _) (.cells #[.int .u8 0, .int .u8 0, .int .u8 0, .int .u8 0] 23)
      have e1 : ∀ W, (binOp .eql 23 (.agg #[.int .u8 (p.r : Int), .int .u8 (p.g : Int), .int .u8 (p.b : Int), .int .u8 (p.a : Int)]) (.agg #[.int .u8 0, .int .u8 0, .int .u8 0, .int .u8 0])).run Try.prog W = .ok (.bool (sameP p zeroPx)) W := fun W => eql_px p zeroPx W
      have e2 : ∀ W, (binOp .eql 23 (.agg #[.int .u8 (q.r : Int), .int .u8 (q.g : Int), .int .u8 (q.b : Int), .int .u8 (q.a : Int)]) (.agg #[.int .u8 0, .int .u8 0, .int .u8 0, .int .u8 0])).run Try.prog W = .ok (.bool (sameP q zeroPx)) W := fun W => eql_px q zeroPx W
      have e3 : ∀ W, (binOp .eql 23 (.agg #[.int .u8 (r.r : Int), .int .u8 (r.g : Int), .int .u8 (r.b : Int), .int .u8 (r.a : Int)]) (.agg #[.int .u8 0, .int .u8 0, .int .u8 0, .int .u8 0])).run Try.prog W = .ok (.bool (sameP r zeroPx)) W := fun W => eql_px r zeroPx W
      replace J := Lib.hid (J.out.step hb)
      have Zc : Four (wc.alloc (.cells #[.int .u8 0, .int .u8 0, .int .u8 0, .int .u8 0] 23)) wc.heap.size (.int .u8 0) (.int .u8 0) (.int .u8 0) (.int .u8 0) := Four.new wc _ _ _ _ _
      clear hb
      go_upto_region 4 with (fail)
      generalize wc.alloc (.cells #[.int .u8 0, .int .u8 0, .int .u8 0, .int .u8 0] 23) = wd at *
      generalize wc.heap.size = T at *
      obtain ⟨t0, t1, t2, t3, _⟩ := Zc
      obtain ⟨g0, g1, g2, g3, _⟩ := J.out.held.at0
      obtain ⟨i0, i1, i2, i3, _⟩ := J.out.held.at1
      obtain ⟨j0, j1, j2, j3, _⟩ := J.out.held.at2
      obtain ⟨k0, k1, k2, k3, _⟩ := J.out.cX
      obtain ⟨l0, l1, l2, l3, _⟩ := J.out.cY
      go_cut [54] (fun s54 wx => s54 = .bool false ∧ Hid (HeldQ w wx p q r (some (M, x)) (some (N, y))))
      case first =>
        by_cases h1 : p.a = 255
        · obtain rfl := hsame.out (.inl h1)
          have n1 : (p.a : Int) = 255 := by omega
          clear e1 e2 e3 h1
          go_wp2_with fail
          go_meet
          exact ⟨rfl, J⟩
        · have n1 : ¬ (p.a : Int) = 255 := by omega
          by_cases h2 : q.a = 255
          · obtain rfl := hsame.out (.inr (.inl h2))
            have n2 : (q.a : Int) = 255 := by omega
            clear e1 e2 e3 h1 h2
            go_wp2_with fail
            go_meet
            exact ⟨rfl, J⟩
          · have n2 : ¬ (q.a : Int) = 255 := by omega
            clear h1 h2
            cases h3 : sameP p zeroPx with
            | true =>
              obtain rfl := hsame.out (.inr (.inr (.inl ((same_iff _ _).1 h3))))
              rw [h3] at e1
              clear e2 e3 h3
              go_wp2_with fail
              go_meet
              exact ⟨rfl, J⟩
            | false =>
              rw [h3] at e1
              cases h4 : sameP q zeroPx with
              | true =>
                obtain rfl := hsame.out (.inr (.inr (.inr (.inl ((same_iff _ _).1 h4)))))
                rw [h4] at e2
                clear e3 h3 h4
                go_wp2_with fail
                go_meet
                exact ⟨rfl, J⟩
              | false =>
                rw [h4] at e2
                cases h5 : sameP r zeroPx with
                | true =>
                  obtain rfl := hsame.out (.inr (.inr (.inr (.inr ((same_iff _ _).1 h5)))))
                  rw [h5] at e3
                  clear h3 h4 h5
                  go_wp2_with fail
                  go_meet
                  exact ⟨rfl, J⟩
                | false =>
                  rw [h5] at e3
                  clear h3 h4 h5
                  go_wp2_with fail
                  go_meet
                  exact ⟨rfl, J⟩
      case rest =>
        clear e1 e2 e3 J t0 t1 t2 t3 g0 g1 g2 g3 i0 i1 i2 i3 j0 j1 j2 j3 k0 k1 k2 k3 l0 l1 l2 l3 hsame
        obtain ⟨rfl, J⟩ := hcut
        obtain ⟨k0, k1, k2, k3, _⟩ := J.out.cX
        obtain ⟨l0, l1, l2, l3, _⟩ := J.out.cY
        obtain ⟨x0, x1, x2, x3⟩ := hx.out
        obtain ⟨y0, y1, y2, y3⟩ := hy.out
        obtain ⟨⟨f0, f1⟩, f2, f3⟩ := hnear.out
        have N0 := fun W => Lib.hid (near_true x0 y0 f0 W)
        have N1 := fun W => Lib.hid (near_true x1 y1 f1 W)
        have N2 := fun W => Lib.hid (near_true x2 y2 f2 W)
        have N3 := fun W => Lib.hid (near_true x3 y3 f3 W)
        have C19 := fun W => Lib.hid (example_any W)
        clear x0 x1 x2 x3 y0 y1 y2 y3 f0 f1 f2 f3 hx hy hnear
        go_wp2_with (first
          | (go_at_call 28; (with_reducible refine (N0 _).out.mono ?_); rintro e wq ⟨rfl, rfl⟩)
          | (go_at_call 28; (with_reducible refine (N1 _).out.mono ?_); rintro e wq ⟨rfl, rfl⟩)
          | (go_at_call 28; (with_reducible refine (N2 _).out.mono ?_); rintro e wq ⟨rfl, rfl⟩)
          | (go_at_call 28; (with_reducible refine (N3 _).out.mono ?_); rintro e wq ⟨rfl, rfl⟩)
          | (go_at_call 19; (with_reducible refine (C19 _).out.mono ?_); rintro e wq ⟨rfl, hb⟩; replace J := Lib.hid (J.out.step hb); clear hb)
          | fail)
        go_ret
        exact ⟨rfl, J.out.held.below⟩

end Go.Proofs.Ytkphkmcdbmphlaa
