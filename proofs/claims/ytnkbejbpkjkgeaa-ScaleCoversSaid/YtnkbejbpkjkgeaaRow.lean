/-
  row, same, small and between of the laws of package scale.
-/
import Derived.Test.YtnkbejbpkjkgeaaHw
import Derived.Test.YtnkbejbpkjkgeaaScl
import Derived.BigRegion
namespace Go.Proofs.Ytnkbejbpkjkgeaa
open Go.RowKit Mem

/-- the pixels of a row with these alpha components -/
def alpL (bs : List UInt8) : List Px := bs.map fun b => ⟨0, 0, 0, b.toNat⟩
theorem alp_len (bs : List UInt8) : (alpL bs).length = bs.length := by unfold alpL; rw [List.length_map]
theorem alp_next {bs : List UInt8} {i : Nat} (h : i < bs.length) : (alpL bs).take (i + 1) = (alpL bs).take i ++ [⟨0, 0, 0, (bs.getD i 0).toNat⟩] := by
  rw [take_next (by rw [alp_len]; exact h)]
  congr 2
  unfold alpL
  rw [List.getD_eq_getElem?_getD, List.getD_eq_getElem?_getD, List.getElem?_map, List.getElem?_eq_getElem h]
  rfl

set_option maxRecDepth 100000 in
set_option maxHeartbeats 8000000 in
theorem row_any {v : Value} {bs : List UInt8} {w : World} (h : Sees w v bs) (h0 : 0 < bs.length) (hm : bs.length ≤ 1000) : Calls Try.prog 31 #[v] w (GivesB bs.length 1 (alpL bs) w) := by
  rcases h.ways with ⟨_, _, _, he, _⟩ | ⟨bb, off, n, c, rfl, hln, hn0, hnc, hcm, hbb, hcell⟩
  · rw [he] at h0
    simp at h0
  rw [hln] at hm ⊢
  have HC := Lib.hid hcell
  have HNX := fun i (hi : i < n) => Lib.hid (alp_next (bs := bs) (i := i) (by omega))
  have HL := Lib.hid ((alp_len bs).trans hln)
  simp only [maxLen] at hcm
  have J := Lib.hid (show Held w ((w.alloc (.cells #[.int .i64 0, .int .i64 0, .slice none 0 0] 24)).alloc (.cells #[.int .i64 (n : Int), .int .i64 1, .slice none 0 0] 24)) [(w.heap.size + 1, [.int .i64 (n : Int), .int .i64 1, .slice none 0 0]), (w.heap.size, [.int .i64 0, .int .i64 0, .slice none 0 0])] from by
    have h := ((Held.nil w).alloc [.int .i64 0, .int .i64 0, .slice none 0 0] 24).alloc [.int .i64 (n : Int), .int .i64 1, .slice none 0 0] 24
    rw [World.size_alloc] at h
    exact h)
  unfold GivesB
  have hby := fun i => (bs.getD i 0).toNat_lt
  generalize alpL bs = O at *
  clear h hcell hln h0
  go_enter Try.func31, Try.ntmps31
  go_wp2_with fail
  have G : Hid (OwnP ((w.alloc (.cells #[.int .i64 0, .int .i64 0, .slice none 0 0] 24)).alloc (.cells #[.int .i64 (n : Int), .int .i64 1, .slice none 0 0] 24)) (w.heap.size + 1 + 1) (.slice none 0 0) (O.take 0) ∧ Held w ((w.alloc (.cells #[.int .i64 0, .int .i64 0, .slice none 0 0] 24)).alloc (.cells #[.int .i64 (n : Int), .int .i64 1, .slice none 0 0] 24)) [(w.heap.size + 1, [.int .i64 (n : Int), .int .i64 1, .slice none 0 0]), (w.heap.size, [.int .i64 0, .int .i64 0, .slice none 0 0])]) := Lib.hid ⟨by rw [List.take_zero]; exact ownP_nil _ _, J.out⟩
  clear J
  generalize (w.alloc (.cells #[.int .i64 0, .int .i64 0, .slice none 0 0] 24)).alloc (.cells #[.int .i64 (n : Int), .int .i64 1, .slice none 0 0] 24) = w3 at *
  generalize hmm : w.heap.size + 1 = mm at *
  have HLT : ∀ vs : List Value, Hid (∀ z ∈ ([(mm, vs), (w.heap.size, [.int .i64 0, .int .i64 0, .slice none 0 0])] : List (Nat × List Value)), z.1 < mm + 1) := fun vs => Lib.hid (fun z hz => by
    simp only [List.mem_cons, List.not_mem_nil, or_false] at hz
    rcases hz with rfl | rfl
    · simp
    · simp only; omega)
  have hwm : w.heap.size ≤ mm + 1 := by omega
  go_loopw [4] (fun s4 wr => ∃ (i : Nat) (A1 : Option Addr) (k1 c1 : Nat), i ≤ n ∧ s4 = .int .i64 (i : Int) ∧ Hid (OwnP wr (mm + 1) (.slice A1 k1 c1) (O.take i) ∧ Held w wr [(mm, [.int .i64 (n : Int), .int .i64 1, .slice A1 k1 c1]), (w.heap.size, [.int .i64 0, .int .i64 0, .slice none 0 0])])) (fun s4 _ => leftN n s4)
  case atStart => exact ⟨0, none, 0, 0, Nat.zero_le _, rfl, G⟩
  case round =>
    clear G
    obtain ⟨i, A1, k1, c1, hi, rfl, HS⟩ := hrel
    by_cases hlt : i < n
    · have q1 : (i : Int) < n := by omega
      have q0 : (0 : Int) ≤ i := by omega
      have hnx2 := HNX i hlt
      have hlen := Lib.hid (show (O.take i).length + [(⟨0, 0, 0, (bs.getD i 0).toNat⟩ : Px)].length ≤ 4000000 by
        rw [List.length_take, HL.out, List.length_singleton]
        omega)
      have cB := Lib.hid (HC.out i hlt)
      unfold byte at cB
      generalize (bs.getD i 0).toNat = z at *
      generalize hLk : O.take i = Lk at *
      clear hLk
      obtain ⟨px, hpx⟩ : ∃ px : Px, px = ⟨0, 0, 0, z⟩ := ⟨_, rfl⟩
      have cA := fun W (hb : Below w.heap.size w W) => Lib.hid ((hb.cell (p := ⟨bb, off + i, none⟩) hbb).trans cB.out)
      have J := Lib.hid HS.out.2.drew
      have Ow : Hid (OwnP wr.drew (mm + 1) (.slice A1 k1 c1) Lk) := Lib.hid HS.out.1
      go_wp2_with fail
      have sk := And.intro (J.out.three (l1 := [_])) (cA _ J.out.below).out
      clear HS hby
      refine wp_region_held_drew (S := (fun W => (W.cell? ⟨w.heap.size, 0, none⟩ = some (.int .i64 0) ∧ W.cell? ⟨w.heap.size, 1, none⟩ = some (.int .i64 0) ∧ W.cell? ⟨w.heap.size, 2, none⟩ = some (.slice none 0 0)) ∧ W.cell? ⟨bb, off + i, none⟩ = some (.int .u8 (z : Int)))) (by kernel_rfl) sk (fun hHeld => ?_)
      generalize wr.drew = u0 at *
      refine wpAnyH_take (i := 0) (oi := ({ dst := some 14, op := Go.Op.fieldAddr 24 (Go.Operand.tmp 3) 2, type := 0, pos := "law.go:16", after := #[], guard := none } : Oper)) (v := ?_) rfl (by kernel_rfl) (by kernel_rfl) (by kernel_rfl) (fun _ _ _ h => h) (Or.inl ⟨by kernel_rfl, ?_⟩) hHeld ?_
      rotate_left 1
      · (intro W hSw; (try dsimp only at hSw); go_simp; try with_reducible rfl)
      try simp only [Act.put, List.setIfInBounds_toArray, List.set_cons_zero, List.set_cons_succ]
      refine wpAnyH_take (i := 2) (oi := ({ dst := some 16, op := Go.Op.move (Go.Operand.tmp 0), type := 62, pos := "law.go:16", after := #[], guard := none } : Oper)) (v := ?_) rfl (by kernel_rfl) (by kernel_rfl) (by kernel_rfl) (fun _ _ _ h => h) (Or.inl ⟨by kernel_rfl, ?_⟩) hHeld ?_
      rotate_left 1
      · (intro W hSw; (try dsimp only at hSw); go_simp; try with_reducible rfl)
      try simp only [Act.put, List.setIfInBounds_toArray, List.set_cons_zero, List.set_cons_succ]
      refine wpAnyH_take (i := 3) (oi := ({ dst := some 17, op := Go.Op.move (Go.Operand.tmp 4), type := 3, pos := "law.go:16", after := #[], guard := none } : Oper)) (v := ?_) rfl (by kernel_rfl) (by kernel_rfl) (by kernel_rfl) (fun _ _ _ h => h) (Or.inl ⟨by kernel_rfl, ?_⟩) hHeld ?_
      rotate_left 1
      · (intro W hSw; (try dsimp only at hSw); go_simp; try with_reducible rfl)
      try simp only [Act.put, List.setIfInBounds_toArray, List.set_cons_zero, List.set_cons_succ]
      refine wpAnyH_take (i := 4) (oi := ({ dst := some 18, op := Go.Op.indexAddr 62 (Go.Operand.tmp 16) (Go.Operand.tmp 17), type := 0, pos := "law.go:16", after := #[{ on := 2, ground := Go.Ground.data }, { on := 3, ground := Go.Ground.data }], guard := none } : Oper)) (v := ?_) rfl (by kernel_rfl) (by kernel_rfl) (by kernel_rfl) (fun _ _ _ h => h) (Or.inl ⟨by kernel_rfl, ?_⟩) hHeld ?_
      rotate_left 1
      · (intro W hSw; (try dsimp only at hSw); go_simp; try with_reducible rfl)
      try simp only [Act.put, List.setIfInBounds_toArray, List.set_cons_zero, List.set_cons_succ]
      refine wpAnyH_take (i := 5) (oi := ({ dst := some 19, op := Go.Op.load 5 (Go.Operand.tmp 18), type := 5, pos := "law.go:16", after := #[{ on := 4, ground := Go.Ground.data }], guard := none } : Oper)) (v := ?_) rfl (by kernel_rfl) (by kernel_rfl) (by kernel_rfl) (fun _ _ _ h => h) (Or.inl ⟨by kernel_rfl, ?_⟩) hHeld ?_
      rotate_left 1
      · (intro W hSw; (try dsimp only at hSw); go_simp; try with_reducible rfl)
      try simp only [Act.put, List.setIfInBounds_toArray, List.set_cons_zero, List.set_cons_succ]
      refine wpAnyH_take (i := 6) (oi := ({ dst := some 20, op := Go.Op.build 43 #[(3, Go.Operand.tmp 19)], type := 43, pos := "law.go:16", after := #[{ on := 5, ground := Go.Ground.data }], guard := none } : Oper)) (v := ?_) rfl (by kernel_rfl) (by kernel_rfl) (by kernel_rfl) (fun _ _ _ h => h) (Or.inl ⟨by kernel_rfl, ?_⟩) hHeld ?_
      rotate_left 1
      · (intro W hSw; (try dsimp only at hSw); go_simp; try with_reducible rfl)
      try simp only [Act.put, List.setIfInBounds_toArray, List.set_cons_zero, List.set_cons_succ]
      refine wpAnyH_ready (rs := [1, 7]) (by kernel_rfl) (by simp) (AllReadyH.cons (o := ({ dst := some 15, op := Go.Op.load 22 (Go.Operand.tmp 14), type := 22, pos := "law.go:16", after := #[{ on := 0, ground := Go.Ground.data }], guard := none } : Oper)) rfl (fun K hK => ?_) (AllReadyH.cons (o := ({ dst := some 21, op := Go.Op.buildSlice 22 1 #[(0, Go.Operand.tmp 20)], type := 22, pos := "law.go:16", after := #[{ on := 6, ground := Go.Ground.data }], guard := none } : Oper)) rfl (fun K hK => ?_) AllReadyH.nil))
      · obtain ⟨m0, m1, m2, _, mt⟩ := J.out.tri (l1 := [])
        go_simp
        clear m0 m1 m2 mt
        refine hK.out _ _ sk (fun hHeld2 => ?_)
        clear hK K hHeld
        have hHeld := hHeld2
        clear hHeld2
        try simp only [Act.put, List.setIfInBounds_toArray, List.set_cons_zero, List.set_cons_succ]
        refine wpAnyH_ready (rs := [7]) (by kernel_rfl) (by simp) (AllReadyH.cons (o := ({ dst := some 21, op := Go.Op.buildSlice 22 1 #[(0, Go.Operand.tmp 20)], type := 22, pos := "law.go:16", after := #[{ on := 6, ground := Go.Ground.data }], guard := none } : Oper)) rfl (fun K hK => ?_) AllReadyH.nil)
        go_simp
        replace J := Lib.hid (J.out.made (.cells #[.int .u8 0, .int .u8 0, .int .u8 0, .int .u8 (z : Int)] 43))
        replace Ow := Lib.hid (Ow.out.alloc (.cells #[.int .u8 0, .int .u8 0, .int .u8 0, .int .u8 (z : Int)] 43))
        have P1 := Lib.hid (pxs_one u0 ⟨0, 0, 0, z⟩)
        generalize u0.alloc (.cells #[.int .u8 0, .int .u8 0, .int .u8 0, .int .u8 (z : Int)] 43) = u1 at *
        generalize u0.heap.size = kb at *
        (try clear sk)
        have sk := And.intro (J.out.three (l1 := [_])) (cA _ J.out.below).out
        refine hK.out _ _ sk (fun hHeld2 => ?_)
        clear hK K hHeld
        have hHeld := hHeld2
        clear hHeld2
        try simp only [Act.put, List.setIfInBounds_toArray, List.set_cons_zero, List.set_cons_succ]
        refine wpAnyH_ready (rs := [8]) (by kernel_rfl) (by simp) (AllReadyH.cons (o := ({ dst := some 22, op := Go.Op.call { callee := Go.Callee.builtin Go.Builtin.append, args := #[Go.Operand.tmp 15, Go.Operand.tmp 21], argTypes := #[22, 22] }, type := 22, pos := "law.go:16", after := #[{ on := 1, ground := Go.Ground.data }, { on := 7, ground := Go.Ground.data }], guard := none } : Oper)) rfl (fun K hK => ?_) AllReadyH.nil)
        refine step_appP (by rfl) _ _ (by rfl) (base := mm + 1) (l := Lk) (m := [⟨0, 0, 0, z⟩]) (by rfl) (by exact Ow.out) (by rfl) (by exact P1.out) (by exact hlen.out) (by exact (J.out.tri (l1 := [])).2.2.2.2) ?_
        intro v6 u2 ho6 hg6 _
        replace J := Lib.hid (J.out.grownO hg6 Ow.out hwm (HLT _).out)
        obtain ⟨A6, c6, rfl, _, _⟩ := ho6.pxs.shape
        rw [List.length_append, List.length_singleton] at ho6
        rw [← hnx2.out] at ho6
        have O6 := Lib.hid ho6
        clear ho6 hg6
        (try clear sk)
        have sk := And.intro (J.out.three (l1 := [_])) (cA _ J.out.below).out
        refine hK.out _ _ sk (fun hHeld2 => ?_)
        clear hK K hHeld
        have hHeld := hHeld2
        clear hHeld2
        try simp only [Act.put, List.setIfInBounds_toArray, List.set_cons_zero, List.set_cons_succ]
        refine wpAnyH_take (i := 9) (oi := ({ dst := some 23, op := Go.Op.fieldAddr 24 (Go.Operand.tmp 3) 2, type := 0, pos := "law.go:16", after := #[{ on := 0, ground := Go.Ground.phase }, { on := 1, ground := Go.Ground.phase }, { on := 2, ground := Go.Ground.phase }, { on := 3, ground := Go.Ground.phase }, { on := 4, ground := Go.Ground.phase }, { on := 5, ground := Go.Ground.phase }, { on := 6, ground := Go.Ground.phase }, { on := 7, ground := Go.Ground.phase }, { on := 8, ground := Go.Ground.phase }], guard := none } : Oper)) (v := ?_) rfl (by kernel_rfl) (by kernel_rfl) (by kernel_rfl) (fun _ _ _ h => h) (Or.inl ⟨by kernel_rfl, ?_⟩) hHeld ?_
        rotate_left 1
        · (intro W hSw; (try dsimp only at hSw); go_simp; try with_reducible rfl)
        try simp only [Act.put, List.setIfInBounds_toArray, List.set_cons_zero, List.set_cons_succ]
        refine wpAnyH_ready (rs := [10]) (by kernel_rfl) (by simp) (AllReadyH.cons (o := ({ dst := none, op := Go.Op.store 22 (Go.Operand.tmp 23) (Go.Operand.tmp 22), type := 0, pos := "law.go:16", after := #[{ on := 9, ground := Go.Ground.data }, { on := 8, ground := Go.Ground.data }, { on := 8, ground := Go.Ground.chain }, { on := 0, ground := Go.Ground.phase }, { on := 1, ground := Go.Ground.phase }, { on := 2, ground := Go.Ground.phase }, { on := 3, ground := Go.Ground.phase }, { on := 4, ground := Go.Ground.phase }, { on := 5, ground := Go.Ground.phase }, { on := 6, ground := Go.Ground.phase }, { on := 7, ground := Go.Ground.phase }, { on := 8, ground := Go.Ground.phase }], guard := none } : Oper)) rfl (fun K hK => ?_) AllReadyH.nil)
        obtain ⟨z0, z1, z2, zf, zt⟩ := J.out.tri (l1 := [])
        go_simp
        have Z := Lib.hid (And.intro (O6.out.cell (k := mm) (Nat.lt_succ_self mm) 2 (.slice A6 (Lk.length + 1) c6)) (J.out.cell (l1 := []) (i := 2) (by simp) (.slice A6 (Lk.length + 1) c6)))
        replace J := Lib.hid Z.out.2
        clear z0 z1 z2 zf zt
        (try clear sk)
        have sk := And.intro (J.out.three (l1 := [_])) (cA _ J.out.below).out
        refine hK.out _ _ sk (fun hHeld2 => ?_)
        clear hK K hHeld
        have hHeld := hHeld2
        clear hHeld2
        try simp only [Act.put, List.setIfInBounds_toArray, List.set_cons_zero, List.set_cons_succ]
        refine wpAnyH_done (by kernel_rfl) ?_ _
        go_wp2_with fail
        go_roundw
        case rel => exact ⟨i + 1, A6, Lk.length + 1, c6, by omega, by go_num, Z⟩
        case measure =>
          unfold leftN
          simp [intOf]
          omega
      · go_simp
        replace J := Lib.hid (J.out.made (.cells #[.int .u8 0, .int .u8 0, .int .u8 0, .int .u8 (z : Int)] 43))
        replace Ow := Lib.hid (Ow.out.alloc (.cells #[.int .u8 0, .int .u8 0, .int .u8 0, .int .u8 (z : Int)] 43))
        have P1 := Lib.hid (pxs_one u0 ⟨0, 0, 0, z⟩)
        generalize u0.alloc (.cells #[.int .u8 0, .int .u8 0, .int .u8 0, .int .u8 (z : Int)] 43) = u1 at *
        generalize u0.heap.size = kb at *
        (try clear sk)
        have sk := And.intro (J.out.three (l1 := [_])) (cA _ J.out.below).out
        refine hK.out _ _ sk (fun hHeld2 => ?_)
        clear hK K hHeld
        have hHeld := hHeld2
        clear hHeld2
        try simp only [Act.put, List.setIfInBounds_toArray, List.set_cons_zero, List.set_cons_succ]
        refine wpAnyH_ready (rs := [1]) (by kernel_rfl) (by simp) (AllReadyH.cons (o := ({ dst := some 15, op := Go.Op.load 22 (Go.Operand.tmp 14), type := 22, pos := "law.go:16", after := #[{ on := 0, ground := Go.Ground.data }], guard := none } : Oper)) rfl (fun K hK => ?_) AllReadyH.nil)
        obtain ⟨m0, m1, m2, _, mt⟩ := J.out.tri (l1 := [])
        go_simp
        clear m0 m1 m2 mt
        refine hK.out _ _ sk (fun hHeld2 => ?_)
        clear hK K hHeld
        have hHeld := hHeld2
        clear hHeld2
        try simp only [Act.put, List.setIfInBounds_toArray, List.set_cons_zero, List.set_cons_succ]
        refine wpAnyH_ready (rs := [8]) (by kernel_rfl) (by simp) (AllReadyH.cons (o := ({ dst := some 22, op := Go.Op.call { callee := Go.Callee.builtin Go.Builtin.append, args := #[Go.Operand.tmp 15, Go.Operand.tmp 21], argTypes := #[22, 22] }, type := 22, pos := "law.go:16", after := #[{ on := 1, ground := Go.Ground.data }, { on := 7, ground := Go.Ground.data }], guard := none } : Oper)) rfl (fun K hK => ?_) AllReadyH.nil)
        refine step_appP (by rfl) _ _ (by rfl) (base := mm + 1) (l := Lk) (m := [⟨0, 0, 0, z⟩]) (by rfl) (by exact Ow.out) (by rfl) (by exact P1.out) (by exact hlen.out) (by exact (J.out.tri (l1 := [])).2.2.2.2) ?_
        intro v6 u2 ho6 hg6 _
        replace J := Lib.hid (J.out.grownO hg6 Ow.out hwm (HLT _).out)
        obtain ⟨A6, c6, rfl, _, _⟩ := ho6.pxs.shape
        rw [List.length_append, List.length_singleton] at ho6
        rw [← hnx2.out] at ho6
        have O6 := Lib.hid ho6
        clear ho6 hg6
        (try clear sk)
        have sk := And.intro (J.out.three (l1 := [_])) (cA _ J.out.below).out
        refine hK.out _ _ sk (fun hHeld2 => ?_)
        clear hK K hHeld
        have hHeld := hHeld2
        clear hHeld2
        try simp only [Act.put, List.setIfInBounds_toArray, List.set_cons_zero, List.set_cons_succ]
        refine wpAnyH_take (i := 9) (oi := ({ dst := some 23, op := Go.Op.fieldAddr 24 (Go.Operand.tmp 3) 2, type := 0, pos := "law.go:16", after := #[{ on := 0, ground := Go.Ground.phase }, { on := 1, ground := Go.Ground.phase }, { on := 2, ground := Go.Ground.phase }, { on := 3, ground := Go.Ground.phase }, { on := 4, ground := Go.Ground.phase }, { on := 5, ground := Go.Ground.phase }, { on := 6, ground := Go.Ground.phase }, { on := 7, ground := Go.Ground.phase }, { on := 8, ground := Go.Ground.phase }], guard := none } : Oper)) (v := ?_) rfl (by kernel_rfl) (by kernel_rfl) (by kernel_rfl) (fun _ _ _ h => h) (Or.inl ⟨by kernel_rfl, ?_⟩) hHeld ?_
        rotate_left 1
        · (intro W hSw; (try dsimp only at hSw); go_simp; try with_reducible rfl)
        try simp only [Act.put, List.setIfInBounds_toArray, List.set_cons_zero, List.set_cons_succ]
        refine wpAnyH_ready (rs := [10]) (by kernel_rfl) (by simp) (AllReadyH.cons (o := ({ dst := none, op := Go.Op.store 22 (Go.Operand.tmp 23) (Go.Operand.tmp 22), type := 0, pos := "law.go:16", after := #[{ on := 9, ground := Go.Ground.data }, { on := 8, ground := Go.Ground.data }, { on := 8, ground := Go.Ground.chain }, { on := 0, ground := Go.Ground.phase }, { on := 1, ground := Go.Ground.phase }, { on := 2, ground := Go.Ground.phase }, { on := 3, ground := Go.Ground.phase }, { on := 4, ground := Go.Ground.phase }, { on := 5, ground := Go.Ground.phase }, { on := 6, ground := Go.Ground.phase }, { on := 7, ground := Go.Ground.phase }, { on := 8, ground := Go.Ground.phase }], guard := none } : Oper)) rfl (fun K hK => ?_) AllReadyH.nil)
        obtain ⟨z0, z1, z2, zf, zt⟩ := J.out.tri (l1 := [])
        go_simp
        have Z := Lib.hid (And.intro (O6.out.cell (k := mm) (Nat.lt_succ_self mm) 2 (.slice A6 (Lk.length + 1) c6)) (J.out.cell (l1 := []) (i := 2) (by simp) (.slice A6 (Lk.length + 1) c6)))
        replace J := Lib.hid Z.out.2
        clear z0 z1 z2 zf zt
        (try clear sk)
        have sk := And.intro (J.out.three (l1 := [_])) (cA _ J.out.below).out
        refine hK.out _ _ sk (fun hHeld2 => ?_)
        clear hK K hHeld
        have hHeld := hHeld2
        clear hHeld2
        try simp only [Act.put, List.setIfInBounds_toArray, List.set_cons_zero, List.set_cons_succ]
        refine wpAnyH_done (by kernel_rfl) ?_ _
        go_wp2_with fail
        go_roundw
        case rel => exact ⟨i + 1, A6, Lk.length + 1, c6, by omega, by go_num, Z⟩
        case measure =>
          unfold leftN
          simp [intOf]
          omega
    · obtain rfl : n = i := by omega
      have q1 : ¬ (n : Int) < n := by omega
      have hO : O.take n = O := List.take_of_length_le (by rw [HL.out]; exact Nat.le_refl _)
      rw [hO] at HS
      have Q := Lib.hid (HS.out.1.set3 (k := w.heap.size) (by omega) (.int .i64 (n : Int)) (.int .i64 1) (.slice A1 k1 c1)).pxs
      have K := Lib.hid (below_set3 (y0 := .int .i64 (n : Int)) (y1 := .int .i64 1) (y2 := .slice A1 k1 c1) HS.out.2.below (Nat.le_refl w.heap.size))
      obtain ⟨m0, m1, m2, _, mt⟩ := HS.out.2.tri (l1 := [])
      obtain ⟨z0, z1, z2, zf, zt⟩ := HS.out.2.tri (l1 := [_])
      clear HS hO
      go_wp2_with fail
      exact bodyPost_ret (v := .agg #[.int .i64 (n : Int), .int .i64 1, .slice A1 k1 c1]) (by simp [results, Try.results31, go_sem, z0, z1, z2]) rfl ⟨_, rfl, Q.out, K.out⟩

theorem dec_prop {P : Prop} [Decidable P] {b : Bool} (h : decide P = b) : if b = true then P else ¬ P := by
  cases b
  · exact of_decide_eq_false h
  · exact of_decide_eq_true h
/-- few pixels and a small size, or none -/
def smB (n : Nat) (p q : Int) : Bool := decide ((n : Int) ≤ 150) && (decide (p ≤ 12) || decide (256 < p)) && (decide (q ≤ 12) || decide (256 < q))

set_option maxRecDepth 100000 in
set_option maxHeartbeats 4000000 in
theorem lsmall_any (a b p q : Int) (A : Option Addr) (n c : Nat) (w : World) : Calls Try.prog 11 #[.agg #[.int .i64 a, .int .i64 b, .slice A n c], .int .i64 p, .int .i64 q] w (Says (smB n p q) w) := by
  have J := Lib.hid ((Held.nil w).alloc [.int .i64 a, .int .i64 b, .slice A n c] 24)
  obtain ⟨z0, z1, z2, _, zt⟩ := J.out.tri (l1 := [])
  obtain ⟨v, hv⟩ : ∃ v, smB n p q = v := ⟨_, rfl⟩
  rw [hv]
  unfold smB at hv
  cases g0 : decide ((n : Int) ≤ 150) <;> cases g1 : decide (p ≤ 12) <;> cases g2 : decide (256 < p) <;> cases g3 : decide (q ≤ 12) <;> cases g4 : decide (256 < q)
  all_goals
    rw [g0, g1, g2, g3, g4] at hv
    simp only [Bool.and_true, Bool.and_false, Bool.or_true, Bool.or_false, Bool.and_self, Bool.or_self] at hv
    subst hv
    have h0 := dec_prop g0
    have h1 := dec_prop g1
    have h2 := dec_prop g2
    have h3 := dec_prop g3
    have h4 := dec_prop g4
    simp only [Bool.false_eq_true, if_true, if_false] at h0 h1 h2 h3 h4
  all_goals try (exfalso; omega)
  all_goals
    go_enter Try.func11, Try.ntmps11
    go_wp2
    go_ret
    exact ⟨rfl, J.out.below⟩

theorem lsame_self {oa ob : Int} {v u : Value} {O : List Px} {w : World} (h : Pxs w v O) (h2 : Pxs w u O) : Calls Try.prog 15 #[.agg #[.int .i64 oa, .int .i64 ob, v], .agg #[.int .i64 oa, .int .i64 ob, u]] w (Says true w) := by
  have H := Lib.hid h
  have H2 := Lib.hid h2
  obtain ⟨A, c, rfl, _⟩ := h.shape
  obtain ⟨A', c', rfl, _⟩ := h2.shape
  have J := Lib.hid (show Held w ((w.alloc (.cells #[.int .i64 oa, .int .i64 ob, .slice A O.length c] 24)).alloc (.cells #[.int .i64 oa, .int .i64 ob, .slice A' O.length c'] 24)) [(w.heap.size + 1, [.int .i64 oa, .int .i64 ob, .slice A' O.length c']), (w.heap.size, [.int .i64 oa, .int .i64 ob, .slice A O.length c])] from by
    have h := ((Held.nil w).alloc [.int .i64 oa, .int .i64 ob, .slice A O.length c] 24).alloc [.int .i64 oa, .int .i64 ob, .slice A' O.length c'] 24
    rw [World.size_alloc] at h
    exact h)
  have C := fun W (hb : Below w.heap.size w W) => Lib.hid (equal_self (oa := oa) (ob := ob) (H.out.below hb) (H2.out.below hb))
  generalize O.length = n at *
  clear h h2 H H2
  go_enter Try.func15, Try.ntmps15
  go_wp2_with fail
  refine (C _ J.out.below).out.mono ?_
  rintro e w1 ⟨rfl, hb⟩
  replace J := Lib.hid (J.out.step hb)
  clear hb
  go_wp2_with fail
  go_ret
  exact ⟨rfl, J.out.below⟩

set_option maxRecDepth 100000 in
set_option maxHeartbeats 4000000 in
theorem between_any {p lo hi : Px} (h1 : leP lo p) (h2 : leP p hi) (w : World) : Calls Try.prog 26 #[.agg #[.int .u8 (p.r : Int), .int .u8 (p.g : Int), .int .u8 (p.b : Int), .int .u8 (p.a : Int)], .agg #[.int .u8 (lo.r : Int), .int .u8 (lo.g : Int), .int .u8 (lo.b : Int), .int .u8 (lo.a : Int)], .agg #[.int .u8 (hi.r : Int), .int .u8 (hi.g : Int), .int .u8 (hi.b : Int), .int .u8 (hi.a : Int)]] w (Says true w) := by
  have J := Lib.hid (show Held w (((w.alloc (.cells #[.int .u8 (p.r : Int), .int .u8 (p.g : Int), .int .u8 (p.b : Int), .int .u8 (p.a : Int)] 43)).alloc (.cells #[.int .u8 (lo.r : Int), .int .u8 (lo.g : Int), .int .u8 (lo.b : Int), .int .u8 (lo.a : Int)] 43)).alloc (.cells #[.int .u8 (hi.r : Int), .int .u8 (hi.g : Int), .int .u8 (hi.b : Int), .int .u8 (hi.a : Int)] 43)) [(w.heap.size + 1 + 1, [.int .u8 (hi.r : Int), .int .u8 (hi.g : Int), .int .u8 (hi.b : Int), .int .u8 (hi.a : Int)]), (w.heap.size + 1, [.int .u8 (lo.r : Int), .int .u8 (lo.g : Int), .int .u8 (lo.b : Int), .int .u8 (lo.a : Int)]), (w.heap.size, [.int .u8 (p.r : Int), .int .u8 (p.g : Int), .int .u8 (p.b : Int), .int .u8 (p.a : Int)])] from by
    have h := (((Held.nil w).alloc [.int .u8 (p.r : Int), .int .u8 (p.g : Int), .int .u8 (p.b : Int), .int .u8 (p.a : Int)] 43).alloc [.int .u8 (lo.r : Int), .int .u8 (lo.g : Int), .int .u8 (lo.b : Int), .int .u8 (lo.a : Int)] 43).alloc [.int .u8 (hi.r : Int), .int .u8 (hi.g : Int), .int .u8 (hi.b : Int), .int .u8 (hi.a : Int)] 43
    rw [World.size_alloc, World.size_alloc] at h
    exact h)
  obtain ⟨a1, a2, a3, a4⟩ := h1
  obtain ⟨b1, b2, b3, b4⟩ := h2
  have c1 : (lo.r : Int) ≤ p.r := by omega
  have c2 : (p.r : Int) ≤ hi.r := by omega
  have c3 : (lo.g : Int) ≤ p.g := by omega
  have c4 : (p.g : Int) ≤ hi.g := by omega
  have c5 : (lo.b : Int) ≤ p.b := by omega
  have c6 : (p.b : Int) ≤ hi.b := by omega
  have c7 : (lo.a : Int) ≤ p.a := by omega
  have c8 : (p.a : Int) ≤ hi.a := by omega
  clear a1 a2 a3 a4 b1 b2 b3 b4
  go_enter Try.func26, Try.ntmps26
  go_wp2_with fail
  go_ret
  exact ⟨rfl, J.out.below⟩

end Go.Proofs.Ytnkbejbpkjkgeaa
