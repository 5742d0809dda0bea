/-
  The reference's state: Clone.
-/
import Derived.Test.YthedglfocjljjaaGreatDoorSra
namespace Go.Proofs.YthedglfocjljjaaGreatDoor
open Go.RowKit

set_option maxRecDepth 100000 in
theorem buf_info : (Tryz.prog.info? 42).map (fun i => (i.zero, i.size, i.bytes)) = some (some (.agg #[.int .i64 0, .int .i64 0, .slice none 0 0]), 3, 40) := by kernel_rfl
set_option maxRecDepth 100000 in
theorem rowBf : RowTy 22 42 3 40 := ⟨Tryz.underlying22, by
  obtain ⟨i, hi, hz, hs, hb⟩ := info_parts buf_info
  exact ⟨i, _, hi, hz, hs, hb, rfl⟩, by decide, by decide⟩
set_option maxRecDepth 100000 in
theorem w32_info : (Tryz.prog.info? 50).map (fun i => (i.zero, i.size, i.bytes)) = some (some (.int .u32 0), 1, 4) := by kernel_rfl
set_option maxRecDepth 100000 in
theorem rowU : RowTy 26 50 1 4 := ⟨Tryz.underlying26, by
  obtain ⟨i, hi, hz, hs, hb⟩ := info_parts w32_info
  exact ⟨i, _, hi, hz, hs, hb, rfl⟩, by decide, by decide⟩
theorem oneCell_bf (x : Bf) (A : Option Addr) (n c : Nat) : ∀ u ∈ bfC (x, .slice A n c), u.oneCell' = true := by
  intro u hu
  simp only [bfC, List.mem_cons, List.not_mem_nil, or_false] at hu
  rcases hu with rfl | rfl | rfl <;> rfl
theorem oneCell_uL (l : List Nat) : ∀ u ∈ uL l, u.oneCell' = true := by
  intro u hu
  obtain ⟨p, _, rfl⟩ := List.mem_map.1 hu
  rfl
def pxO (base : Nat) (L : List Bv) : List Ob := L.map fun p => rowO base 58 4 p.2 p.1.l.length (flat p.1.l)
theorem pxO_append (base : Nat) (L M : List Bv) : pxO base (L ++ M) = pxO base L ++ pxO base M := List.map_append
theorem ownO_mono {w : World} {base base' : Nat} {e : TypeId} {size : Nat} {v : Value} {n : Nat} {xs : List Value} (h : w.ownsRow base e size v n xs) (hb : base' ≤ base) : w.ownsRow base' e size v n xs := by
  refine ⟨h.1, ?_⟩
  rcases h.2 with h2 | ⟨g, cap, cur, hv, hg, r⟩
  · exact .inl h2
  · exact .inr ⟨g, cap, cur, hv, Nat.le_trans hb hg, r⟩
theorem sn_one (w : World) (x y z : Value) (e : TypeId) : Sn (w.alloc (.cells #[x, y, z] e)) 3 (.slice (some ⟨w.heap.size, 0, none⟩) 1 1) 1 [x, y, z] := by
  refine ⟨_, 1, rfl, Nat.le_refl _, by simp [maxLen], rfl, fun _ => ⟨w.heap.size, 0, rfl, by simp, fun j u hj => ?_⟩⟩
  rw [World.cell?_alloc_at _ _ _ _ rfl]
  simpa using hj
theorem clo_perm (a : Ob) (l : List Ob) (m : List Ob) : (l ++ (m ++ [a])).Perm (a :: (l ++ m)) := by
  rw [← List.append_assoc]
  exact List.perm_append_singleton a (l ++ m)
theorem bf_cells {w W : World} {A : Option Addr} {n c : Nat} {L : List Bv} (h : Sn w 3 (.slice A n c) n (bfL L)) (hn : 0 < n) (hb : Below w.heap.size w W) : ∃ b off, A = some ⟨b, off, none⟩ ∧ b < W.heap.size ∧ ∀ (j : Nat) (p : Bv), L[j]? = some p → W.cell? ⟨b, off + j * 3, none⟩ = some (.int .i64 p.1.a) ∧ W.cell? ⟨b, off + j * 3 + 1, none⟩ = some (.int .i64 p.1.b) ∧ W.cell? ⟨b, off + j * 3 + 2, none⟩ = some p.2 := by
  obtain ⟨b, off, hA, hlt, hc⟩ := h.at hn hb
  refine ⟨b, off, hA, hlt, fun j p hj => ?_⟩
  obtain ⟨e0, e1, e2⟩ := bfL_at L j p hj
  exact ⟨hc _ _ e0, by rw [Nat.add_assoc]; exact hc _ _ e1, by rw [Nat.add_assoc]; exact hc _ _ e2⟩

theorem HO.c11 {w W : World} {l1 l2 : List Ob} {k : Nat} {x0 x1 x2 x3 x4 x5 x6 x7 x8 x9 x10 : Value} (h : HO w W (l1 ++ boxO k [x0, x1, x2, x3, x4, x5, x6, x7, x8, x9, x10] :: l2)) :
    W.cell? ⟨k, 0, none⟩ = some x0 ∧ W.cell? ⟨k, 1, none⟩ = some x1 ∧ W.cell? ⟨k, 2, none⟩ = some x2 ∧ W.cell? ⟨k, 3, none⟩ = some x3 ∧ W.cell? ⟨k, 4, none⟩ = some x4 ∧ W.cell? ⟨k, 5, none⟩ = some x5 ∧ W.cell? ⟨k, 6, none⟩ = some x6 ∧ W.cell? ⟨k, 7, none⟩ = some x7 ∧ W.cell? ⟨k, 8, none⟩ = some x8 ∧ W.cell? ⟨k, 9, none⟩ = some x9 ∧ W.cell? ⟨k, 10, none⟩ = some x10 ∧ (∀ i, W.frozen? ⟨k, i, none⟩ = false) ∧ k < W.heap.size :=
  ⟨h.c 0 rfl, h.c 1 rfl, h.c 2 rfl, h.c 3 rfl, h.c 4 rfl, h.c 5 rfl, h.c 6 rfl, h.c 7 rfl, h.c 8 rfl, h.c 9 rfl, h.c 10 rfl, h.f⟩
theorem HO.set11 {w W : World} {l1 l2 : List Ob} {k : Nat} {x0 x1 x2 x3 x4 x5 x6 x7 x8 x9 x10 : Value} (h : HO w W (l1 ++ boxO k [x0, x1, x2, x3, x4, x5, x6, x7, x8, x9, x10] :: l2)) (y0 y1 y2 y3 y4 y5 y6 y7 y8 y9 y10 : Value) :
    HO w (((((((((((W.setCell ⟨k, 0, none⟩ y0).setCell ⟨k, 1, none⟩ y1).setCell ⟨k, 2, none⟩ y2).setCell ⟨k, 3, none⟩ y3).setCell ⟨k, 4, none⟩ y4).setCell ⟨k, 5, none⟩ y5).setCell ⟨k, 6, none⟩ y6).setCell ⟨k, 7, none⟩ y7).setCell ⟨k, 8, none⟩ y8).setCell ⟨k, 9, none⟩ y9).setCell ⟨k, 10, none⟩ y10) (l1 ++ boxO k [y0, y1, y2, y3, y4, y5, y6, y7, y8, y9, y10] :: l2) :=
  (((((((((((h.cell (i := 0) (by simp) y0).cell (i := 1) (by simp) y1).cell (i := 2) (by simp) y2).cell (i := 3) (by simp) y3).cell (i := 4) (by simp) y4).cell (i := 5) (by simp) y5).cell (i := 6) (by simp) y6).cell (i := 7) (by simp) y7).cell (i := 8) (by simp) y8).cell (i := 9) (by simp) y9).cell (i := 10) (by simp) y10)
def ClO (w : World) (s : St) (L : List Bv) (e : Ending) (w' : World) : Prop :=
  ∃ (L1 : List Bv) (vb vd vo vi vc : Value), e = .returned (stV s vb vd vo vi vc) ∧ L1.map Prod.fst = L.map Prod.fst ∧
    HO w w' ([rowO w.heap.size 50 1 vc s.cb.length (uL s.cb), rowO w.heap.size 53 4 vi s.ip.length (rflat s.ip), rowO w.heap.size 53 4 vo s.op.length (rflat s.op), rowO w.heap.size 53 4 vd s.dm.length (rflat s.dm), rowO w.heap.size 42 3 vb L1.length (bfL L1)] ++ pxO w.heap.size L1)

set_option maxRecDepth 100000 in
set_option maxHeartbeats 8000000 in
theorem rclone_any {w : World} {s : St} {L : List Bv} {vb vd vo vi vc : Value} (h : StAt w s L vb vd vo vi vc) (hl : L.length ≤ 1000) (hp : ∀ p ∈ L, p.1.l.length ≤ 100000) (hd : s.dm.length ≤ 1000) (ho : s.op.length ≤ 1000) (hi : s.ip.length ≤ 1000) (hc : s.cb.length ≤ 1000) :
    Calls Tryz.prog 35 #[stV s vb vd vo vi vc] w (ClO w s L) := by
  have HB := Lib.hid h.bf
  have HD := Lib.hid h.dm
  have HOP := Lib.hid h.op
  have HI := Lib.hid h.ip
  have HCB := Lib.hid h.cb
  have HPX := Lib.hid (And.intro h.px hp)
  have RD := Lib.hid (oneCell_rflat s.dm)
  have RO := Lib.hid (oneCell_rflat s.op)
  have RI := Lib.hid (oneCell_rflat s.ip)
  have RC := Lib.hid (oneCell_uL s.cb)
  have LRD := Lib.hid (rflat_length s.dm)
  have LRO := Lib.hid (rflat_length s.op)
  have LRI := Lib.hid (rflat_length s.ip)
  have LRC := Lib.hid (show (uL s.cb).length = s.cb.length * 1 by simp)
  obtain ⟨A, c, rfl, h1, h2⟩ := h.bf.shape
  obtain ⟨Ad, cd, rfl, hd1, hd2⟩ := h.dm.shape
  obtain ⟨Ao, co, rfl, ho1, ho2⟩ := h.op.shape
  obtain ⟨Ai, ci, rfl, hi1, hi2⟩ := h.ip.shape
  obtain ⟨Ac, cc, rfl, hc1, hc2⟩ := h.cb.shape
  simp only [maxLen] at h2 hd2 ho2 hi2 hc2
  unfold ClO
  clear h hp
  obtain ⟨n, hn⟩ : ∃ n, L.length = n := ⟨_, rfl⟩
  have HN := Lib.hid hn
  rw [hn] at HB h1 hl ⊢
  generalize s.dm.length = nd at *
  generalize s.op.length = no at *
  generalize s.ip.length = ni at *
  generalize s.cb.length = nc at *
  clear hn
  have J0 := Lib.hid (show HO w (((w.alloc (.cells (stC s (.slice A n c) (.slice Ad nd cd) (.slice Ao no co) (.slice Ai ni ci) (.slice Ac nc cc)).toArray 28)).alloc (.cells [.int .i64 0, .slice none 0 0, .int .i64 0, .int .i64 0, .slice none 0 0, .slice none 0 0, .bool false, .slice none 0 0, .int .i64 0, .int .i64 0, .slice none 0 0].toArray 28)).alloc (.cells (stC s (.slice none 0 0) (.slice none 0 0) (.slice none 0 0) (.slice none 0 0) (.slice none 0 0)).toArray 28)) ([boxO (w.heap.size + 2) (stC s (.slice none (0) 0) (.slice none 0 0) (.slice none 0 0) (.slice none 0 0) (.slice none 0 0)), boxO w.heap.size (stC s (.slice A n c) (.slice Ad nd cd) (.slice Ao no co) (.slice Ai ni ci) (.slice Ac nc cc)), boxO (w.heap.size + 1) [.int .i64 0, .slice none 0 0, .int .i64 0, .int .i64 0, .slice none 0 0, .slice none 0 0, .bool false, .slice none 0 0, .int .i64 0, .int .i64 0, .slice none 0 0], rowO w.heap.size 42 3 (.slice none (0) 0) (0) (bfL [])] ++ pxO w.heap.size []) from by
    have h := (((((HO.nil w).alloc (stC s (.slice A n c) (.slice Ad nd cd) (.slice Ao no co) (.slice Ai ni ci) (.slice Ac nc cc)) 28).alloc [.int .i64 0, .slice none 0 0, .int .i64 0, .int .i64 0, .slice none 0 0, .slice none 0 0, .bool false, .slice none 0 0, .int .i64 0, .int .i64 0, .slice none 0 0] 28).alloc (stC s (.slice none 0 0) (.slice none 0 0) (.slice none 0 0) (.slice none 0 0) (.slice none 0 0)) 28)).rowNil w.heap.size 42 3
    simp only [World.size_alloc] at h
    exact h.perm ((List.perm_append_singleton _ [_, _, _]).trans (.cons _ (.cons _ (.swap _ _ [])))))
  go_enter Tryz.func35, Tryz.ntmps35
  go_wp2_with fail
  go_loopw [4] (fun s4 wr => ∃ (i : Nat) (L1 : List Bv) (Ab : Option Addr) (cb : Nat), i ≤ n ∧ s4 = .int .i64 (i : Int) ∧ Hid (L1.length = i) ∧ Hid (L1.map Prod.fst = (L.take i).map Prod.fst) ∧ Hid (HO w wr ([boxO (w.heap.size + 2) (stC s (.slice Ab (i) cb) (.slice none 0 0) (.slice none 0 0) (.slice none 0 0) (.slice none 0 0)), boxO w.heap.size (stC s (.slice A n c) (.slice Ad nd cd) (.slice Ao no co) (.slice Ai ni ci) (.slice Ac nc cc)), boxO (w.heap.size + 1) [.int .i64 0, .slice none 0 0, .int .i64 0, .int .i64 0, .slice none 0 0, .slice none 0 0, .bool false, .slice none 0 0, .int .i64 0, .int .i64 0, .slice none 0 0], rowO w.heap.size 42 3 (.slice Ab (i) cb) (i) (bfL L1)] ++ pxO w.heap.size L1))) (fun s4 _ => leftN n s4)
  case atStart => exact ⟨0, [], none, 0, Nat.zero_le _, rfl, Lib.hid rfl, Lib.hid rfl, J0⟩
  case round =>
    clear J0
    obtain ⟨i, L1, Ab, cb, hin, rfl, HL1, HE1, J⟩ := hrel
    have k1 := (show HO w wr ([_] ++ boxO w.heap.size _ :: _) from J.out).c 1 rfl
    by_cases hlt : i < n
    · have q0 : (0 : Int) ≤ i := by omega
      have q1 : (i : Int) < n := by omega
      obtain ⟨p, hp⟩ : ∃ p, L[i]? = some p := ⟨_, List.getElem?_eq_getElem (by rw [HN.out]; exact hlt)⟩
      obtain ⟨b0, off0, rfl, hb0, -⟩ := bf_cells HB.out (by omega) J.out.below
      have HA2 := fun (W : World) (hw : Below w.heap.size w W) => Lib.hid (show W.cell? ⟨b0, off0 + i * 3, none⟩ = some (.int .i64 p.1.a) ∧ W.cell? ⟨b0, off0 + i * 3 + 1, none⟩ = some (.int .i64 p.1.b) ∧ W.cell? ⟨b0, off0 + i * 3 + 2, none⟩ = some p.2 from by
        obtain ⟨b9, off9, e9, _, h9⟩ := bf_cells HB.out (by omega) hw
        simp only [Option.some.injEq, Addr.mk.injEq, and_true] at e9
        obtain ⟨rfl, rfl⟩ := e9
        exact h9 i p hp)
      have hpx := HPX.out.1 p (List.mem_of_getElem? hp)
      have CP := fun (W : World) (hw : Below w.heap.size w W) => Lib.hid (copied_any (p := p) (hpx.below hw) (HPX.out.2 p (List.mem_of_getElem? hp)))
      obtain ⟨Ap, cp, hvp, -, -⟩ := hpx.shape
      have HT : Hid ((L.take i).map Prod.fst ++ [(p.1, Value.bool true)].map Prod.fst = (L.take (i + 1)).map Prod.fst) := Lib.hid (by rw [List.take_add_one, hp]; simp)
      unfold Cpd at CP
      obtain ⟨⟨pa, pb, pl⟩, pv⟩ := p
      dsimp only at hvp
      subst hvp
      clear hpx hp
      go_upto_region 5 with fail
      replace J := Lib.hid J.out.drew
      have sk := And.intro ((show HO w _ ([_] ++ boxO w.heap.size _ :: _) from J.out).c 1 rfl) (HA2 _ J.out.below).out
      refine wp_region_held_drew (S := (fun W => W.cell? ⟨w.heap.size, 1, none⟩ = some (.slice (some ⟨b0, off0, none⟩) n c) ∧ W.cell? ⟨b0, off0 + i * 3, none⟩ = some (.int .i64 pa) ∧ W.cell? ⟨b0, off0 + i * 3 + 1, none⟩ = some (.int .i64 pb) ∧ W.cell? ⟨b0, off0 + i * 3 + 2, none⟩ = some (.slice Ap pl.length cp))) (by kernel_rfl) sk (fun hHeld => ?_)
      generalize wr.drew = u0 at *
      refine wpAnyH_take (i := 0) (oi := ({ dst := some 23, op := Go.Op.fieldAddr 28 (Go.Operand.tmp 3) 1, type := 0, pos := "ref.go:54", after := #[], guard := none } : Oper)) (v := ?_) rfl (by kernel_rfl) (by kernel_rfl) (by kernel_rfl) (fun _ _ _ h => h) (Or.inl ⟨by kernel_rfl, ?_⟩) hHeld ?_
      rotate_left 1
      · (intro W hSw; (try dsimp only at hSw); go_simp; try with_reducible rfl)
      try simp only [Act.put, List.setIfInBounds_toArray, List.set_cons_zero, List.set_cons_succ]
      refine wpAnyH_take (i := 2) (oi := ({ dst := some 25, op := Go.Op.fieldAddr 28 (Go.Operand.tmp 1) 1, type := 0, pos := "ref.go:54", after := #[], guard := none } : Oper)) (v := ?_) rfl (by kernel_rfl) (by kernel_rfl) (by kernel_rfl) (fun _ _ _ h => h) (Or.inl ⟨by kernel_rfl, ?_⟩) hHeld ?_
      rotate_left 1
      · (intro W hSw; (try dsimp only at hSw); go_simp; try with_reducible rfl)
      try simp only [Act.put, List.setIfInBounds_toArray, List.set_cons_zero, List.set_cons_succ]
      refine wpAnyH_take (i := 3) (oi := ({ dst := some 26, op := Go.Op.load 22 (Go.Operand.tmp 25), type := 22, pos := "ref.go:54", after := #[{ on := 2, ground := Go.Ground.data }], guard := none } : Oper)) (v := ?_) rfl (by kernel_rfl) (by kernel_rfl) (by kernel_rfl) (fun _ _ _ h => h) (Or.inl ⟨by kernel_rfl, ?_⟩) hHeld ?_
      rotate_left 1
      · (intro W hSw; (try dsimp only at hSw); go_simp; try with_reducible rfl)
      try simp only [Act.put, List.setIfInBounds_toArray, List.set_cons_zero, List.set_cons_succ]
      refine wpAnyH_take (i := 4) (oi := ({ dst := some 27, op := Go.Op.move (Go.Operand.tmp 4), type := 3, pos := "ref.go:54", after := #[], guard := none } : Oper)) (v := ?_) rfl (by kernel_rfl) (by kernel_rfl) (by kernel_rfl) (fun _ _ _ h => h) (Or.inl ⟨by kernel_rfl, ?_⟩) hHeld ?_
      rotate_left 1
      · (intro W hSw; (try dsimp only at hSw); go_simp; try with_reducible rfl)
      try simp only [Act.put, List.setIfInBounds_toArray, List.set_cons_zero, List.set_cons_succ]
      refine wpAnyH_take (i := 5) (oi := ({ dst := some 28, op := Go.Op.indexAddr 22 (Go.Operand.tmp 26) (Go.Operand.tmp 27), type := 0, pos := "ref.go:54", after := #[{ on := 3, ground := Go.Ground.data }, { on := 4, ground := Go.Ground.data }], guard := none } : Oper)) (v := ?_) rfl (by kernel_rfl) (by kernel_rfl) (by kernel_rfl) (fun _ _ _ h => h) (Or.inl ⟨by kernel_rfl, ?_⟩) hHeld ?_
      rotate_left 1
      · (intro W hSw; (try dsimp only at hSw); go_simp; try with_reducible rfl)
      try simp only [Act.put, List.setIfInBounds_toArray, List.set_cons_zero, List.set_cons_succ]
      refine wpAnyH_take (i := 6) (oi := ({ dst := some 29, op := Go.Op.load 42 (Go.Operand.tmp 28), type := 42, pos := "ref.go:54", after := #[{ on := 5, ground := Go.Ground.data }], guard := none } : Oper)) (v := ?_) rfl (by kernel_rfl) (by kernel_rfl) (by kernel_rfl) (fun _ _ _ h => h) (Or.inl ⟨by kernel_rfl, ?_⟩) hHeld ?_
      rotate_left 1
      · (intro W hSw; (try dsimp only at hSw); go_simp; try with_reducible rfl)
      try simp only [Act.put, List.setIfInBounds_toArray, List.set_cons_zero, List.set_cons_succ]
      refine wpAnyH_ready (rs := [1, 7]) (by kernel_rfl) (by simp) (AllReadyH.cons (o := ({ dst := some 24, op := Go.Op.load 22 (Go.Operand.tmp 23), type := 22, pos := "ref.go:54", after := #[{ on := 0, ground := Go.Ground.data }], guard := none } : Oper)) rfl (fun K hK => ?_) (AllReadyH.cons (o := ({ dst := some 30, op := Go.Op.call { callee := Go.Callee.value (Go.Operand.func 65), args := #[Go.Operand.tmp 29], argTypes := #[42] }, type := 42, pos := "ref.go:54", after := #[{ on := 6, ground := Go.Ground.data }], guard := none } : Oper)) rfl (fun K hK => ?_) AllReadyH.nil))
      · have m1 := (show HO w u0 ([] ++ boxO (w.heap.size + 2) _ :: _) from J.out).c 1 rfl
        go_simp
        clear m1
        refine hK.out _ _ sk (fun hHeld2 => ?_)
        clear hK K hHeld
        have hHeld := hHeld2
        clear hHeld2
        try simp only [Act.put, List.setIfInBounds_toArray, List.set_cons_zero, List.set_cons_succ]
        refine wpAnyH_ready (rs := [7]) (by kernel_rfl) (by simp) (AllReadyH.cons (o := ({ dst := some 30, op := Go.Op.call { callee := Go.Callee.value (Go.Operand.func 65), args := #[Go.Operand.tmp 29], argTypes := #[42] }, type := 42, pos := "ref.go:54", after := #[{ on := 6, ground := Go.Ground.data }], guard := none } : Oper)) rfl (fun K hK => ?_) AllReadyH.nil)
        go_simp
        refine (CP _ J.out.below).out.mono ?_
        rintro e u1 ⟨r9, rfl, hr9, hb⟩
        obtain ⟨Ar, cr, hv9, -, -⟩ := (sn_owned hr9 (flat_length _)).shape
        subst hv9
        replace J := Lib.hid (J.out.rowB hb (ownO_mono hr9 J.out.below.size) (fun k hk => (World.ownsRow.lt hr9 k hk).1))
        clear hb hr9 sk
        (try clear m1)
        have sk := And.intro ((show HO w _ ([_, _] ++ boxO w.heap.size _ :: _) from J.out).c 1 rfl) (HA2 _ J.out.below).out
        refine hK.out _ _ sk (fun hHeld2 => ?_)
        clear hK K hHeld
        have hHeld := hHeld2
        clear hHeld2
        refine wpAnyH_ready (rs := [8]) (by kernel_rfl) (by simp) (AllReadyH.cons (o := ({ dst := some 31, op := Go.Op.buildSlice 22 1 #[(0, Go.Operand.tmp 30)], type := 22, pos := "ref.go:54", after := #[{ on := 7, ground := Go.Ground.data }], guard := none } : Oper)) rfl (fun K hK => ?_) AllReadyH.nil)
        go_simp
        replace J := Lib.hid (J.out.made (.cells #[.int .i64 pa, .int .i64 pb, .slice Ar pl.length cr] 42))
        have P1 := Lib.hid (sn_one u1 (.int .i64 pa) (.int .i64 pb) (.slice Ar pl.length cr) 42)
        generalize u1.alloc (.cells #[.int .i64 pa, .int .i64 pb, .slice Ar pl.length cr] 42) = u2 at *
        generalize u1.heap.size = kb at *
        (try clear sk)
        have sk := And.intro ((show HO w _ ([_, _] ++ boxO w.heap.size _ :: _) from J.out).c 1 rfl) (HA2 _ J.out.below).out
        refine hK.out _ _ sk (fun hHeld2 => ?_)
        clear hK K hHeld
        have hHeld := hHeld2
        clear hHeld2
        try simp only [Act.put, List.setIfInBounds_toArray, List.set_cons_zero, List.set_cons_succ]
        refine wpAnyH_ready (rs := [9]) (by kernel_rfl) (by simp) (AllReadyH.cons (o := ({ dst := some 32, op := Go.Op.call { callee := Go.Callee.builtin Go.Builtin.append, args := #[Go.Operand.tmp 24, Go.Operand.tmp 31], argTypes := #[22, 22] }, type := 22, pos := "ref.go:54", after := #[{ on := 1, ground := Go.Ground.data }, { on := 8, ground := Go.Ground.data }, { on := 7, ground := Go.Ground.chain }], guard := none } : Oper)) rfl (fun K hK => ?_) AllReadyH.nil)
        refine step_appO (by rfl) rowBf _ _ (by rfl) (base := w.heap.size) (n := i) (xs := bfL L1) (k := 1) (ys := bfC (⟨pa, pb, pl⟩, .slice Ar pl.length cr)) (by rfl) (by exact (show HO w u2 ([_, _, _, _] ++ rowO w.heap.size 42 3 _ i _ :: _) from J.out).at) (by rfl) (by exact P1.out) (by exact oneCell_bf _ _ _ _) (by omega) (by exact J.out.below.size) ?_
        intro v6 u3 ho6 hg6 hw6
        obtain ⟨A6, c6, hv6, -, -⟩ := (sn_owned ho6 (by have := HL1.out; have h9 := bfL_len L1; simp; omega)).shape
        subst hv6
        replace J := Lib.hid ((show HO w u2 ([_, _, _, _] ++ rowO w.heap.size 42 3 _ i _ :: _) from J.out).grow ho6 hg6 hw6)
        clear ho6 hg6 hw6
        (try clear sk)
        have sk := And.intro ((show HO w _ ([_, _] ++ boxO w.heap.size _ :: _) from J.out).c 1 rfl) (HA2 _ J.out.below).out
        refine hK.out _ _ sk (fun hHeld2 => ?_)
        clear hK K hHeld
        have hHeld := hHeld2
        clear hHeld2
        try simp only [Act.put, List.setIfInBounds_toArray, List.set_cons_zero, List.set_cons_succ]
        refine wpAnyH_take (i := 10) (oi := ({ dst := some 33, op := Go.Op.fieldAddr 28 (Go.Operand.tmp 3) 1, type := 0, pos := "ref.go:54", after := #[{ on := 0, ground := Go.Ground.phase }, { on := 1, ground := Go.Ground.phase }, { on := 2, ground := Go.Ground.phase }, { on := 3, ground := Go.Ground.phase }, { on := 4, ground := Go.Ground.phase }, { on := 5, ground := Go.Ground.phase }, { on := 6, ground := Go.Ground.phase }, { on := 7, ground := Go.Ground.phase }, { on := 8, ground := Go.Ground.phase }, { on := 9, ground := Go.Ground.phase }], guard := none } : Oper)) (v := ?_) rfl (by kernel_rfl) (by kernel_rfl) (by kernel_rfl) (fun _ _ _ h => h) (Or.inl ⟨by kernel_rfl, ?_⟩) hHeld ?_
        rotate_left 1
        · (intro W hSw; (try dsimp only at hSw); go_simp; try with_reducible rfl)
        try simp only [Act.put, List.setIfInBounds_toArray, List.set_cons_zero, List.set_cons_succ]
        refine wpAnyH_ready (rs := [11]) (by kernel_rfl) (by simp) (AllReadyH.cons (o := ({ dst := none, op := Go.Op.store 22 (Go.Operand.tmp 33) (Go.Operand.tmp 32), type := 0, pos := "ref.go:54", after := #[{ on := 10, ground := Go.Ground.data }, { on := 9, ground := Go.Ground.data }, { on := 9, ground := Go.Ground.chain }, { on := 0, ground := Go.Ground.phase }, { on := 1, ground := Go.Ground.phase }, { on := 2, ground := Go.Ground.phase }, { on := 3, ground := Go.Ground.phase }, { on := 4, ground := Go.Ground.phase }, { on := 5, ground := Go.Ground.phase }, { on := 6, ground := Go.Ground.phase }, { on := 7, ground := Go.Ground.phase }, { on := 8, ground := Go.Ground.phase }, { on := 9, ground := Go.Ground.phase }], guard := none } : Oper)) rfl (fun K hK => ?_) AllReadyH.nil)
        obtain ⟨zf, zl⟩ := (show HO w u3 ([_] ++ boxO (w.heap.size + 2) _ :: _) from J.out).f
        have z1 := (show HO w u3 ([_] ++ boxO (w.heap.size + 2) _ :: _) from J.out).c 1 rfl
        go_simp
        replace J := Lib.hid ((show HO w u3 ([_] ++ boxO (w.heap.size + 2) [_, _, _, _, _, _, _, _, _, _, _] :: _) from J.out).cell (i := 1) (by simp) (.slice A6 (i + 1) c6))
        clear zf zl z1
        (try clear sk)
        have sk := And.intro ((show HO w _ ([_, _] ++ boxO w.heap.size _ :: _) from J.out).c 1 rfl) (HA2 _ J.out.below).out
        refine hK.out _ _ sk (fun hHeld2 => ?_)
        clear hK K hHeld
        have hHeld := hHeld2
        clear hHeld2
        try simp only [Act.put, List.setIfInBounds_toArray, List.set_cons_zero, List.set_cons_succ]
        refine wpAnyH_done (by kernel_rfl) ?_ _
        clear sk k1 HA2 CP
        go_wp2_with fail
        go_roundw
        case rel => exact ⟨i + 1, L1 ++ [(⟨pa, pb, pl⟩, .slice Ar pl.length cr)], A6, c6, by omega, by go_num, Lib.hid (by simp [HL1.out]), Lib.hid (by rw [List.map_append, HE1.out]; exact HT.out), Lib.hid (by have h := J.out.perm (clo_perm _ [_, _, _, _] _); rw [bfL_append, pxO_append]; exact h)⟩
        case measure =>
          unfold leftN
          simp [RowKit.intOf]
          omega
      · go_simp
        refine (CP _ J.out.below).out.mono ?_
        rintro e u1 ⟨r9, rfl, hr9, hb⟩
        obtain ⟨Ar, cr, hv9, -, -⟩ := (sn_owned hr9 (flat_length _)).shape
        subst hv9
        replace J := Lib.hid (J.out.rowB hb (ownO_mono hr9 J.out.below.size) (fun k hk => (World.ownsRow.lt hr9 k hk).1))
        clear hb hr9 sk
        (try clear m1)
        have sk := And.intro ((show HO w _ ([_, _] ++ boxO w.heap.size _ :: _) from J.out).c 1 rfl) (HA2 _ J.out.below).out
        refine hK.out _ _ sk (fun hHeld2 => ?_)
        clear hK K hHeld
        have hHeld := hHeld2
        clear hHeld2
        refine wpAnyH_ready (rs := [1, 8]) (by kernel_rfl) (by simp) (AllReadyH.cons (o := ({ dst := some 24, op := Go.Op.load 22 (Go.Operand.tmp 23), type := 22, pos := "ref.go:54", after := #[{ on := 0, ground := Go.Ground.data }], guard := none } : Oper)) rfl (fun K hK => ?_) (AllReadyH.cons (o := ({ dst := some 31, op := Go.Op.buildSlice 22 1 #[(0, Go.Operand.tmp 30)], type := 22, pos := "ref.go:54", after := #[{ on := 7, ground := Go.Ground.data }], guard := none } : Oper)) rfl (fun K hK => ?_) AllReadyH.nil))
        · have m1 := (show HO w u1 ([_] ++ boxO (w.heap.size + 2) _ :: _) from J.out).c 1 rfl
          go_simp
          clear m1
          refine hK.out _ _ sk (fun hHeld2 => ?_)
          clear hK K hHeld
          have hHeld := hHeld2
          clear hHeld2
          try simp only [Act.put, List.setIfInBounds_toArray, List.set_cons_zero, List.set_cons_succ]
          refine wpAnyH_ready (rs := [8]) (by kernel_rfl) (by simp) (AllReadyH.cons (o := ({ dst := some 31, op := Go.Op.buildSlice 22 1 #[(0, Go.Operand.tmp 30)], type := 22, pos := "ref.go:54", after := #[{ on := 7, ground := Go.Ground.data }], guard := none } : Oper)) rfl (fun K hK => ?_) AllReadyH.nil)
          go_simp
          replace J := Lib.hid (J.out.made (.cells #[.int .i64 pa, .int .i64 pb, .slice Ar pl.length cr] 42))
          have P1 := Lib.hid (sn_one u1 (.int .i64 pa) (.int .i64 pb) (.slice Ar pl.length cr) 42)
          generalize u1.alloc (.cells #[.int .i64 pa, .int .i64 pb, .slice Ar pl.length cr] 42) = u2 at *
          generalize u1.heap.size = kb at *
          (try clear sk)
          have sk := And.intro ((show HO w _ ([_, _] ++ boxO w.heap.size _ :: _) from J.out).c 1 rfl) (HA2 _ J.out.below).out
          refine hK.out _ _ sk (fun hHeld2 => ?_)
          clear hK K hHeld
          have hHeld := hHeld2
          clear hHeld2
          try simp only [Act.put, List.setIfInBounds_toArray, List.set_cons_zero, List.set_cons_succ]
          refine wpAnyH_ready (rs := [9]) (by kernel_rfl) (by simp) (AllReadyH.cons (o := ({ dst := some 32, op := Go.Op.call { callee := Go.Callee.builtin Go.Builtin.append, args := #[Go.Operand.tmp 24, Go.Operand.tmp 31], argTypes := #[22, 22] }, type := 22, pos := "ref.go:54", after := #[{ on := 1, ground := Go.Ground.data }, { on := 8, ground := Go.Ground.data }, { on := 7, ground := Go.Ground.chain }], guard := none } : Oper)) rfl (fun K hK => ?_) AllReadyH.nil)
          refine step_appO (by rfl) rowBf _ _ (by rfl) (base := w.heap.size) (n := i) (xs := bfL L1) (k := 1) (ys := bfC (⟨pa, pb, pl⟩, .slice Ar pl.length cr)) (by rfl) (by exact (show HO w u2 ([_, _, _, _] ++ rowO w.heap.size 42 3 _ i _ :: _) from J.out).at) (by rfl) (by exact P1.out) (by exact oneCell_bf _ _ _ _) (by omega) (by exact J.out.below.size) ?_
          intro v6 u3 ho6 hg6 hw6
          obtain ⟨A6, c6, hv6, -, -⟩ := (sn_owned ho6 (by have := HL1.out; have h9 := bfL_len L1; simp; omega)).shape
          subst hv6
          replace J := Lib.hid ((show HO w u2 ([_, _, _, _] ++ rowO w.heap.size 42 3 _ i _ :: _) from J.out).grow ho6 hg6 hw6)
          clear ho6 hg6 hw6
          (try clear sk)
          have sk := And.intro ((show HO w _ ([_, _] ++ boxO w.heap.size _ :: _) from J.out).c 1 rfl) (HA2 _ J.out.below).out
          refine hK.out _ _ sk (fun hHeld2 => ?_)
          clear hK K hHeld
          have hHeld := hHeld2
          clear hHeld2
          try simp only [Act.put, List.setIfInBounds_toArray, List.set_cons_zero, List.set_cons_succ]
          refine wpAnyH_take (i := 10) (oi := ({ dst := some 33, op := Go.Op.fieldAddr 28 (Go.Operand.tmp 3) 1, type := 0, pos := "ref.go:54", after := #[{ on := 0, ground := Go.Ground.phase }, { on := 1, ground := Go.Ground.phase }, { on := 2, ground := Go.Ground.phase }, { on := 3, ground := Go.Ground.phase }, { on := 4, ground := Go.Ground.phase }, { on := 5, ground := Go.Ground.phase }, { on := 6, ground := Go.Ground.phase }, { on := 7, ground := Go.Ground.phase }, { on := 8, ground := Go.Ground.phase }, { on := 9, ground := Go.Ground.phase }], guard := none } : Oper)) (v := ?_) rfl (by kernel_rfl) (by kernel_rfl) (by kernel_rfl) (fun _ _ _ h => h) (Or.inl ⟨by kernel_rfl, ?_⟩) hHeld ?_
          rotate_left 1
          · (intro W hSw; (try dsimp only at hSw); go_simp; try with_reducible rfl)
          try simp only [Act.put, List.setIfInBounds_toArray, List.set_cons_zero, List.set_cons_succ]
          refine wpAnyH_ready (rs := [11]) (by kernel_rfl) (by simp) (AllReadyH.cons (o := ({ dst := none, op := Go.Op.store 22 (Go.Operand.tmp 33) (Go.Operand.tmp 32), type := 0, pos := "ref.go:54", after := #[{ on := 10, ground := Go.Ground.data }, { on := 9, ground := Go.Ground.data }, { on := 9, ground := Go.Ground.chain }, { on := 0, ground := Go.Ground.phase }, { on := 1, ground := Go.Ground.phase }, { on := 2, ground := Go.Ground.phase }, { on := 3, ground := Go.Ground.phase }, { on := 4, ground := Go.Ground.phase }, { on := 5, ground := Go.Ground.phase }, { on := 6, ground := Go.Ground.phase }, { on := 7, ground := Go.Ground.phase }, { on := 8, ground := Go.Ground.phase }, { on := 9, ground := Go.Ground.phase }], guard := none } : Oper)) rfl (fun K hK => ?_) AllReadyH.nil)
          obtain ⟨zf, zl⟩ := (show HO w u3 ([_] ++ boxO (w.heap.size + 2) _ :: _) from J.out).f
          have z1 := (show HO w u3 ([_] ++ boxO (w.heap.size + 2) _ :: _) from J.out).c 1 rfl
          go_simp
          replace J := Lib.hid ((show HO w u3 ([_] ++ boxO (w.heap.size + 2) [_, _, _, _, _, _, _, _, _, _, _] :: _) from J.out).cell (i := 1) (by simp) (.slice A6 (i + 1) c6))
          clear zf zl z1
          (try clear sk)
          have sk := And.intro ((show HO w _ ([_, _] ++ boxO w.heap.size _ :: _) from J.out).c 1 rfl) (HA2 _ J.out.below).out
          refine hK.out _ _ sk (fun hHeld2 => ?_)
          clear hK K hHeld
          have hHeld := hHeld2
          clear hHeld2
          try simp only [Act.put, List.setIfInBounds_toArray, List.set_cons_zero, List.set_cons_succ]
          refine wpAnyH_done (by kernel_rfl) ?_ _
          clear sk k1 HA2 CP
          go_wp2_with fail
          go_roundw
          case rel => exact ⟨i + 1, L1 ++ [(⟨pa, pb, pl⟩, .slice Ar pl.length cr)], A6, c6, by omega, by go_num, Lib.hid (by simp [HL1.out]), Lib.hid (by rw [List.map_append, HE1.out]; exact HT.out), Lib.hid (by have h := J.out.perm (clo_perm _ [_, _, _, _] _); rw [bfL_append, pxO_append]; exact h)⟩
          case measure =>
            unfold leftN
            simp [RowKit.intOf]
            omega
        · go_simp
          replace J := Lib.hid (J.out.made (.cells #[.int .i64 pa, .int .i64 pb, .slice Ar pl.length cr] 42))
          have P1 := Lib.hid (sn_one u1 (.int .i64 pa) (.int .i64 pb) (.slice Ar pl.length cr) 42)
          generalize u1.alloc (.cells #[.int .i64 pa, .int .i64 pb, .slice Ar pl.length cr] 42) = u2 at *
          generalize u1.heap.size = kb at *
          (try clear sk)
          have sk := And.intro ((show HO w _ ([_, _] ++ boxO w.heap.size _ :: _) from J.out).c 1 rfl) (HA2 _ J.out.below).out
          refine hK.out _ _ sk (fun hHeld2 => ?_)
          clear hK K hHeld
          have hHeld := hHeld2
          clear hHeld2
          try simp only [Act.put, List.setIfInBounds_toArray, List.set_cons_zero, List.set_cons_succ]
          refine wpAnyH_ready (rs := [1]) (by kernel_rfl) (by simp) (AllReadyH.cons (o := ({ dst := some 24, op := Go.Op.load 22 (Go.Operand.tmp 23), type := 22, pos := "ref.go:54", after := #[{ on := 0, ground := Go.Ground.data }], guard := none } : Oper)) rfl (fun K hK => ?_) AllReadyH.nil)
          have m1 := (show HO w u2 ([_] ++ boxO (w.heap.size + 2) _ :: _) from J.out).c 1 rfl
          go_simp
          clear m1
          refine hK.out _ _ sk (fun hHeld2 => ?_)
          clear hK K hHeld
          have hHeld := hHeld2
          clear hHeld2
          try simp only [Act.put, List.setIfInBounds_toArray, List.set_cons_zero, List.set_cons_succ]
          refine wpAnyH_ready (rs := [9]) (by kernel_rfl) (by simp) (AllReadyH.cons (o := ({ dst := some 32, op := Go.Op.call { callee := Go.Callee.builtin Go.Builtin.append, args := #[Go.Operand.tmp 24, Go.Operand.tmp 31], argTypes := #[22, 22] }, type := 22, pos := "ref.go:54", after := #[{ on := 1, ground := Go.Ground.data }, { on := 8, ground := Go.Ground.data }, { on := 7, ground := Go.Ground.chain }], guard := none } : Oper)) rfl (fun K hK => ?_) AllReadyH.nil)
          refine step_appO (by rfl) rowBf _ _ (by rfl) (base := w.heap.size) (n := i) (xs := bfL L1) (k := 1) (ys := bfC (⟨pa, pb, pl⟩, .slice Ar pl.length cr)) (by rfl) (by exact (show HO w u2 ([_, _, _, _] ++ rowO w.heap.size 42 3 _ i _ :: _) from J.out).at) (by rfl) (by exact P1.out) (by exact oneCell_bf _ _ _ _) (by omega) (by exact J.out.below.size) ?_
          intro v6 u3 ho6 hg6 hw6
          obtain ⟨A6, c6, hv6, -, -⟩ := (sn_owned ho6 (by have := HL1.out; have h9 := bfL_len L1; simp; omega)).shape
          subst hv6
          replace J := Lib.hid ((show HO w u2 ([_, _, _, _] ++ rowO w.heap.size 42 3 _ i _ :: _) from J.out).grow ho6 hg6 hw6)
          clear ho6 hg6 hw6
          (try clear sk)
          have sk := And.intro ((show HO w _ ([_, _] ++ boxO w.heap.size _ :: _) from J.out).c 1 rfl) (HA2 _ J.out.below).out
          refine hK.out _ _ sk (fun hHeld2 => ?_)
          clear hK K hHeld
          have hHeld := hHeld2
          clear hHeld2
          try simp only [Act.put, List.setIfInBounds_toArray, List.set_cons_zero, List.set_cons_succ]
          refine wpAnyH_take (i := 10) (oi := ({ dst := some 33, op := Go.Op.fieldAddr 28 (Go.Operand.tmp 3) 1, type := 0, pos := "ref.go:54", after := #[{ on := 0, ground := Go.Ground.phase }, { on := 1, ground := Go.Ground.phase }, { on := 2, ground := Go.Ground.phase }, { on := 3, ground := Go.Ground.phase }, { on := 4, ground := Go.Ground.phase }, { on := 5, ground := Go.Ground.phase }, { on := 6, ground := Go.Ground.phase }, { on := 7, ground := Go.Ground.phase }, { on := 8, ground := Go.Ground.phase }, { on := 9, ground := Go.Ground.phase }], guard := none } : Oper)) (v := ?_) rfl (by kernel_rfl) (by kernel_rfl) (by kernel_rfl) (fun _ _ _ h => h) (Or.inl ⟨by kernel_rfl, ?_⟩) hHeld ?_
          rotate_left 1
          · (intro W hSw; (try dsimp only at hSw); go_simp; try with_reducible rfl)
          try simp only [Act.put, List.setIfInBounds_toArray, List.set_cons_zero, List.set_cons_succ]
          refine wpAnyH_ready (rs := [11]) (by kernel_rfl) (by simp) (AllReadyH.cons (o := ({ dst := none, op := Go.Op.store 22 (Go.Operand.tmp 33) (Go.Operand.tmp 32), type := 0, pos := "ref.go:54", after := #[{ on := 10, ground := Go.Ground.data }, { on := 9, ground := Go.Ground.data }, { on := 9, ground := Go.Ground.chain }, { on := 0, ground := Go.Ground.phase }, { on := 1, ground := Go.Ground.phase }, { on := 2, ground := Go.Ground.phase }, { on := 3, ground := Go.Ground.phase }, { on := 4, ground := Go.Ground.phase }, { on := 5, ground := Go.Ground.phase }, { on := 6, ground := Go.Ground.phase }, { on := 7, ground := Go.Ground.phase }, { on := 8, ground := Go.Ground.phase }, { on := 9, ground := Go.Ground.phase }], guard := none } : Oper)) rfl (fun K hK => ?_) AllReadyH.nil)
          obtain ⟨zf, zl⟩ := (show HO w u3 ([_] ++ boxO (w.heap.size + 2) _ :: _) from J.out).f
          have z1 := (show HO w u3 ([_] ++ boxO (w.heap.size + 2) _ :: _) from J.out).c 1 rfl
          go_simp
          replace J := Lib.hid ((show HO w u3 ([_] ++ boxO (w.heap.size + 2) [_, _, _, _, _, _, _, _, _, _, _] :: _) from J.out).cell (i := 1) (by simp) (.slice A6 (i + 1) c6))
          clear zf zl z1
          (try clear sk)
          have sk := And.intro ((show HO w _ ([_, _] ++ boxO w.heap.size _ :: _) from J.out).c 1 rfl) (HA2 _ J.out.below).out
          refine hK.out _ _ sk (fun hHeld2 => ?_)
          clear hK K hHeld
          have hHeld := hHeld2
          clear hHeld2
          try simp only [Act.put, List.setIfInBounds_toArray, List.set_cons_zero, List.set_cons_succ]
          refine wpAnyH_done (by kernel_rfl) ?_ _
          clear sk k1 HA2 CP
          go_wp2_with fail
          go_roundw
          case rel => exact ⟨i + 1, L1 ++ [(⟨pa, pb, pl⟩, .slice Ar pl.length cr)], A6, c6, by omega, by go_num, Lib.hid (by simp [HL1.out]), Lib.hid (by rw [List.map_append, HE1.out]; exact HT.out), Lib.hid (by have h := J.out.perm (clo_perm _ [_, _, _, _] _); rw [bfL_append, pxO_append]; exact h)⟩
          case measure =>
            unfold leftN
            simp [RowKit.intOf]
            omega

    · obtain rfl : i = n := by omega
      replace J := Lib.hid (J.out.rowNil w.heap.size 53 4)
      have m0 := (show HO w wr ([_] ++ boxO (w.heap.size + 2) _ :: _) from J.out).c 4 rfl
      have p0 := (show HO w wr ([_, _] ++ boxO w.heap.size _ :: _) from J.out).c 4 rfl
      go_upto_region 7 with (first | (at_builtin; refine wpList_appO rfl rowRc _ _ rfl (base := w.heap.size) (n := 0) (xs := []) rfl (show HO w _ ([] ++ rowO w.heap.size 53 4 _ 0 [] :: _) from J.out).at rfl (HD.out.below J.out.below) RD.out (by omega) J.out.below.size ?_; intro v6 x0 ho6 hg6 hw6; rw [Nat.zero_add, List.nil_append] at ho6; obtain ⟨A06, c06, hv6, -, -⟩ := (sn_owned ho6 LRD.out).shape; subst hv6; replace J := Lib.hid ((show HO w _ ([] ++ rowO w.heap.size 53 4 _ 0 [] :: _) from J.out).grow ho6 hg6 hw6); clear ho6 hg6 hw6 m0 p0; obtain ⟨zf, zl⟩ := (show HO w x0 ([_] ++ boxO (w.heap.size + 2) _ :: _) from J.out).f; have m0 := (show HO w x0 ([_] ++ boxO (w.heap.size + 2) _ :: _) from J.out).c 4 rfl) | fail)
      replace J := Lib.hid ((show HO w x0 ([_] ++ boxO (w.heap.size + 2) [_, _, _, _, _, _, _, _, _, _, _] :: _) from J.out).cell (i := 4) (by simp) (.slice A06 nd c06))
      generalize x0.setCell ⟨w.heap.size + 2, 4, none⟩ (.slice A06 nd c06) = y0 at *
      clear m0 zf zl
      replace J := Lib.hid (J.out.rowNil w.heap.size 53 4)
      have m0 := (show HO w y0 ([_, _] ++ boxO (w.heap.size + 2) _ :: _) from J.out).c 5 rfl
      have p0 := (show HO w y0 ([_, _, _] ++ boxO w.heap.size _ :: _) from J.out).c 5 rfl
      go_upto_region 8 with (first | (at_builtin; refine wpList_appO rfl rowRc _ _ rfl (base := w.heap.size) (n := 0) (xs := []) rfl (show HO w _ ([] ++ rowO w.heap.size 53 4 _ 0 [] :: _) from J.out).at rfl (HOP.out.below J.out.below) RO.out (by omega) J.out.below.size ?_; intro v6 x1 ho6 hg6 hw6; rw [Nat.zero_add, List.nil_append] at ho6; obtain ⟨A16, c16, hv6, -, -⟩ := (sn_owned ho6 LRO.out).shape; subst hv6; replace J := Lib.hid ((show HO w _ ([] ++ rowO w.heap.size 53 4 _ 0 [] :: _) from J.out).grow ho6 hg6 hw6); clear ho6 hg6 hw6 m0 p0; obtain ⟨zf, zl⟩ := (show HO w x1 ([_, _] ++ boxO (w.heap.size + 2) _ :: _) from J.out).f; have m0 := (show HO w x1 ([_, _] ++ boxO (w.heap.size + 2) _ :: _) from J.out).c 5 rfl) | fail)
      replace J := Lib.hid ((show HO w x1 ([_, _] ++ boxO (w.heap.size + 2) [_, _, _, _, _, _, _, _, _, _, _] :: _) from J.out).cell (i := 5) (by simp) (.slice A16 no c16))
      generalize x1.setCell ⟨w.heap.size + 2, 5, none⟩ (.slice A16 no c16) = y1 at *
      clear m0 zf zl
      replace J := Lib.hid (J.out.rowNil w.heap.size 53 4)
      have m0 := (show HO w y1 ([_, _, _] ++ boxO (w.heap.size + 2) _ :: _) from J.out).c 7 rfl
      have p0 := (show HO w y1 ([_, _, _, _] ++ boxO w.heap.size _ :: _) from J.out).c 7 rfl
      go_upto_region 9 with (first | (at_builtin; refine wpList_appO rfl rowRc _ _ rfl (base := w.heap.size) (n := 0) (xs := []) rfl (show HO w _ ([] ++ rowO w.heap.size 53 4 _ 0 [] :: _) from J.out).at rfl (HI.out.below J.out.below) RI.out (by omega) J.out.below.size ?_; intro v6 x2 ho6 hg6 hw6; rw [Nat.zero_add, List.nil_append] at ho6; obtain ⟨A26, c26, hv6, -, -⟩ := (sn_owned ho6 LRI.out).shape; subst hv6; replace J := Lib.hid ((show HO w _ ([] ++ rowO w.heap.size 53 4 _ 0 [] :: _) from J.out).grow ho6 hg6 hw6); clear ho6 hg6 hw6 m0 p0; obtain ⟨zf, zl⟩ := (show HO w x2 ([_, _, _] ++ boxO (w.heap.size + 2) _ :: _) from J.out).f; have m0 := (show HO w x2 ([_, _, _] ++ boxO (w.heap.size + 2) _ :: _) from J.out).c 7 rfl) | fail)
      replace J := Lib.hid ((show HO w x2 ([_, _, _] ++ boxO (w.heap.size + 2) [_, _, _, _, _, _, _, _, _, _, _] :: _) from J.out).cell (i := 7) (by simp) (.slice A26 ni c26))
      generalize x2.setCell ⟨w.heap.size + 2, 7, none⟩ (.slice A26 ni c26) = y2 at *
      clear m0 zf zl
      replace J := Lib.hid (J.out.rowNil w.heap.size 50 1)
      have m0 := (show HO w y2 ([_, _, _, _] ++ boxO (w.heap.size + 2) _ :: _) from J.out).c 10 rfl
      have p0 := (show HO w y2 ([_, _, _, _, _] ++ boxO w.heap.size _ :: _) from J.out).c 10 rfl
      go_upto_region 10 with (first | (at_builtin; refine wpList_appO rfl rowU _ _ rfl (base := w.heap.size) (n := 0) (xs := []) rfl (show HO w _ ([] ++ rowO w.heap.size 50 1 _ 0 [] :: _) from J.out).at rfl (HCB.out.below J.out.below) RC.out (by omega) J.out.below.size ?_; intro v6 x3 ho6 hg6 hw6; rw [Nat.zero_add, List.nil_append] at ho6; obtain ⟨A36, c36, hv6, -, -⟩ := (sn_owned ho6 LRC.out).shape; subst hv6; replace J := Lib.hid ((show HO w _ ([] ++ rowO w.heap.size 50 1 _ 0 [] :: _) from J.out).grow ho6 hg6 hw6); clear ho6 hg6 hw6 m0 p0; obtain ⟨zf, zl⟩ := (show HO w x3 ([_, _, _, _] ++ boxO (w.heap.size + 2) _ :: _) from J.out).f; have m0 := (show HO w x3 ([_, _, _, _] ++ boxO (w.heap.size + 2) _ :: _) from J.out).c 10 rfl) | fail)
      replace J := Lib.hid ((show HO w x3 ([_, _, _, _] ++ boxO (w.heap.size + 2) [_, _, _, _, _, _, _, _, _, _, _] :: _) from J.out).cell (i := 10) (by simp) (.slice A36 nc c36))
      generalize x3.setCell ⟨w.heap.size + 2, 10, none⟩ (.slice A36 nc c36) = y3 at *
      clear m0 zf zl
      obtain ⟨p0, p1, p2, p3, p4, p5, p6, p7, p8, p9, p10, pf, pl⟩ := (show HO w y3 ([_, _, _, _] ++ boxO (w.heap.size + 2) [_, _, _, _, _, _, _, _, _, _, _] :: _) from J.out).c11
      obtain ⟨z0, z1, z2, z3, z4, z5, z6, z7, z8, z9, z10, zf, zl⟩ := (show HO w y3 ([_, _, _, _, _, _] ++ boxO (w.heap.size + 1) [_, _, _, _, _, _, _, _, _, _, _] :: _) from J.out).c11
      have J2 := Lib.hid ((show HO w y3 ([_, _, _, _, _, _] ++ boxO (w.heap.size + 1) [_, _, _, _, _, _, _, _, _, _, _] :: _) from J.out).set11 (.int .i64 s.set) (.slice Ab i cb) (.int .i64 s.sc) (.int .i64 s.tr) (.slice A06 nd c06) (.slice A16 no c16) (.bool s.is) (.slice A26 ni c26) (.int .i64 s.dx) (.int .i64 s.dy) (.slice A36 nc c36))
      go_wp2_with fail
      obtain ⟨t0, t1, t2, t3, t4, t5, t6, t7, t8, t9, t10, -, -⟩ := (show HO w _ ([_, _, _, _, _, _] ++ boxO (w.heap.size + 1) [_, _, _, _, _, _, _, _, _, _, _] :: _) from J2.out).c11
      exact bodyPost_ret (v := stV s (.slice Ab i cb) (.slice A06 nd c06) (.slice A16 no c16) (.slice A26 ni c26) (.slice A36 nc c36)) (by simp [results, Tryz.results35, go_sem, t0, t1, t2, t3, t4, t5, t6, t7, t8, t9, t10]) rfl
        ⟨L1, _, _, _, _, _, rfl, by rw [HE1.out, ← HN.out, List.take_length], by rw [HL1.out]; exact J2.out.sub (.cons_cons _ (.cons_cons _ (.cons_cons _ (.cons_cons _ (.cons _ (.cons _ (.cons _ (List.Sublist.refl _))))))))⟩

end Go.Proofs.YthedglfocjljjaaGreatDoor
