/-
  Package state: Size, the surface.
-/
import Derived.Test.YthedglfocjljjaaGreatDoorScc
import Derived.Test.YthedglfocjljjaaGreatDoorSrg
namespace Go.Proofs.YthedglfocjljjaaGreatDoor
open Go.RowKit

theorem HO.set2 {w W : World} {l1 l2 : List Ob} {k : Nat} {x0 x1 : Value} (h : HO w W (l1 ++ boxO k [x0, x1] :: l2)) (y0 y1 : Value) :
    HO w ((W.setCell ⟨k, 0, none⟩ y0).setCell ⟨k, 1, none⟩ y1) (l1 ++ boxO k [y0, y1] :: l2) :=
  (h.cell (i := 0) (by simp) y0).cell (i := 1) (by simp) y1
set_option maxRecDepth 100000 in
set_option maxHeartbeats 8000000 in
theorem size_any {w : World} {s : St} {L : List Bv} {vb vd vo vi vc : Value} (h : StAt w s L vb vd vo vi vc) (hc : chkS s = 0) :
    Calls Tryz.prog 50 #[stV s vb vd vo vi vc] w fun e w' => e = .returned (.agg #[.int .i64 (sizS s).1, .int .i64 (sizS s).2]) ∧ Below w.heap.size w w' := by
  have HB := Lib.hid h.bf
  have HEQ := Lib.hid h.eq
  obtain ⟨A, c, rfl, h1, h2⟩ := h.bf.shape
  obtain ⟨Ad, cd, rfl, hd1, hd2⟩ := h.dm.shape
  obtain ⟨Ao, co, rfl, ho1, ho2⟩ := h.op.shape
  obtain ⟨Ai, ci, rfl, hi1, hi2⟩ := h.ip.shape
  obtain ⟨Ac, cc, rfl, hc1, hc2⟩ := h.cb.shape
  simp only [maxLen] at h2 hd2 ho2 hi2 hc2
  have hlen := h.len
  obtain ⟨set, bf, sc, tr, dm, op, is, ip, dx, dy, cb⟩ := s
  dsimp only at HEQ hlen hd1 ho1 hi1 hc1 hd2 ho2 hi2 hc2
  have J := Lib.hid (show HO w _ [boxO (w.heap.size + 1) [.int .i64 0, .int .i64 0], boxO w.heap.size _] from by
    have h := ((HO.nil w).alloc (stC ⟨set, bf, sc, tr, dm, op, is, ip, dx, dy, cb⟩ (.slice A L.length c) (.slice Ad dm.length cd) (.slice Ao op.length co) (.slice Ai ip.length ci) (.slice Ac cb.length cc)) 28).alloc [.int .i64 0, .int .i64 0] 25
    simp only [World.size_alloc] at h
    exact h)
  clear h
  generalize dm.length = nd at *
  generalize op.length = no at *
  generalize ip.length = ni at *
  generalize cb.length = nc at *
  obtain ⟨a1, a2, -, -⟩ := chk_ok hc
  obtain ⟨⟨s0, s1⟩, -, hl1⟩ := arg_ok a1
  dsimp only at s0 s1 hl1
  rcases one_list (show L.length ≤ 1 by omega) with rfl | ⟨⟨x, v⟩, rfl⟩
  · skip
    have a6 : bf = [] := HEQ.out.symm
    have ez : sizS ⟨set, bf, sc, tr, dm, op, is, ip, dx, dy, cb⟩ = (0, 0) := by unfold sizS; rw [if_neg (by simpa using hc), a6]
    rw [ez]
    simp only [List.length_nil] at J h1
    clear ez hc a1 a2
    obtain ⟨z0, z1, zf, zl⟩ := (show HO w _ ([] ++ boxO (w.heap.size + 1) [_, _] :: _) from J.out).c2
    obtain ⟨x0, x1, x2, x3, x4, x5, x6, x7, x8, x9, x10, xf, xl⟩ := (show HO w _ ([_] ++ boxO w.heap.size [_, _, _, _, _, _, _, _, _, _, _] :: []) from J.out).c11
    go_enter Tryz.func50, Tryz.ntmps50
    go_wp2_with fail
    exact bodyPost_ret (v := .agg #[.int .i64 0, .int .i64 0]) (by simp [results, Tryz.results50, go_sem]) rfl ⟨rfl, ((Below.refl w.heap.size w).alloc (Nat.le_refl _) _).alloc (by simp) _⟩
  · skip
    have a6 : bf = [x] := HEQ.out.symm
    have a7 : vBuf x.a x.b x.l = true := by
      have := a2
      rw [bufB, a6] at this
      simp [bfB] at this
      exact this.1
    obtain ⟨hsa, hsb, -, -⟩ := vBuf_iff.1 a7
    obtain ⟨b0, off, rfl, hb0, -⟩ := bf_cells HB.out (by simp) (Below.refl _ _)
    have HA := fun (W : World) (hw : Below w.heap.size w W) => Lib.hid (show b0 < W.heap.size ∧ W.cell? ⟨b0, off, none⟩ = some (.int .i64 x.a) ∧ W.cell? ⟨b0, off + 1, none⟩ = some (.int .i64 x.b) from by
      obtain ⟨b9, off9, e9, hl9, h9⟩ := bf_cells HB.out (by simp) hw
      simp only [Option.some.injEq, Addr.mk.injEq, and_true] at e9
      obtain ⟨rfl, rfl⟩ := e9
      obtain ⟨y0, y1, y2⟩ := h9 0 (x, v) rfl
      simp only [Nat.zero_mul, Nat.add_zero] at y0 y1
      exact ⟨hl9, y0, y1⟩)
    obtain ⟨xa, xb, xpl⟩ := x
    dsimp only at hsa hsb HA
    simp only [List.length_cons, List.length_nil, Nat.zero_add] at J h1 ⊢
    by_cases hd : dx = 0 ∧ dy = 0
    · have ez : sizS ⟨set, bf, sc, tr, dm, op, is, ip, dx, dy, cb⟩ = (Trf.siW tr xa xb / sc, Trf.siH tr xa xb / sc) := by unfold sizS; rw [if_neg (by simpa using hc), a6]; simp [hd]
      rw [ez]
      have TS := fun (W : World) => Lib.hid (Trf.size_any tr xa xb W)
      have hw : 1 ≤ Trf.siW tr xa xb ∧ Trf.siW tr xa xb ≤ 256 ∧ 1 ≤ Trf.siH tr xa xb ∧ Trf.siH tr xa xb ≤ 256 := by
        unfold Trf.siW Trf.siH
        split <;> omega
      generalize Trf.siW tr xa xb = sw at *
      generalize Trf.siH tr xa xb = sh at *
      obtain ⟨hw1, hw2, hw3, hw4⟩ := hw
      obtain ⟨rfl, rfl⟩ := hd
      have t1 : sw.tdiv sc = sw / sc := Int.tdiv_eq_ediv_of_nonneg (by omega)
      have t2 : sh.tdiv sc = sh / sc := Int.tdiv_eq_ediv_of_nonneg (by omega)
      have u1 : IntKind.i64.wrap (sw / sc) = sw / sc := by
        have := Int.ediv_nonneg (show 0 ≤ sw by omega) (show 0 ≤ sc by omega)
        have := Int.ediv_le_self sc (show 0 ≤ sw by omega)
        rw [IntKind.wrap_i64]; omega
      have u2 : IntKind.i64.wrap (sh / sc) = sh / sc := by
        have := Int.ediv_nonneg (show 0 ≤ sh by omega) (show 0 ≤ sc by omega)
        have := Int.ediv_le_self sc (show 0 ≤ sh by omega)
        rw [IntKind.wrap_i64]; omega
      have sne : ¬ sc = 0 := by omega
      clear ez hc a1 a2 a6 a7
      obtain ⟨z0, z1, zf, zl⟩ := (show HO w _ ([] ++ boxO (w.heap.size + 1) [_, _] :: _) from J.out).c2
      obtain ⟨x0, x1, x2, x3, x4, x5, x6, x7, x8, x9, x10, xf, xl⟩ := (show HO w _ ([_] ++ boxO w.heap.size [_, _, _, _, _, _, _, _, _, _, _] :: []) from J.out).c11
      go_enter Tryz.func50, Tryz.ntmps50
      go_upto_region 5 with fail
      have HA2 := HA _ J.out.below
      go_region_held3 (fun W => W.cell? ⟨w.heap.size, 1, none⟩ = some (.slice (some ⟨b0, off, none⟩) 1 c) ∧ W.cell? ⟨w.heap.size, 3, none⟩ = some (.int .i64 tr) ∧ W.cell? ⟨b0, off, none⟩ = some (.int .i64 xa) ∧ W.cell? ⟨b0, off + 1, none⟩ = some (.int .i64 xb))
        (first
          | exact ⟨x1, x3, HA2.out.2.1, HA2.out.2.2⟩
          | go_keep)
        (first
          | (go_at_call 79; (with_reducible refine (TS _).out.mono ?_); rintro e wq ⟨rfl, rfl⟩)
          | fail)
      replace J := Lib.hid J.out.drew
      clear z0 z1 zf zl x0 x1 x2 x3 x4 x5 x6 x7 x8 x9 x10 xf xl HA2
      obtain ⟨z0, z1, zf, zl⟩ := (show HO w _ ([] ++ boxO (w.heap.size + 1) [_, _] :: _) from J.out).c2
      obtain ⟨x0, x1, x2, x3, x4, x5, x6, x7, x8, x9, x10, xf, xl⟩ := (show HO w _ ([_] ++ boxO w.heap.size [_, _, _, _, _, _, _, _, _, _, _] :: []) from J.out).c11
      go_wp2_with fail
      have J2 := Lib.hid ((show HO w _ ([] ++ boxO (w.heap.size + 1) [_, _] :: _) from J.out.drew).set2 (.int .i64 (sw / sc)) (.int .i64 (sh / sc)))
      have y2 := (show HO w _ ([_] ++ boxO w.heap.size [_, _, _, _, _, _, _, _, _, _, _] :: []) from J2.out).c 2 rfl
      go_region_held3 (fun W => W.cell? ⟨w.heap.size, 2, none⟩ = some (.int .i64 sc))
        (first
          | exact x2
          | exact y2
          | go_keep)
        (fail)
      go_wp2_with fail
      exact bodyPost_ret (v := .agg #[.int .i64 (sw / sc), .int .i64 (sh / sc)]) (by simp [results, Tryz.results50, go_sem]) rfl ⟨rfl, (((Below.refl w.heap.size w).alloc (Nat.le_refl _) _).alloc (by simp) _).drew.drew⟩
    · have ez : sizS ⟨set, bf, sc, tr, dm, op, is, ip, dx, dy, cb⟩ = (dx, dy) := by unfold sizS; rw [if_neg (by simpa using hc), a6]; simp only; rw [if_neg hd]
      rw [ez]
      clear ez hc a1 a2 a6 a7
      by_cases hx : dx = 0
      · subst hx
        have hy : (dy == 0) = false := by
          simp only [beq_eq_false_iff_ne]
          omega
        clear hd
        obtain ⟨z0, z1, zf, zl⟩ := (show HO w _ ([] ++ boxO (w.heap.size + 1) [_, _] :: _) from J.out).c2
        obtain ⟨x0, x1, x2, x3, x4, x5, x6, x7, x8, x9, x10, xf, xl⟩ := (show HO w _ ([_] ++ boxO w.heap.size [_, _, _, _, _, _, _, _, _, _, _] :: []) from J.out).c11
        go_enter Tryz.func50, Tryz.ntmps50
        go_wp2_with fail
        exact bodyPost_ret (v := .agg #[.int .i64 0, .int .i64 dy]) (by simp [results, Tryz.results50, go_sem]) rfl ⟨rfl, ((Below.refl w.heap.size w).alloc (Nat.le_refl _) _).alloc (by simp) _⟩
      · have hy : (dx == 0) = false := by simpa using hx
        clear hd
        obtain ⟨z0, z1, zf, zl⟩ := (show HO w _ ([] ++ boxO (w.heap.size + 1) [_, _] :: _) from J.out).c2
        obtain ⟨x0, x1, x2, x3, x4, x5, x6, x7, x8, x9, x10, xf, xl⟩ := (show HO w _ ([_] ++ boxO w.heap.size [_, _, _, _, _, _, _, _, _, _, _] :: []) from J.out).c11
        go_enter Tryz.func50, Tryz.ntmps50
        go_wp2_with fail
        exact bodyPost_ret (v := .agg #[.int .i64 dx, .int .i64 dy]) (by simp [results, Tryz.results50, go_sem]) rfl ⟨rfl, ((Below.refl w.heap.size w).alloc (Nat.le_refl _) _).alloc (by simp) _⟩

set_option maxRecDepth 100000 in
set_option maxHeartbeats 8000000 in
theorem sz_any (G : RG) {w : World} {s : St} {L : List Bv} {vb vd vo vi vc : Value} (h : StAt w s L vb vd vo vi vc) (hf : Few s) :
    Calls Tryz.prog 20 #[stV s vb vd vo vi vc] w fun e w' => e = .returned (.tuple #[.int .i64 (sizS s).1, .int .i64 (sizS s).2]) ∧ Below w.heap.size w w' := by
  have C := fun (W : World) (hb : Below w.heap.size w W) => Lib.hid (chk_any G (h.below hb) hf)
  have D := fun (hc : chkS s = 0) (W : World) (hb : Below w.heap.size w W) => Lib.hid (size_any (h.below hb) hc)
  obtain ⟨A, c, rfl, h1, h2⟩ := h.bf.shape
  obtain ⟨Ad, cd, rfl, hd1, hd2⟩ := h.dm.shape
  obtain ⟨Ao, co, rfl, ho1, ho2⟩ := h.op.shape
  obtain ⟨Ai, ci, rfl, hi1, hi2⟩ := h.ip.shape
  obtain ⟨Ac, cc, rfl, hc1, hc2⟩ := h.cb.shape
  have J := Lib.hid ((HO.nil w).alloc (stC s (.slice A L.length c) (.slice Ad s.dm.length cd) (.slice Ao s.op.length co) (.slice Ai s.ip.length ci) (.slice Ac s.cb.length cc)) 28)
  clear h hf
  by_cases hc : chkS s = 0
  · replace D := D hc
    rw [hc] at C
    clear hc
    generalize (sizS s).1 = zw at *
    generalize (sizS s).2 = zh at *
    go_enter Tryz.func20, Tryz.ntmps20
    go_wp2_with fail
    refine (C _ J.out.below).out.mono ?_
    rintro e w2 ⟨rfl, hb⟩
    replace J := Lib.hid (J.out.step hb)
    clear hb C
    obtain ⟨x0, x1, x2, x3, x4, x5, x6, x7, x8, x9, x10, xf, xl⟩ := (show HO w w2 ([] ++ boxO w.heap.size [_, _, _, _, _, _, _, _, _, _, _] :: []) from J.out).c11
    go_wp2_with fail
    refine (D _ J.out.below).out.mono ?_
    rintro e w3 ⟨rfl, hb⟩
    replace J := Lib.hid (J.out.step hb)
    clear hb D x0 x1 x2 x3 x4 x5 x6 x7 x8 x9 x10 xf xl
    have J2 := Lib.hid (J.out.alloc [.int .i64 zw, .int .i64 zh] 25)
    go_wp2_with fail
    obtain ⟨t0, t1, -, -⟩ := (show HO w _ ([] ++ boxO w3.heap.size [_, _] :: _) from J2.out.drew).c2
    go_region_held3 (fun W => W.cell? ⟨w3.heap.size, 0, none⟩ = some (.int .i64 zw) ∧ W.cell? ⟨w3.heap.size, 1, none⟩ = some (.int .i64 zh))
      (first
        | exact ⟨t0, t1⟩
        | go_keep)
      (fail)
    go_wp2_with fail
    go_ret2
    exact ⟨rfl, J2.out.drew.below⟩
  · have ez : sizS s = (0, 0) := by unfold sizS; rw [if_pos hc]
    rw [ez]
    generalize chkS s = k at *
    clear D
    have ek : (k == 0) = false := by simpa using hc
    go_enter Tryz.func20, Tryz.ntmps20
    go_wp2_with fail
    refine (C _ J.out.below).out.mono ?_
    rintro e w2 ⟨rfl, hb⟩
    replace J := Lib.hid (J.out.step hb)
    clear hb C
    go_wp2_with fail
    go_ret2
    exact ⟨rfl, J.out.below⟩

set_option maxRecDepth 100000 in
set_option maxHeartbeats 4000000 in
theorem surf_any {w : World} {s : St} {L : List Bv} {vb vd vo vi vc : Value} (h : StAt w s L vb vd vo vi vc) (hc : chkS s = 0) :
    Calls Tryz.prog 59 #[stV s vb vd vo vi vc] w fun e w' => ∃ v, e = .returned v ∧ Rs w' v [wholeR s] ∧ Below w.heap.size w w' := by
  have D := fun (W : World) (hb : Below w.heap.size w W) => Lib.hid (size_any (h.below hb) hc)
  obtain ⟨A, c, rfl, h1, h2⟩ := h.bf.shape
  obtain ⟨Ad, cd, rfl, hd1, hd2⟩ := h.dm.shape
  obtain ⟨Ao, co, rfl, ho1, ho2⟩ := h.op.shape
  obtain ⟨Ai, ci, rfl, hi1, hi2⟩ := h.ip.shape
  obtain ⟨Ac, cc, rfl, hc1, hc2⟩ := h.cb.shape
  have J := Lib.hid ((HO.nil w).alloc (stC s (.slice A L.length c) (.slice Ad s.dm.length cd) (.slice Ao s.op.length co) (.slice Ai s.ip.length ci) (.slice Ac s.cb.length cc)) 28)
  unfold wholeR
  clear h hc
  generalize (sizS s).1 = zw at *
  generalize (sizS s).2 = zh at *
  go_enter Tryz.func59, Tryz.ntmps59
  go_wp2_with fail
  refine (D _ J.out.below).out.mono ?_
  rintro e w3 ⟨rfl, hb⟩
  replace J := Lib.hid (J.out.step hb)
  clear hb D
  have J2 := Lib.hid (J.out.alloc [.int .i64 zw, .int .i64 zh] 25)
  have HR := Lib.hid (rs_one (w3.alloc (.cells #[.int .i64 zw, .int .i64 zh] 25)) ⟨0, 0, zw, zh⟩)
  simp only [World.size_alloc] at HR
  go_wp2_with fail
  go_ret
  exact ⟨_, rfl, HR.out, J2.out.below.alloc J2.out.below.size _⟩


set_option maxRecDepth 100000 in
set_option maxHeartbeats 8000000 in
theorem dam_any (G : RG) {w : World} {s : St} {L : List Bv} {vb vd vo vi vc : Value} (h : StAt w s L vb vd vo vi vc) (hf : Few s) :
    Calls Tryz.prog 24 #[stV s vb vd vo vi vc] w fun e w' => ∃ t, e = .returned (.tuple #[t, .int .i64 (clipF s (s.dm)).2]) ∧ Rs w' t (clipF s (s.dm)).1 ∧ Below w.heap.size w w' := by
  have C := fun (W : World) (hb : Below w.heap.size w W) => Lib.hid (chk_any G (h.below hb) hf)
  have D := fun (hc : chkS s = 0) (W : World) (hb : Below w.heap.size w W) => Lib.hid (surf_any (h.below hb) hc)
  have I := fun (W : World) (hb : Below w.heap.size w W) (v : Value) (hv : Rs W v [wholeR s]) => Lib.hid (G.inter (sn_rs (h.dm.below hb)) hv (by have := hf.dm; simp; omega))
  obtain ⟨A, c, rfl, h1, h2⟩ := h.bf.shape
  obtain ⟨Ad, cd, rfl, hd1, hd2⟩ := h.dm.shape
  obtain ⟨Ao, co, rfl, ho1, ho2⟩ := h.op.shape
  obtain ⟨Ai, ci, rfl, hi1, hi2⟩ := h.ip.shape
  obtain ⟨Ac, cc, rfl, hc1, hc2⟩ := h.cb.shape
  have J := Lib.hid ((HO.nil w).alloc (stC s (.slice A L.length c) (.slice Ad s.dm.length cd) (.slice Ao s.op.length co) (.slice Ai s.ip.length ci) (.slice Ac s.cb.length cc)) 28)
  unfold clipF
  unfold Rgn.Lim at I
  clear h hf
  by_cases hc : chkS s = 0
  · rw [if_neg (by simpa using hc)]
    rw [hc] at C
    replace D := D hc
    clear hc
    obtain ⟨z, hz⟩ : ∃ z, Rgn.combP (fun x y => x && y) s.dm [wholeR s] = z := ⟨_, rfl⟩
    rw [hz] at I ⊢
    obtain ⟨rz, hrz⟩ : ∃ r : List R × Int, (if z.length ≤ 256 then (z, (0 : Int)) else ([], 5)) = r := ⟨_, rfl⟩
    have e1 : (if z.length ≤ 256 then z else []) = rz.1 := by rw [← hrz]; split <;> rfl
    have e2 : (if z.length ≤ 256 then (0 : Int) else 5) = rz.2 := by rw [← hrz]; split <;> rfl
    rw [hrz]
    rw [e1, e2] at I
    generalize rz.1 = ra at *
    generalize rz.2 = rb at *
    clear e1 e2 hrz hz
    generalize wholeR s = R0 at *
    obtain ⟨set, bf, sc, tr, dm, op, is, ip, dx, dy, cb⟩ := s
    dsimp only at C D I J hd1 ho1 hi1 hc1 ⊢
    generalize dm.length = nd at *
    generalize op.length = no at *
    generalize ip.length = ni at *
    generalize cb.length = nc at *
    go_enter Tryz.func24, Tryz.ntmps24
    go_wp2_with fail
    refine (C _ J.out.below).out.mono ?_
    rintro e w2 ⟨rfl, hb⟩
    replace J := Lib.hid (J.out.step hb)
    clear hb C
    obtain ⟨x0, x1, x2, x3, x4, x5, x6, x7, x8, x9, x10, xf, xl⟩ := (show HO w w2 ([] ++ boxO w.heap.size [_, _, _, _, _, _, _, _, _, _, _] :: []) from J.out).c11
    go_wp2_with fail
    replace J := Lib.hid J.out.drew
    clear x0 x1 x2 x3 x4 x5 x6 x7 x8 x9 x10 xf xl
    obtain ⟨x0, x1, x2, x3, x4, x5, x6, x7, x8, x9, x10, xf, xl⟩ := (show HO w _ ([] ++ boxO w.heap.size [_, _, _, _, _, _, _, _, _, _, _] :: []) from J.out).c11
    go_region_held3 (fun W => W.cell? ⟨w.heap.size, 0, none⟩ = some (.int .i64 set) ∧ W.cell? ⟨w.heap.size, 1, none⟩ = some (.slice A L.length c) ∧ W.cell? ⟨w.heap.size, 2, none⟩ = some (.int .i64 sc) ∧ W.cell? ⟨w.heap.size, 3, none⟩ = some (.int .i64 tr) ∧ W.cell? ⟨w.heap.size, 4, none⟩ = some (.slice Ad nd cd) ∧ W.cell? ⟨w.heap.size, 5, none⟩ = some (.slice Ao no co) ∧ W.cell? ⟨w.heap.size, 6, none⟩ = some (.bool is) ∧ W.cell? ⟨w.heap.size, 7, none⟩ = some (.slice Ai ni ci) ∧ W.cell? ⟨w.heap.size, 8, none⟩ = some (.int .i64 dx) ∧ W.cell? ⟨w.heap.size, 9, none⟩ = some (.int .i64 dy) ∧ W.cell? ⟨w.heap.size, 10, none⟩ = some (.slice Ac nc cc))
      (first
        | exact ⟨x0, x1, x2, x3, x4, x5, x6, x7, x8, x9, x10⟩
        | go_keep)
      (first
        | (go_at_call 59; (with_reducible refine (D _ J.out.below).out.mono ?_); rintro e w3 ⟨v, rfl, hv, hb⟩; have HV := Lib.hid hv; obtain ⟨Av, cv, hv2, -, -⟩ := hv.shape; simp only [List.length_singleton] at hv2; subst hv2; replace J := Lib.hid (J.out.step hb); clear hb hv x0 x1 x2 x3 x4 x5 x6 x7 x8 x9 x10 xf xl; obtain ⟨x0, x1, x2, x3, x4, x5, x6, x7, x8, x9, x10, xf, xl⟩ := (show HO w _ ([] ++ boxO w.heap.size [_, _, _, _, _, _, _, _, _, _, _] :: []) from J.out).c11)
        | (go_at_call 58; (with_reducible refine (I _ J.out.below _ HV.out).out.mono ?_); rintro e w4 ⟨t, rfl, ht, hb⟩; have HT := Lib.hid ht; replace J := Lib.hid (J.out.step hb); clear hb ht x0 x1 x2 x3 x4 x5 x6 x7 x8 x9 x10 xf xl; obtain ⟨x0, x1, x2, x3, x4, x5, x6, x7, x8, x9, x10, xf, xl⟩ := (show HO w _ ([] ++ boxO w.heap.size [_, _, _, _, _, _, _, _, _, _, _] :: []) from J.out).c11)
        | fail)
    go_wp2_with fail
    go_ret2
    exact ⟨_, rfl, HT.out.rs, J.out.below⟩
  · rw [if_pos hc]
    generalize chkS s = k at *
    clear D I
    have ek : (k == 0) = false := by simpa using hc
    go_enter Tryz.func24, Tryz.ntmps24
    go_wp2_with fail
    refine (C _ J.out.below).out.mono ?_
    rintro e w2 ⟨rfl, hb⟩
    replace J := Lib.hid (J.out.step hb)
    clear hb C
    go_wp2_with fail
    go_ret2
    exact ⟨_, rfl, rs_nil _, J.out.below⟩

theorem canS_self (r : R) : canS [r] = Rgn.combP (fun x y => x && y) [r] [r] := by
  refine Rgn.region_unique (Rgn.combP_ok rfl [r] []) (Rgn.Region.congr (Rgn.combP_ok rfl [r] [r]) fun x y => ?_)
  simp [Rgn.setS, Rgn.inL]

set_option maxRecDepth 100000 in
set_option maxHeartbeats 8000000 in
theorem inp_any (G : RG) {w : World} {s : St} {L : List Bv} {vb vd vo vi vc : Value} (h : StAt w s L vb vd vo vi vc) (hf : Few s) :
    Calls Tryz.prog 26 #[stV s vb vd vo vi vc] w fun e w' => ∃ t, e = .returned (.tuple #[t, .int .i64 (clipF s (inpL s)).2]) ∧ Rs w' t (clipF s (inpL s)).1 ∧ Below w.heap.size w w' := by
  have C := fun (W : World) (hb : Below w.heap.size w W) => Lib.hid (chk_any G (h.below hb) hf)
  have D := fun (hc : chkS s = 0) (W : World) (hb : Below w.heap.size w W) => Lib.hid (surf_any (h.below hb) hc)
  have I := fun (W : World) (hb : Below w.heap.size w W) (v : Value) (hv : Rs W v [wholeR s]) => Lib.hid (G.inter (sn_rs (h.ip.below hb)) hv (by have := hf.ip; simp; omega))
  have N := fun (W : World) (v : Value) (hv : Rs W v [wholeR s]) => Lib.hid (G.new hv (by simp))
  obtain ⟨A, c, rfl, h1, h2⟩ := h.bf.shape
  obtain ⟨Ad, cd, rfl, hd1, hd2⟩ := h.dm.shape
  obtain ⟨Ao, co, rfl, ho1, ho2⟩ := h.op.shape
  obtain ⟨Ai, ci, rfl, hi1, hi2⟩ := h.ip.shape
  obtain ⟨Ac, cc, rfl, hc1, hc2⟩ := h.cb.shape
  have J := Lib.hid ((HO.nil w).alloc (stC s (.slice A L.length c) (.slice Ad s.dm.length cd) (.slice Ao s.op.length co) (.slice Ai s.ip.length ci) (.slice Ac s.cb.length cc)) 28)
  unfold clipF inpL
  unfold Rgn.Lim at I N
  clear h hf
  by_cases hc : chkS s = 0
  · rw [if_neg (by simpa using hc)]
    rw [hc] at C
    replace D := D hc
    clear hc
    rw [canS_self] at N
    cases es : s.is with
    | true =>
      rw [if_pos rfl]
      clear N
      obtain ⟨z, hz⟩ : ∃ z, Rgn.combP (fun x y => x && y) s.ip [wholeR s] = z := ⟨_, rfl⟩
      rw [hz] at I ⊢
      obtain ⟨rz, hrz⟩ : ∃ r : List R × Int, (if z.length ≤ 256 then (z, (0 : Int)) else ([], 5)) = r := ⟨_, rfl⟩
      have e1 : (if z.length ≤ 256 then z else []) = rz.1 := by rw [← hrz]; split <;> rfl
      have e2 : (if z.length ≤ 256 then (0 : Int) else 5) = rz.2 := by rw [← hrz]; split <;> rfl
      rw [hrz]
      rw [e1, e2] at I
      generalize rz.1 = ra at *
      generalize rz.2 = rb at *
      clear e1 e2 hrz hz
      generalize wholeR s = R0 at *
      obtain ⟨set, bf, sc, tr, dm, op, is, ip, dx, dy, cb⟩ := s
      dsimp only at es C D I J hd1 ho1 hi1 hc1 ⊢
      subst es
      generalize dm.length = nd at *
      generalize op.length = no at *
      generalize ip.length = ni at *
      generalize cb.length = nc at *
      go_enter Tryz.func26, Tryz.ntmps26
      go_wp2_with fail
      refine (C _ J.out.below).out.mono ?_
      rintro e w2 ⟨rfl, hb⟩
      replace J := Lib.hid (J.out.step hb)
      clear hb C
      obtain ⟨x0, x1, x2, x3, x4, x5, x6, x7, x8, x9, x10, xf, xl⟩ := (show HO w w2 ([] ++ boxO w.heap.size [_, _, _, _, _, _, _, _, _, _, _] :: []) from J.out).c11
      go_wp2_with fail
      replace J := Lib.hid J.out.drew
      clear x0 x1 x2 x3 x4 x5 x6 x7 x8 x9 x10 xf xl
      obtain ⟨x0, x1, x2, x3, x4, x5, x6, x7, x8, x9, x10, xf, xl⟩ := (show HO w _ ([] ++ boxO w.heap.size [_, _, _, _, _, _, _, _, _, _, _] :: []) from J.out).c11
      go_region_held3 (fun W => W.cell? ⟨w.heap.size, 0, none⟩ = some (.int .i64 set) ∧ W.cell? ⟨w.heap.size, 1, none⟩ = some (.slice A L.length c) ∧ W.cell? ⟨w.heap.size, 2, none⟩ = some (.int .i64 sc) ∧ W.cell? ⟨w.heap.size, 3, none⟩ = some (.int .i64 tr) ∧ W.cell? ⟨w.heap.size, 4, none⟩ = some (.slice Ad nd cd) ∧ W.cell? ⟨w.heap.size, 5, none⟩ = some (.slice Ao no co) ∧ W.cell? ⟨w.heap.size, 6, none⟩ = some (.bool true) ∧ W.cell? ⟨w.heap.size, 7, none⟩ = some (.slice Ai ni ci) ∧ W.cell? ⟨w.heap.size, 8, none⟩ = some (.int .i64 dx) ∧ W.cell? ⟨w.heap.size, 9, none⟩ = some (.int .i64 dy) ∧ W.cell? ⟨w.heap.size, 10, none⟩ = some (.slice Ac nc cc))
        (first
          | exact ⟨x0, x1, x2, x3, x4, x5, x6, x7, x8, x9, x10⟩
          | go_keep)
        (first
          | (go_at_call 59; (with_reducible refine (D _ J.out.below).out.mono ?_); rintro e w3 ⟨v, rfl, hv, hb⟩; have HV := Lib.hid hv; obtain ⟨Av, cv, hv2, -, -⟩ := hv.shape; simp only [List.length_singleton] at hv2; subst hv2; replace J := Lib.hid (J.out.step hb); clear hb hv x0 x1 x2 x3 x4 x5 x6 x7 x8 x9 x10 xf xl; obtain ⟨x0, x1, x2, x3, x4, x5, x6, x7, x8, x9, x10, xf, xl⟩ := (show HO w _ ([] ++ boxO w.heap.size [_, _, _, _, _, _, _, _, _, _, _] :: []) from J.out).c11)
          | (go_at_call 58; (with_reducible refine (I _ J.out.below _ HV.out).out.mono ?_); rintro e w4 ⟨t, rfl, ht, hb⟩; have HT := Lib.hid ht; replace J := Lib.hid (J.out.step hb); clear hb ht x0 x1 x2 x3 x4 x5 x6 x7 x8 x9 x10 xf xl; obtain ⟨x0, x1, x2, x3, x4, x5, x6, x7, x8, x9, x10, xf, xl⟩ := (show HO w _ ([] ++ boxO w.heap.size [_, _, _, _, _, _, _, _, _, _, _] :: []) from J.out).c11)
          | fail)
      go_wp2_with fail
      go_ret2
      exact ⟨_, rfl, HT.out.rs, J.out.below⟩
    | false =>
      rw [if_neg (show ¬ (false = true) by simp)]
      clear I
      obtain ⟨z, hz⟩ : ∃ z, Rgn.combP (fun x y => x && y) [wholeR s] [wholeR s] = z := ⟨_, rfl⟩
      rw [hz] at N ⊢
      obtain ⟨rz, hrz⟩ : ∃ r : List R × Int, (if z.length ≤ 256 then (z, (0 : Int)) else ([], 5)) = r := ⟨_, rfl⟩
      have e1 : (if z.length ≤ 256 then z else []) = rz.1 := by rw [← hrz]; split <;> rfl
      have e2 : (if z.length ≤ 256 then (0 : Int) else 5) = rz.2 := by rw [← hrz]; split <;> rfl
      rw [hrz]
      rw [e1, e2] at N
      generalize rz.1 = ra at *
      generalize rz.2 = rb at *
      clear e1 e2 hrz hz
      generalize wholeR s = R0 at *
      obtain ⟨set, bf, sc, tr, dm, op, is, ip, dx, dy, cb⟩ := s
      dsimp only at es C D N J hd1 ho1 hi1 hc1 ⊢
      subst es
      generalize dm.length = nd at *
      generalize op.length = no at *
      generalize ip.length = ni at *
      generalize cb.length = nc at *
      go_enter Tryz.func26, Tryz.ntmps26
      go_wp2_with fail
      refine (C _ J.out.below).out.mono ?_
      rintro e w2 ⟨rfl, hb⟩
      replace J := Lib.hid (J.out.step hb)
      clear hb C
      obtain ⟨x0, x1, x2, x3, x4, x5, x6, x7, x8, x9, x10, xf, xl⟩ := (show HO w w2 ([] ++ boxO w.heap.size [_, _, _, _, _, _, _, _, _, _, _] :: []) from J.out).c11
      go_wp2_with fail
      refine (D _ J.out.below).out.mono ?_
      rintro e w3 ⟨v, rfl, hv, hb⟩
      have HV := Lib.hid hv
      replace J := Lib.hid (J.out.step hb)
      obtain ⟨Av, cv, rfl, -, -⟩ := hv.shape
      clear hb D hv
      go_wp2_with fail
      refine (N _ _ HV.out).out.mono ?_
      rintro e w4 ⟨t, rfl, ht, hb⟩
      have HT := Lib.hid ht
      replace J := Lib.hid (J.out.step hb)
      clear hb ht
      go_wp2_with fail
      go_ret2
      exact ⟨_, rfl, HT.out.rs, J.out.below⟩
  · rw [if_pos hc]
    generalize chkS s = k at *
    clear D I N
    have ek : (k == 0) = false := by simpa using hc
    go_enter Tryz.func26, Tryz.ntmps26
    go_wp2_with fail
    refine (C _ J.out.below).out.mono ?_
    rintro e w2 ⟨rfl, hb⟩
    replace J := Lib.hid (J.out.step hb)
    clear hb C
    go_wp2_with fail
    go_ret2
    exact ⟨_, rfl, rs_nil _, J.out.below⟩

end Go.Proofs.YthedglfocjljjaaGreatDoor
