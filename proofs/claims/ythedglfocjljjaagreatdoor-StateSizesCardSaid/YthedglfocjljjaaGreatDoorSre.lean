/-
  The reference's state: Size, whole.
-/
import Derived.Test.YthedglfocjljjaaGreatDoorSrc
import Derived.Test.YthedglfocjljjaaGreatDoorSrd
namespace Go.Proofs.YthedglfocjljjaaGreatDoor
open Go.RowKit

theorem chk_ok {s : St} (h : chkS s = 0) : argB s = true ∧ bufB s = true ∧ sidB s.dx s.dy = true ∧ manyB s = false := by
  unfold chkS at h
  cases h1 : argB s <;> cases h2 : bufB s <;> cases h3 : sidB s.dx s.dy <;> cases h4 : manyB s <;> simp [h1, h2, h3, h4] at h ⊢
theorem arg_ok {s : St} (h : argB s = true) : (1 ≤ s.sc ∧ s.sc ≤ 4) ∧ Trf.vT s.tr = true ∧ s.bf.length ≤ 1 := by
  simpa [argB, and_assoc] using h
theorem one_list {α : Type} : ∀ {l : List α}, l.length ≤ 1 → l = [] ∨ ∃ p, l = [p]
  | [], _ => .inl rfl
  | [p], _ => .inr ⟨p, rfl⟩
  | _ :: _ :: _, h => absurd h (by simp)
def sizS (s : St) : Int × Int :=
  if chkS s ≠ 0 then (0, 0) else match s.bf with
    | [] => (0, 0)
    | x :: _ => if s.dx = 0 ∧ s.dy = 0 then (Trf.siW s.tr x.a x.b / s.sc, Trf.siH s.tr x.a x.b / s.sc) else (s.dx, s.dy)

set_option maxRecDepth 100000 in
set_option maxHeartbeats 8000000 in
theorem rsz_any {w : World} {s : St} {L : List Bv} {vb vd vo vi vc : Value} (h : StAt w s L vb vd vo vi vc) (hf : Few s) :
    Calls Tryz.prog 21 #[stV s vb vd vo vi vc] w fun e w' => e = .returned (.tuple #[.int .i64 (sizS s).1, .int .i64 (sizS s).2]) ∧ Below w.heap.size w w' := by
  have C := fun (W : World) (hb : Below w.heap.size w W) => Lib.hid (rchk_any (h.below hb) hf)
  have HB := Lib.hid h.bf
  have HEQ := Lib.hid h.eq
  obtain ⟨A, c, rfl, h1, h2⟩ := h.bf.shape
  obtain ⟨Ad, cd, rfl, hd1, hd2⟩ := h.dm.shape
  obtain ⟨Ao, co, rfl, ho1, ho2⟩ := h.op.shape
  obtain ⟨Ai, ci, rfl, hi1, hi2⟩ := h.ip.shape
  obtain ⟨Ac, cc, rfl, hc1, hc2⟩ := h.cb.shape
  simp only [maxLen] at h2 hd2 ho2 hi2 hc2
  have hlen := h.len
  obtain ⟨set, bf, sc, tr, dm, op, is, ip, dx, dy, cb⟩ := s
  dsimp only at HEQ hlen hd1 ho1 hi1 hc1 hd2 ho2 hi2 hc2
  have J := Lib.hid ((HO.nil w).alloc (stC ⟨set, bf, sc, tr, dm, op, is, ip, dx, dy, cb⟩ (.slice A L.length c) (.slice Ad dm.length cd) (.slice Ao op.length co) (.slice Ai ip.length ci) (.slice Ac cb.length cc)) 28)
  clear h hf
  generalize dm.length = nd at *
  generalize op.length = no at *
  generalize ip.length = ni at *
  generalize cb.length = nc at *
  by_cases hc : chkS ⟨set, bf, sc, tr, dm, op, is, ip, dx, dy, cb⟩ = 0
  · obtain ⟨a1, a2, -, -⟩ := chk_ok hc
    obtain ⟨⟨s0, s1⟩, -, hl1⟩ := arg_ok a1
    dsimp only at s0 s1 hl1
    rw [hc] at C
    rcases one_list (show L.length ≤ 1 by omega) with rfl | ⟨⟨x, v⟩, rfl⟩
    · skip
      have a6 : bf = [] := HEQ.out.symm
      have ez : sizS ⟨set, bf, sc, tr, dm, op, is, ip, dx, dy, cb⟩ = (0, 0) := by unfold sizS; rw [if_neg (by simpa using hc), a6]
      rw [ez]
      simp only [List.length_nil] at J h1 C
      clear ez hc a1 a2
      go_enter Tryz.func21, Tryz.ntmps21
      go_wp2_with fail
      refine (C _ J.out.below).out.mono ?_
      rintro e w2 ⟨rfl, hb⟩
      replace J := Lib.hid (J.out.step hb)
      clear hb C
      obtain ⟨x0, x1, x2, x3, x4, x5, x6, x7, x8, x9, x10, xf, xl⟩ := (show HO w w2 ([] ++ boxO w.heap.size [_, _, _, _, _, _, _, _, _, _, _] :: []) from J.out).c11
      go_wp2_with fail
      go_ret2
      exact ⟨rfl, J.out.below⟩
    · skip
      have a6 : bf = [x] := HEQ.out.symm
      have a7 : vBuf x.a x.b x.l = true := by
        have := a2
        rw [bufB, a6] at this
        simp [bfB] at this
        exact this.1
      obtain ⟨hsa, hsb, -, -⟩ := vBuf_iff.1 a7
      obtain ⟨b0, off, rfl, hb0, -⟩ := bf_cells HB.out (by simp) (Below.refl _ _)
      have HA := fun (W : World) (hw : Below w.heap.size w W) => Lib.hid (show b0 < W.heap.size ∧ W.cell? ⟨b0, off, none⟩ = some (.int .i64 x.a) ∧ W.cell? ⟨b0, off + 1, none⟩ = some (.int .i64 x.b) from by
        obtain ⟨b9, off9, e9, hl9, h9⟩ := bf_cells HB.out (by simp) hw
        simp only [Option.some.injEq, Addr.mk.injEq, and_true] at e9
        obtain ⟨rfl, rfl⟩ := e9
        obtain ⟨y0, y1, y2⟩ := h9 0 (x, v) rfl
        simp only [Nat.zero_mul, Nat.add_zero] at y0 y1
        exact ⟨hl9, y0, y1⟩)
      obtain ⟨xa, xb, xpl⟩ := x
      dsimp only at hsa hsb HA
      simp only [List.length_cons, List.length_nil, Nat.zero_add] at J h1 C
      by_cases hd : dx = 0 ∧ dy = 0
      · have ez : sizS ⟨set, bf, sc, tr, dm, op, is, ip, dx, dy, cb⟩ = (Trf.siW tr xa xb / sc, Trf.siH tr xa xb / sc) := by unfold sizS; rw [if_neg (by simpa using hc), a6]; simp [hd]
        rw [ez]
        have TS := fun (W : World) => Lib.hid (Trf.rsize_any tr xa xb W)
        have hw : 1 ≤ Trf.siW tr xa xb ∧ Trf.siW tr xa xb ≤ 256 ∧ 1 ≤ Trf.siH tr xa xb ∧ Trf.siH tr xa xb ≤ 256 := by
          unfold Trf.siW Trf.siH
          split <;> omega
        generalize Trf.siW tr xa xb = sw at *
        generalize Trf.siH tr xa xb = sh at *
        obtain ⟨hw1, hw2, hw3, hw4⟩ := hw
        obtain ⟨rfl, rfl⟩ := hd
        have t1 : sw.tdiv sc = sw / sc := Int.tdiv_eq_ediv_of_nonneg (by omega)
        have t2 : sh.tdiv sc = sh / sc := Int.tdiv_eq_ediv_of_nonneg (by omega)
        have u1 : IntKind.i64.wrap (sw / sc) = sw / sc := by
          have := Int.ediv_nonneg (show 0 ≤ sw by omega) (show 0 ≤ sc by omega)
          have := Int.ediv_le_self sc (show 0 ≤ sw by omega)
          rw [IntKind.wrap_i64]; omega
        have u2 : IntKind.i64.wrap (sh / sc) = sh / sc := by
          have := Int.ediv_nonneg (show 0 ≤ sh by omega) (show 0 ≤ sc by omega)
          have := Int.ediv_le_self sc (show 0 ≤ sh by omega)
          rw [IntKind.wrap_i64]; omega
        have sne : ¬ sc = 0 := by omega
        clear ez hc a1 a2 a6 a7
        go_enter Tryz.func21, Tryz.ntmps21
        go_wp2_with fail
        refine (C _ J.out.below).out.mono ?_
        rintro e w2 ⟨rfl, hb⟩
        replace J := Lib.hid (J.out.step hb)
        clear hb C
        obtain ⟨x0, x1, x2, x3, x4, x5, x6, x7, x8, x9, x10, xf, xl⟩ := (show HO w w2 ([] ++ boxO w.heap.size [_, _, _, _, _, _, _, _, _, _, _] :: []) from J.out).c11
        go_wp2_with fail
        have HA2 := HA _ J.out.below
        go_region_held3 (fun W => W.cell? ⟨w.heap.size, 1, none⟩ = some (.slice (some ⟨b0, off, none⟩) 1 c) ∧ W.cell? ⟨w.heap.size, 3, none⟩ = some (.int .i64 tr) ∧ W.cell? ⟨b0, off, none⟩ = some (.int .i64 xa) ∧ W.cell? ⟨b0, off + 1, none⟩ = some (.int .i64 xb))
          (first
            | exact ⟨x1, x3, HA2.out.2.1, HA2.out.2.2⟩
            | go_keep)
          (first
            | (go_at_call 51; (with_reducible refine (TS _).out.mono ?_); rintro e wq ⟨rfl, rfl⟩)
            | fail)
        go_wp2_with fail
        go_region_held3 (fun W => W.cell? ⟨w.heap.size, 2, none⟩ = some (.int .i64 sc))
          (first
            | exact x2
            | go_keep)
          (fail)
        go_wp2_with fail
        go_ret2
        exact ⟨rfl, J.out.drew.drew.below⟩
      · have ez : sizS ⟨set, bf, sc, tr, dm, op, is, ip, dx, dy, cb⟩ = (dx, dy) := by unfold sizS; rw [if_neg (by simpa using hc), a6]; simp only; rw [if_neg hd]
        rw [ez]
        clear ez hc a1 a2 a6 a7
        by_cases hx : dx = 0
        · subst hx
          have hy : (dy == 0) = false := by
            simp only [beq_eq_false_iff_ne]
            omega
          clear hd
          go_enter Tryz.func21, Tryz.ntmps21
          go_wp2_with fail
          refine (C _ J.out.below).out.mono ?_
          rintro e w2 ⟨rfl, hb⟩
          replace J := Lib.hid (J.out.step hb)
          clear hb C
          obtain ⟨x0, x1, x2, x3, x4, x5, x6, x7, x8, x9, x10, xf, xl⟩ := (show HO w w2 ([] ++ boxO w.heap.size [_, _, _, _, _, _, _, _, _, _, _] :: []) from J.out).c11
          go_wp2_with fail
          go_region_held3 (fun W => W.cell? ⟨w.heap.size, 8, none⟩ = some (.int .i64 0) ∧ W.cell? ⟨w.heap.size, 9, none⟩ = some (.int .i64 dy))
            (first
              | exact ⟨x8, x9⟩
              | go_keep)
            (fail)
          go_wp2_with fail
          go_ret2
          exact ⟨rfl, J.out.drew.below⟩
        · have hy : (dx == 0) = false := by simpa using hx
          clear hd
          go_enter Tryz.func21, Tryz.ntmps21
          go_wp2_with fail
          refine (C _ J.out.below).out.mono ?_
          rintro e w2 ⟨rfl, hb⟩
          replace J := Lib.hid (J.out.step hb)
          clear hb C
          obtain ⟨x0, x1, x2, x3, x4, x5, x6, x7, x8, x9, x10, xf, xl⟩ := (show HO w w2 ([] ++ boxO w.heap.size [_, _, _, _, _, _, _, _, _, _, _] :: []) from J.out).c11
          go_wp2_with fail
          go_region_held3 (fun W => W.cell? ⟨w.heap.size, 8, none⟩ = some (.int .i64 dx) ∧ W.cell? ⟨w.heap.size, 9, none⟩ = some (.int .i64 dy))
            (first
              | exact ⟨x8, x9⟩
              | go_keep)
            (fail)
          go_wp2_with fail
          go_ret2
          exact ⟨rfl, J.out.drew.below⟩
  · have ez : sizS ⟨set, bf, sc, tr, dm, op, is, ip, dx, dy, cb⟩ = (0, 0) := by unfold sizS; rw [if_pos hc]
    rw [ez]
    generalize chkS ⟨set, bf, sc, tr, dm, op, is, ip, dx, dy, cb⟩ = k at *
    clear ez
    go_enter Tryz.func21, Tryz.ntmps21
    go_wp2_with fail
    refine (C _ J.out.below).out.mono ?_
    rintro e w2 ⟨rfl, hb⟩
    replace J := Lib.hid (J.out.step hb)
    have ek : (k == 0) = false := by simpa using hc
    clear hb C
    go_wp2_with fail
    go_ret2
    exact ⟨rfl, J.out.below⟩

end Go.Proofs.YthedglfocjljjaaGreatDoor
